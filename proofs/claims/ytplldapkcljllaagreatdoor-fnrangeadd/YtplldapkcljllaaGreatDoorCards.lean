/-
  DERIVED. GIVEN WITH THE SEED: THE CARDS: each row of YtplldapkcljllaaGreatDoorRows.lean that lists a variable, with what it lists TIED to the program's text (the seventh form; the later family's looks); each row that meets fmt, with fmt's text TOLD by the authors' own Lean function (tested against real Go, not proved from fmt's source: count such statements apart). THE CARD IS WHAT COUNTS. Prove the row's statement (the work); the ties are given (YtplldapkcljllaaGreatDoorTie.lean); close each card by the builder's one call (the guide's Derived/Test/ToyasCard.lean, 'card_holds'). Laid BY PROGRAM, IN A SANDBOX (cutbox-door.mjs). By AI agents, Wed Nov 11 2026. No macro, syntax, notation, axiom, sorry.
-/
import Derived.Test.YtplldapkcljllaaGreatDoorRows
import GoSem.ClaimSeven
namespace Go.Proofs.YtplldapkcljllaaGreatDoor
namespace Rows

/-- THE TIED CARD OF 'laws.FnRangeAdd'. -/
def fnRangeAddCard : Claim7 := { stood := { row := fnRangeAddRow, standIns := [], harness := (true, "35ae6aab019ab0c452d3e784727d99e87faaeb1a3b1b01b4903db6b3f73568a6"), looks := false }, kinds := [], alts := [], laidByText := true, laidKinds := [.data, .data, .data, .data], laidTests := true, laidLooks := .later }
def FnRangeAddCardSaid : Prop := Claim7.holds Tryz.pinned (.plain (OpenSpec.ofChange fnRangeAddSpec)) fnRangeAddCard

/-- THE SECOND FORM's CARD OF 'laws.FnRangeAdd'. -/
def fnRangeAddUptoCard : Claim7 := { stood := { row := fnRangeAddUptoRow, standIns := [], harness := (true, "35ae6aab019ab0c452d3e784727d99e87faaeb1a3b1b01b4903db6b3f73568a6"), looks := false }, kinds := [], alts := [], laidByText := true, laidKinds := [.data, .data, .data, .data], laidTests := true, laidLooks := .later }
def FnRangeAddUptoCardSaid : Prop := Claim7.holds Tryz.pinned (.plain (OpenSpec.upto fnRangeAddSpec)) fnRangeAddUptoCard
end Rows
end Go.Proofs.YtplldapkcljllaaGreatDoor
