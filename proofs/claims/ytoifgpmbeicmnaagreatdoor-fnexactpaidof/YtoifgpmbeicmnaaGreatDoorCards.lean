/-
  DERIVED. GIVEN WITH THE SEED: THE CARDS: each row of YtoifgpmbeicmnaaGreatDoorRows.lean that lists a variable, with what it lists TIED to the program's text (the seventh form; the later family's looks); each row that meets fmt, with fmt's text TOLD by the authors' own Lean function (tested against real Go, not proved from fmt's source: count such statements apart). THE CARD IS WHAT COUNTS. Prove the row's statement (the work); the ties are given (YtoifgpmbeicmnaaGreatDoorTie.lean); close each card by the builder's one call (the guide's Derived/Test/ToyasCard.lean, 'card_holds'). Laid BY PROGRAM, IN A SANDBOX (cutbox-door.mjs). By AI agents, Wed Nov 11 2026. No macro, syntax, notation, axiom, sorry.
-/
import Derived.Test.YtoifgpmbeicmnaaGreatDoorRows
import GoSem.ClaimSeven
namespace Go.Proofs.YtoifgpmbeicmnaaGreatDoor
namespace Rows

/-- THE TIED CARD OF 'laws.FnExactPaidOf'. -/
def fnExactPaidOfCard : Claim7 := { stood := { row := fnExactPaidOfRow, standIns := [], harness := (true, "86e70b159d7639974328c43be3ba99c6920745f9ebac7c49e4b80a91bc9d47e3"), looks := true }, kinds := [], alts := [], laidByText := true, laidKinds := [.data, .data, .data, .handle, .data], laidTests := true, laidLooks := .later }
def FnExactPaidOfCardSaid : Prop := Claim7.holds Tryz.pinned (.plain (OpenSpec.ofChange fnExactPaidOfSpec)) fnExactPaidOfCard

/-- THE SECOND FORM's CARD OF 'laws.FnExactPaidOf'. -/
def fnExactPaidOfUptoCard : Claim7 := { stood := { row := fnExactPaidOfUptoRow, standIns := [], harness := (true, "86e70b159d7639974328c43be3ba99c6920745f9ebac7c49e4b80a91bc9d47e3"), looks := true }, kinds := [], alts := [], laidByText := true, laidKinds := [.data, .data, .data, .handle, .data], laidTests := true, laidLooks := .later }
def FnExactPaidOfUptoCardSaid : Prop := Claim7.holds Tryz.pinned (.plain (OpenSpec.upto fnExactPaidOfSpec)) fnExactPaidOfUptoCard
end Rows
end Go.Proofs.YtoifgpmbeicmnaaGreatDoor
