/-
  DERIVED. GIVEN WITH THE SEED: THE CARDS: each row of YtifpidhoeikdjaaGreatDoorRows.lean that lists a variable, with what it lists TIED to the program's text (the seventh form; the later family's looks); each row that meets fmt, with fmt's text TOLD by the authors' own Lean function (tested against real Go, not proved from fmt's source: count such statements apart). THE CARD IS WHAT COUNTS. Prove the row's statement (the work); the ties are given (YtifpidhoeikdjaaGreatDoorTie.lean); close each card by the builder's one call (the guide's Derived/Test/ToyasCard.lean, 'card_holds'). Laid BY PROGRAM, IN A SANDBOX (cutbox-door.mjs). By AI agents, Wed Nov 11 2026. No macro, syntax, notation, axiom, sorry.
-/
import Derived.Test.YtifpidhoeikdjaaGreatDoorRows
import GoSem.ClaimSeven
namespace Go.Proofs.YtifpidhoeikdjaaGreatDoor
namespace Rows

/-- THE TIED CARD OF 'laws.FnExactFilterOf'. -/
def fnExactFilterOfCard : Claim7 := { stood := { row := fnExactFilterOfRow, standIns := [], harness := (true, "41107b38623d02b70e196c119b75b8bbb885070c0b8694fd14eeee2f99647d89"), looks := false }, kinds := [], alts := [], laidByText := true, laidKinds := [.data], laidTests := true, laidLooks := .later }
def FnExactFilterOfCardSaid : Prop := Claim7.holds Tryz.pinned (.plain (OpenSpec.ofChange fnExactFilterOfSpec)) fnExactFilterOfCard

/-- THE TIED CARD OF 'laws.FnFilterOf'. -/
def fnFilterOfCard : Claim7 := { stood := { row := fnFilterOfRow, standIns := [], harness := (true, "41107b38623d02b70e196c119b75b8bbb885070c0b8694fd14eeee2f99647d89"), looks := false }, kinds := [], alts := [], laidByText := true, laidKinds := [.data], laidTests := true, laidLooks := .later }
def FnFilterOfCardSaid : Prop := Claim7.holds Tryz.pinned (.plain (OpenSpec.ofChange fnFilterOfSpec)) fnFilterOfCard

/-- THE SECOND FORM's CARD OF 'laws.FnExactFilterOf'. -/
def fnExactFilterOfUptoCard : Claim7 := { stood := { row := fnExactFilterOfUptoRow, standIns := [], harness := (true, "41107b38623d02b70e196c119b75b8bbb885070c0b8694fd14eeee2f99647d89"), looks := false }, kinds := [], alts := [], laidByText := true, laidKinds := [.data], laidTests := true, laidLooks := .later }
def FnExactFilterOfUptoCardSaid : Prop := Claim7.holds Tryz.pinned (.plain (OpenSpec.upto fnExactFilterOfSpec)) fnExactFilterOfUptoCard

/-- THE SECOND FORM's CARD OF 'laws.FnFilterOf'. -/
def fnFilterOfUptoCard : Claim7 := { stood := { row := fnFilterOfUptoRow, standIns := [], harness := (true, "41107b38623d02b70e196c119b75b8bbb885070c0b8694fd14eeee2f99647d89"), looks := false }, kinds := [], alts := [], laidByText := true, laidKinds := [.data], laidTests := true, laidLooks := .later }
def FnFilterOfUptoCardSaid : Prop := Claim7.holds Tryz.pinned (.plain (OpenSpec.upto fnFilterOfSpec)) fnFilterOfUptoCard
end Rows
end Go.Proofs.YtifpidhoeikdjaaGreatDoor
