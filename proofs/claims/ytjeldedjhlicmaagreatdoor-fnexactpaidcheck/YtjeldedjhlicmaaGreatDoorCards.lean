/-
  DERIVED. GIVEN WITH THE SEED: THE CARDS: each row of YtjeldedjhlicmaaGreatDoorRows.lean that lists a variable, with what it lists TIED to the program's text (the seventh form; the later family's looks); each row that meets fmt, with fmt's text TOLD by the authors' own Lean function (tested against real Go, not proved from fmt's source: count such statements apart). THE CARD IS WHAT COUNTS. Prove the row's statement (the work); the ties are given (YtjeldedjhlicmaaGreatDoorTie.lean); close each card by the builder's one call (the guide's Derived/Test/ToyasCard.lean, 'card_holds'). Laid BY PROGRAM, IN A SANDBOX (cutbox-door.mjs). By AI agents, Wed Nov 11 2026. No macro, syntax, notation, axiom, sorry.
-/
import Derived.Test.YtjeldedjhlicmaaGreatDoorRows
import GoSem.ClaimSeven
namespace Go.Proofs.YtjeldedjhlicmaaGreatDoor
namespace Rows

/-- THE TIED CARD OF 'laws.FnExactPaidCheck'. -/
def fnExactPaidCheckCard : Claim7 := { stood := { row := fnExactPaidCheckRow, standIns := [], harness := (true, "f0d6c649fcb27dd31a15a96ccbddcc71bb5380618abbd9072ca5a5daff529f91"), looks := false }, kinds := [], alts := [], laidByText := true, laidKinds := [.data, .data, .data, .data], laidTests := true, laidLooks := .later }
def FnExactPaidCheckCardSaid : Prop := Claim7.holds Tryz.pinned (.plain (OpenSpec.ofChange fnExactPaidCheckSpec)) fnExactPaidCheckCard

/-- THE SECOND FORM's CARD OF 'laws.FnExactPaidCheck'. -/
def fnExactPaidCheckUptoCard : Claim7 := { stood := { row := fnExactPaidCheckUptoRow, standIns := [], harness := (true, "f0d6c649fcb27dd31a15a96ccbddcc71bb5380618abbd9072ca5a5daff529f91"), looks := false }, kinds := [], alts := [], laidByText := true, laidKinds := [.data, .data, .data, .data], laidTests := true, laidLooks := .later }
def FnExactPaidCheckUptoCardSaid : Prop := Claim7.holds Tryz.pinned (.plain (OpenSpec.upto fnExactPaidCheckSpec)) fnExactPaidCheckUptoCard
end Rows
end Go.Proofs.YtjeldedjhlicmaaGreatDoor
