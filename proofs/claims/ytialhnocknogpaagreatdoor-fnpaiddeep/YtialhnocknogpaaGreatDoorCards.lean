/-
  DERIVED. GIVEN WITH THE SEED: THE CARDS: each row of YtialhnocknogpaaGreatDoorRows.lean that lists a variable, with what it lists TIED to the program's text (the seventh form; the later family's looks); each row that meets fmt, with fmt's text TOLD by the authors' own Lean function (tested against real Go, not proved from fmt's source: count such statements apart). THE CARD IS WHAT COUNTS. Prove the row's statement (the work); the ties are given (YtialhnocknogpaaGreatDoorTie.lean); close each card by the builder's one call (the guide's Derived/Test/ToyasCard.lean, 'card_holds'). Laid BY PROGRAM, IN A SANDBOX (cutbox-door.mjs). By AI agents, Wed Nov 11 2026. No macro, syntax, notation, axiom, sorry.
-/
import Derived.Test.YtialhnocknogpaaGreatDoorRows
import GoSem.ClaimSeven
namespace Go.Proofs.YtialhnocknogpaaGreatDoor
namespace Rows

/-- THE TIED CARD OF 'laws.FnPaidDeep'. -/
def fnPaidDeepCard : Claim7 := { stood := { row := fnPaidDeepRow, standIns := [], harness := (true, "a2a0f0f82e3479ab026ec3a75a48991ce16410d1e7f806175825630a394395d6"), looks := false }, kinds := [], alts := [], laidByText := true, laidKinds := [.data, .data, .data, .data], laidTests := true, laidLooks := .later }
def FnPaidDeepCardSaid : Prop := Claim7.holds Tryz.pinned (.plain (OpenSpec.ofChange fnPaidDeepSpec)) fnPaidDeepCard

/-- THE SECOND FORM's CARD OF 'laws.FnPaidDeep'. -/
def fnPaidDeepUptoCard : Claim7 := { stood := { row := fnPaidDeepUptoRow, standIns := [], harness := (true, "a2a0f0f82e3479ab026ec3a75a48991ce16410d1e7f806175825630a394395d6"), looks := false }, kinds := [], alts := [], laidByText := true, laidKinds := [.data, .data, .data, .data], laidTests := true, laidLooks := .later }
def FnPaidDeepUptoCardSaid : Prop := Claim7.holds Tryz.pinned (.plain (OpenSpec.upto fnPaidDeepSpec)) fnPaidDeepUptoCard
end Rows
end Go.Proofs.YtialhnocknogpaaGreatDoor
