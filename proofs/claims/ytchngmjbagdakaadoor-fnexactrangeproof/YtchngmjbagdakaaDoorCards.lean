/-
  DERIVED. GIVEN WITH THE SEED: THE CARDS: each row of YtchngmjbagdakaaDoorRows.lean that lists a variable, with what it lists TIED to the program's text (the seventh form; the later family's looks); each row that meets fmt, with fmt's text TOLD by the authors' own Lean function (tested against real Go, not proved from fmt's source: count such statements apart). THE CARD IS WHAT COUNTS. Prove the row's statement (the work); the ties are given (YtchngmjbagdakaaDoorTie.lean); close each card by the builder's one call (the guide's Derived/Test/ToyasCard.lean, 'card_holds'). Laid BY PROGRAM, IN A SANDBOX (cutbox-door.mjs). By AI agents, Wed Nov 11 2026. No macro, syntax, notation, axiom, sorry.
-/
import Derived.Test.YtchngmjbagdakaaDoorRows
import GoSem.ClaimSeven
namespace Go.Proofs.YtchngmjbagdakaaDoor
namespace Rows

/-- THE TIED CARD OF 'laws.FnExactRangeProof'. -/
def fnExactRangeProofCard : Claim7 := { stood := { row := fnExactRangeProofRow, standIns := [], harness := (true, "72d4516ea527a6036277bfc7c15c33925da3260d07e44457470b50132d1c9155"), looks := false }, kinds := [], alts := [], laidByText := true, laidKinds := [.data, .data, .data, .data], laidTests := true, laidLooks := .later }
def FnExactRangeProofCardSaid : Prop := Claim7.holds Tryd.pinned (.plain (OpenSpec.ofChange fnExactRangeProofSpec)) fnExactRangeProofCard

/-- THE TIED CARD OF 'laws.FnExactRangeOf'. -/
def fnExactRangeOfCard : Claim7 := { stood := { row := fnExactRangeOfRow, standIns := [], harness := (true, "72d4516ea527a6036277bfc7c15c33925da3260d07e44457470b50132d1c9155"), looks := false }, kinds := [], alts := [], laidByText := true, laidKinds := [.data, .data, .data, .data], laidTests := true, laidLooks := .later }
def FnExactRangeOfCardSaid : Prop := Claim7.holds Tryd.pinned (.plain (OpenSpec.ofChange fnExactRangeOfSpec)) fnExactRangeOfCard

/-- THE SECOND FORM's CARD OF 'laws.FnExactRangeProof'. -/
def fnExactRangeProofUptoCard : Claim7 := { stood := { row := fnExactRangeProofUptoRow, standIns := [], harness := (true, "72d4516ea527a6036277bfc7c15c33925da3260d07e44457470b50132d1c9155"), looks := false }, kinds := [], alts := [], laidByText := true, laidKinds := [.data, .data, .data, .data], laidTests := true, laidLooks := .later }
def FnExactRangeProofUptoCardSaid : Prop := Claim7.holds Tryd.pinned (.plain (OpenSpec.upto fnExactRangeProofSpec)) fnExactRangeProofUptoCard

/-- THE SECOND FORM's CARD OF 'laws.FnExactRangeOf'. -/
def fnExactRangeOfUptoCard : Claim7 := { stood := { row := fnExactRangeOfUptoRow, standIns := [], harness := (true, "72d4516ea527a6036277bfc7c15c33925da3260d07e44457470b50132d1c9155"), looks := false }, kinds := [], alts := [], laidByText := true, laidKinds := [.data, .data, .data, .data], laidTests := true, laidLooks := .later }
def FnExactRangeOfUptoCardSaid : Prop := Claim7.holds Tryd.pinned (.plain (OpenSpec.upto fnExactRangeOfSpec)) fnExactRangeOfUptoCard
end Rows
end Go.Proofs.YtchngmjbagdakaaDoor
