/-
  DERIVED. GIVEN WITH THE SEED: THE CARDS: each row of YtjeldedjhlicmaaDoorRows.lean that lists a variable, with what it lists TIED to the program's text (the seventh form; the later family's looks); each row that meets fmt, with fmt's text TOLD by the authors' own Lean function (tested against real Go, not proved from fmt's source: count such statements apart). THE CARD IS WHAT COUNTS. Prove the row's statement (the work); the ties are given (YtjeldedjhlicmaaDoorTie.lean); close each card by the builder's one call (the guide's Derived/Test/ToyasCard.lean, 'card_holds'). Laid BY PROGRAM, IN A SANDBOX (cutbox-door.mjs). By AI agents, Wed Nov 11 2026. No macro, syntax, notation, axiom, sorry.
-/
import Derived.Test.YtjeldedjhlicmaaDoorRows
import GoSem.ClaimSeven
namespace Go.Proofs.YtjeldedjhlicmaaDoor
namespace Rows

/-- THE TIED CARD OF 'laws.FnExactRangeOf'. -/
def fnExactRangeOfCard : Claim7 := { stood := { row := fnExactRangeOfRow, standIns := [], harness := (true, "9b3bf7053b798ff201ac3795f3f25156dc3483d0044231684db519a137fb54c2"), looks := false }, kinds := [], alts := [], laidByText := true, laidKinds := [.data, .data, .data, .data], laidTests := true, laidLooks := .later }
def FnExactRangeOfCardSaid : Prop := Claim7.holds Tryd.pinned (.plain (OpenSpec.ofChange fnExactRangeOfSpec)) fnExactRangeOfCard

/-- THE TIED CARD OF 'laws.FnExactRangeAdd'. -/
def fnExactRangeAddCard : Claim7 := { stood := { row := fnExactRangeAddRow, standIns := [], harness := (true, "9b3bf7053b798ff201ac3795f3f25156dc3483d0044231684db519a137fb54c2"), looks := false }, kinds := [], alts := [], laidByText := true, laidKinds := [.data, .data, .data, .data], laidTests := true, laidLooks := .later }
def FnExactRangeAddCardSaid : Prop := Claim7.holds Tryd.pinned (.plain (OpenSpec.ofChange fnExactRangeAddSpec)) fnExactRangeAddCard

/-- THE TIED CARD OF 'laws.FnExactRangeRoot'. -/
def fnExactRangeRootCard : Claim7 := { stood := { row := fnExactRangeRootRow, standIns := [], harness := (true, "9b3bf7053b798ff201ac3795f3f25156dc3483d0044231684db519a137fb54c2"), looks := false }, kinds := [], alts := [], laidByText := true, laidKinds := [.data, .data, .data, .data], laidTests := true, laidLooks := .later }
def FnExactRangeRootCardSaid : Prop := Claim7.holds Tryd.pinned (.plain (OpenSpec.ofChange fnExactRangeRootSpec)) fnExactRangeRootCard

/-- THE TIED CARD OF 'laws.FnExactRangeProof'. -/
def fnExactRangeProofCard : Claim7 := { stood := { row := fnExactRangeProofRow, standIns := [], harness := (true, "9b3bf7053b798ff201ac3795f3f25156dc3483d0044231684db519a137fb54c2"), looks := false }, kinds := [], alts := [], laidByText := true, laidKinds := [.data, .data, .data, .data], laidTests := true, laidLooks := .later }
def FnExactRangeProofCardSaid : Prop := Claim7.holds Tryd.pinned (.plain (OpenSpec.ofChange fnExactRangeProofSpec)) fnExactRangeProofCard

/-- THE TIED CARD OF 'laws.FnExactRangeCheck'. -/
def fnExactRangeCheckCard : Claim7 := { stood := { row := fnExactRangeCheckRow, standIns := [], harness := (true, "9b3bf7053b798ff201ac3795f3f25156dc3483d0044231684db519a137fb54c2"), looks := false }, kinds := [], alts := [], laidByText := true, laidKinds := [.data, .data, .data, .data], laidTests := true, laidLooks := .later }
def FnExactRangeCheckCardSaid : Prop := Claim7.holds Tryd.pinned (.plain (OpenSpec.ofChange fnExactRangeCheckSpec)) fnExactRangeCheckCard

/-- THE SECOND FORM's CARD OF 'laws.FnExactRangeOf'. -/
def fnExactRangeOfUptoCard : Claim7 := { stood := { row := fnExactRangeOfUptoRow, standIns := [], harness := (true, "9b3bf7053b798ff201ac3795f3f25156dc3483d0044231684db519a137fb54c2"), looks := false }, kinds := [], alts := [], laidByText := true, laidKinds := [.data, .data, .data, .data], laidTests := true, laidLooks := .later }
def FnExactRangeOfUptoCardSaid : Prop := Claim7.holds Tryd.pinned (.plain (OpenSpec.upto fnExactRangeOfSpec)) fnExactRangeOfUptoCard

/-- THE SECOND FORM's CARD OF 'laws.FnExactRangeAdd'. -/
def fnExactRangeAddUptoCard : Claim7 := { stood := { row := fnExactRangeAddUptoRow, standIns := [], harness := (true, "9b3bf7053b798ff201ac3795f3f25156dc3483d0044231684db519a137fb54c2"), looks := false }, kinds := [], alts := [], laidByText := true, laidKinds := [.data, .data, .data, .data], laidTests := true, laidLooks := .later }
def FnExactRangeAddUptoCardSaid : Prop := Claim7.holds Tryd.pinned (.plain (OpenSpec.upto fnExactRangeAddSpec)) fnExactRangeAddUptoCard

/-- THE SECOND FORM's CARD OF 'laws.FnExactRangeRoot'. -/
def fnExactRangeRootUptoCard : Claim7 := { stood := { row := fnExactRangeRootUptoRow, standIns := [], harness := (true, "9b3bf7053b798ff201ac3795f3f25156dc3483d0044231684db519a137fb54c2"), looks := false }, kinds := [], alts := [], laidByText := true, laidKinds := [.data, .data, .data, .data], laidTests := true, laidLooks := .later }
def FnExactRangeRootUptoCardSaid : Prop := Claim7.holds Tryd.pinned (.plain (OpenSpec.upto fnExactRangeRootSpec)) fnExactRangeRootUptoCard

/-- THE SECOND FORM's CARD OF 'laws.FnExactRangeProof'. -/
def fnExactRangeProofUptoCard : Claim7 := { stood := { row := fnExactRangeProofUptoRow, standIns := [], harness := (true, "9b3bf7053b798ff201ac3795f3f25156dc3483d0044231684db519a137fb54c2"), looks := false }, kinds := [], alts := [], laidByText := true, laidKinds := [.data, .data, .data, .data], laidTests := true, laidLooks := .later }
def FnExactRangeProofUptoCardSaid : Prop := Claim7.holds Tryd.pinned (.plain (OpenSpec.upto fnExactRangeProofSpec)) fnExactRangeProofUptoCard

/-- THE SECOND FORM's CARD OF 'laws.FnExactRangeCheck'. -/
def fnExactRangeCheckUptoCard : Claim7 := { stood := { row := fnExactRangeCheckUptoRow, standIns := [], harness := (true, "9b3bf7053b798ff201ac3795f3f25156dc3483d0044231684db519a137fb54c2"), looks := false }, kinds := [], alts := [], laidByText := true, laidKinds := [.data, .data, .data, .data], laidTests := true, laidLooks := .later }
def FnExactRangeCheckUptoCardSaid : Prop := Claim7.holds Tryd.pinned (.plain (OpenSpec.upto fnExactRangeCheckSpec)) fnExactRangeCheckUptoCard
end Rows
end Go.Proofs.YtjeldedjhlicmaaDoor
