/-
  DERIVED. GIVEN WITH THE SEED: THE CARDS: each row of YtgnnfljobgbpbaaDoorRows.lean that lists a variable, with what it lists TIED to the program's text (the seventh form; the later family's looks); each row that meets fmt, with fmt's text TOLD by the authors' own Lean function (tested against real Go, not proved from fmt's source: count such statements apart). THE CARD IS WHAT COUNTS. Prove the row's statement (the work); the ties are given (YtgnnfljobgbpbaaDoorTie.lean); close each card by the builder's one call (the guide's Derived/Test/ToyasCard.lean, 'card_holds'). Laid BY PROGRAM, IN A SANDBOX (cutbox-door.mjs). By AI agents, Wed Nov 11 2026. No macro, syntax, notation, axiom, sorry.
-/
import Derived.Test.YtgnnfljobgbpbaaDoorRows
import GoSem.ClaimSeven
namespace Go.Proofs.YtgnnfljobgbpbaaDoor
namespace Rows

/-- THE TIED CARD OF 'laws.FnExactRootProof'. -/
def fnExactRootProofCard : Claim7 := { stood := { row := fnExactRootProofRow, standIns := [], harness := (true, "7c3f55cbb34d73bb330295d9e38ee7158968a9aaf081d5ce821e269276ce9537"), looks := true }, kinds := [], alts := [], laidByText := true, laidKinds := [.data], laidTests := true, laidLooks := .later }
def FnExactRootProofCardSaid : Prop := Claim7.holds Tryd.pinned (.plain (OpenSpec.ofChange fnExactRootProofSpec)) fnExactRootProofCard

/-- THE TIED CARD OF 'laws.FnExactHeadGet'. -/
def fnExactHeadGetCard : Claim7 := { stood := { row := fnExactHeadGetRow, standIns := [], harness := (true, "7c3f55cbb34d73bb330295d9e38ee7158968a9aaf081d5ce821e269276ce9537"), looks := true }, kinds := [], alts := [], laidByText := true, laidKinds := [.data, .data, .data, .data, .sentinel, .sentinel, .pinned], laidTests := true, laidLooks := .later }
def FnExactHeadGetCardSaid : Prop := Claim7.holds Tryd.pinned (.plain (OpenSpec.ofChange fnExactHeadGetSpec)) fnExactHeadGetCard

/-- THE TIED CARD OF 'laws.FnExactHeadMine'. -/
def fnExactHeadMineCard : Claim7 := { stood := { row := fnExactHeadMineRow, standIns := [], harness := (true, "7c3f55cbb34d73bb330295d9e38ee7158968a9aaf081d5ce821e269276ce9537"), looks := true }, kinds := [], alts := [], laidByText := true, laidKinds := [.data, .data, .data, .data], laidTests := true, laidLooks := .later }
def FnExactHeadMineCardSaid : Prop := Claim7.holds Tryd.pinned (.plain (OpenSpec.ofChange fnExactHeadMineSpec)) fnExactHeadMineCard

/-- THE TIED CARD OF 'laws.FnHeadMine'. -/
def fnHeadMineCard : Claim7 := { stood := { row := fnHeadMineRow, standIns := [], harness := (true, "7c3f55cbb34d73bb330295d9e38ee7158968a9aaf081d5ce821e269276ce9537"), looks := true }, kinds := [], alts := [], laidByText := true, laidKinds := [.data, .data, .data, .data], laidTests := true, laidLooks := .later }
def FnHeadMineCardSaid : Prop := Claim7.holds Tryd.pinned (.plain (OpenSpec.ofChange fnHeadMineSpec)) fnHeadMineCard

/-- THE TIED CARD OF 'laws.FnExactBlockOk'. -/
def fnExactBlockOkCard : Claim7 := { stood := { row := fnExactBlockOkRow, standIns := [], harness := (true, "7c3f55cbb34d73bb330295d9e38ee7158968a9aaf081d5ce821e269276ce9537"), looks := true }, kinds := [], alts := [], laidByText := true, laidKinds := [.data, .data, .data, .data], laidTests := true, laidLooks := .later }
def FnExactBlockOkCardSaid : Prop := Claim7.holds Tryd.pinned (.plain (OpenSpec.ofChange fnExactBlockOkSpec)) fnExactBlockOkCard

/-- THE SECOND FORM's CARD OF 'laws.FnExactRootProof'. -/
def fnExactRootProofUptoCard : Claim7 := { stood := { row := fnExactRootProofUptoRow, standIns := [], harness := (true, "7c3f55cbb34d73bb330295d9e38ee7158968a9aaf081d5ce821e269276ce9537"), looks := true }, kinds := [], alts := [], laidByText := true, laidKinds := [.data], laidTests := true, laidLooks := .later }
def FnExactRootProofUptoCardSaid : Prop := Claim7.holds Tryd.pinned (.plain (OpenSpec.upto fnExactRootProofSpec)) fnExactRootProofUptoCard

/-- THE SECOND FORM's CARD OF 'laws.FnExactHeadGet'. -/
def fnExactHeadGetUptoCard : Claim7 := { stood := { row := fnExactHeadGetUptoRow, standIns := [], harness := (true, "7c3f55cbb34d73bb330295d9e38ee7158968a9aaf081d5ce821e269276ce9537"), looks := true }, kinds := [], alts := [], laidByText := true, laidKinds := [.data, .data, .data, .data, .sentinel, .sentinel, .pinned], laidTests := true, laidLooks := .later }
def FnExactHeadGetUptoCardSaid : Prop := Claim7.holds Tryd.pinned (.plain (OpenSpec.upto fnExactHeadGetSpec)) fnExactHeadGetUptoCard

/-- THE SECOND FORM's CARD OF 'laws.FnExactHeadMine'. -/
def fnExactHeadMineUptoCard : Claim7 := { stood := { row := fnExactHeadMineUptoRow, standIns := [], harness := (true, "7c3f55cbb34d73bb330295d9e38ee7158968a9aaf081d5ce821e269276ce9537"), looks := true }, kinds := [], alts := [], laidByText := true, laidKinds := [.data, .data, .data, .data], laidTests := true, laidLooks := .later }
def FnExactHeadMineUptoCardSaid : Prop := Claim7.holds Tryd.pinned (.plain (OpenSpec.upto fnExactHeadMineSpec)) fnExactHeadMineUptoCard

/-- THE SECOND FORM's CARD OF 'laws.FnHeadMine'. -/
def fnHeadMineUptoCard : Claim7 := { stood := { row := fnHeadMineUptoRow, standIns := [], harness := (true, "7c3f55cbb34d73bb330295d9e38ee7158968a9aaf081d5ce821e269276ce9537"), looks := true }, kinds := [], alts := [], laidByText := true, laidKinds := [.data, .data, .data, .data], laidTests := true, laidLooks := .later }
def FnHeadMineUptoCardSaid : Prop := Claim7.holds Tryd.pinned (.plain (OpenSpec.upto fnHeadMineSpec)) fnHeadMineUptoCard

/-- THE SECOND FORM's CARD OF 'laws.FnExactBlockOk'. -/
def fnExactBlockOkUptoCard : Claim7 := { stood := { row := fnExactBlockOkUptoRow, standIns := [], harness := (true, "7c3f55cbb34d73bb330295d9e38ee7158968a9aaf081d5ce821e269276ce9537"), looks := true }, kinds := [], alts := [], laidByText := true, laidKinds := [.data, .data, .data, .data], laidTests := true, laidLooks := .later }
def FnExactBlockOkUptoCardSaid : Prop := Claim7.holds Tryd.pinned (.plain (OpenSpec.upto fnExactBlockOkSpec)) fnExactBlockOkUptoCard
end Rows
end Go.Proofs.YtgnnfljobgbpbaaDoor
