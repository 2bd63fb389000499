/-
  DERIVED. GIVEN WITH THE SEED: THE CARDS: each row of YtkdeaekheeflaaaGreatDoorRows.lean that lists a variable, with what it lists TIED to the program's text (the seventh form; the later family's looks); each row that meets fmt, with fmt's text TOLD by the authors' own Lean function (tested against real Go, not proved from fmt's source: count such statements apart). THE CARD IS WHAT COUNTS. Prove the row's statement (the work); the ties are given (YtkdeaekheeflaaaGreatDoorTie.lean); close each card by the builder's one call (the guide's Derived/Test/ToyasCard.lean, 'card_holds'). Laid BY PROGRAM, IN A SANDBOX (cutbox-door.mjs). By AI agents, Wed Nov 11 2026. No macro, syntax, notation, axiom, sorry.
-/
import Derived.Test.YtkdeaekheeflaaaGreatDoorRows
import GoSem.ClaimSeven
namespace Go.Proofs.YtkdeaekheeflaaaGreatDoor
namespace Rows

/-- THE TIED CARD OF 'laws.FnExactChainCheck'. -/
def fnExactChainCheckCard : Claim7 := { stood := { row := fnExactChainCheckRow, standIns := [], harness := (true, "3e87c3116012a69009fd2b7ad899d1516b653c567b67578d4a246e4aa9a09460"), looks := true }, kinds := [], alts := [], laidByText := true, laidKinds := [.data, .data, .data, .handle, .data], laidTests := true, laidLooks := .later }
def FnExactChainCheckCardSaid : Prop := Claim7.holds Tryz.pinned (.plain (OpenSpec.ofChange fnExactChainCheckSpec)) fnExactChainCheckCard

/-- THE TIED CARD OF 'laws.FnExactChainDiff'. -/
def fnExactChainDiffCard : Claim7 := { stood := { row := fnExactChainDiffRow, standIns := [], harness := (true, "3e87c3116012a69009fd2b7ad899d1516b653c567b67578d4a246e4aa9a09460"), looks := true }, kinds := [], alts := [], laidByText := true, laidKinds := [.data, .data, .data, .handle, .data], laidTests := true, laidLooks := .later }
def FnExactChainDiffCardSaid : Prop := Claim7.holds Tryz.pinned (.plain (OpenSpec.ofChange fnExactChainDiffSpec)) fnExactChainDiffCard

/-- THE TIED CARD OF 'laws.FnExactChainWork'. -/
def fnExactChainWorkCard : Claim7 := { stood := { row := fnExactChainWorkRow, standIns := [], harness := (true, "3e87c3116012a69009fd2b7ad899d1516b653c567b67578d4a246e4aa9a09460"), looks := true }, kinds := [], alts := [], laidByText := true, laidKinds := [.data, .data, .data, .handle, .data], laidTests := true, laidLooks := .later }
def FnExactChainWorkCardSaid : Prop := Claim7.holds Tryz.pinned (.plain (OpenSpec.ofChange fnExactChainWorkSpec)) fnExactChainWorkCard

/-- THE TIED CARD OF 'laws.FnExactChainBetter'. -/
def fnExactChainBetterCard : Claim7 := { stood := { row := fnExactChainBetterRow, standIns := [], harness := (true, "3e87c3116012a69009fd2b7ad899d1516b653c567b67578d4a246e4aa9a09460"), looks := true }, kinds := [], alts := [], laidByText := true, laidKinds := [.data, .data, .data, .handle, .data], laidTests := true, laidLooks := .later }
def FnExactChainBetterCardSaid : Prop := Claim7.holds Tryz.pinned (.plain (OpenSpec.ofChange fnExactChainBetterSpec)) fnExactChainBetterCard

/-- THE TIED CARD OF 'laws.FnExactChainFork'. -/
def fnExactChainForkCard : Claim7 := { stood := { row := fnExactChainForkRow, standIns := [], harness := (true, "3e87c3116012a69009fd2b7ad899d1516b653c567b67578d4a246e4aa9a09460"), looks := true }, kinds := [], alts := [], laidByText := true, laidKinds := [.data, .data, .data, .handle, .data], laidTests := true, laidLooks := .later }
def FnExactChainForkCardSaid : Prop := Claim7.holds Tryz.pinned (.plain (OpenSpec.ofChange fnExactChainForkSpec)) fnExactChainForkCard

/-- THE TIED CARD OF 'laws.FnCheck'. -/
def fnCheckCard : Claim7 := { stood := { row := fnCheckRow, standIns := [], harness := (true, "3e87c3116012a69009fd2b7ad899d1516b653c567b67578d4a246e4aa9a09460"), looks := true }, kinds := [], alts := [], laidByText := true, laidKinds := [.data, .data, .data, .handle, .data], laidTests := true, laidLooks := .later }
def FnCheckCardSaid : Prop := Claim7.holds Tryz.pinned (.plain (OpenSpec.ofChange fnCheckSpec)) fnCheckCard

/-- THE SECOND FORM's CARD OF 'laws.FnExactChainCheck'. -/
def fnExactChainCheckUptoCard : Claim7 := { stood := { row := fnExactChainCheckUptoRow, standIns := [], harness := (true, "3e87c3116012a69009fd2b7ad899d1516b653c567b67578d4a246e4aa9a09460"), looks := true }, kinds := [], alts := [], laidByText := true, laidKinds := [.data, .data, .data, .handle, .data], laidTests := true, laidLooks := .later }
def FnExactChainCheckUptoCardSaid : Prop := Claim7.holds Tryz.pinned (.plain (OpenSpec.upto fnExactChainCheckSpec)) fnExactChainCheckUptoCard

/-- THE SECOND FORM's CARD OF 'laws.FnExactChainDiff'. -/
def fnExactChainDiffUptoCard : Claim7 := { stood := { row := fnExactChainDiffUptoRow, standIns := [], harness := (true, "3e87c3116012a69009fd2b7ad899d1516b653c567b67578d4a246e4aa9a09460"), looks := true }, kinds := [], alts := [], laidByText := true, laidKinds := [.data, .data, .data, .handle, .data], laidTests := true, laidLooks := .later }
def FnExactChainDiffUptoCardSaid : Prop := Claim7.holds Tryz.pinned (.plain (OpenSpec.upto fnExactChainDiffSpec)) fnExactChainDiffUptoCard

/-- THE SECOND FORM's CARD OF 'laws.FnExactChainWork'. -/
def fnExactChainWorkUptoCard : Claim7 := { stood := { row := fnExactChainWorkUptoRow, standIns := [], harness := (true, "3e87c3116012a69009fd2b7ad899d1516b653c567b67578d4a246e4aa9a09460"), looks := true }, kinds := [], alts := [], laidByText := true, laidKinds := [.data, .data, .data, .handle, .data], laidTests := true, laidLooks := .later }
def FnExactChainWorkUptoCardSaid : Prop := Claim7.holds Tryz.pinned (.plain (OpenSpec.upto fnExactChainWorkSpec)) fnExactChainWorkUptoCard

/-- THE SECOND FORM's CARD OF 'laws.FnExactChainBetter'. -/
def fnExactChainBetterUptoCard : Claim7 := { stood := { row := fnExactChainBetterUptoRow, standIns := [], harness := (true, "3e87c3116012a69009fd2b7ad899d1516b653c567b67578d4a246e4aa9a09460"), looks := true }, kinds := [], alts := [], laidByText := true, laidKinds := [.data, .data, .data, .handle, .data], laidTests := true, laidLooks := .later }
def FnExactChainBetterUptoCardSaid : Prop := Claim7.holds Tryz.pinned (.plain (OpenSpec.upto fnExactChainBetterSpec)) fnExactChainBetterUptoCard

/-- THE SECOND FORM's CARD OF 'laws.FnExactChainFork'. -/
def fnExactChainForkUptoCard : Claim7 := { stood := { row := fnExactChainForkUptoRow, standIns := [], harness := (true, "3e87c3116012a69009fd2b7ad899d1516b653c567b67578d4a246e4aa9a09460"), looks := true }, kinds := [], alts := [], laidByText := true, laidKinds := [.data, .data, .data, .handle, .data], laidTests := true, laidLooks := .later }
def FnExactChainForkUptoCardSaid : Prop := Claim7.holds Tryz.pinned (.plain (OpenSpec.upto fnExactChainForkSpec)) fnExactChainForkUptoCard

/-- THE SECOND FORM's CARD OF 'laws.FnCheck'. -/
def fnCheckUptoCard : Claim7 := { stood := { row := fnCheckUptoRow, standIns := [], harness := (true, "3e87c3116012a69009fd2b7ad899d1516b653c567b67578d4a246e4aa9a09460"), looks := true }, kinds := [], alts := [], laidByText := true, laidKinds := [.data, .data, .data, .handle, .data], laidTests := true, laidLooks := .later }
def FnCheckUptoCardSaid : Prop := Claim7.holds Tryz.pinned (.plain (OpenSpec.upto fnCheckSpec)) fnCheckUptoCard
end Rows
end Go.Proofs.YtkdeaekheeflaaaGreatDoor
