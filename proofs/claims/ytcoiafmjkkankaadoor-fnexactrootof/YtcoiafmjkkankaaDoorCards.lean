/-
  DERIVED. GIVEN WITH THE SEED: THE CARDS: each row of YtcoiafmjkkankaaDoorRows.lean that lists a variable, with what it lists TIED to the program's text (the seventh form; the later family's looks); each row that meets fmt, with fmt's text TOLD by the authors' own Lean function (tested against real Go, not proved from fmt's source: count such statements apart). THE CARD IS WHAT COUNTS. Prove the row's statement (the work); the ties are given (YtcoiafmjkkankaaDoorTie.lean); close each card by the builder's one call (the guide's Derived/Test/ToyasCard.lean, 'card_holds'). Laid BY PROGRAM, IN A SANDBOX (cutbox-door.mjs). By AI agents, Wed Nov 11 2026. No macro, syntax, notation, axiom, sorry.
-/
import Derived.Test.YtcoiafmjkkankaaDoorRows
import GoSem.ClaimSeven
namespace Go.Proofs.YtcoiafmjkkankaaDoor
namespace Rows

/-- THE TIED CARD OF 'laws.FnExactSumOf'. -/
def fnExactSumOfCard : Claim7 := { stood := { row := fnExactSumOfRow, standIns := [], harness := (true, "9a9fa42d966102f2282695cd86389ccbfa8270bffae0df0ec7badc13c582f946"), looks := false }, kinds := [], alts := [], laidByText := true, laidKinds := [.data], laidTests := true, laidLooks := .later }
def FnExactSumOfCardSaid : Prop := Claim7.holds Tryd.pinned (.plain (OpenSpec.ofChange fnExactSumOfSpec)) fnExactSumOfCard

/-- THE TIED CARD OF 'laws.FnExactFilterTo'. -/
def fnExactFilterToCard : Claim7 := { stood := { row := fnExactFilterToRow, standIns := [], harness := (true, "9a9fa42d966102f2282695cd86389ccbfa8270bffae0df0ec7badc13c582f946"), looks := false }, kinds := [], alts := [], laidByText := true, laidKinds := [.data], laidTests := true, laidLooks := .later }
def FnExactFilterToCardSaid : Prop := Claim7.holds Tryd.pinned (.plain (OpenSpec.ofChange fnExactFilterToSpec)) fnExactFilterToCard

/-- THE TIED CARD OF 'laws.FnFilterTo'. -/
def fnFilterToCard : Claim7 := { stood := { row := fnFilterToRow, standIns := [], harness := (true, "9a9fa42d966102f2282695cd86389ccbfa8270bffae0df0ec7badc13c582f946"), looks := false }, kinds := [], alts := [], laidByText := true, laidKinds := [.data], laidTests := true, laidLooks := .later }
def FnFilterToCardSaid : Prop := Claim7.holds Tryd.pinned (.plain (OpenSpec.ofChange fnFilterToSpec)) fnFilterToCard

/-- THE TIED CARD OF 'laws.FnExactRootOf'. -/
def fnExactRootOfCard : Claim7 := { stood := { row := fnExactRootOfRow, standIns := [], harness := (true, "9a9fa42d966102f2282695cd86389ccbfa8270bffae0df0ec7badc13c582f946"), looks := false }, kinds := [], alts := [], laidByText := true, laidKinds := [.data], laidTests := true, laidLooks := .later }
def FnExactRootOfCardSaid : Prop := Claim7.holds Tryd.pinned (.plain (OpenSpec.ofChange fnExactRootOfSpec)) fnExactRootOfCard

/-- THE TIED CARD OF 'laws.FnExactRootCheck'. -/
def fnExactRootCheckCard : Claim7 := { stood := { row := fnExactRootCheckRow, standIns := [], harness := (true, "9a9fa42d966102f2282695cd86389ccbfa8270bffae0df0ec7badc13c582f946"), looks := false }, kinds := [], alts := [], laidByText := true, laidKinds := [.data], laidTests := true, laidLooks := .later }
def FnExactRootCheckCardSaid : Prop := Claim7.holds Tryd.pinned (.plain (OpenSpec.ofChange fnExactRootCheckSpec)) fnExactRootCheckCard

/-- THE TIED CARD OF 'laws.FnExactMarkOf'. -/
def fnExactMarkOfCard : Claim7 := { stood := { row := fnExactMarkOfRow, standIns := [], harness := (true, "9a9fa42d966102f2282695cd86389ccbfa8270bffae0df0ec7badc13c582f946"), looks := false }, kinds := [], alts := [], laidByText := true, laidKinds := [.data], laidTests := true, laidLooks := .later }
def FnExactMarkOfCardSaid : Prop := Claim7.holds Tryd.pinned (.plain (OpenSpec.ofChange fnExactMarkOfSpec)) fnExactMarkOfCard

/-- THE SECOND FORM's CARD OF 'laws.FnExactSumOf'. -/
def fnExactSumOfUptoCard : Claim7 := { stood := { row := fnExactSumOfUptoRow, standIns := [], harness := (true, "9a9fa42d966102f2282695cd86389ccbfa8270bffae0df0ec7badc13c582f946"), looks := false }, kinds := [], alts := [], laidByText := true, laidKinds := [.data], laidTests := true, laidLooks := .later }
def FnExactSumOfUptoCardSaid : Prop := Claim7.holds Tryd.pinned (.plain (OpenSpec.upto fnExactSumOfSpec)) fnExactSumOfUptoCard

/-- THE SECOND FORM's CARD OF 'laws.FnExactFilterTo'. -/
def fnExactFilterToUptoCard : Claim7 := { stood := { row := fnExactFilterToUptoRow, standIns := [], harness := (true, "9a9fa42d966102f2282695cd86389ccbfa8270bffae0df0ec7badc13c582f946"), looks := false }, kinds := [], alts := [], laidByText := true, laidKinds := [.data], laidTests := true, laidLooks := .later }
def FnExactFilterToUptoCardSaid : Prop := Claim7.holds Tryd.pinned (.plain (OpenSpec.upto fnExactFilterToSpec)) fnExactFilterToUptoCard

/-- THE SECOND FORM's CARD OF 'laws.FnFilterTo'. -/
def fnFilterToUptoCard : Claim7 := { stood := { row := fnFilterToUptoRow, standIns := [], harness := (true, "9a9fa42d966102f2282695cd86389ccbfa8270bffae0df0ec7badc13c582f946"), looks := false }, kinds := [], alts := [], laidByText := true, laidKinds := [.data], laidTests := true, laidLooks := .later }
def FnFilterToUptoCardSaid : Prop := Claim7.holds Tryd.pinned (.plain (OpenSpec.upto fnFilterToSpec)) fnFilterToUptoCard

/-- THE SECOND FORM's CARD OF 'laws.FnExactRootOf'. -/
def fnExactRootOfUptoCard : Claim7 := { stood := { row := fnExactRootOfUptoRow, standIns := [], harness := (true, "9a9fa42d966102f2282695cd86389ccbfa8270bffae0df0ec7badc13c582f946"), looks := false }, kinds := [], alts := [], laidByText := true, laidKinds := [.data], laidTests := true, laidLooks := .later }
def FnExactRootOfUptoCardSaid : Prop := Claim7.holds Tryd.pinned (.plain (OpenSpec.upto fnExactRootOfSpec)) fnExactRootOfUptoCard

/-- THE SECOND FORM's CARD OF 'laws.FnExactRootCheck'. -/
def fnExactRootCheckUptoCard : Claim7 := { stood := { row := fnExactRootCheckUptoRow, standIns := [], harness := (true, "9a9fa42d966102f2282695cd86389ccbfa8270bffae0df0ec7badc13c582f946"), looks := false }, kinds := [], alts := [], laidByText := true, laidKinds := [.data], laidTests := true, laidLooks := .later }
def FnExactRootCheckUptoCardSaid : Prop := Claim7.holds Tryd.pinned (.plain (OpenSpec.upto fnExactRootCheckSpec)) fnExactRootCheckUptoCard

/-- THE SECOND FORM's CARD OF 'laws.FnExactMarkOf'. -/
def fnExactMarkOfUptoCard : Claim7 := { stood := { row := fnExactMarkOfUptoRow, standIns := [], harness := (true, "9a9fa42d966102f2282695cd86389ccbfa8270bffae0df0ec7badc13c582f946"), looks := false }, kinds := [], alts := [], laidByText := true, laidKinds := [.data], laidTests := true, laidLooks := .later }
def FnExactMarkOfUptoCardSaid : Prop := Claim7.holds Tryd.pinned (.plain (OpenSpec.upto fnExactMarkOfSpec)) fnExactMarkOfUptoCard
end Rows
end Go.Proofs.YtcoiafmjkkankaaDoor
