/-
  DERIVED. GIVEN WITH THE SEED: THE CARDS: each row of YtaahmbooagocgabDoorRows.lean that lists a variable, with what it lists TIED to the program's text (the seventh form; the later family's looks); each row that meets fmt, with fmt's text TOLD by the authors' own Lean function (tested against real Go, not proved from fmt's source: count such statements apart). THE CARD IS WHAT COUNTS. Prove the row's statement (the work); the ties are given (YtaahmbooagocgabDoorTie.lean); close each card by the builder's one call (the guide's Derived/Test/ToyasCard.lean, 'card_holds'). Laid BY PROGRAM, IN A SANDBOX (cutbox-door.mjs). By AI agents, Wed Nov 11 2026. No macro, syntax, notation, axiom, sorry.
-/
import Derived.Test.YtaahmbooagocgabDoorRows
import GoSem.ClaimSeven
namespace Go.Proofs.YtaahmbooagocgabDoor
namespace Rows

/-- THE TIED CARD OF 'laws.FnExactHeadMeets'. -/
def fnExactHeadMeetsCard : Claim7 := { stood := { row := fnExactHeadMeetsRow, standIns := [], harness := (true, "5333a7b50845695b4d8b757cc36e4525aabc229595a88eb0b735e647f90befe2"), looks := false }, kinds := [], alts := [], laidByText := true, laidKinds := [.data, .data, .data, .data], laidTests := true, laidLooks := .later }
def FnExactHeadMeetsCardSaid : Prop := Claim7.holds Tryd.pinned (.plain (OpenSpec.ofChange fnExactHeadMeetsSpec)) fnExactHeadMeetsCard

/-- THE TIED CARD OF 'laws.FnHeadMeets'. -/
def fnHeadMeetsCard : Claim7 := { stood := { row := fnHeadMeetsRow, standIns := [], harness := (true, "5333a7b50845695b4d8b757cc36e4525aabc229595a88eb0b735e647f90befe2"), looks := false }, kinds := [], alts := [], laidByText := true, laidKinds := [.data, .data, .data, .data], laidTests := true, laidLooks := .later }
def FnHeadMeetsCardSaid : Prop := Claim7.holds Tryd.pinned (.plain (OpenSpec.ofChange fnHeadMeetsSpec)) fnHeadMeetsCard

/-- THE TIED CARD OF 'laws.FnExactRootCheck'. -/
def fnExactRootCheckCard : Claim7 := { stood := { row := fnExactRootCheckRow, standIns := [], harness := (true, "5333a7b50845695b4d8b757cc36e4525aabc229595a88eb0b735e647f90befe2"), looks := false }, kinds := [], alts := [], laidByText := true, laidKinds := [.data], laidTests := true, laidLooks := .later }
def FnExactRootCheckCardSaid : Prop := Claim7.holds Tryd.pinned (.plain (OpenSpec.ofChange fnExactRootCheckSpec)) fnExactRootCheckCard

/-- THE TIED CARD OF 'laws.FnExactRangeRoot'. -/
def fnExactRangeRootCard : Claim7 := { stood := { row := fnExactRangeRootRow, standIns := [], harness := (true, "5333a7b50845695b4d8b757cc36e4525aabc229595a88eb0b735e647f90befe2"), looks := false }, kinds := [], alts := [], laidByText := true, laidKinds := [.data, .data, .data, .data], laidTests := true, laidLooks := .later }
def FnExactRangeRootCardSaid : Prop := Claim7.holds Tryd.pinned (.plain (OpenSpec.ofChange fnExactRangeRootSpec)) fnExactRangeRootCard

/-- THE SECOND FORM's CARD OF 'laws.FnExactHeadMeets'. -/
def fnExactHeadMeetsUptoCard : Claim7 := { stood := { row := fnExactHeadMeetsUptoRow, standIns := [], harness := (true, "5333a7b50845695b4d8b757cc36e4525aabc229595a88eb0b735e647f90befe2"), looks := false }, kinds := [], alts := [], laidByText := true, laidKinds := [.data, .data, .data, .data], laidTests := true, laidLooks := .later }
def FnExactHeadMeetsUptoCardSaid : Prop := Claim7.holds Tryd.pinned (.plain (OpenSpec.upto fnExactHeadMeetsSpec)) fnExactHeadMeetsUptoCard

/-- THE SECOND FORM's CARD OF 'laws.FnHeadMeets'. -/
def fnHeadMeetsUptoCard : Claim7 := { stood := { row := fnHeadMeetsUptoRow, standIns := [], harness := (true, "5333a7b50845695b4d8b757cc36e4525aabc229595a88eb0b735e647f90befe2"), looks := false }, kinds := [], alts := [], laidByText := true, laidKinds := [.data, .data, .data, .data], laidTests := true, laidLooks := .later }
def FnHeadMeetsUptoCardSaid : Prop := Claim7.holds Tryd.pinned (.plain (OpenSpec.upto fnHeadMeetsSpec)) fnHeadMeetsUptoCard

/-- THE SECOND FORM's CARD OF 'laws.FnExactRootCheck'. -/
def fnExactRootCheckUptoCard : Claim7 := { stood := { row := fnExactRootCheckUptoRow, standIns := [], harness := (true, "5333a7b50845695b4d8b757cc36e4525aabc229595a88eb0b735e647f90befe2"), looks := false }, kinds := [], alts := [], laidByText := true, laidKinds := [.data], laidTests := true, laidLooks := .later }
def FnExactRootCheckUptoCardSaid : Prop := Claim7.holds Tryd.pinned (.plain (OpenSpec.upto fnExactRootCheckSpec)) fnExactRootCheckUptoCard

/-- THE SECOND FORM's CARD OF 'laws.FnExactRangeRoot'. -/
def fnExactRangeRootUptoCard : Claim7 := { stood := { row := fnExactRangeRootUptoRow, standIns := [], harness := (true, "5333a7b50845695b4d8b757cc36e4525aabc229595a88eb0b735e647f90befe2"), looks := false }, kinds := [], alts := [], laidByText := true, laidKinds := [.data, .data, .data, .data], laidTests := true, laidLooks := .later }
def FnExactRangeRootUptoCardSaid : Prop := Claim7.holds Tryd.pinned (.plain (OpenSpec.upto fnExactRangeRootSpec)) fnExactRangeRootUptoCard
end Rows
end Go.Proofs.YtaahmbooagocgabDoor
