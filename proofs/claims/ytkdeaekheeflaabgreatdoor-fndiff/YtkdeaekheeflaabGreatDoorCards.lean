/-
  DERIVED. GIVEN WITH THE SEED: THE CARDS: each row of YtkdeaekheeflaabGreatDoorRows.lean that lists a variable, with what it lists TIED to the program's text (the seventh form; the later family's looks); each row that meets fmt, with fmt's text TOLD by the authors' own Lean function (tested against real Go, not proved from fmt's source: count such statements apart). THE CARD IS WHAT COUNTS. Prove the row's statement (the work); the ties are given (YtkdeaekheeflaabGreatDoorTie.lean); close each card by the builder's one call (the guide's Derived/Test/ToyasCard.lean, 'card_holds'). Laid BY PROGRAM, IN A SANDBOX (cutbox-door.mjs). By AI agents, Wed Nov 11 2026. No macro, syntax, notation, axiom, sorry.
-/
import Derived.Test.YtkdeaekheeflaabGreatDoorRows
import GoSem.ClaimSeven
namespace Go.Proofs.YtkdeaekheeflaabGreatDoor
namespace Rows

/-- THE TIED CARD OF 'laws.FnDiff'. -/
def fnDiffCard : Claim7 := { stood := { row := fnDiffRow, standIns := [], harness := (true, "7f3f373518419db372282cf5e4dd2948f0641586812b0827f3c4bfc0f339e54e"), looks := true }, kinds := [], alts := [], laidByText := true, laidKinds := [.data, .data, .data, .handle, .data], laidTests := true, laidLooks := .later }
def FnDiffCardSaid : Prop := Claim7.holds Tryz.pinned (.plain (OpenSpec.ofChange fnDiffSpec)) fnDiffCard

/-- THE TIED CARD OF 'laws.FnWork'. -/
def fnWorkCard : Claim7 := { stood := { row := fnWorkRow, standIns := [], harness := (true, "7f3f373518419db372282cf5e4dd2948f0641586812b0827f3c4bfc0f339e54e"), looks := true }, kinds := [], alts := [], laidByText := true, laidKinds := [.data, .data, .data, .handle, .data], laidTests := true, laidLooks := .later }
def FnWorkCardSaid : Prop := Claim7.holds Tryz.pinned (.plain (OpenSpec.ofChange fnWorkSpec)) fnWorkCard

/-- THE TIED CARD OF 'laws.FnBetter'. -/
def fnBetterCard : Claim7 := { stood := { row := fnBetterRow, standIns := [], harness := (true, "7f3f373518419db372282cf5e4dd2948f0641586812b0827f3c4bfc0f339e54e"), looks := true }, kinds := [], alts := [], laidByText := true, laidKinds := [.data, .data, .data, .handle, .data], laidTests := true, laidLooks := .later }
def FnBetterCardSaid : Prop := Claim7.holds Tryz.pinned (.plain (OpenSpec.ofChange fnBetterSpec)) fnBetterCard

/-- THE SECOND FORM's CARD OF 'laws.FnDiff'. -/
def fnDiffUptoCard : Claim7 := { stood := { row := fnDiffUptoRow, standIns := [], harness := (true, "7f3f373518419db372282cf5e4dd2948f0641586812b0827f3c4bfc0f339e54e"), looks := true }, kinds := [], alts := [], laidByText := true, laidKinds := [.data, .data, .data, .handle, .data], laidTests := true, laidLooks := .later }
def FnDiffUptoCardSaid : Prop := Claim7.holds Tryz.pinned (.plain (OpenSpec.upto fnDiffSpec)) fnDiffUptoCard

/-- THE SECOND FORM's CARD OF 'laws.FnWork'. -/
def fnWorkUptoCard : Claim7 := { stood := { row := fnWorkUptoRow, standIns := [], harness := (true, "7f3f373518419db372282cf5e4dd2948f0641586812b0827f3c4bfc0f339e54e"), looks := true }, kinds := [], alts := [], laidByText := true, laidKinds := [.data, .data, .data, .handle, .data], laidTests := true, laidLooks := .later }
def FnWorkUptoCardSaid : Prop := Claim7.holds Tryz.pinned (.plain (OpenSpec.upto fnWorkSpec)) fnWorkUptoCard

/-- THE SECOND FORM's CARD OF 'laws.FnBetter'. -/
def fnBetterUptoCard : Claim7 := { stood := { row := fnBetterUptoRow, standIns := [], harness := (true, "7f3f373518419db372282cf5e4dd2948f0641586812b0827f3c4bfc0f339e54e"), looks := true }, kinds := [], alts := [], laidByText := true, laidKinds := [.data, .data, .data, .handle, .data], laidTests := true, laidLooks := .later }
def FnBetterUptoCardSaid : Prop := Claim7.holds Tryz.pinned (.plain (OpenSpec.upto fnBetterSpec)) fnBetterUptoCard
end Rows
end Go.Proofs.YtkdeaekheeflaabGreatDoor
