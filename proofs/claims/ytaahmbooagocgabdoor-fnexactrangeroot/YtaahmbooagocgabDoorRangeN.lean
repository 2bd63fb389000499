/-
  How many heads a range has, and how much work: the program, the specification, the law.
-/
import Derived.Test.YtaahmbooagocgabDoorRangeL
set_option linter.unusedVariables false
namespace Go.Proofs.YtaahmbooagocgabDoor
open Go.RowKit Go.Deep

def wrkTo (ps : List PeakV) : Nat → Int
  | 0 => 0
  | k + 1 => wrkTo ps k + (ps.getD k default).work
def rangeMany (ps : List PeakV) : Int × Int := if rangeOkB ps = true then (cntTo ps ps.length, wrkTo ps ps.length) else (-1, -1)
theorem many_no {ps : List PeakV} (h : rangeOkB ps = false) : rangeMany ps = (-1, -1) := by rw [rangeMany, h]; rfl
theorem many_yes {ps : List PeakV} (h : rangeOkB ps = true) : rangeMany ps = (cntTo ps ps.length, wrkTo ps ps.length) := by rw [rangeMany, if_pos h]
theorem rangeOk_at {ps : List PeakV} (h : rangeOkB ps = true) (i : Nat) (hi : i < ps.length) : 1 ≤ (ps.getD i default).count ∧ (ps.getD i default).count ≤ 20 ∧ (ps.getD i default).count ≤ (ps.getD i default).work ∧ (ps.getD i default).work ≤ (ps.getD i default).count * 8 := by
  rw [rangeOkB, Bool.and_eq_true, List.all_eq_true] at h
  have := h.1 i (List.mem_range.2 hi)
  rw [stepOk, Bool.and_eq_true] at this
  exact peakOk_in this.1

end Go.Proofs.YtaahmbooagocgabDoor
