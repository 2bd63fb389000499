/-
  Peaks that are ok, powers of two: the model, and how both programs tell them.
-/
import Derived.Test.YtjeldedjhlicmaaDoorPeakL
import Derived.Test.YtjeldedjhlicmaaDoorSpecIn
import Derived.Test.YtjeldedjhlicmaaDoorSumHeadI
import Derived.Test.YtjeldedjhlicmaaDoorSumHeadS
set_option linter.unusedVariables false
namespace Go.Proofs.YtjeldedjhlicmaaDoor
open Go.RowKit Go.Deep

def peakOkB (p : PeakV) : Bool := isSum p.sum.data.toList && (decide (1 ≤ p.count ∧ p.count ≤ 20) && decide (p.count ≤ p.work ∧ p.work ≤ p.count * 8))
def twoB (c : Int) : Bool := decide (c = 1 ∨ c = 2 ∨ c = 4 ∨ c = 8 ∨ c = 16)
theorem peakOk_in {p : PeakV} (h : peakOkB p = true) : 1 ≤ p.count ∧ p.count ≤ 20 ∧ p.count ≤ p.work ∧ p.work ≤ p.count * 8 := by
  simp only [peakOkB, Bool.and_eq_true, decide_eq_true_eq] at h
  omega

set_option maxHeartbeats 1000000 in
set_option maxRecDepth 100000 in
theorem implPeakOk (p : PeakV) (w : World) :
    Calls Tryd.prog 74 #[.agg #[.string p.sum, .int .i64 p.work, .int .i64 p.count]] w fun e w' => e = .returned (.bool (peakOkB p)) ∧ Below w.heap.size w w' := by
  have hb : ∀ o, Below w.heap.size w (w.alloc o) := fun o => (Below.refl _ w).alloc (Nat.le_refl _) o
  have hb2 : ∀ o, Below w.heap.size w (w.alloc o).drew := fun o => (hb o).drew
  cases h1 : isSum p.sum.data.toList with
  | false =>
    have e : peakOkB p = false := by simp [peakOkB, h1]
    rw [e]
    go_enter Tryd.func74, Tryd.ntmps74
    go_wp2_with (go_at_call 76; refine (implSumOk _ _).mono ?_; rintro e w1 ⟨rfl, rfl⟩)
    go_ret
    exact ⟨rfl, hb _⟩
  | true =>
    by_cases h2 : p.count < 1
    · have e : peakOkB p = false := by simp [peakOkB]; intro _ _; omega
      rw [e]
      go_enter Tryd.func74, Tryd.ntmps74
      go_wp2_with (go_at_call 76; refine (implSumOk _ _).mono ?_; rintro e w1 ⟨rfl, rfl⟩)
      go_ret
      exact ⟨rfl, hb _⟩
    by_cases h3 : 20 < p.count
    · have e : peakOkB p = false := by simp [peakOkB]; intro _ _; omega
      rw [e]
      go_enter Tryd.func74, Tryd.ntmps74
      go_wp2_with (go_at_call 76; refine (implSumOk _ _).mono ?_; rintro e w1 ⟨rfl, rfl⟩)
      go_ret
      exact ⟨rfl, hb _⟩
    by_cases h4 : p.work < p.count
    · have e : peakOkB p = false := by simp [peakOkB]; intro _ _ _; omega
      rw [e]
      go_enter Tryd.func74, Tryd.ntmps74
      go_wp2_with (go_at_call 76; refine (implSumOk _ _).mono ?_; rintro e w1 ⟨rfl, rfl⟩)
      go_ret
      exact ⟨rfl, hb _⟩
    have hw : IntKind.i64.wrap (p.count * 8) = p.count * 8 := by rw [IntKind.wrap_i64]; omega
    by_cases h5 : p.count * 8 < p.work
    · have e : peakOkB p = false := by simp [peakOkB]; intro _ _ _ _; omega
      rw [e]
      go_enter Tryd.func74, Tryd.ntmps74
      go_wp2_with (go_at_call 76; refine (implSumOk _ _).mono ?_; rintro e w1 ⟨rfl, rfl⟩)
      go_ret
      refine ⟨?_, hb _⟩
      show Ending.returned (Value.bool (decide (p.work ≤ p.count * 8))) = _
      rw [decide_eq_false (by omega)]
    have e : peakOkB p = true := by simp [peakOkB, h1]; omega
    rw [e]
    go_enter Tryd.func74, Tryd.ntmps74
    go_wp2_with (go_at_call 76; refine (implSumOk _ _).mono ?_; rintro e w1 ⟨rfl, rfl⟩)
    go_ret
    refine ⟨?_, hb _⟩
    first | rfl | (show Ending.returned (Value.bool (decide (p.work ≤ p.count * 8))) = _; rw [decide_eq_true (by omega)])

set_option maxHeartbeats 1000000 in
set_option maxRecDepth 100000 in
theorem specPeakOk (p : PeakV) (w : World) (hs : p.sum.size ≤ maxLen) :
    Calls Tryd.prog 68 #[.agg #[.string p.sum, .int .i64 p.work, .int .i64 p.count]] w fun e w' => e = .returned (.bool (peakOkB p)) ∧ Below w.heap.size w w' := by
  have hb : ∀ o, Below w.heap.size w (w.alloc o) := fun o => (Below.refl _ w).alloc (Nat.le_refl _) o
  cases h1 : isSum p.sum.data.toList with
  | false =>
    have e : peakOkB p = false := by simp [peakOkB, h1]
    rw [e]
    go_enter Tryd.func68, Tryd.ntmps68
    go_wp2_with (go_at_call 70; refine (specIsSum _ _ hs).mono ?_; rintro e w1 ⟨rfl, rfl⟩)
    go_ret
    exact ⟨rfl, hb _⟩
  | true =>
    by_cases h2 : 1 ≤ p.count ∧ p.count ≤ 20
    · have hw : IntKind.i64.wrap (p.count * 8) = p.count * 8 := by rw [IntKind.wrap_i64]; omega
      have i2 := inB_yes h2
      by_cases h3 : p.count ≤ p.work ∧ p.work ≤ p.count * 8
      · have e : peakOkB p = true := by simp [peakOkB, h1]; omega
        have i3 := inB_yes h3
        rw [e]
        go_enter Tryd.func68, Tryd.ntmps68
        go_wp2_with (first | (go_at_call 70; refine (specIsSum _ _ hs).mono ?_; rintro e w1 ⟨rfl, rfl⟩) | (go_at_call 56; refine (specIn _ _ _ _).mono ?_; rintro e w1 ⟨rfl, rfl⟩))
        go_ret
        exact ⟨rfl, hb _⟩
      · have e : peakOkB p = false := by simp [peakOkB]; intro _ _ _ _; omega
        have i3 := inB_no h3
        rw [e]
        go_enter Tryd.func68, Tryd.ntmps68
        go_wp2_with (first | (go_at_call 70; refine (specIsSum _ _ hs).mono ?_; rintro e w1 ⟨rfl, rfl⟩) | (go_at_call 56; refine (specIn _ _ _ _).mono ?_; rintro e w1 ⟨rfl, rfl⟩))
        go_ret
        exact ⟨rfl, hb _⟩
    · have e : peakOkB p = false := by simp [peakOkB]; intro _ _ _; omega
      have i2 := inB_no h2
      rw [e]
      go_enter Tryd.func68, Tryd.ntmps68
      go_wp2_with (first | (go_at_call 70; refine (specIsSum _ _ hs).mono ?_; rintro e w1 ⟨rfl, rfl⟩) | (go_at_call 56; refine (specIn _ _ _ _).mono ?_; rintro e w1 ⟨rfl, rfl⟩))
      go_ret
      exact ⟨rfl, hb _⟩

end Go.Proofs.YtjeldedjhlicmaaDoor
