/-
  Heads: the model, and how both programs tell whether one is ok.
-/
import Derived.Test.YtjeldedjhlicmaaDoorJoinM
import Derived.Test.YtjeldedjhlicmaaDoorSpecIn
import Derived.Test.YtjeldedjhlicmaaDoorSumHeadI
import Derived.Test.YtjeldedjhlicmaaDoorSumHeadS
import Derived.Test.YtjeldedjhlicmaaDoorDecM
import Derived.Test.YtjeldedjhlicmaaDoorShaM
import Derived.Deep.RegionWith
set_option linter.unusedVariables false
namespace Go.Proofs.YtjeldedjhlicmaaDoor
open Go.RowKit

structure HeadV where
  prev : ByteArray
  root : ByteArray
  time : Int
  diff : Int
  nonce : Int
instance : Inhabited HeadV := ⟨⟨⟨#[]⟩, ⟨#[]⟩, 0, 0, 0⟩⟩
def headOkB (h : HeadV) : Bool := isSum h.prev.data.toList && (isSum h.root.data.toList && (decide (0 ≤ h.time ∧ h.time ≤ 99999) && (decide (1 ≤ h.diff ∧ h.diff ≤ 8) && decide (0 ≤ h.nonce ∧ h.nonce ≤ 400))))
/-- The five texts of a head. -/
def headL (h : HeadV) : List ByteArray := [h.prev, h.root, ⟨(Lib.decDigits h.time.toNat).toArray⟩, ⟨(Lib.decDigits h.diff.toNat).toArray⟩, ⟨(Lib.decDigits h.nonce.toNat).toArray⟩]
def headT (h : HeadV) : List UInt8 := joinTo (headL h) [32] 4
def headPut (h : HeadV) : List UInt8 := if headOkB h = true then headT h else []
theorem headOk_in {h : HeadV} (hh : headOkB h = true) : isSum h.prev.data.toList = true ∧ isSum h.root.data.toList = true ∧ (0 ≤ h.time ∧ h.time ≤ 99999) ∧ (1 ≤ h.diff ∧ h.diff ≤ 8) ∧ 0 ≤ h.nonce ∧ h.nonce ≤ 400 := by
  simp only [headOkB, Bool.and_eq_true, decide_eq_true_eq] at hh
  exact hh

set_option maxHeartbeats 2000000 in
set_option maxRecDepth 100000 in
theorem implHeadOk (h : HeadV) (w : World) :
    Calls Tryd.prog 50 #[.agg #[.string h.prev, .string h.root, .int .i64 h.time, .int .i64 h.diff, .int .i64 h.nonce]] w fun e w' => e = .returned (.bool (headOkB h)) ∧ Below w.heap.size w w' := by
  have hb : ∀ o, Below w.heap.size w (w.alloc o) := fun o => (Below.refl _ w).alloc (Nat.le_refl _) o
  by_cases h1 : isSum h.prev.data.toList = false
  · have e : headOkB h = false := by simp [headOkB, h1]
    rw [e]
    clear e
    go_enter Tryd.func50, Tryd.ntmps50
    go_wp2_with (go_at_call 76; refine (implSumOk _ _).mono ?_; rintro e w1 ⟨rfl, rfl⟩)
    go_ret
    exact ⟨rfl, hb _⟩
  have k1 : isSum h.prev.data.toList = true := by simpa using h1
  clear h1
  by_cases h2 : isSum h.root.data.toList = false
  · have e : headOkB h = false := by simp [headOkB, h2]
    rw [e]
    clear e
    go_enter Tryd.func50, Tryd.ntmps50
    go_wp2_with (go_at_call 76; refine (implSumOk _ _).mono ?_; rintro e w1 ⟨rfl, rfl⟩)
    go_ret
    exact ⟨rfl, hb _⟩
  have k2 : isSum h.root.data.toList = true := by simpa using h2
  clear h2
  by_cases h3 : h.time < 0
  · have e : headOkB h = false := by
      cases hh : headOkB h with
      | false => rfl
      | true => have := headOk_in hh; omega
    rw [e]
    clear e
    go_enter Tryd.func50, Tryd.ntmps50
    go_wp2_with (go_at_call 76; refine (implSumOk _ _).mono ?_; rintro e w1 ⟨rfl, rfl⟩)
    go_ret
    exact ⟨rfl, hb _⟩
  by_cases h4 : 99999 < h.time
  · have e : headOkB h = false := by
      cases hh : headOkB h with
      | false => rfl
      | true => have := headOk_in hh; omega
    rw [e]
    clear e
    go_enter Tryd.func50, Tryd.ntmps50
    go_wp2_with (go_at_call 76; refine (implSumOk _ _).mono ?_; rintro e w1 ⟨rfl, rfl⟩)
    go_ret
    exact ⟨rfl, hb _⟩
  by_cases h5 : h.diff < 1
  · have e : headOkB h = false := by
      cases hh : headOkB h with
      | false => rfl
      | true => have := headOk_in hh; omega
    rw [e]
    clear e
    go_enter Tryd.func50, Tryd.ntmps50
    go_wp2_with (go_at_call 76; refine (implSumOk _ _).mono ?_; rintro e w1 ⟨rfl, rfl⟩)
    go_ret
    exact ⟨rfl, hb _⟩
  by_cases h6 : 8 < h.diff
  · have e : headOkB h = false := by
      cases hh : headOkB h with
      | false => rfl
      | true => have := headOk_in hh; omega
    rw [e]
    clear e
    go_enter Tryd.func50, Tryd.ntmps50
    go_wp2_with (go_at_call 76; refine (implSumOk _ _).mono ?_; rintro e w1 ⟨rfl, rfl⟩)
    go_ret
    exact ⟨rfl, hb _⟩
  by_cases h7 : h.nonce < 0
  · have e : headOkB h = false := by
      cases hh : headOkB h with
      | false => rfl
      | true => have := headOk_in hh; omega
    rw [e]
    clear e
    go_enter Tryd.func50, Tryd.ntmps50
    go_wp2_with (go_at_call 76; refine (implSumOk _ _).mono ?_; rintro e w1 ⟨rfl, rfl⟩)
    go_ret
    exact ⟨rfl, hb _⟩
  have e : headOkB h = decide (h.nonce ≤ 400) := by
    rw [headOkB, k1, k2, Bool.true_and, Bool.true_and, Bool.eq_iff_iff]
    simp
    omega
  rw [e]
  clear e
  go_enter Tryd.func50, Tryd.ntmps50
  go_wp2_with (go_at_call 76; refine (implSumOk _ _).mono ?_; rintro e w1 ⟨rfl, rfl⟩)
  go_ret
  exact ⟨rfl, hb _⟩

set_option maxHeartbeats 2000000 in
set_option maxRecDepth 100000 in
theorem specL3Ok (h : HeadV) (w : World) (hp : h.prev.size ≤ maxLen) (hr : h.root.size ≤ maxLen) :
    Calls Tryd.prog 45 #[.agg #[.string h.prev, .string h.root, .int .i64 h.time, .int .i64 h.diff, .int .i64 h.nonce]] w fun e w' => e = .returned (.bool (headOkB h)) ∧ Below w.heap.size w w' := by
  have hb : ∀ o, Below w.heap.size w (w.alloc o) := fun o => (Below.refl _ w).alloc (Nat.le_refl _) o
  by_cases h1 : isSum h.prev.data.toList = false
  · have e : headOkB h = false := by simp [headOkB, h1]
    rw [e]
    clear e
    go_enter Tryd.func45, Tryd.ntmps45
    go_wp2_with (first | (go_at_call_of 70 (Value.string h.prev); refine (specIsSum _ _ hp).mono ?_; rintro e w1 ⟨rfl, rfl⟩) | (go_at_call_of 70 (Value.string h.root); refine (specIsSum _ _ hr).mono ?_; rintro e w1 ⟨rfl, rfl⟩) | (go_at_call 56; refine (specIn _ _ _ _).mono ?_; rintro e w1 ⟨rfl, rfl⟩))
    go_ret
    exact ⟨rfl, hb _⟩
  have k1 : isSum h.prev.data.toList = true := by simpa using h1
  clear h1
  by_cases h2 : isSum h.root.data.toList = false
  · have e : headOkB h = false := by simp [headOkB, h2]
    rw [e]
    clear e
    go_enter Tryd.func45, Tryd.ntmps45
    go_wp2_with (first | (go_at_call_of 70 (Value.string h.prev); refine (specIsSum _ _ hp).mono ?_; rintro e w1 ⟨rfl, rfl⟩) | (go_at_call_of 70 (Value.string h.root); refine (specIsSum _ _ hr).mono ?_; rintro e w1 ⟨rfl, rfl⟩) | (go_at_call 56; refine (specIn _ _ _ _).mono ?_; rintro e w1 ⟨rfl, rfl⟩))
    go_ret
    exact ⟨rfl, hb _⟩
  have k2 : isSum h.root.data.toList = true := by simpa using h2
  clear h2
  by_cases h3 : ¬ (0 ≤ h.time ∧ h.time ≤ 99999)
  · have e : headOkB h = false := by
      cases hh : headOkB h with
      | false => rfl
      | true => have := headOk_in hh; omega
    have i3 := inB_no h3
    rw [e]
    clear e
    go_enter Tryd.func45, Tryd.ntmps45
    go_wp2_with (first | (go_at_call_of 70 (Value.string h.prev); refine (specIsSum _ _ hp).mono ?_; rintro e w1 ⟨rfl, rfl⟩) | (go_at_call_of 70 (Value.string h.root); refine (specIsSum _ _ hr).mono ?_; rintro e w1 ⟨rfl, rfl⟩) | (go_at_call 56; refine (specIn _ _ _ _).mono ?_; rintro e w1 ⟨rfl, rfl⟩))
    go_ret
    exact ⟨rfl, hb _⟩
  have i3 := inB_yes (by simpa using h3 : 0 ≤ h.time ∧ h.time ≤ 99999)
  by_cases h4 : ¬ (1 ≤ h.diff ∧ h.diff ≤ 8)
  · have e : headOkB h = false := by
      cases hh : headOkB h with
      | false => rfl
      | true => have := headOk_in hh; omega
    have i4 := inB_no h4
    rw [e]
    clear e
    go_enter Tryd.func45, Tryd.ntmps45
    go_wp2_with (first | (go_at_call_of 70 (Value.string h.prev); refine (specIsSum _ _ hp).mono ?_; rintro e w1 ⟨rfl, rfl⟩) | (go_at_call_of 70 (Value.string h.root); refine (specIsSum _ _ hr).mono ?_; rintro e w1 ⟨rfl, rfl⟩) | (go_at_call 56; refine (specIn _ _ _ _).mono ?_; rintro e w1 ⟨rfl, rfl⟩))
    go_ret
    exact ⟨rfl, hb _⟩
  have i4 := inB_yes (by simpa using h4 : 1 ≤ h.diff ∧ h.diff ≤ 8)
  by_cases h5 : ¬ (0 ≤ h.nonce ∧ h.nonce ≤ 400)
  · have e : headOkB h = false := by
      cases hh : headOkB h with
      | false => rfl
      | true => have := headOk_in hh; omega
    have i5 := inB_no h5
    rw [e]
    clear e
    go_enter Tryd.func45, Tryd.ntmps45
    go_wp2_with (first | (go_at_call_of 70 (Value.string h.prev); refine (specIsSum _ _ hp).mono ?_; rintro e w1 ⟨rfl, rfl⟩) | (go_at_call_of 70 (Value.string h.root); refine (specIsSum _ _ hr).mono ?_; rintro e w1 ⟨rfl, rfl⟩) | (go_at_call 56; refine (specIn _ _ _ _).mono ?_; rintro e w1 ⟨rfl, rfl⟩))
    go_ret
    exact ⟨rfl, hb _⟩
  have i5 := inB_yes (by simpa using h5 : 0 ≤ h.nonce ∧ h.nonce ≤ 400)
  have e : headOkB h = true := by
    rw [headOkB, k1, k2]
    simp
    omega
  rw [e]
  clear e
  go_enter Tryd.func45, Tryd.ntmps45
  go_wp2_with (first | (go_at_call_of 70 (Value.string h.prev); refine (specIsSum _ _ hp).mono ?_; rintro e w1 ⟨rfl, rfl⟩) | (go_at_call_of 70 (Value.string h.root); refine (specIsSum _ _ hr).mono ?_; rintro e w1 ⟨rfl, rfl⟩) | (go_at_call 56; refine (specIn _ _ _ _).mono ?_; rintro e w1 ⟨rfl, rfl⟩))
  go_ret
  exact ⟨rfl, hb _⟩

end Go.Proofs.YtjeldedjhlicmaaDoor
