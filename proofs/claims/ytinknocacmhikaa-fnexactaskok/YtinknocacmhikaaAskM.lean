/-
  Questions: AskOk, as the program and as the specification say it.
-/
import Derived.Test.YtinknocacmhikaaSpecIn
import Derived.WalkKit
import Derived.Below
set_option linter.unusedVariables false
namespace Go.Proofs.Ytinknocacmhikaa
open Go.RowKit
def askVal (k f n : Int) : Value := .agg #[.int .i64 k, .int .i64 f, .int .i64 n]
def askB (k f n : Int) : Bool :=
  inB f 0 20 && (if k = 1 ∨ k = 2 ∨ k = 3 then inB n 1 6 else if k = 4 then decide (n = 0) else if k = 5 then decide (f = 0) && inB n 1 6 else false)
theorem askB_out {k f n : Int} (h : ¬ (0 ≤ f ∧ f ≤ 20)) : askB k f n = false := by simp [askB, inB_no h]
theorem askB_page {k f n : Int} (h : 0 ≤ f ∧ f ≤ 20) (hk : k = 1 ∨ k = 2 ∨ k = 3) : askB k f n = inB n 1 6 := by simp [askB, inB_yes h, hk]
theorem askB_block {f n : Int} (h : 0 ≤ f ∧ f ≤ 20) : askB 4 f n = decide (n = 0) := by simp [askB, inB_yes h]
theorem askB_sample {f n : Int} (h : 0 ≤ f ∧ f ≤ 20) : askB 5 f n = (decide (f = 0) && inB n 1 6) := by simp [askB, inB_yes h]
theorem askB_other {k f n : Int} (h : 0 ≤ f ∧ f ≤ 20) (h1 : k ≠ 1) (h2 : k ≠ 2) (h3 : k ≠ 3) (h4 : k ≠ 4) (h5 : k ≠ 5) : askB k f n = false := by simp [askB, inB_yes h, h1, h2, h3, h4, h5]
set_option maxHeartbeats 2000000 in
set_option maxRecDepth 100000 in
theorem implAskOk (k f n : Int) (w : World) :
    Calls Try.prog 6 #[askVal k f n] w fun e w' => e = .returned (.bool (askB k f n)) ∧ Below w.heap.size w w' := by
  unfold askVal
  by_cases hf0 : f < 0
  · rw [askB_out (by omega)]
    have d0 : decide (f < 0) = true := decide_eq_true (by omega)
    go_enter Try.func6, Try.ntmps6
    go_wp2
    go_ret
    exact ⟨rfl, ((Below.refl _ w).alloc (Nat.le_refl _) _)⟩
  by_cases hf1 : 20 < f
  · rw [askB_out (by omega)]
    have d0 : decide (f < 0) = false := decide_eq_false (by omega)
    have d1 : decide (20 < f) = true := decide_eq_true (by omega)
    go_enter Try.func6, Try.ntmps6
    go_wp2
    go_ret
    exact ⟨rfl, ((Below.refl _ w).alloc (Nat.le_refl _) _)⟩
  have d0 : decide (f < 0) = false := decide_eq_false (by omega)
  have d1 : decide (20 < f) = false := decide_eq_false (by omega)
  by_cases k1 : k = 1
  · subst k1
    rw [askB_page ⟨by omega, by omega⟩ (by decide)]
    by_cases hn0 : 1 ≤ n
    · by_cases hn1 : n ≤ 6
      · rw [inB_yes ⟨hn0, hn1⟩]
        have e0 : decide (1 ≤ n) = true := decide_eq_true (by omega)
        have e1 : decide (n ≤ 6) = true := decide_eq_true (by omega)
        go_enter Try.func6, Try.ntmps6
        go_wp2
        go_ret
        exact ⟨rfl, ((Below.refl _ w).alloc (Nat.le_refl _) _)⟩
      · rw [inB_no (fun h => hn1 h.2)]
        have e0 : decide (1 ≤ n) = true := decide_eq_true (by omega)
        have e1 : decide (n ≤ 6) = false := decide_eq_false (by omega)
        go_enter Try.func6, Try.ntmps6
        go_wp2
        go_ret
        exact ⟨rfl, ((Below.refl _ w).alloc (Nat.le_refl _) _)⟩
    · rw [inB_no (fun h => hn0 h.1)]
      have e0 : decide (1 ≤ n) = false := decide_eq_false (by omega)
      go_enter Try.func6, Try.ntmps6
      go_wp2
      go_ret
      exact ⟨rfl, ((Below.refl _ w).alloc (Nat.le_refl _) _)⟩
  by_cases k2 : k = 2
  · subst k2
    rw [askB_page ⟨by omega, by omega⟩ (by decide)]
    by_cases hn0 : 1 ≤ n
    · by_cases hn1 : n ≤ 6
      · rw [inB_yes ⟨hn0, hn1⟩]
        have e0 : decide (1 ≤ n) = true := decide_eq_true (by omega)
        have e1 : decide (n ≤ 6) = true := decide_eq_true (by omega)
        go_enter Try.func6, Try.ntmps6
        go_wp2
        go_ret
        exact ⟨rfl, ((Below.refl _ w).alloc (Nat.le_refl _) _)⟩
      · rw [inB_no (fun h => hn1 h.2)]
        have e0 : decide (1 ≤ n) = true := decide_eq_true (by omega)
        have e1 : decide (n ≤ 6) = false := decide_eq_false (by omega)
        go_enter Try.func6, Try.ntmps6
        go_wp2
        go_ret
        exact ⟨rfl, ((Below.refl _ w).alloc (Nat.le_refl _) _)⟩
    · rw [inB_no (fun h => hn0 h.1)]
      have e0 : decide (1 ≤ n) = false := decide_eq_false (by omega)
      go_enter Try.func6, Try.ntmps6
      go_wp2
      go_ret
      exact ⟨rfl, ((Below.refl _ w).alloc (Nat.le_refl _) _)⟩
  by_cases k3 : k = 3
  · subst k3
    rw [askB_page ⟨by omega, by omega⟩ (by decide)]
    by_cases hn0 : 1 ≤ n
    · by_cases hn1 : n ≤ 6
      · rw [inB_yes ⟨hn0, hn1⟩]
        have e0 : decide (1 ≤ n) = true := decide_eq_true (by omega)
        have e1 : decide (n ≤ 6) = true := decide_eq_true (by omega)
        go_enter Try.func6, Try.ntmps6
        go_wp2
        go_ret
        exact ⟨rfl, ((Below.refl _ w).alloc (Nat.le_refl _) _)⟩
      · rw [inB_no (fun h => hn1 h.2)]
        have e0 : decide (1 ≤ n) = true := decide_eq_true (by omega)
        have e1 : decide (n ≤ 6) = false := decide_eq_false (by omega)
        go_enter Try.func6, Try.ntmps6
        go_wp2
        go_ret
        exact ⟨rfl, ((Below.refl _ w).alloc (Nat.le_refl _) _)⟩
    · rw [inB_no (fun h => hn0 h.1)]
      have e0 : decide (1 ≤ n) = false := decide_eq_false (by omega)
      go_enter Try.func6, Try.ntmps6
      go_wp2
      go_ret
      exact ⟨rfl, ((Below.refl _ w).alloc (Nat.le_refl _) _)⟩
  by_cases k4 : k = 4
  · subst k4
    rw [askB_block ⟨by omega, by omega⟩]
    by_cases hn : n = 0
    · subst hn
      go_enter Try.func6, Try.ntmps6
      go_wp2
      go_ret
      exact ⟨rfl, ((Below.refl _ w).alloc (Nat.le_refl _) _)⟩
    · have hn' : decide (n = 0) = false := decide_eq_false hn
      have hn2 : (n == 0) = false := beq_false_of_ne hn
      rw [hn']
      go_enter Try.func6, Try.ntmps6
      go_wp2
      go_ret
      exact ⟨rfl, ((Below.refl _ w).alloc (Nat.le_refl _) _)⟩
  by_cases k5 : k = 5
  · subst k5
    rw [askB_sample ⟨by omega, by omega⟩]
    by_cases hz : f = 0
    · subst hz
      rw [show decide ((0 : Int) = 0) = true from rfl, Bool.true_and]
      clear d0 d1
      by_cases hn0 : 1 ≤ n
      · by_cases hn1 : n ≤ 6
        · rw [inB_yes ⟨hn0, hn1⟩]
          have e0 : decide (1 ≤ n) = true := decide_eq_true (by omega)
          have e1 : decide (n ≤ 6) = true := decide_eq_true (by omega)
          go_enter Try.func6, Try.ntmps6
          go_wp2
          go_ret
          exact ⟨rfl, ((Below.refl _ w).alloc (Nat.le_refl _) _)⟩
        · rw [inB_no (fun h => hn1 h.2)]
          have e0 : decide (1 ≤ n) = true := decide_eq_true (by omega)
          have e1 : decide (n ≤ 6) = false := decide_eq_false (by omega)
          go_enter Try.func6, Try.ntmps6
          go_wp2
          go_ret
          exact ⟨rfl, ((Below.refl _ w).alloc (Nat.le_refl _) _)⟩
      · rw [inB_no (fun h => hn0 h.1)]
        have e0 : decide (1 ≤ n) = false := decide_eq_false (by omega)
        go_enter Try.func6, Try.ntmps6
        go_wp2
        go_ret
        exact ⟨rfl, ((Below.refl _ w).alloc (Nat.le_refl _) _)⟩
    · have hz' : decide (f = 0) = false := decide_eq_false hz
      rw [hz', Bool.false_and]
      go_enter Try.func6, Try.ntmps6
      go_wp2
      go_ret
      exact ⟨rfl, ((Below.refl _ w).alloc (Nat.le_refl _) _)⟩
  rw [askB_other ⟨by omega, by omega⟩ k1 k2 k3 k4 k5]
  have j1 : decide (k = 1) = false := decide_eq_false k1
  have j2 : decide (k = 2) = false := decide_eq_false k2
  have j3 : decide (k = 3) = false := decide_eq_false k3
  have j4 : decide (k = 4) = false := decide_eq_false k4
  have j5 : decide (k = 5) = false := decide_eq_false k5
  go_enter Try.func6, Try.ntmps6
  go_wp2
  go_ret
  exact ⟨rfl, ((Below.refl _ w).alloc (Nat.le_refl _) _)⟩
set_option maxHeartbeats 2000000 in
set_option maxRecDepth 100000 in
theorem specAskOk7 (k f n : Int) (w : World) :
    Calls Try.prog 7 #[askVal k f n] w fun e w' => e = .returned (.bool (askB k f n)) ∧ Below w.heap.size w w' := by
  unfold askVal
  by_cases hf0 : f < 0
  · rw [askB_out (by omega)]
    have d0 : decide (0 ≤ f) = false := decide_eq_false (by omega)
    go_enter Try.func7, Try.ntmps7
    go_wp2
    go_ret
    exact ⟨rfl, ((Below.refl _ w).alloc (Nat.le_refl _) _)⟩
  by_cases hf1 : 20 < f
  · rw [askB_out (by omega)]
    have d0 : decide (0 ≤ f) = true := decide_eq_true (by omega)
    have d1 : decide (f ≤ 20) = false := decide_eq_false (by omega)
    go_enter Try.func7, Try.ntmps7
    go_wp2
    go_ret
    exact ⟨rfl, ((Below.refl _ w).alloc (Nat.le_refl _) _)⟩
  have d0 : decide (0 ≤ f) = true := decide_eq_true (by omega)
  have d1 : decide (f ≤ 20) = true := decide_eq_true (by omega)
  by_cases k1 : k = 1
  · subst k1
    rw [askB_page ⟨by omega, by omega⟩ (by decide)]
    by_cases hn0 : 1 ≤ n
    · by_cases hn1 : n ≤ 6
      · rw [inB_yes ⟨hn0, hn1⟩]
        have e0 : decide (1 ≤ n) = true := decide_eq_true (by omega)
        have e1 : decide (n ≤ 6) = true := decide_eq_true (by omega)
        go_enter Try.func7, Try.ntmps7
        go_wp2
        go_ret
        exact ⟨rfl, ((Below.refl _ w).alloc (Nat.le_refl _) _)⟩
      · rw [inB_no (fun h => hn1 h.2)]
        have e0 : decide (1 ≤ n) = true := decide_eq_true (by omega)
        have e1 : decide (n ≤ 6) = false := decide_eq_false (by omega)
        go_enter Try.func7, Try.ntmps7
        go_wp2
        go_ret
        exact ⟨rfl, ((Below.refl _ w).alloc (Nat.le_refl _) _)⟩
    · rw [inB_no (fun h => hn0 h.1)]
      have e0 : decide (1 ≤ n) = false := decide_eq_false (by omega)
      go_enter Try.func7, Try.ntmps7
      go_wp2
      go_ret
      exact ⟨rfl, ((Below.refl _ w).alloc (Nat.le_refl _) _)⟩
  by_cases k2 : k = 2
  · subst k2
    rw [askB_page ⟨by omega, by omega⟩ (by decide)]
    by_cases hn0 : 1 ≤ n
    · by_cases hn1 : n ≤ 6
      · rw [inB_yes ⟨hn0, hn1⟩]
        have e0 : decide (1 ≤ n) = true := decide_eq_true (by omega)
        have e1 : decide (n ≤ 6) = true := decide_eq_true (by omega)
        go_enter Try.func7, Try.ntmps7
        go_wp2
        go_ret
        exact ⟨rfl, ((Below.refl _ w).alloc (Nat.le_refl _) _)⟩
      · rw [inB_no (fun h => hn1 h.2)]
        have e0 : decide (1 ≤ n) = true := decide_eq_true (by omega)
        have e1 : decide (n ≤ 6) = false := decide_eq_false (by omega)
        go_enter Try.func7, Try.ntmps7
        go_wp2
        go_ret
        exact ⟨rfl, ((Below.refl _ w).alloc (Nat.le_refl _) _)⟩
    · rw [inB_no (fun h => hn0 h.1)]
      have e0 : decide (1 ≤ n) = false := decide_eq_false (by omega)
      go_enter Try.func7, Try.ntmps7
      go_wp2
      go_ret
      exact ⟨rfl, ((Below.refl _ w).alloc (Nat.le_refl _) _)⟩
  by_cases k3 : k = 3
  · subst k3
    rw [askB_page ⟨by omega, by omega⟩ (by decide)]
    by_cases hn0 : 1 ≤ n
    · by_cases hn1 : n ≤ 6
      · rw [inB_yes ⟨hn0, hn1⟩]
        have e0 : decide (1 ≤ n) = true := decide_eq_true (by omega)
        have e1 : decide (n ≤ 6) = true := decide_eq_true (by omega)
        go_enter Try.func7, Try.ntmps7
        go_wp2
        go_ret
        exact ⟨rfl, ((Below.refl _ w).alloc (Nat.le_refl _) _)⟩
      · rw [inB_no (fun h => hn1 h.2)]
        have e0 : decide (1 ≤ n) = true := decide_eq_true (by omega)
        have e1 : decide (n ≤ 6) = false := decide_eq_false (by omega)
        go_enter Try.func7, Try.ntmps7
        go_wp2
        go_ret
        exact ⟨rfl, ((Below.refl _ w).alloc (Nat.le_refl _) _)⟩
    · rw [inB_no (fun h => hn0 h.1)]
      have e0 : decide (1 ≤ n) = false := decide_eq_false (by omega)
      go_enter Try.func7, Try.ntmps7
      go_wp2
      go_ret
      exact ⟨rfl, ((Below.refl _ w).alloc (Nat.le_refl _) _)⟩
  by_cases k4 : k = 4
  · subst k4
    rw [askB_block ⟨by omega, by omega⟩]
    by_cases hn : n = 0
    · subst hn
      go_enter Try.func7, Try.ntmps7
      go_wp2
      go_ret
      exact ⟨rfl, ((Below.refl _ w).alloc (Nat.le_refl _) _)⟩
    · have hn' : decide (n = 0) = false := decide_eq_false hn
      have hn2 : (n == 0) = false := beq_false_of_ne hn
      rw [hn']
      go_enter Try.func7, Try.ntmps7
      go_wp2
      go_ret
      exact ⟨rfl, ((Below.refl _ w).alloc (Nat.le_refl _) _)⟩
  by_cases k5 : k = 5
  · subst k5
    rw [askB_sample ⟨by omega, by omega⟩]
    by_cases hz : f = 0
    · subst hz
      rw [show decide ((0 : Int) = 0) = true from rfl, Bool.true_and]
      clear d0 d1
      by_cases hn0 : 1 ≤ n
      · by_cases hn1 : n ≤ 6
        · rw [inB_yes ⟨hn0, hn1⟩]
          have e0 : decide (1 ≤ n) = true := decide_eq_true (by omega)
          have e1 : decide (n ≤ 6) = true := decide_eq_true (by omega)
          go_enter Try.func7, Try.ntmps7
          go_wp2
          go_ret
          exact ⟨rfl, ((Below.refl _ w).alloc (Nat.le_refl _) _)⟩
        · rw [inB_no (fun h => hn1 h.2)]
          have e0 : decide (1 ≤ n) = true := decide_eq_true (by omega)
          have e1 : decide (n ≤ 6) = false := decide_eq_false (by omega)
          go_enter Try.func7, Try.ntmps7
          go_wp2
          go_ret
          exact ⟨rfl, ((Below.refl _ w).alloc (Nat.le_refl _) _)⟩
      · rw [inB_no (fun h => hn0 h.1)]
        have e0 : decide (1 ≤ n) = false := decide_eq_false (by omega)
        go_enter Try.func7, Try.ntmps7
        go_wp2
        go_ret
        exact ⟨rfl, ((Below.refl _ w).alloc (Nat.le_refl _) _)⟩
    · have hz' : decide (f = 0) = false := decide_eq_false hz
      rw [hz', Bool.false_and]
      go_enter Try.func7, Try.ntmps7
      go_wp2
      go_ret
      exact ⟨rfl, ((Below.refl _ w).alloc (Nat.le_refl _) _)⟩
  rw [askB_other ⟨by omega, by omega⟩ k1 k2 k3 k4 k5]
  have j1 : decide (k = 1) = false := decide_eq_false k1
  have j2 : decide (k = 2) = false := decide_eq_false k2
  have j3 : decide (k = 3) = false := decide_eq_false k3
  have j4 : decide (k = 4) = false := decide_eq_false k4
  have j5 : decide (k = 5) = false := decide_eq_false k5
  go_enter Try.func7, Try.ntmps7
  go_wp2
  go_ret
  exact ⟨rfl, ((Below.refl _ w).alloc (Nat.le_refl _) _)⟩
set_option maxHeartbeats 2000000 in
set_option maxRecDepth 100000 in
theorem specAskOk (k f n : Int) (w : World) :
    Calls Try.prog 4 #[askVal k f n] w fun e w' => e = .returned (.bool (askB k f n)) ∧ Below w.heap.size w w' := by
  unfold askVal
  by_cases hf0 : f < 0
  · rw [askB_out (by omega)]
    have d0 : decide (0 ≤ f) = false := decide_eq_false (by omega)
    go_enter Try.func4, Try.ntmps4
    go_wp2
    go_ret
    exact ⟨rfl, ((Below.refl _ w).alloc (Nat.le_refl _) _).alloc (by simp) _⟩
  by_cases hf1 : 20 < f
  · rw [askB_out (by omega)]
    have d0 : decide (0 ≤ f) = true := decide_eq_true (by omega)
    have d1 : decide (f ≤ 20) = false := decide_eq_false (by omega)
    go_enter Try.func4, Try.ntmps4
    go_wp2
    go_ret
    exact ⟨rfl, ((Below.refl _ w).alloc (Nat.le_refl _) _).alloc (by simp) _⟩
  have d0 : decide (0 ≤ f) = true := decide_eq_true (by omega)
  have d1 : decide (f ≤ 20) = true := decide_eq_true (by omega)
  by_cases k1 : k = 1
  · subst k1
    rw [askB_page ⟨by omega, by omega⟩ (by decide)]
    by_cases hn0 : 1 ≤ n
    · by_cases hn1 : n ≤ 6
      · rw [inB_yes ⟨hn0, hn1⟩]
        have e0 : decide (1 ≤ n) = true := decide_eq_true (by omega)
        have e1 : decide (n ≤ 6) = true := decide_eq_true (by omega)
        go_enter Try.func4, Try.ntmps4
        go_wp2
        go_ret
        exact ⟨rfl, ((Below.refl _ w).alloc (Nat.le_refl _) _).alloc (by simp) _⟩
      · rw [inB_no (fun h => hn1 h.2)]
        have e0 : decide (1 ≤ n) = true := decide_eq_true (by omega)
        have e1 : decide (n ≤ 6) = false := decide_eq_false (by omega)
        go_enter Try.func4, Try.ntmps4
        go_wp2
        go_ret
        exact ⟨rfl, ((Below.refl _ w).alloc (Nat.le_refl _) _).alloc (by simp) _⟩
    · rw [inB_no (fun h => hn0 h.1)]
      have e0 : decide (1 ≤ n) = false := decide_eq_false (by omega)
      go_enter Try.func4, Try.ntmps4
      go_wp2
      go_ret
      exact ⟨rfl, ((Below.refl _ w).alloc (Nat.le_refl _) _).alloc (by simp) _⟩
  by_cases k2 : k = 2
  · subst k2
    rw [askB_page ⟨by omega, by omega⟩ (by decide)]
    by_cases hn0 : 1 ≤ n
    · by_cases hn1 : n ≤ 6
      · rw [inB_yes ⟨hn0, hn1⟩]
        have e0 : decide (1 ≤ n) = true := decide_eq_true (by omega)
        have e1 : decide (n ≤ 6) = true := decide_eq_true (by omega)
        go_enter Try.func4, Try.ntmps4
        go_wp2
        go_ret
        exact ⟨rfl, ((Below.refl _ w).alloc (Nat.le_refl _) _).alloc (by simp) _⟩
      · rw [inB_no (fun h => hn1 h.2)]
        have e0 : decide (1 ≤ n) = true := decide_eq_true (by omega)
        have e1 : decide (n ≤ 6) = false := decide_eq_false (by omega)
        go_enter Try.func4, Try.ntmps4
        go_wp2
        go_ret
        exact ⟨rfl, ((Below.refl _ w).alloc (Nat.le_refl _) _).alloc (by simp) _⟩
    · rw [inB_no (fun h => hn0 h.1)]
      have e0 : decide (1 ≤ n) = false := decide_eq_false (by omega)
      go_enter Try.func4, Try.ntmps4
      go_wp2
      go_ret
      exact ⟨rfl, ((Below.refl _ w).alloc (Nat.le_refl _) _).alloc (by simp) _⟩
  by_cases k3 : k = 3
  · subst k3
    rw [askB_page ⟨by omega, by omega⟩ (by decide)]
    by_cases hn0 : 1 ≤ n
    · by_cases hn1 : n ≤ 6
      · rw [inB_yes ⟨hn0, hn1⟩]
        have e0 : decide (1 ≤ n) = true := decide_eq_true (by omega)
        have e1 : decide (n ≤ 6) = true := decide_eq_true (by omega)
        go_enter Try.func4, Try.ntmps4
        go_wp2
        go_ret
        exact ⟨rfl, ((Below.refl _ w).alloc (Nat.le_refl _) _).alloc (by simp) _⟩
      · rw [inB_no (fun h => hn1 h.2)]
        have e0 : decide (1 ≤ n) = true := decide_eq_true (by omega)
        have e1 : decide (n ≤ 6) = false := decide_eq_false (by omega)
        go_enter Try.func4, Try.ntmps4
        go_wp2
        go_ret
        exact ⟨rfl, ((Below.refl _ w).alloc (Nat.le_refl _) _).alloc (by simp) _⟩
    · rw [inB_no (fun h => hn0 h.1)]
      have e0 : decide (1 ≤ n) = false := decide_eq_false (by omega)
      go_enter Try.func4, Try.ntmps4
      go_wp2
      go_ret
      exact ⟨rfl, ((Below.refl _ w).alloc (Nat.le_refl _) _).alloc (by simp) _⟩
  by_cases k4 : k = 4
  · subst k4
    rw [askB_block ⟨by omega, by omega⟩]
    by_cases hn : n = 0
    · subst hn
      go_enter Try.func4, Try.ntmps4
      go_wp2
      go_ret
      exact ⟨rfl, ((Below.refl _ w).alloc (Nat.le_refl _) _).alloc (by simp) _⟩
    · have hn' : decide (n = 0) = false := decide_eq_false hn
      have hn2 : (n == 0) = false := beq_false_of_ne hn
      rw [hn']
      go_enter Try.func4, Try.ntmps4
      go_wp2
      go_ret
      exact ⟨rfl, ((Below.refl _ w).alloc (Nat.le_refl _) _).alloc (by simp) _⟩
  by_cases k5 : k = 5
  · subst k5
    rw [askB_sample ⟨by omega, by omega⟩]
    by_cases hz : f = 0
    · subst hz
      rw [show decide ((0 : Int) = 0) = true from rfl, Bool.true_and]
      clear d0 d1
      by_cases hn0 : 1 ≤ n
      · by_cases hn1 : n ≤ 6
        · rw [inB_yes ⟨hn0, hn1⟩]
          have e0 : decide (1 ≤ n) = true := decide_eq_true (by omega)
          have e1 : decide (n ≤ 6) = true := decide_eq_true (by omega)
          go_enter Try.func4, Try.ntmps4
          go_wp2
          go_ret
          exact ⟨rfl, ((Below.refl _ w).alloc (Nat.le_refl _) _).alloc (by simp) _⟩
        · rw [inB_no (fun h => hn1 h.2)]
          have e0 : decide (1 ≤ n) = true := decide_eq_true (by omega)
          have e1 : decide (n ≤ 6) = false := decide_eq_false (by omega)
          go_enter Try.func4, Try.ntmps4
          go_wp2
          go_ret
          exact ⟨rfl, ((Below.refl _ w).alloc (Nat.le_refl _) _).alloc (by simp) _⟩
      · rw [inB_no (fun h => hn0 h.1)]
        have e0 : decide (1 ≤ n) = false := decide_eq_false (by omega)
        go_enter Try.func4, Try.ntmps4
        go_wp2
        go_ret
        exact ⟨rfl, ((Below.refl _ w).alloc (Nat.le_refl _) _).alloc (by simp) _⟩
    · have hz' : decide (f = 0) = false := decide_eq_false hz
      rw [hz', Bool.false_and]
      go_enter Try.func4, Try.ntmps4
      go_wp2
      go_ret
      exact ⟨rfl, ((Below.refl _ w).alloc (Nat.le_refl _) _).alloc (by simp) _⟩
  rw [askB_other ⟨by omega, by omega⟩ k1 k2 k3 k4 k5]
  have j1 : decide (k = 1) = false := decide_eq_false k1
  have j2 : decide (k = 2) = false := decide_eq_false k2
  have j3 : decide (k = 3) = false := decide_eq_false k3
  have j4 : decide (k = 4) = false := decide_eq_false k4
  have j5 : decide (k = 5) = false := decide_eq_false k5
  go_enter Try.func4, Try.ntmps4
  go_wp2
  go_ret
  exact ⟨rfl, ((Below.refl _ w).alloc (Nat.le_refl _) _).alloc (by simp) _⟩
end Go.Proofs.Ytinknocacmhikaa
