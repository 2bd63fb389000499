/-
  Plain facts: a number is read back from its bytes, whatever stands behind.
-/
import Derived.Test.YtimknohdclnihaaVarGetM
namespace Go.Proofs.Ytimknohdclnihaa
open Go.RowKit

theorem vg_run (l : List UInt8) : ∀ (f : Nat) (pre : List UInt8) (b : UInt8) (r : List UInt8), (∀ c ∈ l, 128 ≤ c.toNat) → b.toNat < 128 → l.length < f →
    vg f pre (l ++ b :: r) = if varPut (vNum (pre ++ l ++ [b])) = pre ++ l ++ [b] then (vNum (pre ++ l ++ [b]), (pre ++ l).length + 1) else (0, 0) := by
  induction l with
  | nil =>
    intro f pre b r _ hb hf
    obtain ⟨g, rfl⟩ : ∃ g, f = g + 1 := ⟨f - 1, by simp at hf; omega⟩
    simp only [List.nil_append, vg, List.append_nil]
    rw [if_neg (by omega)]
  | cons c t ih =>
    intro f pre b r hl hb hf
    obtain ⟨g, rfl⟩ : ∃ g, f = g + 1 := ⟨f - 1, by simp at hf; omega⟩
    simp only [List.cons_append, vg]
    rw [if_pos (hl c (by simp)), ih g (pre ++ [c]) b r (fun x hx => hl x (by simp [hx])) hb (by simp at hf; omega)]
    simp

theorem varB_shape (f : Nat) : ∀ n, n < 128 ^ (f + 1) → ∃ l b, varB f n = l ++ [b] ∧ vEnds l b ∧ vNum (l ++ [b]) = n ∧ l.length ≤ f := by
  induction f with
  | zero =>
    intro n hn
    have hn' : n < 128 := by simpa using hn
    refine ⟨[], UInt8.ofNat n, by simp [varB], ⟨by simp, by simp; omega⟩, ?_, by simp⟩
    simp [vNum]
    omega
  | succ f ih =>
    intro n hn
    by_cases h : n < 128
    · refine ⟨[], UInt8.ofNat n, by simp [varB, h], ⟨by simp, by simp; omega⟩, ?_, by simp⟩
      simp [vNum]
      omega
    · have hp : 128 ^ (f + 1 + 1) = 128 ^ (f + 1) * 128 := Nat.pow_succ ..
      obtain ⟨l, b, h1, h2, h3, h4⟩ := ih (n / 128) (by omega)
      refine ⟨UInt8.ofNat (128 + n % 128) :: l, b, by rw [varB_step f n h, h1]; simp, ⟨?_, h2.2⟩, ?_, by simp; omega⟩
      · intro c hc
        rcases List.mem_cons.1 hc with rfl | hc
        · simp
          omega
        · exact h2.1 c hc
      · simp only [List.cons_append, vNum, h3]
        simp
        omega

theorem varGet_put (n : Nat) (hn : n ≤ 2147483647) (r : List UInt8) : varGet (varPut n ++ r) = (n, (varPut n).length) ∧ 1 ≤ (varPut n).length ∧ (varPut n).length ≤ 5 := by
  have hv : varPut n = varB 4 n := by unfold varPut; rw [if_pos (by omega)]; simp
  obtain ⟨l, b, h1, h2, h3, h4⟩ := varB_shape 4 n (by omega)
  have hl := varB_length 4 n
  refine ⟨?_, by rw [hv]; exact hl.1, by rw [hv]; omega⟩
  rw [hv, h1, varGet]
  have := vg_run l 5 [] b r h2.1 h2.2 (by omega)
  simp only [List.append_assoc, List.cons_append, List.nil_append] at this ⊢
  rw [this, if_pos (by rw [h3, hv, h1]), h3]
  simp

/-- What is read as a number is written just so. -/
theorem vg_got : ∀ (f : Nat) (l s : List UInt8), (vg f l s).2 = 0 ∨ (varPut (vg f l s).1 = (l ++ s).take (vg f l s).2 ∧ (vg f l s).2 ≤ (l ++ s).length) := by
  intro f
  induction f with
  | zero => intro l s; left; rfl
  | succ f ih =>
    intro l s
    cases s with
    | nil => left; rfl
    | cons b r =>
      simp only [vg]
      by_cases hb : 128 ≤ b.toNat
      · rw [if_pos hb]
        have := ih (l ++ [b]) r
        simpa using this
      · rw [if_neg hb]
        by_cases hp : varPut (vNum (l ++ [b])) = l ++ [b]
        · rw [if_pos hp]
          right
          refine ⟨?_, by simp⟩
          show varPut (vNum (l ++ [b]) : Nat) = _
          rw [hp]
          simp [List.take_append, List.take_of_length_le]
        · rw [if_neg hp]
          left
          rfl

theorem varGet_got (s : List UInt8) : (varGet s).2 = 0 ∨ (varPut (varGet s).1 = s.take (varGet s).2 ∧ (varGet s).2 ≤ s.length) := by
  have := vg_got 5 [] s
  simpa [varGet] using this

end Go.Proofs.Ytimknohdclnihaa
