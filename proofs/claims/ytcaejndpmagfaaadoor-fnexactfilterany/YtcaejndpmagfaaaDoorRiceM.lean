/-
  Bits into bytes: the model.
-/
import Derived.WalkKit
import Derived.WalkSpells
namespace Go.Proofs.YtcaejndpmagfaaaDoor
open Go.RowKit

def valB (l : List Nat) : Nat := l.foldl (fun n b => n * 2 + b) 0
theorem valB_snoc (l : List Nat) (b : Nat) : valB (l ++ [b]) = valB l * 2 + b := by simp [valB]
theorem valB_lt (l : List Nat) (h : ∀ x ∈ l, x ≤ 1) : valB l + 1 ≤ 2 ^ l.length := by
  suffices ∀ (l : List Nat) (a : Nat), (∀ x ∈ l, x ≤ 1) → l.foldl (fun n b => n * 2 + b) a + 1 ≤ (a + 1) * 2 ^ l.length by
    have := this l 0 h
    simpa [valB] using this
  intro l
  induction l with
  | nil => intro a _; simp
  | cons x r ih =>
    intro a hx
    have h1 := hx x (by simp)
    have h2 := ih (a * 2 + x) (fun y hy => hx y (by simp [hy]))
    simp only [List.foldl_cons, List.length_cons, Nat.pow_succ]
    have h3 : (a * 2 + x + 1) * 2 ^ r.length ≤ (a + 1) * 2 * 2 ^ r.length := Nat.mul_le_mul_right _ (by omega)
    have h4 : (a + 1) * 2 * 2 ^ r.length = (a + 1) * (2 ^ r.length * 2) := by rw [Nat.mul_assoc, Nat.mul_comm 2]
    omega
/-- One bit more: the full bytes, and the bits that wait. -/
def stepB (s : List UInt8 × List Nat) (b : Nat) : List UInt8 × List Nat :=
  if s.2.length = 7 then (s.1 ++ [UInt8.ofNat (valB (s.2 ++ [b]))], []) else (s.1, s.2 ++ [b])
def runB (s : List UInt8 × List Nat) (bs : List Nat) : List UInt8 × List Nat := bs.foldl stepB s
def okB (s : List UInt8 × List Nat) : Prop := s.2.length < 8 ∧ ∀ x ∈ s.2, x ≤ 1
theorem stepB_ok {s : List UInt8 × List Nat} {b : Nat} (h : okB s) (hb : b ≤ 1) : okB (stepB s b) := by
  unfold stepB
  split
  · exact ⟨by simp, by simp⟩
  · refine ⟨by have := h.1; simp; omega, ?_⟩
    intro x hx
    rcases List.mem_append.1 hx with hx | hx
    · exact h.2 x hx
    · simp at hx; omega
theorem stepB_len (s : List UInt8 × List Nat) (b : Nat) : (stepB s b).1.length ≤ s.1.length + 1 := by
  unfold stepB
  split <;> simp
theorem runB_snoc (s : List UInt8 × List Nat) (bs : List Nat) (b : Nat) : runB s (bs ++ [b]) = stepB (runB s bs) b := by simp [runB]
theorem runB_append (s : List UInt8 × List Nat) (xs ys : List Nat) : runB s (xs ++ ys) = runB (runB s xs) ys := by simp [runB]
theorem runB_ok {s : List UInt8 × List Nat} {bs : List Nat} (h : okB s) (hb : ∀ b ∈ bs, b ≤ 1) : okB (runB s bs) := by
  induction bs generalizing s with
  | nil => exact h
  | cons b r ih => exact ih (stepB_ok h (hb b (by simp))) (fun x hx => hb x (by simp [hx]))
theorem runB_len (s : List UInt8 × List Nat) (bs : List Nat) : (runB s bs).1.length ≤ s.1.length + bs.length := by
  induction bs generalizing s with
  | nil => simp [runB]
  | cons b r ih =>
    have h1 := ih (stepB s b)
    have h2 := stepB_len s b
    simp only [runB, List.foldl_cons, List.length_cons] at h1 ⊢
    omega
/-- The lowest bits of a number, the highest of them first. -/
def lowB (n : Nat) : Nat → List Nat
  | 0 => []
  | k + 1 => (n / 2 ^ k % 2) :: lowB n k
theorem lowB_ok (n k : Nat) : ∀ b ∈ lowB n k, b ≤ 1 := by
  induction k with
  | zero => simp [lowB]
  | succ k ih =>
    intro b hb
    rcases List.mem_cons.1 hb with rfl | hb
    · omega
    · exact ih b hb
theorem lowB_length (n k : Nat) : (lowB n k).length = k := by
  induction k with
  | zero => rfl
  | succ k ih => simp [lowB, ih]
theorem lowB_mod (n k m : Nat) (h : k ≤ m) : lowB (n % 2 ^ m) k = lowB n k := by
  induction k with
  | zero => rfl
  | succ k ih =>
    rw [lowB, lowB, ih (by omega)]
    congr 1
    have : 2 ^ m = 2 ^ k * (2 * 2 ^ (m - k - 1)) := by
      rw [← Nat.mul_assoc, ← Nat.pow_succ, ← Nat.pow_add]
      congr 1
      omega
    rw [this, Nat.mod_mul_right_div_self, Nat.mod_mul_right_mod]
def numB (k n : Nat) : List Nat := List.replicate (n / 2 ^ k) 1 ++ 0 :: lowB n k
theorem numB_ok (k n : Nat) : ∀ b ∈ numB k n, b ≤ 1 := by
  intro b hb
  rcases List.mem_append.1 hb with hb | hb
  · simp at hb; omega
  · rcases List.mem_cons.1 hb with rfl | hb
    · omega
    · exact lowB_ok n k b hb
theorem numB_length (k n : Nat) : (numB k n).length = n / 2 ^ k + 1 + k := by
  simp [numB, lowB_length]; omega
def bitsOf (k : Nat) (l : List Nat) : List Nat := l.flatMap (numB k)
theorem bitsOf_snoc (k : Nat) (l : List Nat) (n : Nat) : bitsOf k (l ++ [n]) = bitsOf k l ++ numB k n := by simp [bitsOf]
theorem bitsOf_ok (k : Nat) (l : List Nat) : ∀ b ∈ bitsOf k l, b ≤ 1 := by
  intro b hb
  obtain ⟨n, _, hb⟩ := List.mem_flatMap.1 hb
  exact numB_ok k n b hb
theorem bitsOf_length (k : Nat) (l : List Nat) (hk : k ≤ 8) (h : ∀ x ∈ l, x ≤ 60000) : (bitsOf k l).length ≤ l.length * 60009 := by
  induction l with
  | nil => simp [bitsOf]
  | cons n r ih =>
    have h1 := ih (fun x hx => h x (by simp [hx]))
    have h2 := h n (by simp)
    have h3 : n / 2 ^ k ≤ n := Nat.div_le_self _ _
    simp only [bitsOf, List.flatMap_cons, List.length_append, numB_length, List.length_cons] at h1 ⊢
    omega
/-- The state once the last byte is full. -/
def fillB (s : List UInt8 × List Nat) : List UInt8 := (runB s (List.replicate (if s.2 = [] then 0 else 8 - s.2.length) 0)).1
def riceB (k : Nat) (l : List Nat) : List UInt8 := fillB (runB ([], []) (bitsOf k l))
/-- Noughts one by one: the bytes are those of the full state as soon as nothing waits. -/
theorem fillB_step {s : List UInt8 × List Nat} (h : s.2.length < 8) (h0 : s.2 ≠ []) : fillB (stepB s 0) = fillB s := by
  have hne : s.2.length ≠ 0 := fun e => h0 (List.length_eq_zero_iff.1 e)
  have e8 : 8 - s.2.length = (8 - s.2.length - 1) + 1 := by omega
  have hr : fillB s = (runB (stepB s 0) (List.replicate (8 - s.2.length - 1) 0)).1 := by
    rw [fillB, if_neg h0, e8, List.replicate_succ]
    rfl
  rw [hr]
  unfold fillB
  by_cases h7 : s.2.length = 7
  · have : (stepB s 0).2 = [] := by simp [stepB, h7]
    rw [if_pos this, h7]
  · have h2 : (stepB s 0).2 = s.2 ++ [0] := by simp [stepB, h7]
    have h3 : (stepB s 0).2 ≠ [] := by rw [h2]; simp
    rw [if_neg h3, h2]
    simp only [List.length_append, List.length_cons, List.length_nil]
    rw [show 8 - (s.2.length + (0 + 1)) = 8 - s.2.length - 1 from by omega]
theorem fillB_end {s : List UInt8 × List Nat} (h0 : s.2 = []) : fillB s = s.1 := by
  rw [fillB, if_pos h0]
  rfl

end Go.Proofs.YtcaejndpmagfaaaDoor
