/-
  The specification's reading of numbers.
-/
import Derived.Test.YtcaejndpmagfaaaDoorRiceGS1
import Derived.Test.YtcaejndpmagfaaaDoorRiceS1
set_option linter.unusedVariables false
namespace Go.Proofs.YtcaejndpmagfaaaDoor
open Go.Shelf Go.RowKit

/-- A list that is written just so. -/
def Writes (k many : Nat) (o : List UInt8) (l : List Nat) : Prop := l.length = many ∧ (∀ x ∈ l, x ≤ 60000) ∧ riceB k l = o
theorem writes_one {k many : Nat} {o : List UInt8} {l : List Nat} (h : Writes k many o l) : readT k many (unpack o) (0, false, 0) [] = l := by
  rw [← h.2.2, ← h.1]
  exact readT_rice k l
/-- The place at which the j-th number begins. -/
def placeOf (k : Nat) (l : List Nat) (j : Nat) : Nat := (bitsOf k (l.take j)).length
theorem placeOf_zero (k : Nat) (l : List Nat) : placeOf k l 0 = 0 := by simp [placeOf, bitsOf]
theorem placeOf_succ (k : Nat) (l : List Nat) (j : Nat) (hj : j < l.length) : placeOf k l (j + 1) = placeOf k l j + (numB k (l.getD j 0)).length := by
  have : l.take (j + 1) = l.take j ++ [l.getD j 0] := by
    rw [List.take_add_one, List.getElem?_eq_getElem hj]
    simp [List.getElem?_eq_getElem hj]
  rw [placeOf, this, bitsOf_snoc, List.length_append]
  rfl
theorem num_at {k many : Nat} {o : List UInt8} {l : List Nat} (h : Writes k many o l) (j : Nat) (hj : j < many) (q : Nat) (hq : q < (numB k (l.getD j 0)).length) :
    placeOf k l j + q < 8 * o.length ∧ bitAt o (placeOf k l j + q) = (((numB k (l.getD j 0)).getD q 0 : Nat) : Int) := by
  obtain ⟨z, _, hu⟩ := unpack_rice k l
  rw [h.2.2] at hu
  have hjl : j < l.length := by rw [h.1]; exact hj
  have hsplit : bitsOf k l = bitsOf k (l.take j) ++ (numB k (l.getD j 0) ++ bitsOf k (l.drop (j + 1))) := by
    have e : l = l.take j ++ (l.getD j 0 :: l.drop (j + 1)) := by
      have e2 : l.getD j 0 = l[j] := by rw [List.getD_eq_getElem?_getD, List.getElem?_eq_getElem hjl]; rfl
      rw [e2, ← List.drop_eq_getElem_cons hjl, List.take_append_drop]
    conv => lhs; rw [e]
    simp [bitsOf]
  have hul : (unpack o).length = 8 * o.length := unpack_length o
  rw [hsplit] at hu
  have hlen : placeOf k l j + q < (unpack o).length := by
    rw [hu]
    simp only [List.length_append, placeOf]
    omega
  refine ⟨by omega, ?_⟩
  rw [bitAt_in (by omega), hu]
  congr 1
  rw [List.append_assoc, List.getD_eq_getElem?_getD, List.getElem?_append_right (by simp only [placeOf]; omega)]
  rw [show placeOf k l j + q - (bitsOf k (l.take j)).length = q from by simp only [placeOf]; omega]
  rw [List.append_assoc, List.getElem?_append_left hq, ← List.getD_eq_getElem?_getD]
theorem numB_one (k x q : Nat) (h : q < x / 2 ^ k) : (numB k x).getD q 0 = 1 := by
  rw [numB, List.getD_eq_getElem?_getD, List.getElem?_append_left (by simpa using h)]
  simp [h]
theorem numB_nought (k x : Nat) : (numB k x).getD (x / 2 ^ k) 0 = 0 := by
  rw [numB, List.getD_eq_getElem?_getD, List.getElem?_append_right (by simp)]
  simp
theorem lowB_at (x : Nat) : ∀ (k i : Nat), i < k → (lowB x k).getD i 0 = x / 2 ^ (k - 1 - i) % 2 := by
  intro k
  induction k with
  | zero => intro i hi; omega
  | succ k ih =>
    intro i hi
    cases i with
    | zero => rfl
    | succ i =>
      have := ih i (by omega)
      rw [show lowB x (k + 1) = (x / 2 ^ k % 2) :: lowB x k from rfl]
      rw [List.getD_cons_succ, this, show k + 1 - 1 - (i + 1) = k - 1 - i from by omega]
theorem numB_low (k x i : Nat) (h : i < k) : (numB k x).getD (x / 2 ^ k + 1 + i) 0 = x / 2 ^ (k - 1 - i) % 2 := by
  rw [numB, List.getD_eq_getElem?_getD, List.getElem?_append_right (by simp; omega)]
  rw [show x / 2 ^ k + 1 + i - (List.replicate (x / 2 ^ k) 1).length = i + 1 from by simp; omega]
  rw [List.getElem?_cons_succ, ← List.getD_eq_getElem?_getD, lowB_at x k i h]
/-- So many ones from a place on, then none: the number's first part. -/
theorem ones_end {k many : Nat} {o : List UInt8} {l : List Nat} (h : Writes k many o l) (j : Nat) (hj : j < many) (n : Nat) (h1 : ∀ q, q < n → bitAt o (placeOf k l j + q) = 1) (h2 : bitAt o (placeOf k l j + n) ≠ 1) : n = l.getD j 0 / 2 ^ k := by
  have hl := numB_length k (l.getD j 0)
  rcases Nat.lt_trichotomy n (l.getD j 0 / 2 ^ k) with hh | hh | hh
  · have := (num_at h j hj n (by omega)).2
    rw [numB_one k _ n hh] at this
    exact absurd this h2
  · exact hh
  · have a := (num_at h j hj (l.getD j 0 / 2 ^ k) (by omega)).2
    rw [numB_nought, h1 _ hh] at a
    simp at a
theorem low_step {k many : Nat} {o : List UInt8} {l : List Nat} (h : Writes k many o l) (j : Nat) (hj : j < many) (i : Nat) (hi : i < k) (v : Int) (hv : v = ((l.getD j 0 / 2 ^ (k - i) : Nat) : Int)) :
    v * 2 + bitAt o (placeOf k l j + l.getD j 0 / 2 ^ k + 1 + i) = ((l.getD j 0 / 2 ^ (k - (i + 1)) : Nat) : Int) := by
  have hl := numB_length k (l.getD j 0)
  have a := (num_at h j hj (l.getD j 0 / 2 ^ k + 1 + i) (by omega)).2
  rw [numB_low k _ i hi] at a
  rw [show placeOf k l j + l.getD j 0 / 2 ^ k + 1 + i = placeOf k l j + (l.getD j 0 / 2 ^ k + 1 + i) from by omega, a, hv]
  have e : l.getD j 0 / 2 ^ (k - i) = l.getD j 0 / 2 ^ (k - (i + 1)) / 2 := by
    rw [show k - i = k - (i + 1) + 1 from by omega, Nat.pow_succ, Nat.div_div_eq_div_mul]
  rw [e, show k - 1 - i = k - (i + 1) from by omega]
  omega

end Go.Proofs.YtcaejndpmagfaaaDoor
