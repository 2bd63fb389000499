/-
  What RicePut answers: the model.
-/
import Derived.Test.YtcaejndpmagfaaaDoorRiceM
import Derived.Below
namespace Go.Proofs.YtcaejndpmagfaaaDoor
open Go.RowKit

def numOk (z : Int) : Bool := decide (0 ≤ z ∧ z ≤ 60000)
def bitsOk (k : Int) : Bool := decide (0 ≤ k ∧ k ≤ 8)
def riceOkB (zs : List Int) (k : Int) : Bool := decide (zs.length ≤ 40) && bitsOk k && zs.all numOk
def ricePut (zs : List Int) (k : Int) : List UInt8 := if riceOkB zs k = true then riceB k.toNat (zs.map Int.toNat) else []
/-- The numbers lie there. -/
def At (w : World) (g : Nat) (zs : List Int) : Prop := g < w.heap.size ∧ ∀ i, i < zs.length → w.cell? ⟨g, i, none⟩ = some (.int .i64 (zs.getD i 0))
theorem At.below {w w' : World} {g B : Nat} {zs : List Int} (h : At w g zs) (hb : Below B w w') (hg : g < B) : At w' g zs :=
  ⟨Nat.lt_of_lt_of_le h.1 hb.size, fun i hi => by rw [hb.cell (p := ⟨g, i, none⟩) hg]; exact h.2 i hi⟩
theorem At.drew {w : World} {g : Nat} {zs : List Int} (h : At w g zs) : At w.drew g zs := h
theorem riceOk_len {zs : List Int} {k : Int} (h : riceOkB zs k = true) : zs.length ≤ 40 := by
  simp only [riceOkB, Bool.and_eq_true] at h
  exact of_decide_eq_true h.1.1
theorem riceOk_bits {zs : List Int} {k : Int} (h : riceOkB zs k = true) : 0 ≤ k ∧ k ≤ 8 := by
  simp only [riceOkB, Bool.and_eq_true] at h
  exact of_decide_eq_true h.1.2
theorem riceOk_at {zs : List Int} {k : Int} (h : riceOkB zs k = true) (i : Nat) (hi : i < zs.length) : 0 ≤ zs.getD i 0 ∧ zs.getD i 0 ≤ 60000 := by
  simp only [riceOkB, Bool.and_eq_true, List.all_eq_true] at h
  have := h.2 (zs.getD i 0) (by simp [List.getElem?_eq_getElem hi])
  exact of_decide_eq_true this
theorem riceOk_no {zs : List Int} {k : Int} (i : Nat) (hi : i < zs.length) (h : ¬ (0 ≤ zs.getD i 0 ∧ zs.getD i 0 ≤ 60000)) : riceOkB zs k = false := by
  cases hh : riceOkB zs k with
  | false => rfl
  | true => exact absurd (riceOk_at hh i hi) h
theorem riceOk_yes {zs : List Int} {k : Int} (h1 : zs.length ≤ 40) (h2 : 0 ≤ k ∧ k ≤ 8) (h3 : ∀ i, i < zs.length → 0 ≤ zs.getD i 0 ∧ zs.getD i 0 ≤ 60000) : riceOkB zs k = true := by
  have e1 : decide (zs.length ≤ 40) = true := decide_eq_true h1
  have e2 : bitsOk k = true := decide_eq_true h2
  simp only [riceOkB, e1, e2, Bool.true_and, List.all_eq_true]
  intro z hz
  obtain ⟨i, hi, rfl⟩ := List.mem_iff_getElem.1 hz
  have := h3 i hi
  rw [List.getD_eq_getElem?_getD, List.getElem?_eq_getElem hi] at this
  exact decide_eq_true this
theorem ricePut_yes {zs : List Int} {k : Int} (h : riceOkB zs k = true) : ricePut zs k = riceB k.toNat (zs.map Int.toNat) := by
  rw [ricePut, if_pos h]
theorem ricePut_no {zs : List Int} {k : Int} (h : riceOkB zs k = false) : ricePut zs k = [] := by
  rw [ricePut, if_neg (by rw [h]; decide)]
/-- The first so many numbers written. -/
def upTo (k : Nat) (zs : List Int) (i : Nat) : List UInt8 × List Nat := runB ([], []) (bitsOf k ((zs.map Int.toNat).take i))
theorem upTo_zero (k : Nat) (zs : List Int) : upTo k zs 0 = ([], []) := by simp [upTo, bitsOf, runB]
theorem upTo_succ (k : Nat) (zs : List Int) (i : Nat) (hi : i < zs.length) : upTo k zs (i + 1) = runB (upTo k zs i) (numB k (zs.getD i 0).toNat) := by
  have h : (zs.map Int.toNat).take (i + 1) = (zs.map Int.toNat).take i ++ [(zs.getD i 0).toNat] := by
    rw [List.take_add_one, List.getElem?_map, List.getElem?_eq_getElem hi]
    simp [List.getElem?_eq_getElem hi]
  rw [upTo, h, bitsOf_snoc, runB_append]
  rfl
theorem upTo_ok (k : Nat) (zs : List Int) (i : Nat) : okB (upTo k zs i) := runB_ok ⟨by simp, by simp⟩ (bitsOf_ok _ _)
theorem upTo_len {k : Nat} {zs : List Int} (hk : k ≤ 8) (hl : zs.length ≤ 40) (h : ∀ i, i < zs.length → 0 ≤ zs.getD i 0 ∧ zs.getD i 0 ≤ 60000) (i : Nat) : (upTo k zs i).1.length ≤ 10000000 := by
  have h1 := runB_len ([], []) (bitsOf k ((zs.map Int.toNat).take i))
  have h2 := bitsOf_length k ((zs.map Int.toNat).take i) hk (by
    intro x hx
    have hx' := List.mem_of_mem_take hx
    obtain ⟨z, hz, rfl⟩ := List.mem_map.1 hx'
    obtain ⟨j, hj, rfl⟩ := List.mem_iff_getElem.1 hz
    have := h j hj
    rw [List.getD_eq_getElem?_getD, List.getElem?_eq_getElem hj] at this
    simp at this
    omega)
  have h3 : ((zs.map Int.toNat).take i).length ≤ 40 := by simp; omega
  have h4 : ((zs.map Int.toNat).take i).length * 60009 ≤ 40 * 60009 := Nat.mul_le_mul_right _ h3
  simp only [List.length_nil] at h1
  show (runB ([], []) (bitsOf k ((zs.map Int.toNat).take i))).1.length ≤ _
  omega
theorem upTo_end (k : Nat) (zs : List Int) : fillB (upTo k zs zs.length) = riceB k (zs.map Int.toNat) := by
  rw [upTo, riceB, List.take_of_length_le (by simp)]

end Go.Proofs.YtcaejndpmagfaaaDoor
