/-
  Rows of structs in memory: of each element the same number of cells.
-/
import Derived.Test.YtjeldedjhlicmaaDoorProg
import Derived.WalkKit
import Derived.Below
import Derived.Laws.Rows
import Derived.Lib.FrozenHead2
import Derived.Laws.MakeOwn
set_option linter.unusedVariables false
namespace Go.Proofs.YtjeldedjhlicmaaDoor
open Go.RowKit

section flat
variable {α : Type}
theorem flat_at [Inhabited α] (k : Nat) (enc : α → List Value) (hk : ∀ a, (enc a).length = k) : ∀ (l : List α) (i j : Nat), i < l.length → j < k → (l.flatMap enc)[i * k + j]? = (enc (l.getD i default))[j]?
  | [], i, j, hi, _ => by cases hi
  | x :: r, 0, j, _, hj => by
    rw [List.flatMap_cons, Nat.zero_mul, Nat.zero_add, List.getElem?_append_left (by rw [hk]; exact hj)]
    rfl
  | x :: r, i + 1, j, hi, hj => by
    have e : (i + 1) * k + j = k + (i * k + j) := by rw [Nat.add_mul]; omega
    rw [List.flatMap_cons, List.getElem?_append_right (by rw [hk, e]; omega), hk, e, Nat.add_sub_cancel_left, flat_at k enc hk r i j (by simpa using hi) hj]
    rfl
theorem flat_length (k : Nat) (enc : α → List Value) (hk : ∀ a, (enc a).length = k) (l : List α) : (l.flatMap enc).length = l.length * k := by
  induction l with
  | nil => simp
  | cons x r ih => rw [List.flatMap_cons, List.length_append, hk, ih, List.length_cons, Nat.add_mul]; omega
/-- The cells of one element put one by one. -/
def putAt : List Value → Nat → List Value → List Value
  | cs, _, [] => cs
  | cs, p, v :: vs => putAt (cs.set p v) (p + 1) vs
theorem putAt_right (a : List Value) : ∀ (vs b : List Value) (p : Nat), a.length ≤ p → putAt (a ++ b) p vs = a ++ putAt b (p - a.length) vs
  | [], b, p, _ => rfl
  | v :: vs, b, p, hp => by
    rw [putAt, putAt, List.set_append_right _ _ hp, putAt_right a vs _ (p + 1) (by omega), show p + 1 - a.length = p - a.length + 1 from by omega]
theorem putAt_zero : ∀ (vs a b : List Value) (pre : List Value), a.length = vs.length → putAt (pre ++ (a ++ b)) pre.length vs = pre ++ (vs ++ b)
  | [], a, b, pre, h => by
    rw [List.length_eq_zero_iff.1 h]
    rfl
  | v :: vs, [], b, pre, h => by cases h
  | v :: vs, x :: a, b, pre, h => by
    rw [putAt, List.set_append_right _ _ (Nat.le_refl _), Nat.sub_self]
    have := putAt_zero vs a b (pre ++ [v]) (by simpa using h)
    simp only [List.append_assoc, List.cons_append, List.nil_append, List.length_append, List.length_cons, List.length_nil] at this
    exact this
theorem flat_put (k : Nat) (enc : α → List Value) (hk : ∀ a, (enc a).length = k) : ∀ (l : List α) (i : Nat) (a : α), i < l.length → putAt (l.flatMap enc) (i * k) (enc a) = (l.set i a).flatMap enc
  | [], i, a, hi => by cases hi
  | x :: r, 0, a, _ => by
    have := putAt_zero (enc a) (enc x) (r.flatMap enc) [] (by rw [hk, hk])
    simpa using this
  | x :: r, i + 1, a, hi => by
    have e : (i + 1) * k = k + i * k := by rw [Nat.add_mul]; omega
    rw [List.flatMap_cons, putAt_right _ _ _ _ (by rw [hk, e]; omega), hk, e, Nat.add_sub_cancel_left, flat_put k enc hk r i a (by simpa using hi)]
    rfl
/-- The row at a block. -/
def RowF (enc : α → List Value) (T : TypeId) (w : World) (g : Nat) (l : List α) : Prop := w.heap[g]? = some (.cells (l.flatMap enc).toArray T (0, 0))
theorem RowF.lt {enc : α → List Value} {T : TypeId} {w : World} {g : Nat} {l : List α} (h : RowF enc T w g l) : g < w.heap.size := by
  rcases Nat.lt_or_ge g w.heap.size with h' | h'
  · exact h'
  · simp [RowF, Array.getElem?_eq_none h'] at h
theorem RowF.below {enc : α → List Value} {T : TypeId} {w w' : World} {g B : Nat} {l : List α} (h : RowF enc T w g l) (hb : Below B w w') (hg : g < B) : RowF enc T w' g l := by
  unfold RowF at h ⊢; rw [hb.block g hg]; exact h
theorem RowF.drew {enc : α → List Value} {T : TypeId} {w : World} {g : Nat} {l : List α} (h : RowF enc T w g l) : RowF enc T w.drew g l := h
theorem RowF.frozen {enc : α → List Value} {T : TypeId} {w : World} {g : Nat} {l : List α} (h : RowF enc T w g l) (i : Nat) : w.frozen? ⟨g, i, none⟩ = false := Lib.frozen_of_heap h i
theorem RowF.cell [Inhabited α] {enc : α → List Value} {T : TypeId} {w : World} {g : Nat} {l : List α} (k : Nat) (hk : ∀ a, (enc a).length = k) (h : RowF enc T w g l) (i j : Nat) (hi : i < l.length) (hj : j < k) : w.cell? ⟨g, i * k + j, none⟩ = (enc (l.getD i default))[j]? := by
  rw [Lib.cell_of_heap h, ← flat_at k enc hk l i j hi hj]
  simp
theorem rowSet {T : TypeId} {w : World} {g p : Nat} {cs : List Value} (h : w.heap[g]? = some (.cells cs.toArray T (0, 0))) (v : Value) : (w.setCell ⟨g, p, none⟩ v).heap[g]? = some (.cells (cs.set p v).toArray T (0, 0)) := by
  simp only [World.setCell, Array.getElem?_modify, h]
  simp
/-- What lies there, element by element. -/
def AtF [Inhabited α] (enc : α → List Value) (k : Nat) (w : World) (g : Nat) (l : List α) : Prop := g < w.heap.size ∧ ∀ i j, i < l.length → j < k → w.cell? ⟨g, i * k + j, none⟩ = (enc (l.getD i default))[j]?
theorem RowF.at [Inhabited α] {enc : α → List Value} {T : TypeId} {w : World} {g : Nat} {l : List α} (k : Nat) (hk : ∀ a, (enc a).length = k) (h : RowF enc T w g l) : AtF enc k w g l := ⟨h.lt, fun i j hi hj => h.cell k hk i j hi hj⟩
theorem AtF.below [Inhabited α] {enc : α → List Value} {k : Nat} {w w' : World} {g B : Nat} {l : List α} (h : AtF enc k w g l) (hb : Below B w w') (hg : g < B) : AtF enc k w' g l :=
  ⟨Nat.lt_of_lt_of_le h.1 hb.size, fun i j hi hj => by rw [hb.cell (p := ⟨g, i * k + j, none⟩) hg]; exact h.2 i j hi hj⟩
theorem AtF.drew [Inhabited α] {enc : α → List Value} {k : Nat} {w : World} {g : Nat} {l : List α} (h : AtF enc k w g l) : AtF enc k w.drew g l := h
theorem set_nextF [Inhabited α] (z : α) (f : List α) (n k : Nat) (hk : k < f.length) (hn : k < n) : (f.take k ++ List.replicate (n - k) z).set k (f.getD k default) = f.take (k + 1) ++ List.replicate (n - (k + 1)) z := by
  have hl : (f.take k).length = k := by simp; omega
  rw [List.set_append_right _ _ (by omega), hl, Nat.sub_self, show n - k = (n - (k + 1)) + 1 from by omega, List.replicate_succ, List.set_cons_zero]
  have e1 : f.take (k + 1) = f.take k ++ [f[k]] := by rw [List.take_add_one, List.getElem?_eq_getElem hk]; rfl
  have e2 : f.getD k default = f[k] := by rw [List.getD_eq_getElem?_getD, List.getElem?_eq_getElem hk]; rfl
  rw [e1, e2, List.append_assoc]
  rfl
/-- What 'make' leaves. -/
theorem made_flat [Inhabited α] (k : Nat) (enc : α → List Value) (hk : ∀ a, (enc a).length = k) (hk0 : 0 < k) (a : α) (n : Nat) : madeCells (enc a).toArray (n * k) = ((List.replicate n a).flatMap enc).toArray := by
  apply Array.ext
  · rw [size_madeCells]
    simp [flat_length k enc hk]
  · intro i h1 h2
    rw [size_madeCells] at h1
    have hq : i / k < n := Nat.div_lt_of_lt_mul (by rw [Nat.mul_comm]; exact h1)
    have hr : i % k < k := Nat.mod_lt _ hk0
    have e : i / k * k + i % k = i := by rw [Nat.mul_comm]; exact Nat.div_add_mod i k
    have hf := flat_at k enc hk (List.replicate n a) (i / k) (i % k) (by simpa using hq) hr
    rw [e] at hf
    have hd : (List.replicate n a).getD (i / k) default = a := by simp [List.getD_eq_getElem?_getD, hq]
    rw [hd, List.getElem?_eq_getElem (show i < ((List.replicate n a).flatMap enc).length by simpa using h2), List.getElem?_eq_getElem (show i % k < (enc a).length by rw [hk]; exact hr)] at hf
    have hf2 := Option.some.inj hf
    simp only [List.getElem_toArray]
    rw [hf2]
    simp [madeCells, hk, hr]
end flat

end Go.Proofs.YtjeldedjhlicmaaDoor
