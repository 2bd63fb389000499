/-
  A block as it is handed in: its size, its copy, and whether two are the same.
-/
import Derived.Test.YtjeldedjhlicmabHeadL
import Derived.Test.YtjeldedjhlicmabStrL
import Derived.SliceStrings
set_option linter.unusedVariables false
namespace Go.Proofs.Ytjeldedjhlicmab
open Go.ChangeShapes Go.WideShapes Go.ChangeAt Go.RowKit Go.Deep

def blockVal (h : HeadV) (s : Value) : Value := .agg #[.string h.prev, .string h.root, .int .i64 h.time, .int .i64 h.diff, .int .i64 h.nonce, s]
theorem six_of_parts {cs : Array Value} {b : Value} {h : List Value} (hl : cs.toList.length = 6) (h0 : (cs.toList.drop 0).take 5 = h) (h1 : (cs.toList.drop 5).take 1 = [b]) : cs.toList = h ++ [b] := by
  rw [← h0, ← h1, List.drop_zero, List.take_of_length_le (l := cs.toList.drop 5) (by rw [List.length_drop, hl]; decide), List.take_append_drop]
/-- A block of memory, its cells written out. -/
def CBk (w : World) (g : Nat) (T : TypeId) (cs : Array Value) : Prop := w.heap[g]? = some (.cells cs T (0, 0))
theorem CBk.lt {w : World} {g : Nat} {T : TypeId} {cs : Array Value} (h : CBk w g T cs) : g < w.heap.size := by
  rcases Nat.lt_or_ge g w.heap.size with h' | h'
  · exact h'
  · simp [CBk, Array.getElem?_eq_none h'] at h
theorem CBk.below {w w' : World} {g B : Nat} {T : TypeId} {cs : Array Value} (h : CBk w g T cs) (hb : Below B w w') (hg : g < B) : CBk w' g T cs := by
  unfold CBk at h ⊢
  rw [hb.block g hg]
  exact h
theorem CBk.call {w w' : World} {g : Nat} {T : TypeId} {cs : Array Value} (h : CBk w g T cs) (hb : Below w.heap.size w w') : CBk w' g T cs := h.below hb h.lt
theorem CBk.alloc {w : World} {g : Nat} {T : TypeId} {cs : Array Value} (h : CBk w g T cs) (o : Obj) : CBk (w.alloc o) g T cs := h.call ((Below.refl _ w).alloc (Nat.le_refl _) o)
theorem CBk.new (w : World) (T : TypeId) (cs : Array Value) : CBk (w.alloc (.cells cs T)) w.heap.size T cs := heap_alloc_new w _
theorem CBk.cell {w : World} {g : Nat} {T : TypeId} {cs : Array Value} (h : CBk w g T cs) (i : Nat) : w.cell? ⟨g, i, none⟩ = cs[i]? := by rw [Lib.cell_of_heap h]
theorem CBk.frozen {w : World} {g : Nat} {T : TypeId} {cs : Array Value} (h : CBk w g T cs) (i : Nat) : w.frozen? ⟨g, i, none⟩ = false := Lib.frozen_of_heap h i
theorem CBk.set {w : World} {g : Nat} {T : TypeId} {cs : Array Value} (h : CBk w g T cs) (i : Nat) (v : Value) : CBk (w.setCell ⟨g, i, none⟩ v) g T (cs.setIfInBounds i v) := by
  unfold CBk at h ⊢
  simp only [World.setCell, Array.getElem?_modify, h]
  simp
theorem CBk.other {w : World} {g g' j : Nat} {T : TypeId} {cs : Array Value} (h : CBk w g T cs) (hg : g' ≠ g) (v : Value) : CBk (w.setCell ⟨g', j, none⟩ v) g T cs := by
  unfold CBk at h ⊢; simp [World.setCell, Array.getElem?_modify, h, hg]
theorem CBk.six {w : World} {g : Nat} {T : TypeId} {a b c d e f : Value} (h : CBk w g T #[a, b, c, d, e, f]) : w.cell? ⟨g, 0, none⟩ = some a ∧ w.cell? ⟨g, 1, none⟩ = some b ∧ w.cell? ⟨g, 2, none⟩ = some c ∧ w.cell? ⟨g, 3, none⟩ = some d ∧ w.cell? ⟨g, 4, none⟩ = some e ∧ w.cell? ⟨g, 5, none⟩ = some f ∧ w.frozen? ⟨g, 0, none⟩ = false ∧ w.frozen? ⟨g, 1, none⟩ = false ∧ w.frozen? ⟨g, 2, none⟩ = false ∧ w.frozen? ⟨g, 3, none⟩ = false ∧ w.frozen? ⟨g, 4, none⟩ = false ∧ w.frozen? ⟨g, 5, none⟩ = false :=
  ⟨h.cell 0, h.cell 1, h.cell 2, h.cell 3, h.cell 4, h.cell 5, h.frozen 0, h.frozen 1, h.frozen 2, h.frozen 3, h.frozen 4, h.frozen 5⟩

theorem rowS_other {w : World} {g g' : Nat} {l : List ByteArray} (h : RowS w g l) (hg : g' ≠ g) (j : Nat) (v : Value) : RowS (w.setCell ⟨g', j, none⟩ v) g l := by
  unfold RowS at h ⊢; simp [World.setCell, Array.getElem?_modify, h, hg]
/-- What a copy of a block leaves. -/
def BackB (h : HeadV) (len : Nat) (zs : List ByteArray) (w : World) (e : Ending) (w' : World) : Prop := ∃ g, e = .returned (blockVal h (.slice (some ⟨g, 0, none⟩) len len)) ∧ RowS w' g (zs.take len) ∧ w.heap.size ≤ g ∧ Below w.heap.size w w'

end Go.Proofs.Ytjeldedjhlicmab
