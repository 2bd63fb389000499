/-
  Rows of words in memory, and how the program fills them.
-/
import Derived.Test.YtjeldedjhlicmaaDoorShaM
import Derived.Deep.MidRow
import Derived.Tactics
namespace Go.Proofs.YtjeldedjhlicmaaDoor
open Go.RowKit

def uCells (l : List Nat) : Array Value := (l.map fun n : Nat => Value.int .u32 (n : Int)).toArray
def RowU (T : TypeId) (w : World) (g : Nat) (l : List Nat) : Prop := w.heap[g]? = some (.cells (uCells l) T (0, 0))
theorem uCells_size (l : List Nat) : (uCells l).size = l.length := by simp [uCells]
theorem uCells_at (l : List Nat) (i : Nat) (hi : i < l.length) : (uCells l)[i]? = some (.int .u32 ((l.getD i 0 : Nat) : Int)) := by
  simp [uCells, List.getElem?_eq_getElem hi]
theorem RowU.lt {T : TypeId} {w : World} {g : Nat} {l : List Nat} (h : RowU T w g l) : g < w.heap.size := by
  rcases Nat.lt_or_ge g w.heap.size with h' | h'
  · exact h'
  · simp [RowU, Array.getElem?_eq_none h'] at h
theorem RowU.cell {T : TypeId} {w : World} {g : Nat} {l : List Nat} (h : RowU T w g l) (i : Nat) (hi : i < l.length) : w.cell? ⟨g, i, none⟩ = some (.int .u32 ((l.getD i 0 : Nat) : Int)) := by
  rw [Lib.cell_of_heap h]
  exact uCells_at l i hi
theorem RowU.frozen {T : TypeId} {w : World} {g : Nat} {l : List Nat} (h : RowU T w g l) (i : Nat) : w.frozen? ⟨g, i, none⟩ = false := Lib.frozen_of_heap h i
theorem RowU.set {T : TypeId} {w : World} {g : Nat} {l : List Nat} (h : RowU T w g l) (i v : Nat) : RowU T (w.setCell ⟨g, i, none⟩ (.int .u32 (v : Int))) g (l.set i v) := by
  unfold RowU at h ⊢
  simp only [World.setCell, Array.getElem?_modify, h]
  simp [uCells, List.map_set]
theorem RowU.keep {T : TypeId} {w w' : World} {g : Nat} {l : List Nat} (h : RowU T w g l) (hk : w'.heap[g]? = w.heap[g]?) : RowU T w' g l := by
  unfold RowU at h ⊢; rw [hk]; exact h
theorem RowU.below {T : TypeId} {w w' : World} {g B : Nat} {l : List Nat} (h : RowU T w g l) (hb : Below B w w') (hg : g < B) : RowU T w' g l := h.keep (hb.block g hg)
theorem RowU.drew {T : TypeId} {w : World} {g : Nat} {l : List Nat} (h : RowU T w g l) : RowU T w.drew g l := h

def fillTo (bs : List Nat) : Nat → List Nat
  | 0 => List.replicate 64 0
  | k + 1 => (fillTo bs k).set (k / 4) ((fillTo bs k).getD (k / 4) 0 * 256 % 4294967296 ||| bs.getD k 0)
theorem fillTo_length (bs : List Nat) (k : Nat) : (fillTo bs k).length = 64 := by
  induction k with
  | zero => simp [fillTo]
  | succ k ih => simp [fillTo, ih]
theorem or_byte (x b : Nat) (hb : b < 256) (hx : x < 16777216) : x * 256 % 4294967296 ||| b = x * 256 + b := by
  rw [Nat.mod_eq_of_lt (by omega)]
  have := (Nat.two_pow_add_eq_or_of_lt (i := 8) (by omega : b < 2 ^ 8) x).symm
  rw [show (2 : Nat) ^ 8 * x = x * 256 from by omega] at this
  exact this
theorem set_getD (l : List Nat) (j v : Nat) (hj : j < l.length) : (l.set j v).getD j 0 = v := by
  simp [hj]
theorem fill_word (bs : List Nat) (hb : ∀ x ∈ bs, x < 256) (j : Nat) (hj : j < 16) (h0 : (fillTo bs (4 * j)).getD j 0 = 0) :
    fillTo bs (4 * j + 4) = (fillTo bs (4 * j)).set j ((first16 bs).getD j 0) := by
  have hl := fillTo_length bs (4 * j)
  have b0 := byte_getD hb (4 * j)
  have b1 := byte_getD hb (4 * j + 1)
  have b2 := byte_getD hb (4 * j + 2)
  have b3 := byte_getD hb (4 * j + 3)
  have e0 : fillTo bs (4 * j + 1) = (fillTo bs (4 * j)).set j (bs.getD (4 * j) 0) := by
    rw [fillTo, show 4 * j / 4 = j from by omega, h0, or_byte 0 _ b0 (by decide)]
    simp
  have e1 : fillTo bs (4 * j + 2) = (fillTo bs (4 * j)).set j (bs.getD (4 * j) 0 * 256 + bs.getD (4 * j + 1) 0) := by
    rw [fillTo, show (4 * j + 1) / 4 = j from by omega, e0, set_getD _ _ _ (by omega), or_byte _ _ b1 (by omega), List.set_set]
  have e2 : fillTo bs (4 * j + 3) = (fillTo bs (4 * j)).set j ((bs.getD (4 * j) 0 * 256 + bs.getD (4 * j + 1) 0) * 256 + bs.getD (4 * j + 2) 0) := by
    rw [fillTo, show (4 * j + 2) / 4 = j from by omega, e1, set_getD _ _ _ (by omega), or_byte _ _ b2 (by omega), List.set_set]
  rw [fillTo, show (4 * j + 3) / 4 = j from by omega, e2, set_getD _ _ _ (by omega), or_byte _ _ b3 (by omega), List.set_set, first16_at bs j hj]
  rw [show ((bs.getD (4 * j) 0 * 256 + bs.getD (4 * j + 1) 0) * 256 + bs.getD (4 * j + 2) 0) * 256 + bs.getD (4 * j + 3) 0 = bs.getD (4 * j) 0 * 16777216 + bs.getD (4 * j + 1) 0 * 65536 + bs.getD (4 * j + 2) 0 * 256 + bs.getD (4 * j + 3) 0 from by omega]
theorem fill_full (bs : List Nat) (hb : ∀ x ∈ bs, x < 256) (j : Nat) (hj : j ≤ 16) : fillTo bs (4 * j) = (first16 bs).take j ++ List.replicate (64 - j) 0 := by
  induction j with
  | zero => simp [fillTo]
  | succ j ih =>
    have ih' := ih (by omega)
    have hlf : (first16 bs).length = 16 := by simp [first16]
    have h0 : (fillTo bs (4 * j)).getD j 0 = 0 := by
      have ht : ((first16 bs).take j).length = j := by simp [hlf]; omega
      rw [ih', List.getD_eq_getElem?_getD, List.getElem?_append_right (by omega), ht, Nat.sub_self]
      have : 0 < 64 - j := by omega
      simp [this]
    rw [show 4 * (j + 1) = 4 * j + 4 from by omega, fill_word bs hb j (by omega) h0, ih', set_next _ 64 j (by omega) (by omega)]
theorem fill_sched (bs : List Nat) (hb : ∀ x ∈ bs, x < 256) : fillTo bs 64 = schedTo bs 0 ++ List.replicate 48 0 := by
  have := fill_full bs hb 16 (by omega)
  rw [show 4 * 16 = 64 from rfl] at this
  rw [this, List.take_of_length_le (by simp [first16])]
  rfl

/-! ### Whole rows: read, and written over -/
theorem RowU.range {T : TypeId} {w : World} {g : Nat} {l : List Nat} (h : RowU T w g l) : w.rangeAt g 0 (uCells l).toList := by
  intro j v hv
  rw [Nat.zero_add, Lib.cell_of_heap h]
  simpa using hv
theorem RowU.there {T : TypeId} {w : World} {g : Nat} {l : List Nat} (h : RowU T w g l) (n : Nat) (hn : n = l.length) : w.there g 0 n := by
  intro j hj
  rw [Nat.zero_add]
  refine ⟨?_, h.frozen j⟩
  rw [h.cell j (by omega)]
  rfl
theorem heap_setCells {g : Nat} {T : TypeId} {fr : Nat × Nat} (vs : List Value) : ∀ (w : World) (pre olds post : List Value), w.heap[g]? = some (.cells (pre ++ olds ++ post).toArray T fr) → olds.length = vs.length →
    (w.setCells g pre.length vs).heap[g]? = some (.cells (pre ++ vs ++ post).toArray T fr) := by
  induction vs with
  | nil =>
    intro w pre olds post h hl
    have : olds = [] := List.length_eq_zero_iff.1 hl
    subst this
    exact h
  | cons v r ih =>
    intro w pre olds post h hl
    cases olds with
    | nil => simp at hl
    | cons o os =>
      have h1 : (w.setCell ⟨g, pre.length, none⟩ v).heap[g]? = some (.cells ((pre ++ [v]) ++ os ++ post).toArray T fr) := by
        simp only [World.setCell, Array.getElem?_modify, h]
        simp [List.set_append_right]
      have := ih (w.setCell ⟨g, pre.length, none⟩ v) (pre ++ [v]) os post h1 (by simpa using hl)
      simp only [List.length_append, List.length_cons, List.length_nil, Nat.zero_add, List.append_assoc, List.cons_append, List.nil_append] at this
      simp only [World.setCells, List.append_assoc, List.cons_append]
      exact this
theorem RowU.over {T : TypeId} {w : World} {g : Nat} {l m : List Nat} (h : RowU T w g l) (hl : l.length = m.length) : RowU T (w.setCells g 0 (uCells m).toList) g m := by
  have := heap_setCells (g := g) (T := T) (fr := (0, 0)) (uCells m).toList w [] (uCells l).toList [] (by simpa [RowU] using h) (by simp [uCells, hl])
  simpa [RowU] using this
theorem Below.setCells {B : Nat} {a w : World} (h : Below B a w) {g : Nat} (hg : B ≤ g) (vs : List Value) : ∀ o, Below B a (w.setCells g o vs) := by
  induction vs generalizing w with
  | nil => intro o; exact h
  | cons v r ih =>
    intro o
    exact ih (h.setCell (p := ⟨g, o, none⟩) hg v) (o + 1)
theorem heap_setCells_other (vs : List Value) : ∀ (w : World) (g o k : Nat), k ≠ g → (w.setCells g o vs).heap[k]? = w.heap[k]? := by
  induction vs with
  | nil => intro w g o k _; rfl
  | cons v r ih =>
    intro w g o k hk
    rw [World.setCells, ih _ _ _ _ hk]
    exact Below.heap_setCell w ⟨g, o, none⟩ v k hk
theorem uCells_one (l : List Nat) : (uCells l).all (·.oneCell') = true := by
  rw [Array.all_eq_true_iff_forall_mem]
  intro v hv
  simp only [uCells, List.mem_toArray, List.mem_map] at hv
  obtain ⟨n, _, rfl⟩ := hv
  rfl
/-- The first package variable's row, whatever its type's number. -/
def RowG (w : World) (l : List Nat) : Prop := ∃ T fr, w.heap[0]? = some (.cells (uCells l) T fr)
theorem RowG.lt {w : World} {l : List Nat} (h : RowG w l) : 0 < w.heap.size := by
  obtain ⟨T, fr, h⟩ := h
  rcases Nat.lt_or_ge 0 w.heap.size with h' | h'
  · exact h'
  · simp [Array.getElem?_eq_none h'] at h
theorem RowG.cell {w : World} {l : List Nat} (h : RowG w l) (i : Nat) (hi : i < l.length) : w.cell? ⟨0, i, none⟩ = some (.int .u32 ((l.getD i 0 : Nat) : Int)) := by
  obtain ⟨T, fr, h⟩ := h
  rw [Lib.cell_of_heap h]
  exact uCells_at l i hi
theorem RowG.keep {w w' : World} {l : List Nat} (h : RowG w l) (hk : w'.heap[0]? = w.heap[0]?) : RowG w' l := by
  obtain ⟨T, fr, h⟩ := h; exact ⟨T, fr, by rw [hk]; exact h⟩
theorem RowG.below {w w' : World} {B : Nat} {l : List Nat} (h : RowG w l) (hb : Below B w w') (hg : 0 < B) : RowG w' l := h.keep (hb.block 0 hg)
theorem RowG.drew {w : World} {l : List Nat} (h : RowG w l) : RowG w.drew l := h
theorem results_cell1 {fn : Func} {p : Tmp} {ty : TypeId} {b : Nat} {v : Value} (h : fn.results = #[.cell p ty]) (tmps : Array Value) (P : Program) (w : World) (hp : tmps.getD p undef = .pointer (some ⟨b, 0, none⟩)) (hv : (loadVar ty ⟨b, 0, none⟩).run P w = .ok v w) :
    (results fn tmps).run P w = .ok v w := by
  have hp' : tmps[p]?.getD undef = .pointer (some ⟨b, 0, none⟩) := by simpa using hp
  simp only [results, h]
  simp [hp', asAddr, hv]

end Go.Proofs.YtjeldedjhlicmaaDoor
