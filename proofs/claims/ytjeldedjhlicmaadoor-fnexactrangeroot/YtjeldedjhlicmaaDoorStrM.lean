/-
  Lists of texts in memory.
-/
import Derived.Test.YtjeldedjhlicmaaDoorShaM
import Derived.Test.YtjeldedjhlicmaaDoorRows1
import Derived.WalkKit
import Derived.Below
import Derived.Deep.OwnRows
import Derived.Lib.Builder
import Derived.Test.YtjeldedjhlicmaaDoorProg
set_option linter.unusedVariables false
namespace Go.Proofs.YtjeldedjhlicmaaDoor
open Go.RowKit

/-- A slice of texts that came in. -/
def IsTexts (w : World) (a : Option Addr) (len cap : Nat) (ss : List ByteArray) : Prop :=
  (a = none ∧ len = 0 ∧ cap = 0 ∧ ss = []) ∨
  ∃ x, a = some x ∧ len ≤ cap ∧ cap ≤ maxLen ∧ ss.length = cap ∧ (∀ i, i < ss.length → w.cell? (x.add i) = some (.string (ss.getD i ByteArray.empty))) ∧ ∀ s ∈ ss, s.size ≤ maxLen
theorem IsTexts.len {w : World} {a : Option Addr} {len cap : Nat} {ss : List ByteArray} (h : IsTexts w a len cap ss) : len = (ss.take len).length := by
  rcases h with ⟨_, hl, _, hz⟩ | ⟨x, hx, hlc, _, hzl, _⟩
  · rw [hl, hz]; rfl
  · simp; omega
/-- The texts lie there. -/
def AtS (w : World) (g : Nat) (ss : List ByteArray) : Prop := g < w.heap.size ∧ ∀ i, i < ss.length → w.cell? ⟨g, i, none⟩ = some (.string (ss.getD i ByteArray.empty))
theorem AtS.below {w w' : World} {g B : Nat} {ss : List ByteArray} (h : AtS w g ss) (hb : Below B w w') (hg : g < B) : AtS w' g ss :=
  ⟨Nat.lt_of_lt_of_le h.1 hb.size, fun i hi => by rw [hb.cell (p := ⟨g, i, none⟩) hg]; exact h.2 i hi⟩
theorem AtS.drew {w : World} {g : Nat} {ss : List ByteArray} (h : AtS w g ss) : AtS w.drew g ss := h
def sCells (l : List ByteArray) : Array Value := (l.map Value.string).toArray
def RowS (w : World) (g : Nat) (l : List ByteArray) : Prop := w.heap[g]? = some (.cells (sCells l) 9 (0, 0))
theorem infoStr : (Tryd.prog.info? 9).map (fun i => (i.zero, i.size, i.bytes)) = some (some (.string ⟨#[]⟩), 1, 16) := by kernel_rfl
theorem madeCells_S (n : Nat) : madeCells #[.string ⟨#[]⟩] n = sCells (List.replicate n ⟨#[]⟩) := by
  unfold madeCells sCells
  apply Array.ext
  · simp
  · intro i h1 h2
    simp [Nat.mod_one]
theorem makeS (n : Nat) (hn : n ≤ 1099511627776) (w : World) : (Instr.makeSlice 123 (.int .i64 (n : Int)) (.int .i64 (n : Int))).run Tryd.prog w = .ok (.slice (some ⟨w.heap.size, 0, none⟩) n n) (w.alloc (.cells (sCells (List.replicate n ⟨#[]⟩)) 9)) := by
  rw [← madeCells_S]
  exact run_make_row' 123 9 (.string ⟨#[]⟩) 16 Tryd.underlying123 infoStr rfl .i64 .i64 n (by omega) (by omega) w
theorem makeCapS (n : Nat) (hn : n ≤ 1099511627776) (w : World) : (Instr.makeSlice 123 (.int .i64 0) (.int .i64 (n : Int))).run Tryd.prog w = .ok (.slice (some ⟨w.heap.size, 0, none⟩) 0 n) (w.alloc (.cells (sCells (List.replicate n ⟨#[]⟩)) 9)) := by
  obtain ⟨i, hi, hz, hs, hb⟩ := info_parts infoStr
  have hb' : (i.bytes : Int) * (n : Int) ≤ 281474976710656 := by rw [hb]; omega
  have hr := run_make (P := Tryd.prog) w 123 9 i (.string ⟨#[]⟩) Tryd.underlying123 hi hz .i64 .i64 0 (n : Int) (by omega) (by omega) hb' (by omega)
  simp only [Int.toNat_natCast, hs, Nat.mul_one, Value.cells, Int.toNat_zero] at hr
  rw [← madeCells_S]
  exact hr
theorem RowS.lt {w : World} {g : Nat} {l : List ByteArray} (h : RowS w g l) : g < w.heap.size := by
  rcases Nat.lt_or_ge g w.heap.size with h' | h'
  · exact h'
  · simp [RowS, Array.getElem?_eq_none h'] at h
theorem RowS.cell {w : World} {g : Nat} {l : List ByteArray} (h : RowS w g l) (i : Nat) (hi : i < l.length) : w.cell? ⟨g, i, none⟩ = some (.string (l.getD i ByteArray.empty)) := by
  rw [Lib.cell_of_heap h]
  simp [sCells, List.getElem?_eq_getElem hi]
theorem RowS.at {w : World} {g : Nat} {l : List ByteArray} (h : RowS w g l) : AtS w g l := ⟨h.lt, h.cell⟩
theorem RowS.frozen {w : World} {g : Nat} {l : List ByteArray} (h : RowS w g l) (i : Nat) : w.frozen? ⟨g, i, none⟩ = false := Lib.frozen_of_heap h i
theorem RowS.set {w : World} {g : Nat} {l : List ByteArray} (h : RowS w g l) (i : Nat) (v : ByteArray) : RowS (w.setCell ⟨g, i, none⟩ (.string v)) g (l.set i v) := by
  unfold RowS at h ⊢
  simp only [World.setCell, Array.getElem?_modify, h]
  simp [sCells, List.map_set]
theorem RowS.below {w w' : World} {g B : Nat} {l : List ByteArray} (h : RowS w g l) (hb : Below B w w') (hg : g < B) : RowS w' g l := by
  unfold RowS at h ⊢; rw [hb.block g hg]; exact h
theorem set_nextS (f : List ByteArray) (n k : Nat) (hk : k < f.length) (hn : k < n) : (f.take k ++ List.replicate (n - k) (⟨#[]⟩ : ByteArray)).set k (f.getD k ByteArray.empty) = f.take (k + 1) ++ List.replicate (n - (k + 1)) (⟨#[]⟩ : ByteArray) := by
  have hl : (f.take k).length = k := by simp; omega
  rw [List.set_append_right _ _ (by omega), hl, Nat.sub_self, show n - k = (n - (k + 1)) + 1 from by omega, List.replicate_succ, List.set_cons_zero]
  have e1 : f.take (k + 1) = f.take k ++ [f[k]] := by rw [List.take_add_one, List.getElem?_eq_getElem hk]; rfl
  have e2 : f.getD k ByteArray.empty = f[k] := by rw [List.getD_eq_getElem?_getD, List.getElem?_eq_getElem hk]; rfl
  rw [e1, e2, List.append_assoc]
  rfl

/-- A row of texts of the call's own. -/
def SRow (B : Nat) (v : Value) (ss : List ByteArray) (w : World) : Prop := (∃ g cap, v = .slice (some ⟨g, 0, none⟩) ss.length cap) ∧ w.ownsRow B 9 1 v ss.length (ss.map Value.string)
theorem srow_new (w : World) : SRow w.heap.size (.slice (some ⟨w.heap.size, 0, none⟩) 0 0) [] (w.alloc (.cells #[] 9)) :=
  ⟨⟨_, _, rfl⟩, rfl, .inr ⟨_, _, #[], rfl, Nat.le_refl _, heap_alloc_new w _, Nat.le_refl _, by unfold maxLen; omega, rfl, rfl⟩⟩
theorem srow_cap (w : World) (n : Nat) (hn : n ≤ 1000000000) : SRow w.heap.size (.slice (some ⟨w.heap.size, 0, none⟩) 0 n) [] (w.alloc (.cells (sCells (List.replicate n ⟨#[]⟩)) 9)) :=
  ⟨⟨_, _, rfl⟩, rfl, .inr ⟨_, _, _, rfl, Nat.le_refl _, heap_alloc_new w _, Nat.zero_le _, by unfold maxLen; omega, by simp [sCells], rfl⟩⟩
theorem SRow.block {B : Nat} {v : Value} {ss : List ByteArray} {w : World} (h : SRow B v ss w) : ∃ g cap cur, v = .slice (some ⟨g, 0, none⟩) ss.length cap ∧ B ≤ g ∧ g < w.heap.size ∧ w.heap[g]? = some (.cells cur 9 (0, 0)) ∧ cur.toList.take ss.length = ss.map Value.string := by
  obtain ⟨⟨g, cap, rfl⟩, hl, h2⟩ := h
  rcases h2 with ⟨h2, _⟩ | ⟨g', cap', cur, hv, h3, h4, h5, h6, h7, h8⟩
  · cases h2
  · simp only [Value.slice.injEq, Option.some.injEq, Addr.mk.injEq, and_true] at hv
    obtain ⟨rfl, _, rfl⟩ := hv
    exact ⟨g, cap, cur, rfl, h3, (Array.getElem?_eq_some_iff.1 h4).1, h4, by simpa using h8⟩
theorem SRow.at {B g n cap : Nat} {ss : List ByteArray} {w : World} (h : SRow B (.slice (some ⟨g, 0, none⟩) n cap) ss w) : AtS w g ss ∧ n = ss.length ∧ B ≤ g := by
  obtain ⟨g', cap', cur, hv, h1, h2, h3, h4⟩ := h.block
  simp only [Value.slice.injEq, Option.some.injEq, Addr.mk.injEq, and_true] at hv
  obtain ⟨rfl, rfl, rfl⟩ := hv
  refine ⟨⟨h2, fun i hi => ?_⟩, rfl, h1⟩
  rw [Lib.cell_of_heap h3]
  have : cur.toList[i]? = (ss.map Value.string)[i]? := by rw [← h4, List.getElem?_take]; simp [hi]
  rw [← Array.getElem?_toList, this]
  simp [List.getElem?_eq_getElem hi]
theorem SRow.keep {B : Nat} {v : Value} {ss : List ByteArray} {w w' : World} (h : SRow B v ss w) (hk : ∀ g, B ≤ g → g < w.heap.size → w'.heap[g]? = w.heap[g]?) : SRow B v ss w' := by
  obtain ⟨g, cap, cur, rfl, h1, h2, h3, h4⟩ := h.block
  refine ⟨⟨g, cap, rfl⟩, h.2.1, ?_⟩
  rcases h.2.2 with h5 | ⟨g', cap', cur', hv, h6, h7, h8⟩
  · exact .inl h5
  · refine .inr ⟨g', cap', cur', hv, h6, ?_, h8⟩
    rw [hk g' h6 (Array.getElem?_eq_some_iff.1 h7).1]
    exact h7
theorem SRow.below {B C : Nat} {v : Value} {ss : List ByteArray} {w w' : World} (h : SRow B v ss w) (hb : Below w.heap.size w w') : SRow B v ss w' := h.keep (fun g _ hg => hb.block g hg)
theorem SRow.mono {B C : Nat} {v : Value} {ss : List ByteArray} {w : World} (h : SRow B v ss w) (hC : C ≤ B) : SRow C v ss w := by
  refine ⟨h.1, h.2.1, ?_⟩
  rcases h.2.2 with h5 | ⟨g', cap', cur', hv, h6, h7⟩
  · exact .inl h5
  · exact .inr ⟨g', cap', cur', hv, by omega, h7⟩

end Go.Proofs.YtjeldedjhlicmaaDoor
