/-
  Texts that the last part needs, joined.
-/
import Derived.Test.YtialhnocknogpaaGreatDoorPart1
import Derived.Test.YtialhnocknogpaaGreatDoorPart2
import Derived.Test.YtialhnocknogpaaGreatDoorPart3
import Derived.Test.YtialhnocknogpaaGreatDoorPart4
import Derived.Test.YtialhnocknogpaaGreatDoorPart5
import Derived.Test.YtialhnocknogpaaGreatDoorPart6
import Derived.Test.YtialhnocknogpaaGreatDoorPart7
import Derived.Test.YtialhnocknogpaaGreatDoorPart8
import Derived.Laws.ResultCell
import Derived.Deep.Cut
import Derived.Deep.RegionHeld3
import Derived.OwnWalk
set_option linter.unusedVariables false
namespace Go.Proofs.YtialhnocknogpaaGreatDoor
open Go.RowKit

theorem find_first {p : Nat → Bool} : ∀ (n k : Nat), k < n → p k = true → (∀ j, j < k → p j = false) → (List.range n).find? p = some k
  | 0, k, hk, _, _ => by omega
  | n + 1, k, hk, hp, hj => by
    rw [List.range_succ, List.find?_append]
    by_cases h : k < n
    · rw [find_first n k h hp hj]
      rfl
    · obtain rfl : k = n := by omega
      have : (List.range k).find? p = none := List.find?_eq_none.2 fun j hj' => by rw [hj j (List.mem_range.1 hj')]; decide
      rw [this]
      simp [hp]
theorem find_none {p : Nat → Bool} {n : Nat} (h : ∀ j, j < n → p j = false) : (List.range n).find? p = none := List.find?_eq_none.2 fun j hj' => by rw [h j (List.mem_range.1 hj')]; decide
/-- A head with another number. -/
def headNo (h : HeadV) (k : Nat) : HeadV := { h with nonce := (k : Int) }
def zeroH : HeadV := ⟨⟨#[]⟩, ⟨#[]⟩, 0, 0, 0⟩
def headMine (h : HeadV) : HeadV × Bool := match (List.range 401).find? fun k => headMeets (headNo h k) with
  | some k => (headNo h k, true)
  | none => (zeroH, false)
theorem headMine_yes {h : HeadV} {k : Nat} (hk : k ≤ 400) (hm : headMeets (headNo h k) = true) (hj : ∀ j, j < k → headMeets (headNo h j) = false) : headMine h = (headNo h k, true) := by
  unfold headMine
  rw [find_first 401 k (by omega) hm hj]
theorem headMine_no {h : HeadV} (hj : ∀ j, j < 401 → headMeets (headNo h j) = false) : headMine h = (zeroH, false) := by
  unfold headMine
  rw [find_none hj]

set_option maxHeartbeats 1000000 in
set_option maxRecDepth 100000 in
theorem implClone (s : ByteArray) (w : World) (hs : s.size ≤ 281474976710656) :
    Calls Tryz.prog 32 #[.string s] w fun e w' => e = .returned (.string s) ∧ Below w.heap.size w w' := by
  go_enter Tryz.func32, Tryz.ntmps32
  go_wp2_with fail
  refine (Tryz.stringslite_Clone s w hs).mono ?_
  rintro e w1 ⟨rfl, b1⟩
  go_wp2_with fail
  go_ret
  exact ⟨rfl, b1⟩

theorem results_row_tmp {P : Program} {fn : Func} {p u : Tmp} {ty : TypeId} (h : fn.results = #[.cell p ty, .tmp u]) (tmps : Array Value) (w : World) (g : Nat) (t : TypeId) (cs : Array Value) (fr : Nat × Nat) (d : TypeDesc)
    (hp : tmps.getD p undef = .pointer (some ⟨g, 0, none⟩)) (hg : w.heap[g]? = some (.cells cs t fr))
    (hu : P.underlying ty = some d) (hd : (match d with | .struct _ | .array _ _ => true | _ => false) = true) (hi : (P.info? ty).map (·.size) = some cs.size) :
    (results fn tmps).run P w = .ok (.tuple #[.agg cs, tmps.getD u undef]) w := by
  rw [results_cell_tmp h, hp]
  simp [asAddr, run_loadVar_row w g t ty cs fr d hg hu hd hi, Result.andThen]
/-- A head's block. -/
def HBk (w : World) (g : Nat) (p r : ByteArray) (t d n : Int) : Prop := w.heap[g]? = some (.cells #[.string p, .string r, .int .i64 t, .int .i64 d, .int .i64 n] 24 (0, 0))
theorem HBk.lt {w : World} {g : Nat} {p r : ByteArray} {t d n : Int} (h : HBk w g p r t d n) : g < w.heap.size := by
  rcases Nat.lt_or_ge g w.heap.size with h' | h'
  · exact h'
  · simp [HBk, Array.getElem?_eq_none h'] at h
theorem HBk.below {w w' : World} {g B : Nat} {p r : ByteArray} {t d n : Int} (h : HBk w g p r t d n) (hb : Below B w w') (hg : g < B) : HBk w' g p r t d n := by
  unfold HBk at h ⊢
  rw [hb.block g hg]
  exact h
theorem HBk.facts {w : World} {g : Nat} {p r : ByteArray} {t d n : Int} (h : HBk w g p r t d n) : w.cell? ⟨g, 0, none⟩ = some (.string p) ∧ w.cell? ⟨g, 1, none⟩ = some (.string r) ∧ w.cell? ⟨g, 2, none⟩ = some (.int .i64 t) ∧ w.cell? ⟨g, 3, none⟩ = some (.int .i64 d) ∧ w.cell? ⟨g, 4, none⟩ = some (.int .i64 n) ∧ w.frozen? ⟨g, 0, none⟩ = false ∧ w.frozen? ⟨g, 1, none⟩ = false ∧ w.frozen? ⟨g, 2, none⟩ = false ∧ w.frozen? ⟨g, 3, none⟩ = false ∧ w.frozen? ⟨g, 4, none⟩ = false := by
  refine ⟨?_, ?_, ?_, ?_, ?_, Lib.frozen_of_heap h 0, Lib.frozen_of_heap h 1, Lib.frozen_of_heap h 2, Lib.frozen_of_heap h 3, Lib.frozen_of_heap h 4⟩ <;> (rw [Lib.cell_of_heap h]; rfl)
theorem HBk.set0 {w : World} {g : Nat} {p r : ByteArray} {t d n : Int} (h : HBk w g p r t d n) (q : ByteArray) : HBk (w.setCell ⟨g, 0, none⟩ (.string q)) g q r t d n := by
  unfold HBk at h ⊢; simp [World.setCell, Array.getElem?_modify, h]
theorem HBk.set1 {w : World} {g : Nat} {p r : ByteArray} {t d n : Int} (h : HBk w g p r t d n) (q : ByteArray) : HBk (w.setCell ⟨g, 1, none⟩ (.string q)) g p q t d n := by
  unfold HBk at h ⊢; simp [World.setCell, Array.getElem?_modify, h]
theorem HBk.set2 {w : World} {g : Nat} {p r : ByteArray} {t d n : Int} (h : HBk w g p r t d n) (q : Int) : HBk (w.setCell ⟨g, 2, none⟩ (.int .i64 q)) g p r q d n := by
  unfold HBk at h ⊢; simp [World.setCell, Array.getElem?_modify, h]
theorem HBk.set3 {w : World} {g : Nat} {p r : ByteArray} {t d n : Int} (h : HBk w g p r t d n) (q : Int) : HBk (w.setCell ⟨g, 3, none⟩ (.int .i64 q)) g p r t q n := by
  unfold HBk at h ⊢; simp [World.setCell, Array.getElem?_modify, h]
theorem HBk.set4 {w : World} {g : Nat} {p r : ByteArray} {t d n : Int} (h : HBk w g p r t d n) (q : Int) : HBk (w.setCell ⟨g, 4, none⟩ (.int .i64 q)) g p r t d q := by
  unfold HBk at h ⊢; simp [World.setCell, Array.getElem?_modify, h]
theorem HBk.other {w : World} {g g' j : Nat} {p r : ByteArray} {t d n : Int} (h : HBk w g p r t d n) (hg : g' ≠ g) (v : Value) : HBk (w.setCell ⟨g', j, none⟩ v) g p r t d n := by
  unfold HBk at h ⊢; simp [World.setCell, Array.getElem?_modify, h, hg]
theorem HBk.new (w : World) (p r : ByteArray) (t d n : Int) : HBk (w.alloc (.cells #[.string p, .string r, .int .i64 t, .int .i64 d, .int .i64 n] 24)) w.heap.size p r t d n := heap_alloc_new w _
/-- A head handed in at block g, the head handed back at block g + 1, g being the first block behind w. -/
def HTwo (w w' : World) (p r : ByteArray) (t d n : Int) (p2 r2 : ByteArray) (t2 d2 n2 : Int) : Prop := HBk w' w.heap.size p r t d n ∧ HBk w' (w.heap.size + 1) p2 r2 t2 d2 n2 ∧ Below w.heap.size w w'
theorem HTwo.new (w : World) (p r : ByteArray) (t d n : Int) (p2 r2 : ByteArray) (t2 d2 n2 : Int) : HTwo w ((w.alloc (.cells #[.string p, .string r, .int .i64 t, .int .i64 d, .int .i64 n] 24)).alloc (.cells #[.string p2, .string r2, .int .i64 t2, .int .i64 d2, .int .i64 n2] 24)) p r t d n p2 r2 t2 d2 n2 := by
  refine ⟨?_, ?_, ((Below.refl _ w).alloc (Nat.le_refl _) _).alloc (by simp) _⟩
  · exact (HBk.new w p r t d n).below ((Below.refl _ _).alloc (Nat.le_refl _) _) (by simp)
  · have := HBk.new (w.alloc (.cells #[.string p, .string r, .int .i64 t, .int .i64 d, .int .i64 n] 24)) p2 r2 t2 d2 n2
    rwa [show (w.alloc (.cells #[.string p, .string r, .int .i64 t, .int .i64 d, .int .i64 n] 24)).heap.size = w.heap.size + 1 from by simp] at this
theorem HTwo.call {w w' w'' : World} {p r : ByteArray} {t d n : Int} {p2 r2 : ByteArray} {t2 d2 n2 : Int} (h : HTwo w w' p r t d n p2 r2 t2 d2 n2) (hb : Below w'.heap.size w' w'') : HTwo w w'' p r t d n p2 r2 t2 d2 n2 :=
  ⟨h.1.below hb h.1.lt, h.2.1.below hb h.2.1.lt, h.2.2.trans (hb.mono h.2.2.size)⟩
theorem HTwo.set0 {w w' : World} {p r : ByteArray} {t d n : Int} {p2 r2 : ByteArray} {t2 d2 n2 : Int} (h : HTwo w w' p r t d n p2 r2 t2 d2 n2) (q : ByteArray) : HTwo w (w'.setCell ⟨w.heap.size, 0, none⟩ (.string q)) q r t d n p2 r2 t2 d2 n2 :=
  ⟨h.1.set0 q, h.2.1.other (by omega) _, h.2.2.setCell (p := ⟨w.heap.size, 0, none⟩) (Nat.le_refl _) _⟩
theorem HTwo.set1 {w w' : World} {p r : ByteArray} {t d n : Int} {p2 r2 : ByteArray} {t2 d2 n2 : Int} (h : HTwo w w' p r t d n p2 r2 t2 d2 n2) (q : ByteArray) : HTwo w (w'.setCell ⟨w.heap.size, 1, none⟩ (.string q)) p q t d n p2 r2 t2 d2 n2 :=
  ⟨h.1.set1 q, h.2.1.other (by omega) _, h.2.2.setCell (p := ⟨w.heap.size, 1, none⟩) (Nat.le_refl _) _⟩
theorem HTwo.set4 {w w' : World} {p r : ByteArray} {t d n : Int} {p2 r2 : ByteArray} {t2 d2 n2 : Int} (h : HTwo w w' p r t d n p2 r2 t2 d2 n2) (q : Int) : HTwo w (w'.setCell ⟨w.heap.size, 4, none⟩ (.int .i64 q)) p r t d q p2 r2 t2 d2 n2 :=
  ⟨h.1.set4 q, h.2.1.other (by omega) _, h.2.2.setCell (p := ⟨w.heap.size, 4, none⟩) (Nat.le_refl _) _⟩
theorem HTwo.back {w w' : World} {p r : ByteArray} {t d n : Int} {p2 r2 : ByteArray} {t2 d2 n2 : Int} (h : HTwo w w' p r t d n p2 r2 t2 d2 n2) (p3 r3 : ByteArray) (t3 d3 n3 : Int) : HTwo w (((((w'.setCell ⟨w.heap.size + 1, 0, none⟩ (.string p3)).setCell ⟨w.heap.size + 1, 1, none⟩ (.string r3)).setCell ⟨w.heap.size + 1, 2, none⟩ (.int .i64 t3)).setCell ⟨w.heap.size + 1, 3, none⟩ (.int .i64 d3)).setCell ⟨w.heap.size + 1, 4, none⟩ (.int .i64 n3)) p r t d n p3 r3 t3 d3 n3 :=
  ⟨((((h.1.other (by omega) _).other (by omega) _).other (by omega) _).other (by omega) _).other (by omega) _, ((((h.2.1.set0 p3).set1 r3).set2 t3).set3 d3).set4 n3,
    ((((h.2.2.setCell (p := ⟨w.heap.size + 1, 0, none⟩) (Nat.le_succ _) _).setCell (p := ⟨w.heap.size + 1, 1, none⟩) (Nat.le_succ _) _).setCell (p := ⟨w.heap.size + 1, 2, none⟩) (Nat.le_succ _) _).setCell (p := ⟨w.heap.size + 1, 3, none⟩) (Nat.le_succ _) _).setCell (p := ⟨w.heap.size + 1, 4, none⟩) (Nat.le_succ _) _⟩

end Go.Proofs.YtialhnocknogpaaGreatDoor

set_option linter.unusedVariables false
namespace Go.Proofs.YtialhnocknogpaaGreatDoor
open Go.RowKit Go.Deep

theorem CBk.nineZ {w : World} {g : Nat} {T : TypeId} {cs : Array Value} (h : CBk w g T cs) : w.frozen? ⟨g, 0, none⟩ = false ∧ w.frozen? ⟨g, 1, none⟩ = false ∧ w.frozen? ⟨g, 2, none⟩ = false ∧ w.frozen? ⟨g, 3, none⟩ = false ∧ w.frozen? ⟨g, 4, none⟩ = false ∧ w.frozen? ⟨g, 5, none⟩ = false ∧ w.frozen? ⟨g, 6, none⟩ = false ∧ w.frozen? ⟨g, 7, none⟩ = false ∧ w.frozen? ⟨g, 8, none⟩ = false :=
  ⟨h.frozen 0, h.frozen 1, h.frozen 2, h.frozen 3, h.frozen 4, h.frozen 5, h.frozen 6, h.frozen 7, h.frozen 8⟩
theorem set9_blk {w : World} {g6 : Nat} {T : TypeId} {y0 y1 y2 y3 y4 y5 y6 y7 y8 : Value} (h : CBk w g6 T #[y0, y1, y2, y3, y4, y5, y6, y7, y8]) (x0 x1 x2 x3 x4 x5 x6 x7 x8 : Value) : CBk (((((((((w.setCell ⟨g6, 0, none⟩ x0).setCell ⟨g6, 1, none⟩ x1).setCell ⟨g6, 2, none⟩ x2).setCell ⟨g6, 3, none⟩ x3).setCell ⟨g6, 4, none⟩ x4).setCell ⟨g6, 5, none⟩ x5).setCell ⟨g6, 6, none⟩ x6).setCell ⟨g6, 7, none⟩ x7).setCell ⟨g6, 8, none⟩ x8) g6 T #[x0, x1, x2, x3, x4, x5, x6, x7, x8] := by
  have h0 : CBk (w.setCell ⟨g6, 0, none⟩ x0) g6 T #[x0, y1, y2, y3, y4, y5, y6, y7, y8] := CBk.set (g := g6) (T := T) (cs := #[y0, y1, y2, y3, y4, y5, y6, y7, y8]) h 0 x0
  have h1 : CBk ((w.setCell ⟨g6, 0, none⟩ x0).setCell ⟨g6, 1, none⟩ x1) g6 T #[x0, x1, y2, y3, y4, y5, y6, y7, y8] := CBk.set (g := g6) (T := T) (cs := #[x0, y1, y2, y3, y4, y5, y6, y7, y8]) h0 1 x1
  have h2 : CBk (((w.setCell ⟨g6, 0, none⟩ x0).setCell ⟨g6, 1, none⟩ x1).setCell ⟨g6, 2, none⟩ x2) g6 T #[x0, x1, x2, y3, y4, y5, y6, y7, y8] := CBk.set (g := g6) (T := T) (cs := #[x0, x1, y2, y3, y4, y5, y6, y7, y8]) h1 2 x2
  have h3 : CBk ((((w.setCell ⟨g6, 0, none⟩ x0).setCell ⟨g6, 1, none⟩ x1).setCell ⟨g6, 2, none⟩ x2).setCell ⟨g6, 3, none⟩ x3) g6 T #[x0, x1, x2, x3, y4, y5, y6, y7, y8] := CBk.set (g := g6) (T := T) (cs := #[x0, x1, x2, y3, y4, y5, y6, y7, y8]) h2 3 x3
  have h4 : CBk (((((w.setCell ⟨g6, 0, none⟩ x0).setCell ⟨g6, 1, none⟩ x1).setCell ⟨g6, 2, none⟩ x2).setCell ⟨g6, 3, none⟩ x3).setCell ⟨g6, 4, none⟩ x4) g6 T #[x0, x1, x2, x3, x4, y5, y6, y7, y8] := CBk.set (g := g6) (T := T) (cs := #[x0, x1, x2, x3, y4, y5, y6, y7, y8]) h3 4 x4
  have h5 : CBk ((((((w.setCell ⟨g6, 0, none⟩ x0).setCell ⟨g6, 1, none⟩ x1).setCell ⟨g6, 2, none⟩ x2).setCell ⟨g6, 3, none⟩ x3).setCell ⟨g6, 4, none⟩ x4).setCell ⟨g6, 5, none⟩ x5) g6 T #[x0, x1, x2, x3, x4, x5, y6, y7, y8] := CBk.set (g := g6) (T := T) (cs := #[x0, x1, x2, x3, x4, y5, y6, y7, y8]) h4 5 x5
  have h6 : CBk (((((((w.setCell ⟨g6, 0, none⟩ x0).setCell ⟨g6, 1, none⟩ x1).setCell ⟨g6, 2, none⟩ x2).setCell ⟨g6, 3, none⟩ x3).setCell ⟨g6, 4, none⟩ x4).setCell ⟨g6, 5, none⟩ x5).setCell ⟨g6, 6, none⟩ x6) g6 T #[x0, x1, x2, x3, x4, x5, x6, y7, y8] := CBk.set (g := g6) (T := T) (cs := #[x0, x1, x2, x3, x4, x5, y6, y7, y8]) h5 6 x6
  have h7 : CBk ((((((((w.setCell ⟨g6, 0, none⟩ x0).setCell ⟨g6, 1, none⟩ x1).setCell ⟨g6, 2, none⟩ x2).setCell ⟨g6, 3, none⟩ x3).setCell ⟨g6, 4, none⟩ x4).setCell ⟨g6, 5, none⟩ x5).setCell ⟨g6, 6, none⟩ x6).setCell ⟨g6, 7, none⟩ x7) g6 T #[x0, x1, x2, x3, x4, x5, x6, x7, y8] := CBk.set (g := g6) (T := T) (cs := #[x0, x1, x2, x3, x4, x5, x6, y7, y8]) h6 7 x7
  have h8 : CBk (((((((((w.setCell ⟨g6, 0, none⟩ x0).setCell ⟨g6, 1, none⟩ x1).setCell ⟨g6, 2, none⟩ x2).setCell ⟨g6, 3, none⟩ x3).setCell ⟨g6, 4, none⟩ x4).setCell ⟨g6, 5, none⟩ x5).setCell ⟨g6, 6, none⟩ x6).setCell ⟨g6, 7, none⟩ x7).setCell ⟨g6, 8, none⟩ x8) g6 T #[x0, x1, x2, x3, x4, x5, x6, x7, x8] := CBk.set (g := g6) (T := T) (cs := #[x0, x1, x2, x3, x4, x5, x6, x7, y8]) h7 8 x8
  exact h8
theorem set9_other {w : World} {g g6 : Nat} (h : g ≠ g6) (x0 x1 x2 x3 x4 x5 x6 x7 x8 : Value) : (((((((((w.setCell ⟨g6, 0, none⟩ x0).setCell ⟨g6, 1, none⟩ x1).setCell ⟨g6, 2, none⟩ x2).setCell ⟨g6, 3, none⟩ x3).setCell ⟨g6, 4, none⟩ x4).setCell ⟨g6, 5, none⟩ x5).setCell ⟨g6, 6, none⟩ x6).setCell ⟨g6, 7, none⟩ x7).setCell ⟨g6, 8, none⟩ x8).heap[g]? = w.heap[g]? := by
  simp [World.setCell, Array.getElem?_modify, Ne.symm h]
theorem set9_size {w : World} {g6 : Nat} (x0 x1 x2 x3 x4 x5 x6 x7 x8 : Value) : w.heap.size = (((((((((w.setCell ⟨g6, 0, none⟩ x0).setCell ⟨g6, 1, none⟩ x1).setCell ⟨g6, 2, none⟩ x2).setCell ⟨g6, 3, none⟩ x3).setCell ⟨g6, 4, none⟩ x4).setCell ⟨g6, 5, none⟩ x5).setCell ⟨g6, 6, none⟩ x6).setCell ⟨g6, 7, none⟩ x7).setCell ⟨g6, 8, none⟩ x8).heap.size := by
  simp [World.setCell]
theorem set9_below {w0 w : World} {g6 : Nat} (hb : Below w0.heap.size w0 w) (hg : w0.heap.size ≤ g6) (x0 x1 x2 x3 x4 x5 x6 x7 x8 : Value) : Below w0.heap.size w0 (((((((((w.setCell ⟨g6, 0, none⟩ x0).setCell ⟨g6, 1, none⟩ x1).setCell ⟨g6, 2, none⟩ x2).setCell ⟨g6, 3, none⟩ x3).setCell ⟨g6, 4, none⟩ x4).setCell ⟨g6, 5, none⟩ x5).setCell ⟨g6, 6, none⟩ x6).setCell ⟨g6, 7, none⟩ x7).setCell ⟨g6, 8, none⟩ x8) :=
  ((((((((hb.setCell (p := ⟨g6, 0, none⟩) hg x0).setCell (p := ⟨g6, 1, none⟩) hg x1).setCell (p := ⟨g6, 2, none⟩) hg x2).setCell (p := ⟨g6, 3, none⟩) hg x3).setCell (p := ⟨g6, 4, none⟩) hg x4).setCell (p := ⟨g6, 5, none⟩) hg x5).setCell (p := ⟨g6, 6, none⟩) hg x6).setCell (p := ⟨g6, 7, none⟩) hg x7).setCell (p := ⟨g6, 8, none⟩) hg x8
/-- What is to be shown of the nine cells of the answer. -/
def Pd9 (w : World) (v : PdV) (dis : Prop) (e : Ending) (w' : World) : Prop := PdPost w.heap.size v w e w' ∧ (dis → Dis3 v e)
theorem pd_zero {w w' : World} {dis : Prop} (hb : Below w.heap.size w w') : Pd9 w zeroPd dis (.returned (.agg #[.int .i64 0, .string ⟨#[]⟩, .string ⟨#[]⟩, .int .i64 0, .int .i64 0, .int .i64 0, .slice none 0 0, .slice none 0 0, .slice none 0 0])) w' := by
  refine ⟨⟨.slice none 0 0, .slice none 0 0, .slice none 0 0, rfl, .inl ⟨rfl, rfl⟩, .inl ⟨rfl, rfl⟩, .inl ⟨rfl, rfl⟩, hb⟩, fun _ vp vs vd b he => ?_⟩
  simp only [pdCells, zeroPd, Ending.returned.injEq, Value.agg.injEq, Array.mk.injEq, List.cons.injEq, and_true, true_and] at he
  obtain ⟨rfl, rfl, rfl⟩ := he
  exact ⟨fun h => absurd h (by simp [blkOf]), fun h => absurd h (by simp [blkOf])⟩
theorem pd_fin {w w5 : World} {g6 : Nat} {v : PdV} {vp vs vd : Value} {dis : Prop} {B : Nat} (hp : Pks B vp v.pk w5) (hs : Pks B vs v.st w5) (hd : Sds B vd v.sd w5) (hB : g6 < B) (hg : w.heap.size ≤ g6) (hb : Below w.heap.size w w5) (hdis : dis → ∀ b, blkOf vp b → ¬ blkOf vs b) (x0 x1 x2 x3 x4 x5 x6 x7 x8 : Value) : Pd9 w v dis (.returned (.agg (pdCells v vp vs vd))) (((((((((w5.setCell ⟨g6, 0, none⟩ x0).setCell ⟨g6, 1, none⟩ x1).setCell ⟨g6, 2, none⟩ x2).setCell ⟨g6, 3, none⟩ x3).setCell ⟨g6, 4, none⟩ x4).setCell ⟨g6, 5, none⟩ x5).setCell ⟨g6, 6, none⟩ x6).setCell ⟨g6, 7, none⟩ x7).setCell ⟨g6, 8, none⟩ x8) := by
  have hk : ∀ b, B ≤ b → (((((((((w5.setCell ⟨g6, 0, none⟩ x0).setCell ⟨g6, 1, none⟩ x1).setCell ⟨g6, 2, none⟩ x2).setCell ⟨g6, 3, none⟩ x3).setCell ⟨g6, 4, none⟩ x4).setCell ⟨g6, 5, none⟩ x5).setCell ⟨g6, 6, none⟩ x6).setCell ⟨g6, 7, none⟩ x7).setCell ⟨g6, 8, none⟩ x8).heap[b]? = w5.heap[b]? := fun b hb => set9_other (by omega) x0 x1 x2 x3 x4 x5 x6 x7 x8
  have hsz : w5.heap.size ≤ (((((((((w5.setCell ⟨g6, 0, none⟩ x0).setCell ⟨g6, 1, none⟩ x1).setCell ⟨g6, 2, none⟩ x2).setCell ⟨g6, 3, none⟩ x3).setCell ⟨g6, 4, none⟩ x4).setCell ⟨g6, 5, none⟩ x5).setCell ⟨g6, 6, none⟩ x6).setCell ⟨g6, 7, none⟩ x7).setCell ⟨g6, 8, none⟩ x8).heap.size := Nat.le_of_eq (set9_size x0 x1 x2 x3 x4 x5 x6 x7 x8)
  have hp' := (hp.keep hsz (fun b hb => hk b (hp.blk hb).2)).mono (C := w.heap.size) (by omega)
  have hs' := (hs.keep hsz (fun b hb => hk b (hs.blk hb).2)).mono (C := w.heap.size) (by omega)
  have hd' := (hd.keep hsz (fun b hb => hk b (hd.blk hb).2)).mono (C := w.heap.size) (by omega)
  refine ⟨⟨vp, vs, vd, rfl, hp', hs', hd', set9_below hb hg x0 x1 x2 x3 x4 x5 x6 x7 x8⟩, fun hdd vp' vs' vd' b he => ?_⟩
  simp only [pdCells, Ending.returned.injEq, Value.agg.injEq, Array.mk.injEq, List.cons.injEq, and_true, true_and] at he
  obtain ⟨rfl, rfl, rfl⟩ := he
  exact ⟨fun h => ⟨hdis hdd b h, sd_pk hp hd b h⟩, fun h => sd_pk hs hd b h⟩
end Go.Proofs.YtialhnocknogpaaGreatDoor

set_option linter.unusedVariables false
namespace Go.Proofs.YtialhnocknogpaaGreatDoor
open Go.RowKit Go.Deep

end Go.Proofs.YtialhnocknogpaaGreatDoor

set_option linter.unusedVariables false
namespace Go.Proofs.YtialhnocknogpaaGreatDoor
open Go.RowKit Go.Deep

set_option maxHeartbeats 8000000 in
set_option maxRecDepth 100000 in
theorem specL9Of (g n cap : Nat) (bs : List BlkV) (X Y : Nat) (w : World) (h0 : BlksS g n cap bs w) (hin : inPd (ptsOf bs) (X : Int) (Y : Int)) :
    Calls Tryz.prog 26 #[.slice (some ⟨g, 0, none⟩) n cap, .int .i64 (X : Int), .int .i64 (Y : Int)] w fun e w' => Pd9 w (paidOfL (ptsOf bs) (X : Int) (Y : Int)) False e w' := by
  have hXn : X < n := by have h1 := hin.2.1.2; rw [pd_len] at h1; have h2 := h0.b.len; omega
  have hXl : X < bs.length := by have h2 := h0.b.len; omega
  obtain ⟨hhs, hits⟩ := inPd_facts hin
  rw [pts_heads] at hhs
  have hio : itemsOkB (bs.getD X default).ss = true := hits _ (List.mem_map.2 ⟨_, blk_mem hXl, rfl⟩)
  have hbn : (bs.getD X default).n = (bs.getD X default).ss.length := (h0.b.items _ (blk_mem hXl)).2
  have hYn : Y < (bs.getD X default).n := by
    have h1 := hin.2.2.2
    rw [show ((X : Int)).toNat = X from rfl, pd_at hXl] at h1
    have h2 : (Y : Int) < ((bs.getD X default).ss.length : Int) := h1
    omega
  have hhl : (bs.map (·.h)).length = n := by rw [List.length_map]; exact h0.b.len.symm
  have hho := heads_at hhs X (by omega)
  have hgd : (bs.map (·.h)).getD X default = (bs.getD X default).h := by
    simp [List.getD_eq_getElem?_getD, List.getElem?_eq_getElem hXl]
  rw [hgd] at hho
  have hv : paidOfL (ptsOf bs) (X : Int) (Y : Int) = ⟨(X : Int), (bs.getD X default).h, (proofL (bs.map (·.h)) (X : Int)).1, (proofL (bs.map (·.h)) (X : Int)).2, rproofL (bs.getD X default).ss (Y : Int)⟩ := by
    rw [paidOfL_yes hin, pd_at hXl, pts_heads, pd_len, proofL, if_pos ⟨hhs, by omega, by omega⟩, rproof_yes hio (by omega), hhl, h0.b.len]
    rfl
  rw [hv]
  have hn20 : n ≤ 20 := by have := heads_len hhs; omega
  have hXh : X < (bs.map (·.h)).length := by rw [hhl]; exact hXn
  have hss : (bs.getD X default).ss.length ≤ 40 := itemsOk_len hio
  have L0 : Hid (Below w.heap.size w (w.alloc (.cells #[.int .i64 0, .string ⟨#[]⟩, .string ⟨#[]⟩, .int .i64 0, .int .i64 0, .int .i64 0, .slice none 0 0, .slice none 0 0, .slice none 0 0] 30))) := (Below.refl _ w).alloc (Nat.le_refl _) _
  have T0 : Hid (CBk (w.alloc (.cells #[.int .i64 0, .string ⟨#[]⟩, .string ⟨#[]⟩, .int .i64 0, .int .i64 0, .int .i64 0, .slice none 0 0, .slice none 0 0, .slice none 0 0] 30)) w.heap.size 30 #[.int .i64 0, .string ⟨#[]⟩, .string ⟨#[]⟩, .int .i64 0, .int .i64 0, .int .i64 0, .slice none 0 0, .slice none 0 0, .slice none 0 0]) := CBk.new w _ _
  have hlh := specL4Heads g n cap bs _ (h0.b.at_.below L0.out h0.b.at_.1) h0.b.len h0.b.max
  have HP5' := fun (g7 c7 : Nat) (w' : World) (hr : AtHead w' g7 (bs.map (·.h))) => specL5Proof g7 (bs.map (·.h)).length c7 (bs.map (·.h)) X w' hr (Eq.refl _) hhs hXh
  have HP5 : Hid _ := HP5'
  clear HP5'
  have HR3 : Hid (∀ w', Below w.heap.size w w' → Calls Tryz.prog 44 #[.slice (some ⟨(bs.getD X default).g, 0, none⟩) (bs.getD X default).n (bs.getD X default).cap, .int .i64 (Y : Int)] w' fun e w'' => ∃ v, e = .returned v ∧ Sds w'.heap.size v (rproofL (bs.getD X default).ss (Y : Int)) w'' ∧ Below w'.heap.size w' w'') := fun w' hb => by
    have h1 := (h0.b.items _ (blk_mem hXl)).1
    have h2 := specL3Proof (bs.getD X default).g (bs.getD X default).n (bs.getD X default).cap (bs.getD X default).ss Y w' (h1.below hb h1.1) hbn (by rw [hbn]; exact hss) (by rw [← hbn]; exact hYn) (h0.small _ (blk_mem hXl))
    rw [hbn] at h2
    rw [rproof_yes hio (by omega), hbn]
    exact h2
  unfold PrfPost at HP5
  have HQ : Hid (∀ (w5 : World) (g6 : Nat) (vp vs vd : Value) (x0 x1 x2 x3 x4 x5 x6 x7 x8 : Value), Pks (g6 + 1) vp (proofL (bs.map (·.h)) (X : Int)).1 w5 → Pks (g6 + 1) vs (proofL (bs.map (·.h)) (X : Int)).2 w5 → Sds (g6 + 1) vd (rproofL (bs.getD X default).ss (Y : Int)) w5 → w.heap.size ≤ g6 → Below w.heap.size w w5 → Pd9 w ⟨(X : Int), (bs.getD X default).h, (proofL (bs.map (·.h)) (X : Int)).1, (proofL (bs.map (·.h)) (X : Int)).2, rproofL (bs.getD X default).ss (Y : Int)⟩ False (.returned (.agg #[.int .i64 (X : Int), .string (bs.getD X default).h.prev, .string (bs.getD X default).h.root, .int .i64 (bs.getD X default).h.time, .int .i64 (bs.getD X default).h.diff, .int .i64 (bs.getD X default).h.nonce, vp, vs, vd])) (((((((((w5.setCell ⟨g6, 0, none⟩ x0).setCell ⟨g6, 1, none⟩ x1).setCell ⟨g6, 2, none⟩ x2).setCell ⟨g6, 3, none⟩ x3).setCell ⟨g6, 4, none⟩ x4).setCell ⟨g6, 5, none⟩ x5).setCell ⟨g6, 6, none⟩ x6).setCell ⟨g6, 7, none⟩ x7).setCell ⟨g6, 8, none⟩ x8)) := fun w5 g6 vp vs vd x0 x1 x2 x3 x4 x5 x6 x7 x8 h1 h2 h3 h4 h5 => pd_fin (v := ⟨(X : Int), (bs.getD X default).h, (proofL (bs.map (·.h)) (X : Int)).1, (proofL (bs.map (·.h)) (X : Int)).2, rproofL (bs.getD X default).ss (Y : Int)⟩) h1 h2 h3 (Nat.lt_succ_self _) h4 h5 (fun hf => hf.elim) x0 x1 x2 x3 x4 x5 x6 x7 x8
  generalize Pd9 w ⟨(X : Int), (bs.getD X default).h, (proofL (bs.map (·.h)) (X : Int)).1, (proofL (bs.map (·.h)) (X : Int)).2, rproofL (bs.getD X default).ss (Y : Int)⟩ False = Q at HQ ⊢
  generalize (proofL (bs.map (·.h)) (X : Int)).1 = PK at HP5 HQ
  generalize (proofL (bs.map (·.h)) (X : Int)).2 = STP at HP5 HQ
  generalize rproofL (bs.getD X default).ss (Y : Int) = SD at HR3 HQ
  have HCW : Hid (∀ w', Below w.heap.size w w' → w'.cell? ⟨g, X * 6 + 5, none⟩ = some (.slice (some ⟨(bs.getD X default).g, 0, none⟩) (bs.getD X default).n (bs.getD X default).cap)) := fun w' hw => AtBlk.c5 (h0.b.at_.below hw h0.b.at_.1) X hXl
  have HHD : Hid (∀ w' g7, AtHead w' g7 (bs.map (·.h)) → (w'.cell? ⟨g7, X * 5, none⟩ = some (.string (bs.getD X default).h.prev) ∧ w'.cell? ⟨g7, X * 5 + 1, none⟩ = some (.string (bs.getD X default).h.root) ∧ w'.cell? ⟨g7, X * 5 + 2, none⟩ = some (.int .i64 (bs.getD X default).h.time) ∧ w'.cell? ⟨g7, X * 5 + 3, none⟩ = some (.int .i64 (bs.getD X default).h.diff) ∧ w'.cell? ⟨g7, X * 5 + 4, none⟩ = some (.int .i64 (bs.getD X default).h.nonce))) := fun w' g7 ha => by
    have hx : X < (bs.map (·.h)).length := by omega
    have c0 := AtHead.c0 ha X hx
    have c1 := AtHead.c1 ha X hx
    have c2 := AtHead.c2 ha X hx
    have c3 := AtHead.c3 ha X hx
    have c4 := AtHead.c4 ha X hx
    rw [hgd] at c0 c1 c2 c3 c4
    exact ⟨c0, c1, c2, c3, c4⟩
  have HGW : Hid (g < w.heap.size) := h0.b.at_.1
  have HLL : Hid ((bs.map (·.h)).length = n) := hhl
  obtain ⟨g6, hg6⟩ : ∃ g6, g6 = w.heap.size := ⟨_, rfl⟩
  have HG6 : Hid (w.heap.size ≤ g6) := Nat.le_of_eq hg6.symm
  have HGN0 : Hid (g ≠ g6) := by have := HGW.out; show _ ≠ _; omega
  have lx1 : (X : Int) < (n : Int) := by omega
  have lx0 : (0 : Int) ≤ (X : Int) := by omega
  clear hv hhs hits hio hbn hYn hho hgd hin h0 hXl hhl hss hXh
  generalize bs.map (·.h) = hs at hlh HP5 HHD HLL
  generalize bs.getD X default = bb at HR3 HQ HCW HHD
  obtain ⟨h, bg, bn, bc, bss⟩ := bb
  dsimp only at HR3 HQ HCW HHD
  go_enter Tryz.func26, Tryz.ntmps26
  go_wp2_with fail
  rw [← hg6] at T0 ⊢
  refine hlh.mono ?_
  rintro e w2 ⟨v7, rfl, r7, b2⟩
  obtain ⟨⟨g7, c7, rfl⟩, -⟩ := id r7
  have B2 : Hid (Below w.heap.size w w2) := L0.out.trans (b2.mono L0.out.size)
  have HT2 : Hid (CBk w2 g6 30 #[.int .i64 0, .string ⟨#[]⟩, .string ⟨#[]⟩, .int .i64 0, .int .i64 0, .int .i64 0, .slice none 0 0, .slice none 0 0, .slice none 0 0]) := T0.out.call b2
  have HS2 : Hid (g6 + 1 ≤ w2.heap.size) := HT2.out.lt
  have HA7 : Hid (AtHead w2 g7 hs) := (FRow.at enHead_len r7).1
  have HGN : Hid (g ≠ g6 ∧ g7 ≠ g6) := ⟨HGN0.out, by
    have h1 := (FRow.at enHead_len r7).2.2.1
    rw [show (w.alloc (.cells #[.int .i64 0, .string ⟨#[]⟩, .string ⟨#[]⟩, .int .i64 0, .int .i64 0, .int .i64 0, .slice none 0 0, .slice none 0 0, .slice none 0 0] 30)).heap.size = w.heap.size + 1 from by simp] at h1
    omega⟩
  have HCL : Hid (∀ w', Below w2.heap.size w2 w' → (w'.cell? ⟨g7, X * 5, none⟩ = some (.string h.prev) ∧ w'.cell? ⟨g7, X * 5 + 1, none⟩ = some (.string h.root) ∧ w'.cell? ⟨g7, X * 5 + 2, none⟩ = some (.int .i64 h.time) ∧ w'.cell? ⟨g7, X * 5 + 3, none⟩ = some (.int .i64 h.diff) ∧ w'.cell? ⟨g7, X * 5 + 4, none⟩ = some (.int .i64 h.nonce)) ∧ w'.cell? ⟨g, X * 6 + 5, none⟩ = some (.slice (some ⟨bg, 0, none⟩) bn bc)) := fun w' hb => ⟨HHD.out w' g7 (HA7.out.below hb HA7.out.1), HCW.out w' (B2.out.trans (hb.mono B2.out.size))⟩
  have HCS : Hid (∀ w0 w' : World, w'.heap[g]? = w0.heap[g]? → w'.heap[g7]? = w0.heap[g7]? → (w0.cell? ⟨g7, X * 5, none⟩ = some (.string h.prev) ∧ w0.cell? ⟨g7, X * 5 + 1, none⟩ = some (.string h.root) ∧ w0.cell? ⟨g7, X * 5 + 2, none⟩ = some (.int .i64 h.time) ∧ w0.cell? ⟨g7, X * 5 + 3, none⟩ = some (.int .i64 h.diff) ∧ w0.cell? ⟨g7, X * 5 + 4, none⟩ = some (.int .i64 h.nonce)) ∧ w0.cell? ⟨g, X * 6 + 5, none⟩ = some (.slice (some ⟨bg, 0, none⟩) bn bc) → (w'.cell? ⟨g7, X * 5, none⟩ = some (.string h.prev) ∧ w'.cell? ⟨g7, X * 5 + 1, none⟩ = some (.string h.root) ∧ w'.cell? ⟨g7, X * 5 + 2, none⟩ = some (.int .i64 h.time) ∧ w'.cell? ⟨g7, X * 5 + 3, none⟩ = some (.int .i64 h.diff) ∧ w'.cell? ⟨g7, X * 5 + 4, none⟩ = some (.int .i64 h.nonce)) ∧ w'.cell? ⟨g, X * 6 + 5, none⟩ = some (.slice (some ⟨bg, 0, none⟩) bn bc)) := fun w0 w' hw hw7 hs => ⟨⟨(World.cell?_of_block (a := ⟨g7, X * 5, none⟩) hw7).trans hs.1.1, (World.cell?_of_block (a := ⟨g7, X * 5 + 1, none⟩) hw7).trans hs.1.2.1, (World.cell?_of_block (a := ⟨g7, X * 5 + 2, none⟩) hw7).trans hs.1.2.2.1, (World.cell?_of_block (a := ⟨g7, X * 5 + 3, none⟩) hw7).trans hs.1.2.2.2.1, (World.cell?_of_block (a := ⟨g7, X * 5 + 4, none⟩) hw7).trans hs.1.2.2.2.2⟩, (World.cell?_of_block (a := ⟨g, X * 6 + 5, none⟩) hw).trans hs.2⟩
  have HPF : Hid (∀ w', Below w2.heap.size w2 w' → Calls Tryz.prog 43 #[.slice (some ⟨g7, 0, none⟩) hs.length c7, .int .i64 (X : Int)] w' fun e w'' => ∃ vp vs, e = .returned (.agg #[vp, vs]) ∧ Pks w'.heap.size vp PK w'' ∧ Pks w'.heap.size vs STP w'' ∧ Below w'.heap.size w' w'') := fun w' hb => HP5.out g7 c7 w' (HA7.out.below hb HA7.out.1)
  have HRT : Hid (∀ w', Below w2.heap.size w2 w' → Calls Tryz.prog 44 #[.slice (some ⟨bg, 0, none⟩) bn bc, .int .i64 (Y : Int)] w' fun e w'' => ∃ v, e = .returned v ∧ Sds w'.heap.size v SD w'' ∧ Below w'.heap.size w' w'') := fun w' hb => HR3.out w' (B2.out.trans (hb.mono B2.out.size))
  clear hlh b2 T0 L0 hg6 r7 HP5 HR3 HA7
  rw [HLL.out] at HPF ⊢
  go_upto_region 2 with fail
  have S2d := HCL.out w2.drew (Below.refl _ _).drew
  refine wp_region_noPanic ?_
  refine wp_region_held_drew (S := fun w' => (w'.cell? ⟨g7, X * 5, none⟩ = some (.string h.prev) ∧ w'.cell? ⟨g7, X * 5 + 1, none⟩ = some (.string h.root) ∧ w'.cell? ⟨g7, X * 5 + 2, none⟩ = some (.int .i64 h.time) ∧ w'.cell? ⟨g7, X * 5 + 3, none⟩ = some (.int .i64 h.diff) ∧ w'.cell? ⟨g7, X * 5 + 4, none⟩ = some (.int .i64 h.nonce)) ∧ w'.cell? ⟨g, X * 6 + 5, none⟩ = some (.slice (some ⟨bg, 0, none⟩) bn bc)) (by kernel_rfl) (S2d) (fun hHeld => ?_)
  refine takeL 0 (v := ?_) rfl (by kernel_rfl) (by kernel_rfl) (by kernel_rfl) (fun _ _ _ h => h) (by kernel_rfl) ?_ (by assumption) ?_
  rotate_left
  · intro w hSw; (try dsimp only at hSw); first | (go_simp; done) | (go_simp; with_reducible rfl)
  try simp only [Act.put, List.setIfInBounds_toArray, List.set_cons_zero, List.set_cons_succ]
  refine takeL 1 (v := ?_) rfl (by kernel_rfl) (by kernel_rfl) (by kernel_rfl) (fun _ _ _ h => h) (by kernel_rfl) ?_ (by assumption) ?_
  rotate_left
  · intro w hSw; (try dsimp only at hSw); first | (go_simp; done) | (go_simp; with_reducible rfl)
  try simp only [Act.put, List.setIfInBounds_toArray, List.set_cons_zero, List.set_cons_succ]
  refine takeL 2 (v := ?_) rfl (by kernel_rfl) (by kernel_rfl) (by kernel_rfl) (fun _ _ _ h => h) (by kernel_rfl) ?_ (by assumption) ?_
  rotate_left
  · intro w hSw; (try dsimp only at hSw); first | (go_simp; done) | (go_simp; with_reducible rfl)
  try simp only [Act.put, List.setIfInBounds_toArray, List.set_cons_zero, List.set_cons_succ]
  refine takeL 3 (v := ?_) rfl (by kernel_rfl) (by kernel_rfl) (by kernel_rfl) (fun _ _ _ h => h) (by kernel_rfl) ?_ (by assumption) ?_
  rotate_left
  · intro w hSw; (try dsimp only at hSw); first | (go_simp; done) | (go_simp; with_reducible rfl)
  try simp only [Act.put, List.setIfInBounds_toArray, List.set_cons_zero, List.set_cons_succ]
  refine takeL 4 (v := ?_) rfl (by kernel_rfl) (by kernel_rfl) (by kernel_rfl) (fun _ _ _ h => h) (by kernel_rfl) ?_ (by assumption) ?_
  rotate_left
  · intro w hSw; (try dsimp only at hSw); first | (go_simp; done) | (go_simp; with_reducible rfl)
  try simp only [Act.put, List.setIfInBounds_toArray, List.set_cons_zero, List.set_cons_succ]
  refine takeL 5 (v := ?_) rfl (by kernel_rfl) (by kernel_rfl) (by kernel_rfl) (fun _ _ _ h => h) (by kernel_rfl) ?_ (by assumption) ?_
  rotate_left
  · intro w hSw; (try dsimp only at hSw); first | (go_simp; done) | (go_simp; with_reducible rfl)
  try simp only [Act.put, List.setIfInBounds_toArray, List.set_cons_zero, List.set_cons_succ]
  refine takeL 6 (v := ?_) rfl (by kernel_rfl) (by kernel_rfl) (by kernel_rfl) (fun _ _ _ h => h) (by kernel_rfl) ?_ (by assumption) ?_
  rotate_left
  · intro w hSw; (try dsimp only at hSw); first | (go_simp; done) | (go_simp; with_reducible rfl)
  try simp only [Act.put, List.setIfInBounds_toArray, List.set_cons_zero, List.set_cons_succ]
  refine takeL 8 (v := ?_) rfl (by kernel_rfl) (by kernel_rfl) (by kernel_rfl) (fun _ _ _ h => h) (by kernel_rfl) ?_ (by assumption) ?_
  rotate_left
  · intro w hSw; (try dsimp only at hSw); first | (go_simp; done) | (go_simp; with_reducible rfl)
  try simp only [Act.put, List.setIfInBounds_toArray, List.set_cons_zero, List.set_cons_succ]
  refine takeL 9 (v := ?_) rfl (by kernel_rfl) (by kernel_rfl) (by kernel_rfl) (fun _ _ _ h => h) (by kernel_rfl) ?_ (by assumption) ?_
  rotate_left
  · intro w hSw; (try dsimp only at hSw); first | (go_simp; done) | (go_simp; with_reducible rfl)
  try simp only [Act.put, List.setIfInBounds_toArray, List.set_cons_zero, List.set_cons_succ]
  refine takeL 10 (v := ?_) rfl (by kernel_rfl) (by kernel_rfl) (by kernel_rfl) (fun _ _ _ h => h) (by kernel_rfl) ?_ (by assumption) ?_
  rotate_left
  · intro w hSw; (try dsimp only at hSw); first | (go_simp; done) | (go_simp; with_reducible rfl)
  try simp only [Act.put, List.setIfInBounds_toArray, List.set_cons_zero, List.set_cons_succ]
  refine takeL 11 (v := ?_) rfl (by kernel_rfl) (by kernel_rfl) (by kernel_rfl) (fun _ _ _ h => h) (by kernel_rfl) ?_ (by assumption) ?_
  rotate_left
  · intro w hSw; (try dsimp only at hSw); first | (go_simp; done) | (go_simp; with_reducible rfl)
  try simp only [Act.put, List.setIfInBounds_toArray, List.set_cons_zero, List.set_cons_succ]
  refine takeL 12 (v := ?_) rfl (by kernel_rfl) (by kernel_rfl) (by kernel_rfl) (fun _ _ _ h => h) (by kernel_rfl) ?_ (by assumption) ?_
  rotate_left
  · intro w hSw; (try dsimp only at hSw); first | (go_simp; done) | (go_simp; with_reducible rfl)
  try simp only [Act.put, List.setIfInBounds_toArray, List.set_cons_zero, List.set_cons_succ]
  refine takeL 13 (v := ?_) rfl (by kernel_rfl) (by kernel_rfl) (by kernel_rfl) (fun _ _ _ h => h) (by kernel_rfl) ?_ (by assumption) ?_
  rotate_left
  · intro w hSw; (try dsimp only at hSw); first | (go_simp; done) | (go_simp; with_reducible rfl)
  try simp only [Act.put, List.setIfInBounds_toArray, List.set_cons_zero, List.set_cons_succ]
  refine callL 7 rfl (by kernel_rfl) (fun K hK => ?_)
  go_simp
  refine (HPF.out _ (Below.refl _ _).drew).mono ?_
  rintro e w3 ⟨vp, vs, rfl, k1, k2, b3⟩
  obtain ⟨pa, pn, pc, rfl⟩ := pks_slice k1
  obtain ⟨sa, sn, sc, rfl⟩ := pks_slice k2
  have C3 : Hid (Below w2.heap.size w2 w3) := ((Below.refl w2.heap.size w2).drew).trans b3
  have K1 : Hid (Pks (g6 + 1) (.slice pa pn pc) PK w3) := k1.mono HS2.out
  have K2 : Hid (Pks (g6 + 1) (.slice sa sn sc) STP w3) := k2.mono HS2.out
  have S3 := HCL.out w3 C3.out
  clear b3 k1 k2
  go_wp2_with fail
  refine hK.out _ _ ?_ (fun hHeld => ?_)
  · first | (with_reducible exact S3) | (with_reducible exact S4) | exact HCS.out w4 _ (set9_other HGN.out.1 (.int .i64 (X : Int)) (.string h.prev) (.string h.root) (.int .i64 h.time) (.int .i64 h.diff) (.int .i64 h.nonce) (.slice pa pn pc) (.slice sa sn sc) (.slice da dn dc)) (set9_other HGN.out.2 (.int .i64 (X : Int)) (.string h.prev) (.string h.root) (.int .i64 h.time) (.int .i64 h.diff) (.int .i64 h.nonce) (.slice pa pn pc) (.slice sa sn sc) (.slice da dn dc)) S4
  clear hK K
  try simp only [Act.put, List.setIfInBounds_toArray, List.set_cons_zero, List.set_cons_succ]
  refine callL 14 rfl (by kernel_rfl) (fun K hK => ?_)
  go_simp
  refine (HRT.out _ C3.out).mono ?_
  rintro e w4 ⟨vd, rfl, k3, b4⟩
  obtain ⟨da, dn, dc, rfl⟩ := sds_slice k3
  have C4 : Hid (Below w2.heap.size w2 w4) := C3.out.trans (b4.mono C3.out.size)
  have K3 : Hid (Sds (g6 + 1) (.slice da dn dc) SD w4) := k3.mono (Nat.le_trans HS2.out C3.out.size)
  have T4 : Hid (CBk w4 g6 30 #[.int .i64 0, .string ⟨#[]⟩, .string ⟨#[]⟩, .int .i64 0, .int .i64 0, .int .i64 0, .slice none 0 0, .slice none 0 0, .slice none 0 0]) := HT2.out.call C4.out
  have K14 : Hid (Pks (g6 + 1) (.slice pa pn pc) PK w4) := K1.out.below b4
  have K24 : Hid (Pks (g6 + 1) (.slice sa sn sc) STP w4) := K2.out.below b4
  have S4 := HCL.out w4 C4.out
  obtain ⟨e0, e1, e2, e3, e4, e5, e6, e7, e8⟩ := T4.out.nineP
  obtain ⟨f0, f1, f2, f3, f4, f5, f6, f7, f8⟩ := T4.out.nineZ
  clear b4 k3
  go_wp2_with fail
  refine hK.out _ _ ?_ (fun hHeld => ?_)
  · first | (with_reducible exact S3) | (with_reducible exact S4) | exact HCS.out w4 _ (set9_other HGN.out.1 (.int .i64 (X : Int)) (.string h.prev) (.string h.root) (.int .i64 h.time) (.int .i64 h.diff) (.int .i64 h.nonce) (.slice pa pn pc) (.slice sa sn sc) (.slice da dn dc)) (set9_other HGN.out.2 (.int .i64 (X : Int)) (.string h.prev) (.string h.root) (.int .i64 h.time) (.int .i64 h.diff) (.int .i64 h.nonce) (.slice pa pn pc) (.slice sa sn sc) (.slice da dn dc)) S4
  clear hK K
  try simp only [Act.put, List.setIfInBounds_toArray, List.set_cons_zero, List.set_cons_succ]
  refine takeL 15 (v := ?_) rfl (by kernel_rfl) (by kernel_rfl) (by kernel_rfl) (fun _ _ _ h => h) (by kernel_rfl) ?_ (by assumption) ?_
  rotate_left
  · intro w hSw; (try dsimp only at hSw); first | (go_simp; done) | (go_simp; with_reducible rfl)
  try simp only [Act.put, List.setIfInBounds_toArray, List.set_cons_zero, List.set_cons_succ]
  refine callL 16 rfl (by kernel_rfl) (fun K hK => ?_)
  go_simp
  refine hK.out _ _ ?_ (fun hHeld => ?_)
  · first | (with_reducible exact S3) | (with_reducible exact S4) | exact HCS.out w4 _ (set9_other HGN.out.1 (.int .i64 (X : Int)) (.string h.prev) (.string h.root) (.int .i64 h.time) (.int .i64 h.diff) (.int .i64 h.nonce) (.slice pa pn pc) (.slice sa sn sc) (.slice da dn dc)) (set9_other HGN.out.2 (.int .i64 (X : Int)) (.string h.prev) (.string h.root) (.int .i64 h.time) (.int .i64 h.diff) (.int .i64 h.nonce) (.slice pa pn pc) (.slice sa sn sc) (.slice da dn dc)) S4
  clear hK K
  try simp only [Act.put, List.setIfInBounds_toArray, List.set_cons_zero, List.set_cons_succ]
  refine wpAnyH_done (by kernel_rfl) ?_ _
  refine NoPanic.normal ?_
  have HFIN : Hid (CBk (((((((((w4.setCell ⟨g6, 0, none⟩ (.int .i64 (X : Int))).setCell ⟨g6, 1, none⟩ (.string h.prev)).setCell ⟨g6, 2, none⟩ (.string h.root)).setCell ⟨g6, 3, none⟩ (.int .i64 h.time)).setCell ⟨g6, 4, none⟩ (.int .i64 h.diff)).setCell ⟨g6, 5, none⟩ (.int .i64 h.nonce)).setCell ⟨g6, 6, none⟩ (.slice pa pn pc)).setCell ⟨g6, 7, none⟩ (.slice sa sn sc)).setCell ⟨g6, 8, none⟩ (.slice da dn dc)) g6 30 #[.int .i64 (X : Int), .string h.prev, .string h.root, .int .i64 h.time, .int .i64 h.diff, .int .i64 h.nonce, .slice pa pn pc, .slice sa sn sc, .slice da dn dc]) := set9_blk T4.out (.int .i64 (X : Int)) (.string h.prev) (.string h.root) (.int .i64 h.time) (.int .i64 h.diff) (.int .i64 h.nonce) (.slice pa pn pc) (.slice sa sn sc) (.slice da dn dc)
  have HFQ : Hid (Q (.returned (.agg #[.int .i64 (X : Int), .string h.prev, .string h.root, .int .i64 h.time, .int .i64 h.diff, .int .i64 h.nonce, .slice pa pn pc, .slice sa sn sc, .slice da dn dc])) (((((((((w4.setCell ⟨g6, 0, none⟩ (.int .i64 (X : Int))).setCell ⟨g6, 1, none⟩ (.string h.prev)).setCell ⟨g6, 2, none⟩ (.string h.root)).setCell ⟨g6, 3, none⟩ (.int .i64 h.time)).setCell ⟨g6, 4, none⟩ (.int .i64 h.diff)).setCell ⟨g6, 5, none⟩ (.int .i64 h.nonce)).setCell ⟨g6, 6, none⟩ (.slice pa pn pc)).setCell ⟨g6, 7, none⟩ (.slice sa sn sc)).setCell ⟨g6, 8, none⟩ (.slice da dn dc))) := HQ.out w4 g6 _ _ _ (.int .i64 (X : Int)) (.string h.prev) (.string h.root) (.int .i64 h.time) (.int .i64 h.diff) (.int .i64 h.nonce) (.slice pa pn pc) (.slice sa sn sc) (.slice da dn dc) K14.out K24.out K3.out HG6.out (B2.out.trans (C4.out.mono B2.out.size))
  clear S2d
  go_wp2_with fail
  exact bodyPost_ret (results_cell_row (p := 6) rfl _ _ g6 30 #[.int .i64 (X : Int), .string h.prev, .string h.root, .int .i64 h.time, .int .i64 h.diff, .int .i64 h.nonce, .slice pa pn pc, .slice sa sn sc, .slice da dn dc] (0, 0) _ rfl HFIN.out Tryz.underlying30 rfl (by kernel_rfl)) rfl HFQ.out
end Go.Proofs.YtialhnocknogpaaGreatDoor

set_option linter.unusedVariables false
namespace Go.Proofs.YtialhnocknogpaaGreatDoor
open Go.RowKit Go.Deep

set_option maxHeartbeats 8000000 in
set_option maxRecDepth 100000 in
theorem specL9OfG (g n cap : Nat) (bs : List BlkV) (X Y : Nat) (w : World) (h0 : BlksS g n cap bs w) (hhs : headsB (bs.map (·.h)) = true) (hXl : X < bs.length) (hio : itemsOkB (bs.getD X default).ss = true) (hYl : Y < (bs.getD X default).ss.length) :
    Calls Tryz.prog 26 #[.slice (some ⟨g, 0, none⟩) n cap, .int .i64 (X : Int), .int .i64 (Y : Int)] w fun e w' => Pd9 w ⟨(X : Int), (bs.getD X default).h, (proofL (bs.map (·.h)) (X : Int)).1, (proofL (bs.map (·.h)) (X : Int)).2, rproofL (bs.getD X default).ss (Y : Int)⟩ False e w' := by
  have hXn : X < n := by have h2 := h0.b.len; omega
  have hbn : (bs.getD X default).n = (bs.getD X default).ss.length := (h0.b.items _ (blk_mem hXl)).2
  have hYn : Y < (bs.getD X default).n := by omega
  have hhl : (bs.map (·.h)).length = n := by rw [List.length_map]; exact h0.b.len.symm
  have hho := heads_at hhs X (by omega)
  have hgd : (bs.map (·.h)).getD X default = (bs.getD X default).h := by
    simp [List.getD_eq_getElem?_getD, List.getElem?_eq_getElem hXl]
  rw [hgd] at hho
  have hn20 : n ≤ 20 := by have := heads_len hhs; omega
  have hXh : X < (bs.map (·.h)).length := by rw [hhl]; exact hXn
  have hss : (bs.getD X default).ss.length ≤ 40 := itemsOk_len hio
  have L0 : Hid (Below w.heap.size w (w.alloc (.cells #[.int .i64 0, .string ⟨#[]⟩, .string ⟨#[]⟩, .int .i64 0, .int .i64 0, .int .i64 0, .slice none 0 0, .slice none 0 0, .slice none 0 0] 30))) := (Below.refl _ w).alloc (Nat.le_refl _) _
  have T0 : Hid (CBk (w.alloc (.cells #[.int .i64 0, .string ⟨#[]⟩, .string ⟨#[]⟩, .int .i64 0, .int .i64 0, .int .i64 0, .slice none 0 0, .slice none 0 0, .slice none 0 0] 30)) w.heap.size 30 #[.int .i64 0, .string ⟨#[]⟩, .string ⟨#[]⟩, .int .i64 0, .int .i64 0, .int .i64 0, .slice none 0 0, .slice none 0 0, .slice none 0 0]) := CBk.new w _ _
  have hlh := specL4Heads g n cap bs _ (h0.b.at_.below L0.out h0.b.at_.1) h0.b.len h0.b.max
  have HP5' := fun (g7 c7 : Nat) (w' : World) (hr : AtHead w' g7 (bs.map (·.h))) => specL5Proof g7 (bs.map (·.h)).length c7 (bs.map (·.h)) X w' hr (Eq.refl _) hhs hXh
  have HP5 : Hid _ := HP5'
  clear HP5'
  have HR3 : Hid (∀ w', Below w.heap.size w w' → Calls Tryz.prog 44 #[.slice (some ⟨(bs.getD X default).g, 0, none⟩) (bs.getD X default).n (bs.getD X default).cap, .int .i64 (Y : Int)] w' fun e w'' => ∃ v, e = .returned v ∧ Sds w'.heap.size v (rproofL (bs.getD X default).ss (Y : Int)) w'' ∧ Below w'.heap.size w' w'') := fun w' hb => by
    have h1 := (h0.b.items _ (blk_mem hXl)).1
    have h2 := specL3Proof (bs.getD X default).g (bs.getD X default).n (bs.getD X default).cap (bs.getD X default).ss Y w' (h1.below hb h1.1) hbn (by rw [hbn]; exact hss) (by rw [← hbn]; exact hYn) (h0.small _ (blk_mem hXl))
    rw [hbn] at h2
    rw [rproof_yes hio (by omega), hbn]
    exact h2
  unfold PrfPost at HP5
  have HQ : Hid (∀ (w5 : World) (g6 : Nat) (vp vs vd : Value) (x0 x1 x2 x3 x4 x5 x6 x7 x8 : Value), Pks (g6 + 1) vp (proofL (bs.map (·.h)) (X : Int)).1 w5 → Pks (g6 + 1) vs (proofL (bs.map (·.h)) (X : Int)).2 w5 → Sds (g6 + 1) vd (rproofL (bs.getD X default).ss (Y : Int)) w5 → w.heap.size ≤ g6 → Below w.heap.size w w5 → Pd9 w ⟨(X : Int), (bs.getD X default).h, (proofL (bs.map (·.h)) (X : Int)).1, (proofL (bs.map (·.h)) (X : Int)).2, rproofL (bs.getD X default).ss (Y : Int)⟩ False (.returned (.agg #[.int .i64 (X : Int), .string (bs.getD X default).h.prev, .string (bs.getD X default).h.root, .int .i64 (bs.getD X default).h.time, .int .i64 (bs.getD X default).h.diff, .int .i64 (bs.getD X default).h.nonce, vp, vs, vd])) (((((((((w5.setCell ⟨g6, 0, none⟩ x0).setCell ⟨g6, 1, none⟩ x1).setCell ⟨g6, 2, none⟩ x2).setCell ⟨g6, 3, none⟩ x3).setCell ⟨g6, 4, none⟩ x4).setCell ⟨g6, 5, none⟩ x5).setCell ⟨g6, 6, none⟩ x6).setCell ⟨g6, 7, none⟩ x7).setCell ⟨g6, 8, none⟩ x8)) := fun w5 g6 vp vs vd x0 x1 x2 x3 x4 x5 x6 x7 x8 h1 h2 h3 h4 h5 => pd_fin (v := ⟨(X : Int), (bs.getD X default).h, (proofL (bs.map (·.h)) (X : Int)).1, (proofL (bs.map (·.h)) (X : Int)).2, rproofL (bs.getD X default).ss (Y : Int)⟩) h1 h2 h3 (Nat.lt_succ_self _) h4 h5 (fun hf => hf.elim) x0 x1 x2 x3 x4 x5 x6 x7 x8
  generalize Pd9 w ⟨(X : Int), (bs.getD X default).h, (proofL (bs.map (·.h)) (X : Int)).1, (proofL (bs.map (·.h)) (X : Int)).2, rproofL (bs.getD X default).ss (Y : Int)⟩ False = Q at HQ ⊢
  generalize (proofL (bs.map (·.h)) (X : Int)).1 = PK at HP5 HQ
  generalize (proofL (bs.map (·.h)) (X : Int)).2 = STP at HP5 HQ
  generalize rproofL (bs.getD X default).ss (Y : Int) = SD at HR3 HQ
  have HCW : Hid (∀ w', Below w.heap.size w w' → w'.cell? ⟨g, X * 6 + 5, none⟩ = some (.slice (some ⟨(bs.getD X default).g, 0, none⟩) (bs.getD X default).n (bs.getD X default).cap)) := fun w' hw => AtBlk.c5 (h0.b.at_.below hw h0.b.at_.1) X hXl
  have HHD : Hid (∀ w' g7, AtHead w' g7 (bs.map (·.h)) → (w'.cell? ⟨g7, X * 5, none⟩ = some (.string (bs.getD X default).h.prev) ∧ w'.cell? ⟨g7, X * 5 + 1, none⟩ = some (.string (bs.getD X default).h.root) ∧ w'.cell? ⟨g7, X * 5 + 2, none⟩ = some (.int .i64 (bs.getD X default).h.time) ∧ w'.cell? ⟨g7, X * 5 + 3, none⟩ = some (.int .i64 (bs.getD X default).h.diff) ∧ w'.cell? ⟨g7, X * 5 + 4, none⟩ = some (.int .i64 (bs.getD X default).h.nonce))) := fun w' g7 ha => by
    have hx : X < (bs.map (·.h)).length := by omega
    have c0 := AtHead.c0 ha X hx
    have c1 := AtHead.c1 ha X hx
    have c2 := AtHead.c2 ha X hx
    have c3 := AtHead.c3 ha X hx
    have c4 := AtHead.c4 ha X hx
    rw [hgd] at c0 c1 c2 c3 c4
    exact ⟨c0, c1, c2, c3, c4⟩
  have HGW : Hid (g < w.heap.size) := h0.b.at_.1
  have HLL : Hid ((bs.map (·.h)).length = n) := hhl
  obtain ⟨g6, hg6⟩ : ∃ g6, g6 = w.heap.size := ⟨_, rfl⟩
  have HG6 : Hid (w.heap.size ≤ g6) := Nat.le_of_eq hg6.symm
  have HGN0 : Hid (g ≠ g6) := by have := HGW.out; show _ ≠ _; omega
  have lx1 : (X : Int) < (n : Int) := by omega
  have lx0 : (0 : Int) ≤ (X : Int) := by omega
  clear hhs hio hbn hYn hYl hho hgd h0 hXl hhl hss hXh
  generalize bs.map (·.h) = hs at hlh HP5 HHD HLL
  generalize bs.getD X default = bb at HR3 HQ HCW HHD
  obtain ⟨h, bg, bn, bc, bss⟩ := bb
  dsimp only at HR3 HQ HCW HHD
  go_enter Tryz.func26, Tryz.ntmps26
  go_wp2_with fail
  rw [← hg6] at T0 ⊢
  refine hlh.mono ?_
  rintro e w2 ⟨v7, rfl, r7, b2⟩
  obtain ⟨⟨g7, c7, rfl⟩, -⟩ := id r7
  have B2 : Hid (Below w.heap.size w w2) := L0.out.trans (b2.mono L0.out.size)
  have HT2 : Hid (CBk w2 g6 30 #[.int .i64 0, .string ⟨#[]⟩, .string ⟨#[]⟩, .int .i64 0, .int .i64 0, .int .i64 0, .slice none 0 0, .slice none 0 0, .slice none 0 0]) := T0.out.call b2
  have HS2 : Hid (g6 + 1 ≤ w2.heap.size) := HT2.out.lt
  have HA7 : Hid (AtHead w2 g7 hs) := (FRow.at enHead_len r7).1
  have HGN : Hid (g ≠ g6 ∧ g7 ≠ g6) := ⟨HGN0.out, by
    have h1 := (FRow.at enHead_len r7).2.2.1
    rw [show (w.alloc (.cells #[.int .i64 0, .string ⟨#[]⟩, .string ⟨#[]⟩, .int .i64 0, .int .i64 0, .int .i64 0, .slice none 0 0, .slice none 0 0, .slice none 0 0] 30)).heap.size = w.heap.size + 1 from by simp] at h1
    omega⟩
  have HCL : Hid (∀ w', Below w2.heap.size w2 w' → (w'.cell? ⟨g7, X * 5, none⟩ = some (.string h.prev) ∧ w'.cell? ⟨g7, X * 5 + 1, none⟩ = some (.string h.root) ∧ w'.cell? ⟨g7, X * 5 + 2, none⟩ = some (.int .i64 h.time) ∧ w'.cell? ⟨g7, X * 5 + 3, none⟩ = some (.int .i64 h.diff) ∧ w'.cell? ⟨g7, X * 5 + 4, none⟩ = some (.int .i64 h.nonce)) ∧ w'.cell? ⟨g, X * 6 + 5, none⟩ = some (.slice (some ⟨bg, 0, none⟩) bn bc)) := fun w' hb => ⟨HHD.out w' g7 (HA7.out.below hb HA7.out.1), HCW.out w' (B2.out.trans (hb.mono B2.out.size))⟩
  have HCS : Hid (∀ w0 w' : World, w'.heap[g]? = w0.heap[g]? → w'.heap[g7]? = w0.heap[g7]? → (w0.cell? ⟨g7, X * 5, none⟩ = some (.string h.prev) ∧ w0.cell? ⟨g7, X * 5 + 1, none⟩ = some (.string h.root) ∧ w0.cell? ⟨g7, X * 5 + 2, none⟩ = some (.int .i64 h.time) ∧ w0.cell? ⟨g7, X * 5 + 3, none⟩ = some (.int .i64 h.diff) ∧ w0.cell? ⟨g7, X * 5 + 4, none⟩ = some (.int .i64 h.nonce)) ∧ w0.cell? ⟨g, X * 6 + 5, none⟩ = some (.slice (some ⟨bg, 0, none⟩) bn bc) → (w'.cell? ⟨g7, X * 5, none⟩ = some (.string h.prev) ∧ w'.cell? ⟨g7, X * 5 + 1, none⟩ = some (.string h.root) ∧ w'.cell? ⟨g7, X * 5 + 2, none⟩ = some (.int .i64 h.time) ∧ w'.cell? ⟨g7, X * 5 + 3, none⟩ = some (.int .i64 h.diff) ∧ w'.cell? ⟨g7, X * 5 + 4, none⟩ = some (.int .i64 h.nonce)) ∧ w'.cell? ⟨g, X * 6 + 5, none⟩ = some (.slice (some ⟨bg, 0, none⟩) bn bc)) := fun w0 w' hw hw7 hs => ⟨⟨(World.cell?_of_block (a := ⟨g7, X * 5, none⟩) hw7).trans hs.1.1, (World.cell?_of_block (a := ⟨g7, X * 5 + 1, none⟩) hw7).trans hs.1.2.1, (World.cell?_of_block (a := ⟨g7, X * 5 + 2, none⟩) hw7).trans hs.1.2.2.1, (World.cell?_of_block (a := ⟨g7, X * 5 + 3, none⟩) hw7).trans hs.1.2.2.2.1, (World.cell?_of_block (a := ⟨g7, X * 5 + 4, none⟩) hw7).trans hs.1.2.2.2.2⟩, (World.cell?_of_block (a := ⟨g, X * 6 + 5, none⟩) hw).trans hs.2⟩
  have HPF : Hid (∀ w', Below w2.heap.size w2 w' → Calls Tryz.prog 43 #[.slice (some ⟨g7, 0, none⟩) hs.length c7, .int .i64 (X : Int)] w' fun e w'' => ∃ vp vs, e = .returned (.agg #[vp, vs]) ∧ Pks w'.heap.size vp PK w'' ∧ Pks w'.heap.size vs STP w'' ∧ Below w'.heap.size w' w'') := fun w' hb => HP5.out g7 c7 w' (HA7.out.below hb HA7.out.1)
  have HRT : Hid (∀ w', Below w2.heap.size w2 w' → Calls Tryz.prog 44 #[.slice (some ⟨bg, 0, none⟩) bn bc, .int .i64 (Y : Int)] w' fun e w'' => ∃ v, e = .returned v ∧ Sds w'.heap.size v SD w'' ∧ Below w'.heap.size w' w'') := fun w' hb => HR3.out w' (B2.out.trans (hb.mono B2.out.size))
  clear hlh b2 T0 L0 hg6 r7 HP5 HR3 HA7
  rw [HLL.out] at HPF ⊢
  go_upto_region 2 with fail
  have S2d := HCL.out w2.drew (Below.refl _ _).drew
  refine wp_region_noPanic ?_
  refine wp_region_held_drew (S := fun w' => (w'.cell? ⟨g7, X * 5, none⟩ = some (.string h.prev) ∧ w'.cell? ⟨g7, X * 5 + 1, none⟩ = some (.string h.root) ∧ w'.cell? ⟨g7, X * 5 + 2, none⟩ = some (.int .i64 h.time) ∧ w'.cell? ⟨g7, X * 5 + 3, none⟩ = some (.int .i64 h.diff) ∧ w'.cell? ⟨g7, X * 5 + 4, none⟩ = some (.int .i64 h.nonce)) ∧ w'.cell? ⟨g, X * 6 + 5, none⟩ = some (.slice (some ⟨bg, 0, none⟩) bn bc)) (by kernel_rfl) (S2d) (fun hHeld => ?_)
  refine takeL 0 (v := ?_) rfl (by kernel_rfl) (by kernel_rfl) (by kernel_rfl) (fun _ _ _ h => h) (by kernel_rfl) ?_ (by assumption) ?_
  rotate_left
  · intro w hSw; (try dsimp only at hSw); first | (go_simp; done) | (go_simp; with_reducible rfl)
  try simp only [Act.put, List.setIfInBounds_toArray, List.set_cons_zero, List.set_cons_succ]
  refine takeL 1 (v := ?_) rfl (by kernel_rfl) (by kernel_rfl) (by kernel_rfl) (fun _ _ _ h => h) (by kernel_rfl) ?_ (by assumption) ?_
  rotate_left
  · intro w hSw; (try dsimp only at hSw); first | (go_simp; done) | (go_simp; with_reducible rfl)
  try simp only [Act.put, List.setIfInBounds_toArray, List.set_cons_zero, List.set_cons_succ]
  refine takeL 2 (v := ?_) rfl (by kernel_rfl) (by kernel_rfl) (by kernel_rfl) (fun _ _ _ h => h) (by kernel_rfl) ?_ (by assumption) ?_
  rotate_left
  · intro w hSw; (try dsimp only at hSw); first | (go_simp; done) | (go_simp; with_reducible rfl)
  try simp only [Act.put, List.setIfInBounds_toArray, List.set_cons_zero, List.set_cons_succ]
  refine takeL 3 (v := ?_) rfl (by kernel_rfl) (by kernel_rfl) (by kernel_rfl) (fun _ _ _ h => h) (by kernel_rfl) ?_ (by assumption) ?_
  rotate_left
  · intro w hSw; (try dsimp only at hSw); first | (go_simp; done) | (go_simp; with_reducible rfl)
  try simp only [Act.put, List.setIfInBounds_toArray, List.set_cons_zero, List.set_cons_succ]
  refine takeL 4 (v := ?_) rfl (by kernel_rfl) (by kernel_rfl) (by kernel_rfl) (fun _ _ _ h => h) (by kernel_rfl) ?_ (by assumption) ?_
  rotate_left
  · intro w hSw; (try dsimp only at hSw); first | (go_simp; done) | (go_simp; with_reducible rfl)
  try simp only [Act.put, List.setIfInBounds_toArray, List.set_cons_zero, List.set_cons_succ]
  refine takeL 5 (v := ?_) rfl (by kernel_rfl) (by kernel_rfl) (by kernel_rfl) (fun _ _ _ h => h) (by kernel_rfl) ?_ (by assumption) ?_
  rotate_left
  · intro w hSw; (try dsimp only at hSw); first | (go_simp; done) | (go_simp; with_reducible rfl)
  try simp only [Act.put, List.setIfInBounds_toArray, List.set_cons_zero, List.set_cons_succ]
  refine takeL 6 (v := ?_) rfl (by kernel_rfl) (by kernel_rfl) (by kernel_rfl) (fun _ _ _ h => h) (by kernel_rfl) ?_ (by assumption) ?_
  rotate_left
  · intro w hSw; (try dsimp only at hSw); first | (go_simp; done) | (go_simp; with_reducible rfl)
  try simp only [Act.put, List.setIfInBounds_toArray, List.set_cons_zero, List.set_cons_succ]
  refine takeL 8 (v := ?_) rfl (by kernel_rfl) (by kernel_rfl) (by kernel_rfl) (fun _ _ _ h => h) (by kernel_rfl) ?_ (by assumption) ?_
  rotate_left
  · intro w hSw; (try dsimp only at hSw); first | (go_simp; done) | (go_simp; with_reducible rfl)
  try simp only [Act.put, List.setIfInBounds_toArray, List.set_cons_zero, List.set_cons_succ]
  refine takeL 9 (v := ?_) rfl (by kernel_rfl) (by kernel_rfl) (by kernel_rfl) (fun _ _ _ h => h) (by kernel_rfl) ?_ (by assumption) ?_
  rotate_left
  · intro w hSw; (try dsimp only at hSw); first | (go_simp; done) | (go_simp; with_reducible rfl)
  try simp only [Act.put, List.setIfInBounds_toArray, List.set_cons_zero, List.set_cons_succ]
  refine takeL 10 (v := ?_) rfl (by kernel_rfl) (by kernel_rfl) (by kernel_rfl) (fun _ _ _ h => h) (by kernel_rfl) ?_ (by assumption) ?_
  rotate_left
  · intro w hSw; (try dsimp only at hSw); first | (go_simp; done) | (go_simp; with_reducible rfl)
  try simp only [Act.put, List.setIfInBounds_toArray, List.set_cons_zero, List.set_cons_succ]
  refine takeL 11 (v := ?_) rfl (by kernel_rfl) (by kernel_rfl) (by kernel_rfl) (fun _ _ _ h => h) (by kernel_rfl) ?_ (by assumption) ?_
  rotate_left
  · intro w hSw; (try dsimp only at hSw); first | (go_simp; done) | (go_simp; with_reducible rfl)
  try simp only [Act.put, List.setIfInBounds_toArray, List.set_cons_zero, List.set_cons_succ]
  refine takeL 12 (v := ?_) rfl (by kernel_rfl) (by kernel_rfl) (by kernel_rfl) (fun _ _ _ h => h) (by kernel_rfl) ?_ (by assumption) ?_
  rotate_left
  · intro w hSw; (try dsimp only at hSw); first | (go_simp; done) | (go_simp; with_reducible rfl)
  try simp only [Act.put, List.setIfInBounds_toArray, List.set_cons_zero, List.set_cons_succ]
  refine takeL 13 (v := ?_) rfl (by kernel_rfl) (by kernel_rfl) (by kernel_rfl) (fun _ _ _ h => h) (by kernel_rfl) ?_ (by assumption) ?_
  rotate_left
  · intro w hSw; (try dsimp only at hSw); first | (go_simp; done) | (go_simp; with_reducible rfl)
  try simp only [Act.put, List.setIfInBounds_toArray, List.set_cons_zero, List.set_cons_succ]
  refine callL 7 rfl (by kernel_rfl) (fun K hK => ?_)
  go_simp
  refine (HPF.out _ (Below.refl _ _).drew).mono ?_
  rintro e w3 ⟨vp, vs, rfl, k1, k2, b3⟩
  obtain ⟨pa, pn, pc, rfl⟩ := pks_slice k1
  obtain ⟨sa, sn, sc, rfl⟩ := pks_slice k2
  have C3 : Hid (Below w2.heap.size w2 w3) := ((Below.refl w2.heap.size w2).drew).trans b3
  have K1 : Hid (Pks (g6 + 1) (.slice pa pn pc) PK w3) := k1.mono HS2.out
  have K2 : Hid (Pks (g6 + 1) (.slice sa sn sc) STP w3) := k2.mono HS2.out
  have S3 := HCL.out w3 C3.out
  clear b3 k1 k2
  go_wp2_with fail
  refine hK.out _ _ ?_ (fun hHeld => ?_)
  · first | (with_reducible exact S3) | (with_reducible exact S4) | exact HCS.out w4 _ (set9_other HGN.out.1 (.int .i64 (X : Int)) (.string h.prev) (.string h.root) (.int .i64 h.time) (.int .i64 h.diff) (.int .i64 h.nonce) (.slice pa pn pc) (.slice sa sn sc) (.slice da dn dc)) (set9_other HGN.out.2 (.int .i64 (X : Int)) (.string h.prev) (.string h.root) (.int .i64 h.time) (.int .i64 h.diff) (.int .i64 h.nonce) (.slice pa pn pc) (.slice sa sn sc) (.slice da dn dc)) S4
  clear hK K
  try simp only [Act.put, List.setIfInBounds_toArray, List.set_cons_zero, List.set_cons_succ]
  refine callL 14 rfl (by kernel_rfl) (fun K hK => ?_)
  go_simp
  refine (HRT.out _ C3.out).mono ?_
  rintro e w4 ⟨vd, rfl, k3, b4⟩
  obtain ⟨da, dn, dc, rfl⟩ := sds_slice k3
  have C4 : Hid (Below w2.heap.size w2 w4) := C3.out.trans (b4.mono C3.out.size)
  have K3 : Hid (Sds (g6 + 1) (.slice da dn dc) SD w4) := k3.mono (Nat.le_trans HS2.out C3.out.size)
  have T4 : Hid (CBk w4 g6 30 #[.int .i64 0, .string ⟨#[]⟩, .string ⟨#[]⟩, .int .i64 0, .int .i64 0, .int .i64 0, .slice none 0 0, .slice none 0 0, .slice none 0 0]) := HT2.out.call C4.out
  have K14 : Hid (Pks (g6 + 1) (.slice pa pn pc) PK w4) := K1.out.below b4
  have K24 : Hid (Pks (g6 + 1) (.slice sa sn sc) STP w4) := K2.out.below b4
  have S4 := HCL.out w4 C4.out
  obtain ⟨e0, e1, e2, e3, e4, e5, e6, e7, e8⟩ := T4.out.nineP
  obtain ⟨f0, f1, f2, f3, f4, f5, f6, f7, f8⟩ := T4.out.nineZ
  clear b4 k3
  go_wp2_with fail
  refine hK.out _ _ ?_ (fun hHeld => ?_)
  · first | (with_reducible exact S3) | (with_reducible exact S4) | exact HCS.out w4 _ (set9_other HGN.out.1 (.int .i64 (X : Int)) (.string h.prev) (.string h.root) (.int .i64 h.time) (.int .i64 h.diff) (.int .i64 h.nonce) (.slice pa pn pc) (.slice sa sn sc) (.slice da dn dc)) (set9_other HGN.out.2 (.int .i64 (X : Int)) (.string h.prev) (.string h.root) (.int .i64 h.time) (.int .i64 h.diff) (.int .i64 h.nonce) (.slice pa pn pc) (.slice sa sn sc) (.slice da dn dc)) S4
  clear hK K
  try simp only [Act.put, List.setIfInBounds_toArray, List.set_cons_zero, List.set_cons_succ]
  refine takeL 15 (v := ?_) rfl (by kernel_rfl) (by kernel_rfl) (by kernel_rfl) (fun _ _ _ h => h) (by kernel_rfl) ?_ (by assumption) ?_
  rotate_left
  · intro w hSw; (try dsimp only at hSw); first | (go_simp; done) | (go_simp; with_reducible rfl)
  try simp only [Act.put, List.setIfInBounds_toArray, List.set_cons_zero, List.set_cons_succ]
  refine callL 16 rfl (by kernel_rfl) (fun K hK => ?_)
  go_simp
  refine hK.out _ _ ?_ (fun hHeld => ?_)
  · first | (with_reducible exact S3) | (with_reducible exact S4) | exact HCS.out w4 _ (set9_other HGN.out.1 (.int .i64 (X : Int)) (.string h.prev) (.string h.root) (.int .i64 h.time) (.int .i64 h.diff) (.int .i64 h.nonce) (.slice pa pn pc) (.slice sa sn sc) (.slice da dn dc)) (set9_other HGN.out.2 (.int .i64 (X : Int)) (.string h.prev) (.string h.root) (.int .i64 h.time) (.int .i64 h.diff) (.int .i64 h.nonce) (.slice pa pn pc) (.slice sa sn sc) (.slice da dn dc)) S4
  clear hK K
  try simp only [Act.put, List.setIfInBounds_toArray, List.set_cons_zero, List.set_cons_succ]
  refine wpAnyH_done (by kernel_rfl) ?_ _
  refine NoPanic.normal ?_
  have HFIN : Hid (CBk (((((((((w4.setCell ⟨g6, 0, none⟩ (.int .i64 (X : Int))).setCell ⟨g6, 1, none⟩ (.string h.prev)).setCell ⟨g6, 2, none⟩ (.string h.root)).setCell ⟨g6, 3, none⟩ (.int .i64 h.time)).setCell ⟨g6, 4, none⟩ (.int .i64 h.diff)).setCell ⟨g6, 5, none⟩ (.int .i64 h.nonce)).setCell ⟨g6, 6, none⟩ (.slice pa pn pc)).setCell ⟨g6, 7, none⟩ (.slice sa sn sc)).setCell ⟨g6, 8, none⟩ (.slice da dn dc)) g6 30 #[.int .i64 (X : Int), .string h.prev, .string h.root, .int .i64 h.time, .int .i64 h.diff, .int .i64 h.nonce, .slice pa pn pc, .slice sa sn sc, .slice da dn dc]) := set9_blk T4.out (.int .i64 (X : Int)) (.string h.prev) (.string h.root) (.int .i64 h.time) (.int .i64 h.diff) (.int .i64 h.nonce) (.slice pa pn pc) (.slice sa sn sc) (.slice da dn dc)
  have HFQ : Hid (Q (.returned (.agg #[.int .i64 (X : Int), .string h.prev, .string h.root, .int .i64 h.time, .int .i64 h.diff, .int .i64 h.nonce, .slice pa pn pc, .slice sa sn sc, .slice da dn dc])) (((((((((w4.setCell ⟨g6, 0, none⟩ (.int .i64 (X : Int))).setCell ⟨g6, 1, none⟩ (.string h.prev)).setCell ⟨g6, 2, none⟩ (.string h.root)).setCell ⟨g6, 3, none⟩ (.int .i64 h.time)).setCell ⟨g6, 4, none⟩ (.int .i64 h.diff)).setCell ⟨g6, 5, none⟩ (.int .i64 h.nonce)).setCell ⟨g6, 6, none⟩ (.slice pa pn pc)).setCell ⟨g6, 7, none⟩ (.slice sa sn sc)).setCell ⟨g6, 8, none⟩ (.slice da dn dc))) := HQ.out w4 g6 _ _ _ (.int .i64 (X : Int)) (.string h.prev) (.string h.root) (.int .i64 h.time) (.int .i64 h.diff) (.int .i64 h.nonce) (.slice pa pn pc) (.slice sa sn sc) (.slice da dn dc) K14.out K24.out K3.out HG6.out (B2.out.trans (C4.out.mono B2.out.size))
  clear S2d
  go_wp2_with fail
  exact bodyPost_ret (results_cell_row (p := 6) rfl _ _ g6 30 #[.int .i64 (X : Int), .string h.prev, .string h.root, .int .i64 h.time, .int .i64 h.diff, .int .i64 h.nonce, .slice pa pn pc, .slice sa sn sc, .slice da dn dc] (0, 0) _ rfl HFIN.out Tryz.underlying30 rfl (by kernel_rfl)) rfl HFQ.out

end Go.Proofs.YtialhnocknogpaaGreatDoor

set_option linter.unusedVariables false
namespace Go.Proofs.YtialhnocknogpaaGreatDoor
open Go.RowKit Go.Deep

theorem infoBlk : (Tryz.prog.info? 70).map (fun i => (i.zero, i.size, i.bytes)) = some (some (.agg #[.string ⟨#[]⟩, .string ⟨#[]⟩, .int .i64 0, .int .i64 0, .int .i64 0, .slice none 0 0]), 6, 80) := by kernel_rfl
/-- The items of some blocks, each in a block of its own at or above B, are in memory. -/
def OwnItems (B : Nat) (w : World) (bs : List BlkV) : Prop := ∀ b ∈ bs, ItemsAt w b ∧ B ≤ b.g
/-- The items' row of a block is the call's own. -/
def OwnIt (B : Nat) (w : World) (c : BlkV) : Prop := w.ownsRow B 9 1 (.slice (some ⟨c.g, 0, none⟩) c.n c.cap) c.n (c.ss.map Value.string)
theorem OwnIt.keep {B : Nat} {w w' : World} {c : BlkV} (h : OwnIt B w c) (hk : w'.heap[c.g]? = w.heap[c.g]?) : OwnIt B w' c := by
  obtain ⟨h1, h2⟩ := h
  refine ⟨h1, ?_⟩
  rcases h2 with ⟨h3, _⟩ | ⟨g', cap', cur, hv, hB, hg, h4⟩
  · cases h3
  · have e : c.g = g' := by simp only [Value.slice.injEq, Option.some.injEq, Addr.mk.injEq, and_true] at hv; exact hv.1
    exact .inr ⟨g', cap', cur, hv, hB, by rw [← e, hk, e]; exact hg, h4⟩
theorem OwnIt.mono {B C : Nat} {w : World} {c : BlkV} (h : OwnIt B w c) (hC : C ≤ B) : OwnIt C w c := by
  obtain ⟨h1, h2⟩ := h
  refine ⟨h1, ?_⟩
  rcases h2 with ⟨h3, _⟩ | ⟨g', cap', cur, hv, hB, h4⟩
  · cases h3
  · exact .inr ⟨g', cap', cur, hv, Nat.le_trans hC hB, h4⟩
theorem OwnIt.of {Z B g n c : Nat} {h : HeadV} {ss : List ByteArray} {w : World} (ho : w.ownsRow Z 9 1 (.slice (some ⟨g, 0, none⟩) (0 + n) c) (0 + n) ([] ++ ss.map Value.string)) (hB : B ≤ Z) : OwnIt B w ⟨h, g, n, c, ss⟩ := by
  rw [Nat.zero_add, List.nil_append] at ho
  exact OwnIt.mono (B := Z) (c := ⟨h, g, n, c, ss⟩) ho hB
/-- A list of blocks that the call itself has made: its row, its items, apart from each other. -/
structure BList (B : Nat) (v : Value) (cs : List BlkV) (w : World) : Prop where
  row : BRow B v cs w
  items : OwnItems B w cs
  apart : ∀ c ∈ cs, v.ownBlock ≠ some c.g
  own : ∀ c ∈ cs, OwnIt B w c
theorem BList.keep {B : Nat} {v : Value} {cs : List BlkV} {w w' : World} (h : BList B v cs w) (hs : w.heap.size ≤ w'.heap.size) (hk : ∀ g, B ≤ g → g < w.heap.size → w'.heap[g]? = w.heap[g]?) : BList B v cs w' :=
  ⟨h.row.keep hk, fun c hc => ⟨⟨⟨Nat.lt_of_lt_of_le (h.items c hc).1.1.1 hs, fun i hi => (World.cell?_of_block (a := ⟨c.g, i, none⟩) (hk c.g (h.items c hc).2 (h.items c hc).1.1.1)).trans ((h.items c hc).1.1.2 i hi)⟩, (h.items c hc).1.2⟩, (h.items c hc).2⟩, h.apart, fun c hc => (h.own c hc).keep (hk c.g (h.items c hc).2 (h.items c hc).1.1.1)⟩
theorem BList.below {B : Nat} {v : Value} {cs : List BlkV} {w w' : World} (h : BList B v cs w) (hb : Below w.heap.size w w') : BList B v cs w' := h.keep hb.size (fun g _ hg => hb.block g hg)
theorem BList.mono {B C : Nat} {v : Value} {cs : List BlkV} {w : World} (h : BList B v cs w) (hC : C ≤ B) : BList C v cs w := ⟨h.row.mono hC, fun c hc => ⟨(h.items c hc).1, Nat.le_trans hC (h.items c hc).2⟩, h.apart, fun c hc => (h.own c hc).mono hC⟩
/-- Two lists of blocks tell the same. -/
def SameBlks (bs cs : List BlkV) : Prop := cs.map (·.h) = bs.map (·.h) ∧ cs.map (·.ss) = bs.map (·.ss)

theorem atS_far {w w' : World} {g : Nat} {zs : List ByteArray} (h : AtS w g zs) (hk : w'.heap[g]? = w.heap[g]?) (hs : w.heap.size ≤ w'.heap.size) : AtS w' g zs :=
  ⟨Nat.lt_of_lt_of_le h.1 hs, fun i hi => (World.cell?_of_block (a := ⟨g, i, none⟩) hk).trans (h.2 i hi)⟩
theorem srow_of {B n g cap : Nat} {zs : List ByteArray} {w : World} (h : w.ownsRow B 9 1 (.slice (some ⟨g, 0, none⟩) n cap) n (zs.map Value.string)) (hn : n = zs.length) : SRow B (.slice (some ⟨g, 0, none⟩) n cap) zs w := by
  subst hn
  exact ⟨⟨g, cap, rfl⟩, h⟩

theorem AtS.news {w w' : World} {g : Nat} {ss : List ByteArray} (h : AtS w g ss) (hb : Below w.heap.size w w') : ∀ j u, (ss.map Value.string)[j]? = some u → w'.cell? ((⟨g, 0, none⟩ : Addr).add j) = some u := by
  intro j u hj
  have hjl : j < ss.length := by
    rcases Nat.lt_or_ge j ss.length with h' | h'
    · exact h'
    · rw [List.getElem?_eq_none (by simpa using h')] at hj; cases hj
  have e1 : (⟨g, 0, none⟩ : Addr).add j = ⟨g, j, none⟩ := by unfold Addr.add; split <;> simp_all
  rw [e1, hb.cell (p := ⟨g, j, none⟩) h.1]
  have e3 : u = .string (ss.getD j ByteArray.empty) := by
    rw [List.getElem?_map, List.getElem?_eq_getElem hjl] at hj
    rw [List.getD_eq_getElem?_getD, List.getElem?_eq_getElem hjl]
    exact (Option.some.inj hj).symm
  rw [e3]
  exact h.2 j hjl
theorem itemsOneCell (ss : List ByteArray) : ∀ u ∈ ss.map Value.string, u.oneCell' = true := by
  intro u hu
  obtain ⟨x, _, rfl⟩ := List.mem_map.1 hu
  rfl

set_option maxHeartbeats 4000000 in
set_option maxRecDepth 100000 in
theorem specL4Copy (g n cap : Nat) (bs : List BlkV) (w : World) (h : AtBlk w g bs) (hit : ∀ b ∈ bs, ItemsAt w b) (hn : n = bs.length) (hm : n ≤ 1048576) (hs : ∀ b ∈ bs, b.ss.length ≤ 1048576) :
    Calls Tryz.prog 63 #[.slice (some ⟨g, 0, none⟩) n cap] w fun e w' => ∃ v cs, e = .returned v ∧ BList w.heap.size v cs w' ∧ SameBlks bs cs ∧ Below w.heap.size w w' := by
  obtain ⟨i0, hi, hz0, hz1, hz2⟩ := info3 infoBlk
  obtain ⟨j0, ji, jz0, jz1, jz2⟩ := info_parts infoStr
  have HA : Hid (AtBlk w g bs) := h
  have HN : Hid (n = bs.length) := hn
  have HI : Hid (∀ b ∈ bs, ItemsAt w b ∧ b.ss.length ≤ 1048576) := fun b hb => ⟨hit b hb, hs b hb⟩
  have R0 : Hid (BRow w.heap.size (.slice (some ⟨w.heap.size, 0, none⟩) 0 0) [] (w.alloc (.cells #[] 70))) := frow_new _ _ _ w
  have B0 : Hid (Below w.heap.size w (w.alloc (.cells #[] 70))) := (Below.refl _ w).alloc (Nat.le_refl _) _
  clear h hn hit hs
  go_enter Tryz.func63, Tryz.ntmps63
  go_wp2_with fail
  go_loopw [3, 4] (fun v i wr => ∃ (k g2 c2 : Nat) (cs : List BlkV), k ≤ n ∧ i = .int .i64 (k : Int) ∧ v = .slice (some ⟨g2, 0, none⟩) k c2 ∧ Hid (BRow w.heap.size v cs wr) ∧ Hid (OwnItems w.heap.size wr cs ∧ (∀ c ∈ cs, c.g ≠ g2) ∧ ∀ c ∈ cs, OwnIt w.heap.size wr c) ∧ Hid (SameBlks (bs.take k) cs) ∧ Hid (Below w.heap.size w wr)) (fun _ i _ => n - (intOf i).toNat)
  case atStart => exact ⟨0, w.heap.size, 0, [], by omega, rfl, rfl, R0, ⟨(fun c hc => by cases hc), (fun c hc => by cases hc), (fun c hc => by cases hc)⟩, ⟨rfl, rfl⟩, B0⟩
  case round =>
    clear R0 B0
    obtain ⟨k, g2, c2, cs, hk, rfl, rfl, R, HO, HSm, HB⟩ := hrel
    by_cases hlt : k < n
    · have hkl : k < bs.length := by rw [← HN.out]; exact hlt
      have HAr : Hid (AtBlk wr g bs) := HA.out.below HB.out HA.out.1
      have q0 := AtBlk.c0 HAr.out k hkl
      have q1 := AtBlk.c1 HAr.out k hkl
      have q2 := AtBlk.c2 HAr.out k hkl
      have q3 := AtBlk.c3 HAr.out k hkl
      have q4 := AtBlk.c4 HAr.out k hkl
      have q5 := AtBlk.c5 HAr.out k hkl
      have hgl := HAr.out.1
      have lk : (k : Int) < (n : Int) := by omega
      have lk0 : (0 : Int) ≤ (k : Int) := by omega
      have wk : IntKind.i64.wrap ((k : Int) + 1) = (k : Int) + 1 := by rw [IntKind.wrap_i64]; omega
      have HK : Hid (k + 1 ≤ n) := hlt
      have hbm : bs.getD k default ∈ bs := by rw [List.getD_eq_getElem?_getD, List.getElem?_eq_getElem hkl]; exact List.getElem_mem hkl
      have HIb := HI.out _ hbm
      have hcl : cs.length = k := by
        have := congrArg List.length HSm.out.1
        rw [List.length_map, List.length_map, List.length_take] at this
        omega
      have HOW : Hid (wr.ownsRow w.heap.size 70 6 (.slice (some ⟨g2, 0, none⟩) k c2) k (cs.flatMap enBlk)) := by
        have := R.out.2
        rw [hcl] at this
        exact this
      have HT : Hid (bs.take (k + 1) = bs.take k ++ [bs.getD k default]) := by
        show _ = _
        rw [List.take_add_one, List.getElem?_eq_getElem hkl]
        simp [List.getElem?_eq_getElem hkl]
      generalize bs.getD k default = b at q0 q1 q2 q3 q4 q5 HIb HT
      obtain ⟨bh, bg, bn, bc, bss⟩ := b
      dsimp only at q0 q1 q2 q3 q4 q5
      have hbn : bn = bss.length := HIb.1.2
      have HIt : Hid (AtS wr bg bss) := HIb.1.1.below HB.out HIb.1.1.1
      have hbl : bss.length ≤ 1048576 := HIb.2
      have hgb := HIt.out.1
      have hsz := HB.out.size
      have HBN : Hid (bn = bss.length) := hbn
      have hnl : bn ≤ 1048576 := by omega
      have HS0 : Hid ((wr.drew.alloc (.cells #[] 9)).ownsRow wr.heap.size 9 1 (.slice (some ⟨wr.heap.size, 0, none⟩) 0 0) 0 []) := (srow_new wr.drew).2
      have HNW : Hid (∀ j u, (bss.map Value.string)[j]? = some u → (wr.drew.alloc (.cells #[] 9)).cell? ((⟨bg, 0, none⟩ : Addr).add j) = some u) := by
        intro j u hj
        have hjl : j < bss.length := by
          rcases Nat.lt_or_ge j bss.length with h' | h'
          · exact h'
          · rw [List.getElem?_eq_none (by simpa using h')] at hj; cases hj
        have e1 : (⟨bg, 0, none⟩ : Addr).add j = ⟨bg, j, none⟩ := by unfold Addr.add; split <;> simp_all
        rw [e1, ((Below.refl wr.heap.size wr).drew.alloc (Nat.le_refl _) _).cell (p := ⟨bg, j, none⟩) hgb]
        have e2 := HIt.out.2 j hjl
        have e3 : u = .string (bss.getD j ByteArray.empty) := by
          rw [List.getElem?_map, List.getElem?_eq_getElem hjl] at hj
          rw [List.getD_eq_getElem?_getD, List.getElem?_eq_getElem hjl]
          exact (Option.some.inj hj).symm
        rw [e3]
        exact e2
      have HM1 : Hid ((bss.map Value.string).length = bn * 1) := by show _ = _; rw [List.length_map, HBN.out, Nat.mul_one]
      have HU1 : Hid (∀ u ∈ bss.map Value.string, u.oneCell' = true) := by
        intro u hu
        obtain ⟨x, _, rfl⟩ := List.mem_map.1 hu
        rfl
      have hx1 : 0 + bn ≤ maxLen := by unfold maxLen; omega
      have hx2 : (0 + bn) * 16 ≤ 140737488355328 := by omega
      have hy1 : k + 1 ≤ maxLen := by unfold maxLen; omega
      have hy2 : (k + 1) * 80 ≤ 140737488355328 := by omega
      have hg2 : g2 < wr.heap.size := by
        obtain ⟨g', c', cur, hv, _, hl', _⟩ := R.out.block
        simp only [Value.slice.injEq, Option.some.injEq, Addr.mk.injEq, and_true] at hv
        rw [hv.1]
        exact hl'
      have HR3 : Hid (∀ w3, Below wr.heap.size wr w3 → w3.ownsRow w.heap.size 70 6 (.slice (some ⟨g2, 0, none⟩) k c2) k (cs.flatMap enBlk)) := fun w3 b3 => by
        have := (R.out.below b3).2
        rw [hcl] at this
        exact this
      have hne : ¬ g = g2 := by
        obtain ⟨g', c', cur, hv, hB', _⟩ := R.out.block
        simp only [Value.slice.injEq, Option.some.injEq, Addr.mk.injEq, and_true] at hv
        have := HA.out.1
        omega
      clear HIb hbm hkl hbn hbl HOW
      go_wp2_with fail
      go_region_held3 (fun w' => w'.cell? ⟨g, k * 6, none⟩ = some (.string bh.prev) ∧ w'.cell? ⟨g, k * 6 + 1, none⟩ = some (.string bh.root) ∧ w'.cell? ⟨g, k * 6 + 2, none⟩ = some (.int .i64 bh.time) ∧ w'.cell? ⟨g, k * 6 + 3, none⟩ = some (.int .i64 bh.diff) ∧ w'.cell? ⟨g, k * 6 + 4, none⟩ = some (.int .i64 bh.nonce) ∧ w'.cell? ⟨g, k * 6 + 5, none⟩ = some (.slice (some ⟨bg, 0, none⟩) bn bc))
        (first | go_keep | (exact ⟨(b3.cell (p := ⟨g, k * 6, none⟩) hgl).trans q0, (b3.cell (p := ⟨g, k * 6 + 1, none⟩) hgl).trans q1, (b3.cell (p := ⟨g, k * 6 + 2, none⟩) hgl).trans q2, (b3.cell (p := ⟨g, k * 6 + 3, none⟩) hgl).trans q3, (b3.cell (p := ⟨g, k * 6 + 4, none⟩) hgl).trans q4, (b3.cell (p := ⟨g, k * 6 + 5, none⟩) hgl).trans q5⟩) | (have hfar : w4.heap[g]? = w3.heap[g]? := (hgrow4.block g (by simp; omega) (by simpa using hne)).trans (Below.heap_alloc _ _ _ (by omega)); exact ⟨(World.cell?_of_block (a := ⟨g, k * 6, none⟩) hfar).trans ((b3.cell (p := ⟨g, k * 6, none⟩) hgl).trans q0), (World.cell?_of_block (a := ⟨g, k * 6 + 1, none⟩) hfar).trans ((b3.cell (p := ⟨g, k * 6 + 1, none⟩) hgl).trans q1), (World.cell?_of_block (a := ⟨g, k * 6 + 2, none⟩) hfar).trans ((b3.cell (p := ⟨g, k * 6 + 2, none⟩) hgl).trans q2), (World.cell?_of_block (a := ⟨g, k * 6 + 3, none⟩) hfar).trans ((b3.cell (p := ⟨g, k * 6 + 3, none⟩) hgl).trans q3), (World.cell?_of_block (a := ⟨g, k * 6 + 4, none⟩) hfar).trans ((b3.cell (p := ⟨g, k * 6 + 4, none⟩) hgl).trans q4), (World.cell?_of_block (a := ⟨g, k * 6 + 5, none⟩) hfar).trans ((b3.cell (p := ⟨g, k * 6 + 5, none⟩) hgl).trans q5)⟩))
        (first
          | (refine step_append_any (by rfl) _ _ 68 (by rfl) wr.heap.size 9 j0 (.string ⟨#[]⟩) 1 16 Tryz.underlying68 ji jz0 jz1 jz2 rfl (by decide) wr.heap.size 0 0 [] (by rfl) HS0.out ⟨bg, 0, none⟩ bn bc (bss.map Value.string) (by rfl) HM1.out HNW.out HU1.out hx1 hx2 (by simp) ?_; intro g3 c3 w3 hown3 hgrow3 hat3 hlt3; have b3 : Below wr.heap.size wr w3 := ((Below.refl wr.heap.size wr).drew.alloc (Nat.le_refl _) _).grown hgrow3 (by simp) (fun j hj => by cases hj; exact Nat.le_refl _); have hsz3 := b3.size; clear HS0)
          | (refine step_append_any (by rfl) _ _ 66 (by rfl) w.heap.size 70 i0 (.agg #[.string ⟨#[]⟩, .string ⟨#[]⟩, .int .i64 0, .int .i64 0, .int .i64 0, .slice none 0 0]) 6 80 Tryz.underlying66 hi hz0 hz1 hz2 rfl (by decide) g2 c2 k _ (by rfl) (World.ownsRow.alloc (HR3.out _ b3) _) ⟨w3.heap.size, 0, none⟩ 1 1 (enBlk ⟨bh, g3, bn, c3, bss⟩) (by rfl) rfl (cells_new w3 _ _) (enBlk_one _) hy1 hy2 (by simp; omega) ?_; intro g4 c4 w4 hown4 hgrow4 hat4 hlt4))
      have hg3 : wr.heap.size ≤ g3 := by
        rcases hat3.out with h | h
        · omega
        · rw [h]; simp
      have hown3' := hown3
      have F3 : Hid (AtS w3 g3 bss) := by
        rw [Nat.zero_add] at hown3
        exact (SRow.at (srow_of (by simpa using hown3) HBN.out)).1
      have HFAR : Hid (∀ c, c < w3.heap.size → c ≠ g2 → w4.heap[c]? = w3.heap[c]?) := fun c hc hne' => (hgrow4.block c (by simp; omega) (by simpa using hne')).trans (Below.heap_alloc _ _ _ hc)
      have hsz4 : w3.heap.size ≤ w4.heap.size := Nat.le_trans (by simp) hgrow4.size
      have B4 : Hid (Below w.heap.size w w4) := ((HB.out.trans (b3.mono hsz)).alloc (by omega) _).grown hgrow4 (by simp; omega) (fun j hj => by
        cases hj
        obtain ⟨g', c', cur, hv, hB', _⟩ := R.out.block
        simp only [Value.slice.injEq, Option.some.injEq, Addr.mk.injEq, and_true] at hv
        omega)
      have R4 : Hid (BRow w.heap.size (.slice (some ⟨g4, 0, none⟩) (k + 1) c4) (cs ++ [⟨bh, g3, bn, c3, bss⟩]) w4) := by
        refine FRow.of ?_ ?_
        · rw [List.flatMap_append]
          simpa using hown4
        · rw [List.length_append, hcl]; rfl
      have O4 : Hid (OwnItems w.heap.size w4 (cs ++ [⟨bh, g3, bn, c3, bss⟩]) ∧ (∀ c ∈ cs ++ [(⟨bh, g3, bn, c3, bss⟩ : BlkV)], c.g ≠ g4) ∧ ∀ c ∈ cs ++ [(⟨bh, g3, bn, c3, bss⟩ : BlkV)], OwnIt w.heap.size w4 c) := by
        have hold : ∀ c ∈ cs, c.g < wr.heap.size ∧ c.g ≠ g2 ∧ w.heap.size ≤ c.g := fun c hc => ⟨(HO.out.1 c hc).1.1.1, HO.out.2.1 c hc, (HO.out.1 c hc).2⟩
        have hg4 : g4 = g2 ∨ w3.heap.size ≤ g4 := by
          rcases hat4.out with h | h
          · exact .inl h.symm
          · exact .inr (by rw [h]; simp)
        have hlt3' := hlt3.out
        refine ⟨?_, ?_, ?_⟩
        · intro c hc
          rcases List.mem_append.1 hc with h | h
          · have h1 := hold c h
            have h2 := (HO.out.1 c h).1
            exact ⟨⟨atS_far (h2.1.below b3 h1.1) (HFAR.out _ (by omega) h1.2.1) hsz4, h2.2⟩, h1.2.2⟩
          · obtain rfl := List.mem_singleton.1 h
            exact ⟨⟨atS_far F3.out (HFAR.out _ hlt3' (by show g3 ≠ g2; omega)) hsz4, HBN.out⟩, by show _ ≤ g3; omega⟩
        · intro c hc
          rcases List.mem_append.1 hc with h | h
          · have h1 := hold c h
            rcases hg4 with h' | h' <;> omega
          · obtain rfl := List.mem_singleton.1 h
            show g3 ≠ g4
            rcases hg4 with h' | h' <;> omega
        · intro c hc
          rcases List.mem_append.1 hc with h | h
          · have h1 := hold c h
            exact ((HO.out.2.2 c h).keep (b3.block _ h1.1)).keep (HFAR.out _ (by omega) h1.2.1)
          · obtain rfl := List.mem_singleton.1 h
            exact OwnIt.keep (c := ⟨bh, g3, bn, c3, bss⟩) (OwnIt.of hown3' hsz) (HFAR.out _ hlt3' (by show g3 ≠ g2; omega))
      have S4 : Hid (SameBlks (bs.take (k + 1)) (cs ++ [⟨bh, g3, bn, c3, bss⟩])) := by
        refine ⟨?_, ?_⟩ <;> rw [HT.out, List.map_append, List.map_append]
        · rw [HSm.out.1]; rfl
        · rw [HSm.out.2]; rfl
      clear hown3 hown3' hgrow3 hown4 hgrow4 hat3 hat4 hlt3 hlt4 HFAR F3 b3 HO R HSm HNW
      go_wp2_with fail
      go_roundw
      case rel => exact ⟨k + 1, g4, c4, _, HK.out, by go_num, rfl, R4, O4, S4, B4⟩
      case measure => have := HK.out; simp [intOf]; omega
    · obtain rfl : k = n := by omega
      have HE : Hid (bs.take k = bs) := by show _ = _; rw [HN.out, List.take_length]
      go_wp2_with fail
      go_ret
      exact ⟨_, cs, rfl, ⟨R.out, HO.out.1, fun c hc h => HO.out.2.1 c hc (by simpa [Value.ownBlock] using h.symm), HO.out.2.2⟩, by rw [HE.out] at HSm; exact HSm.out, HB.out⟩

end Go.Proofs.YtialhnocknogpaaGreatDoor

set_option linter.unusedVariables false
namespace Go.Proofs.YtialhnocknogpaaGreatDoor
open Go.RowKit

theorem ok_nonce {h : HeadV} {k : Nat} (hk : k ≤ 400) : headOkB (headNo h k) = headOkB (headNo h 0) := by
  have e1 : decide (0 ≤ (headNo h k).nonce ∧ (headNo h k).nonce ≤ 400) = true := decide_eq_true (by show 0 ≤ (k : Int) ∧ (k : Int) ≤ 400; omega)
  have e2 : decide (0 ≤ (headNo h 0).nonce ∧ (headNo h 0).nonce ≤ 400) = true := decide_eq_true (by show 0 ≤ ((0 : Nat) : Int) ∧ ((0 : Nat) : Int) ≤ 400; omega)
  unfold headOkB
  rw [e1, e2]
  rfl

set_option maxHeartbeats 1000000 in
set_option maxRecDepth 100000 in
theorem specL3Mine (h : HeadV) (w : World) (hok : headOkB (headNo h 0) = true) :
    Calls Tryz.prog 62 #[headVal h] w fun e w' => e = .returned (.tuple #[headVal (headMine h).1, .bool (headMine h).2]) ∧ Below w.heap.size w w' := by
  have HME : Hid (∀ k, k ≤ 400 → headMeets (headNo h k) = true → (∀ j, j < k → headMeets (headNo h j) = false) → headMine h = (headNo h k, true)) := fun k => headMine_yes
  have HNO : Hid ((∀ j, j < 401 → headMeets (headNo h j) = false) → headMine h = (zeroH, false)) := headMine_no
  have HMT := fun (k : Nat) (hk : k ≤ 400) w' => specL3Meets (headNo h k) w' ((ok_nonce hk).trans hok)
  generalize headMine h = M at HME HNO ⊢
  clear hok
  obtain ⟨p, r, t, d, n⟩ := h
  unfold headNo at HMT HME HNO
  unfold headVal at HMT ⊢
  dsimp only at HMT HME HNO ⊢
  have S0 : Hid (HTwo w _ p r t d 0 ⟨#[]⟩ ⟨#[]⟩ 0 0 0) := (HTwo.new w p r t d n ⟨#[]⟩ ⟨#[]⟩ 0 0 0).set4 0
  go_enter Tryz.func62, Tryz.ntmps62
  go_wp2_with fail
  go_loopw [] (fun wr => ∃ k : Nat, k ≤ 401 ∧ Hid (HTwo w wr p r t d (k : Int) ⟨#[]⟩ ⟨#[]⟩ 0 0 0) ∧ Hid (∀ j, j < k → headMeets ⟨p, r, t, d, (j : Int)⟩ = false)) (fun wr => 401 - (intOf ((wr.cell? ⟨w.heap.size, 4, none⟩).getD undef)).toNat)
  case atStart => exact ⟨0, by omega, by first | exact S0 | exact HTwo.new w p r t d 0 ⟨#[]⟩ ⟨#[]⟩ 0 0 0, fun j hj => by omega⟩
  case round =>
    clear S0
    obtain ⟨k, hk, S0, HJ⟩ := hrel
    obtain ⟨c0, c1, c2, c3, c4, z0, z1, z2, z3, z4⟩ := S0.out.1.facts
    obtain ⟨d0, d1, d2, d3, d4, f0, f1, f2, f3, f4⟩ := S0.out.2.1.facts
    by_cases hlt : k < 401
    · have lk : (k : Int) ≤ 400 := by omega
      have hmt := HMT k (by omega)
      have HMk := HME.out k (by omega)
      have HMk' : Hid (headMeets ⟨p, r, t, d, (k : Int)⟩ = true → M = (⟨p, r, t, d, (k : Int)⟩, true)) := fun h => HMk h HJ.out
      have HJ2 : Hid (headMeets ⟨p, r, t, d, (k : Int)⟩ = false → ∀ j, j < k + 1 → headMeets ⟨p, r, t, d, (j : Int)⟩ = false) := by
        intro h j hj
        rcases Nat.lt_or_ge j k with h' | h'
        · exact HJ.out j h'
        · obtain rfl : j = k := by omega
          exact h
      clear HMT HME HMk
      generalize headMeets ⟨p, r, t, d, (k : Int)⟩ = b at hmt HMk' HJ2
      go_wp2_with fail
      refine (hmt _).mono ?_
      rintro e w1 ⟨rfl, b1⟩
      have S2 : Hid (HTwo w w1 p r t d (k : Int) ⟨#[]⟩ ⟨#[]⟩ 0 0 0) := S0.out.call b1
      have HC4 : Hid (wr.cell? ⟨w.heap.size, 4, none⟩ = some (.int .i64 (k : Int))) := c4
      clear c0 c1 c2 c3 c4 z0 z1 z2 z3 z4 d0 d1 d2 d3 d4 f0 f1 f2 f3 f4 S0 b1 hmt
      obtain ⟨c0, c1, c2, c3, c4, z0, z1, z2, z3, z4⟩ := S2.out.1.facts
      obtain ⟨d0, d1, d2, d3, d4, f0, f1, f2, f3, f4⟩ := S2.out.2.1.facts
      cases b with
      | true =>
        have S4 : Hid (HTwo w _ p r t d (k : Int) p r t d (k : Int)) := S2.out.back p r t d (k : Int)
        have HM : Hid (M = (⟨p, r, t, d, (k : Int)⟩, true)) := HMk'.out (by first | rfl | trivial)
        clear HMk' HJ2
        go_wp2_with fail
        exact bodyPost_ret (results_row_tmp (p := 2) (u := 3) rfl _ _ (w.heap.size + 1) 24 #[.string p, .string r, .int .i64 t, .int .i64 d, .int .i64 (k : Int)] (0, 0) _ rfl S4.out.2.1 Tryz.underlying24 rfl (by kernel_rfl)) rfl ⟨by rw [HM.out]; rfl, S4.out.2.2⟩
      | false =>
        have HJ4 : Hid (∀ j, j < k + 1 → headMeets ⟨p, r, t, d, (j : Int)⟩ = false) := HJ2.out (by first | rfl | trivial)
        clear HJ2 HJ HMk'
        have HK1 : Hid (k + 1 ≤ 401) := hlt
        have S5 : Hid (HTwo w (w1.setCell ⟨w.heap.size, 4, none⟩ (.int .i64 ((k : Int) + 1))) p r t d ((k + 1 : Nat) : Int) ⟨#[]⟩ ⟨#[]⟩ 0 0 0) := S2.out.set4 ((k + 1 : Nat) : Int)
        have wk : IntKind.i64.wrap ((k : Int) + 1) = (k : Int) + 1 := by rw [IntKind.wrap_i64]; omega
        go_wp2_with fail
        go_roundw
        case rel => exact ⟨k + 1, HK1.out, S5, HJ4⟩
        case measure =>
          have e1 := S5.out.1.facts.2.2.2.2.1
          rw [e1, HC4.out]
          have := HK1.out
          simp [intOf]
          omega
    · obtain rfl : k = 401 := by omega
      have HM : Hid (M = (zeroH, false)) := HNO.out HJ.out
      have S4 : Hid (HTwo w _ p r t d ((401 : Nat) : Int) ⟨#[]⟩ ⟨#[]⟩ 0 0 0) := S0.out.back ⟨#[]⟩ ⟨#[]⟩ 0 0 0
      clear HMT HME
      go_wp2_with fail
      exact bodyPost_ret (results_row_tmp (p := 2) (u := 3) rfl _ _ (w.heap.size + 1) 24 #[.string ⟨#[]⟩, .string ⟨#[]⟩, .int .i64 0, .int .i64 0, .int .i64 0] (0, 0) _ rfl S4.out.2.1 Tryz.underlying24 rfl (by kernel_rfl)) rfl ⟨by rw [HM.out]; rfl, S4.out.2.2⟩

end Go.Proofs.YtialhnocknogpaaGreatDoor

