/-
  Peaks in memory.
-/
import Derived.Test.YtjeldedjhlicmaaDoorProg
import Derived.WalkKit
import Derived.Below
import Derived.Deep.Slices
import Derived.Deep.SlicePairs
import Derived.OpenShut
import Derived.ShutString
import Derived.Laws.Rows
set_option linter.unusedVariables false
namespace Go.Proofs.YtjeldedjhlicmaaDoor
open Go.RowKit Go.Deep

structure PeakV where
  sum : ByteArray
  work : Int
  count : Int
instance : Inhabited PeakV := ⟨⟨⟨#[]⟩, 0, 0⟩⟩
/-- The three cells of a peak. -/
def PeakAt (w : World) (x : Addr) (p : PeakV) : Prop := w.cell? x = some (.string p.sum) ∧ w.cell? ⟨x.block, x.off + 1, none⟩ = some (.int .i64 p.work) ∧ w.cell? ⟨x.block, x.off + 2, none⟩ = some (.int .i64 p.count)
def PeakV.val (p : PeakV) : Value := .agg #[.string p.sum, .int .i64 p.work, .int .i64 p.count]
/-- A slice of peaks as it comes in. -/
def IsPeaks (w : World) (a : Option Addr) (len cap : Nat) (ps : List PeakV) : Prop :=
  (a = none ∧ len = 0 ∧ cap = 0 ∧ ps = []) ∨ ∃ x : Addr, a = some x ∧ len ≤ cap ∧ cap ≤ maxLen ∧ ps.length = len ∧ (∀ i, i < len → PeakAt w (x.add (i * 3)) (ps.getD i default)) ∧ ∀ p ∈ ps, p.sum.size ≤ maxLen
theorem IsPeaks.len {w : World} {a : Option Addr} {len cap : Nat} {ps : List PeakV} (h : IsPeaks w a len cap ps) : ps.length = len := by
  rcases h with ⟨_, h1, _, h2⟩ | ⟨x, _, _, _, h1, _⟩
  · rw [h1, h2]; rfl
  · exact h1
theorem IsPeaks.at {w w' : World} {a : Option Addr} {len cap : Nat} {ps : List PeakV} (h : IsPeaks w a len cap ps) (hb : Below w.heap.size w w') (i : Nat) (hi : i < len) : ∃ x : Addr, a = some x ∧ PeakAt w' (x.add (i * 3)) (ps.getD i default) := by
  rcases h with ⟨_, h1, _, _⟩ | ⟨x, hx, _, _, _, h2, _⟩
  · omega
  · have := h2 i hi
    have k : ∀ y v, w.cell? y = some v → w'.cell? y = some v := fun y v hy => (hb.cell (World.block_lt_of_cell? w _ hy)).trans hy
    exact ⟨x, hx, k _ _ this.1, k _ _ this.2.1, k _ _ this.2.2⟩

theorem IsPeaks.size {w : World} {a : Option Addr} {len cap : Nat} {ps : List PeakV} (h : IsPeaks w a len cap ps) (i : Nat) (hi : i < len) : (ps.getD i default).sum.size ≤ maxLen := by
  rcases h with ⟨_, h1, _, _⟩ | ⟨x, hx, _, _, hl, _, h2⟩
  · omega
  · exact h2 _ (by simp [List.getElem?_eq_getElem (show i < ps.length by omega)])
theorem szPeak1 (p : PeakV) (r : Nat) (w : World) (hr : r ≤ 1048576) (hs : p.sum.size ≤ maxLen) :
    Calls Tryd.prog 43 #[.agg #[.string p.sum, .int .i64 p.work, .int .i64 p.count], .int .i64 (r : Int)] w fun e w' => Below w.heap.size w w' ∧ (e = .returned (.int .i64 (-1)) ∨ ∃ q : Nat, e = .returned (.int .i64 (q : Int)) ∧ q ≤ r ∧ p.sum.size ≤ 1048576) := by
  unfold maxLen at hs
  have hw : IntKind.i64.wrap ((r : Int) - (p.sum.size : Int)) = (r : Int) - (p.sum.size : Int) := by rw [IntKind.wrap_i64]; omega
  by_cases hl : r < p.sum.size
  · have hl' : (r : Int) - (p.sum.size : Int) < 0 := by omega
    go_enter Tryd.func43, Tryd.ntmps43
    go_wp2
    go_ret
    exact ⟨(Below.refl _ w).alloc (Nat.le_refl _) _, .inl rfl⟩
  · have hl' : ¬ (r : Int) - (p.sum.size : Int) < 0 := by omega
    go_enter Tryd.func43, Tryd.ntmps43
    go_wp2
    go_ret
    refine ⟨(Below.refl _ w).alloc (Nat.le_refl _) _, .inr ⟨r - p.sum.size, ?_, by omega, by omega⟩⟩
    show Ending.returned (Value.int IntKind.i64 ((r : Int) - (p.sum.size : Int))) = _
    congr 2
    omega
theorem alloc3_mid (w : World) (o1 o2 o3 : Obj) : (((w.alloc o1).alloc o2).alloc o3).heap[w.heap.size + 1]? = some o2 := by
  have e : w.heap.size + 1 = (w.alloc o1).heap.size := by simp
  rw [e, Below.heap_alloc _ _ _ (by simp)]
  exact heap_alloc_new _ _
theorem toPeak1 (p : PeakV) (w : World) :
    Calls Tryd.prog 48 #[.agg #[.string p.sum, .int .i64 p.work, .int .i64 p.count]] w fun e w' => e = .returned (.agg #[.string p.sum, .int .i64 p.work, .int .i64 p.count]) ∧ Below w.heap.size w w' := by
  go_enter Tryd.func48, Tryd.ntmps48
  go_wp2
  exact bodyPost_ret (results_cell_row (p := 2) rfl _ _ (w.heap.size + 1) 63 #[.string p.sum, .int .i64 p.work, .int .i64 p.count] (0, 0) _ rfl (alloc3_mid _ _ _ _) Tryd.underlying63 rfl (by kernel_rfl)) rfl ⟨rfl, (((Below.refl _ w).alloc (Nat.le_refl _) _).alloc (by simp) _).alloc (by simp; omega) _⟩
theorem eqPeak1 (p : PeakV) (w : World) :
    Calls Tryd.prog 40 #[.agg #[.string p.sum, .int .i64 p.work, .int .i64 p.count], .agg #[.string p.sum, .int .i64 p.work, .int .i64 p.count]] w fun e w' => e = .returned (.bool true) ∧ Below w.heap.size w w' := by
  go_enter Tryd.func40, Tryd.ntmps40
  go_wp2
  go_ret
  exact ⟨rfl, ((Below.refl _ w).alloc (Nat.le_refl _) _).alloc (by simp) _⟩

set_option maxHeartbeats 1000000 in
set_option maxRecDepth 100000 in
theorem szPeaks (a : Option Addr) (len cap : Nat) (ps : List PeakV) (w : World) (h : IsPeaks w a len cap ps) :
    Calls Tryd.prog 17 #[.slice a len cap, .int .i64 1048576] w fun e w' => Below w.heap.size w w' ∧ (e = .returned (.int .i64 (-1)) ∨ ∃ r : Nat, e = .returned (.int .i64 (r : Int)) ∧ len ≤ 1048576 ∧ ∀ i, i < len → (ps.getD i default).sum.size ≤ 1048576) := by
  have HP : Hid (IsPeaks w a len cap ps) := h
  have hlm : len ≤ maxLen := by
    rcases h with ⟨_, h1, _⟩ | ⟨x, _, h1, h2, _⟩ <;> omega
  unfold maxLen at hlm
  have hw : IntKind.i64.wrap (1048576 - (len : Int)) = 1048576 - (len : Int) := by rw [IntKind.wrap_i64]; omega
  clear h
  by_cases hl : 1048576 < len
  · have hl' : (1048576 : Int) - (len : Int) < 0 := by omega
    go_enter Tryd.func17, Tryd.ntmps17
    go_wp2_with fail
    go_ret
    exact ⟨Below.refl _ _, .inl rfl⟩
  · have hl' : ¬ (1048576 : Int) - (len : Int) < 0 := by omega
    go_enter Tryd.func17, Tryd.ntmps17
    go_wp2_with fail
    clear hw hl'
    go_loopw [1, 5] (fun l i wr => ∃ (r k : Nat), k ≤ len ∧ r ≤ 1048576 ∧ i = .int .i64 (k : Int) ∧ l = .int .i64 (r : Int) ∧ Hid (Below w.heap.size w wr) ∧ Hid (∀ i, i < k → (ps.getD i default).sum.size ≤ 1048576)) (fun _ i _ => len - (intOf i).toNat)
    case atStart => exact ⟨1048576 - len, 0, by omega, by omega, rfl, by go_num, Below.refl _ _, fun i hi => by omega⟩
    case round =>
      obtain ⟨r, k, hk, hr, rfl, rfl, HB, HS⟩ := hrel
      by_cases hlt : k < len
      · obtain ⟨x, rfl, hp⟩ := HP.out.at HB.out k hlt
        obtain ⟨c0, c1, c2⟩ := hp
        have lk : (k : Int) < (len : Int) := by omega
        have HK : Hid (k + 1 ≤ len) := hlt
        have hsz : (ps.getD k default).sum.size ≤ maxLen := HP.out.size k hlt
        have HN : Hid ((ps.getD k default).sum.size ≤ 1048576 → ∀ i, i < k + 1 → (ps.getD i default).sum.size ≤ 1048576) := by
          intro h1 i hi
          rcases Nat.lt_or_ge i k with h' | h'
          · exact HS.out i h'
          · obtain rfl : i = k := by omega
            exact h1
        generalize ps.getD k default = p at c0 c1 c2 hsz HN
        go_wp2_with fail
        refine (szPeak1 p r _ hr hsz).mono ?_
        rintro e w1 ⟨b1, rfl | ⟨q, rfl, hq, hps⟩⟩
        · go_wp2_with fail
          go_ret
          exact ⟨HB.out.trans (b1.mono HB.out.size), .inl rfl⟩
        · have HQ := HN.out hps
          have HQ2 : Hid (∀ i, i < k + 1 → (ps.getD i default).sum.size ≤ 1048576) := HQ
          clear HQ HN
          have hq0 : ¬ (q : Int) < 0 := by omega
          go_wp2_with fail
          go_roundw
          case rel => exact ⟨q, k + 1, HK.out, by omega, by go_num, rfl, HB.out.trans (b1.mono HB.out.size), HQ2⟩
          case measure => have := HK.out; simp [intOf]; omega
      · go_wp2_with fail
        go_ret
        exact ⟨HB.out, .inr ⟨r, rfl, by omega, fun i hi => HS.out i (by omega)⟩⟩

end Go.Proofs.YtjeldedjhlicmaaDoor
