/-
  What the specification draws for RicePut: numbers, and how many bits.
-/
import Derived.Test.YteihpdnbehnnhaaReader
import Derived.Test.YteihpdnbehnnhaaRiceS1
import Derived.Test.YteihpdnbehnnhaaRicePM
import Derived.Test.YteihpdnbehnnhaaRows1
import Derived.Test.YteihpdnbehnnhaaSpecIn
set_option linter.unusedVariables false
namespace Go.Proofs.Yteihpdnbehnnhaa
open Go.RowKit

/-- A row of integers of the call's own. -/
def ZRow (B : Nat) (v : Value) (zs : List Int) (w : World) : Prop := (∃ g cap, v = .slice (some ⟨g, 0, none⟩) zs.length cap) ∧ w.ownsRow B 3 1 v zs.length (zs.map (Value.int .i64))
theorem zrow_new (w : World) : ZRow w.heap.size (.slice (some ⟨w.heap.size, 0, none⟩) 0 0) [] (w.alloc (.cells #[] 3)) :=
  ⟨⟨_, _, rfl⟩, rfl, .inr ⟨_, _, #[], rfl, Nat.le_refl _, heap_alloc_new w _, Nat.le_refl _, by unfold maxLen; omega, rfl, rfl⟩⟩
theorem ZRow.block {B : Nat} {v : Value} {zs : List Int} {w : World} (h : ZRow B v zs w) : ∃ g cap cur, v = .slice (some ⟨g, 0, none⟩) zs.length cap ∧ B ≤ g ∧ g < w.heap.size ∧ w.heap[g]? = some (.cells cur 3 (0, 0)) ∧ cur.toList.take zs.length = zs.map (Value.int .i64) := by
  obtain ⟨⟨g, cap, rfl⟩, hl, h2⟩ := h
  rcases h2 with ⟨h2, _⟩ | ⟨g', cap', cur, hv, h3, h4, h5, h6, h7, h8⟩
  · cases h2
  · simp only [Value.slice.injEq, Option.some.injEq, Addr.mk.injEq, and_true] at hv
    obtain ⟨rfl, _, rfl⟩ := hv
    refine ⟨g, cap, cur, rfl, h3, ?_, h4, by simpa using h8⟩
    exact (Array.getElem?_eq_some_iff.1 h4).1
theorem ZRow.keep {B C : Nat} {v : Value} {zs : List Int} {w w' : World} (h : ZRow B v zs w) (hk : ∀ g, B ≤ g → g < w.heap.size → w'.heap[g]? = w.heap[g]?) : ZRow B v zs w' := by
  have hb := h.block
  refine ⟨h.1, ownsRow_keep h.2 (fun g hg => ?_)⟩
  obtain ⟨g', cap, cur, rfl, h1, h2, _⟩ := hb
  obtain rfl : g' = g := by simpa [Value.ownBlock] using hg
  exact hk g' h1 h2
theorem ZRow.only {B b : Nat} {v : Value} {zs : List Int} {w w' : World} (h : ZRow B v zs w) (ho : Only b w w') (hb : b < B) : ZRow B v zs w' := h.keep (C := B) (fun g hg _ => ho.block g (by omega))
theorem ZRow.at {B g n cap : Nat} {zs : List Int} {w : World} (h : ZRow B (.slice (some ⟨g, 0, none⟩) n cap) zs w) : At w g zs ∧ n = zs.length := by
  obtain ⟨g', cap', cur, hv, h1, h2, h3, h4⟩ := h.block
  simp only [Value.slice.injEq, Option.some.injEq, Addr.mk.injEq, and_true] at hv
  obtain ⟨rfl, rfl, rfl⟩ := hv
  refine ⟨⟨h2, fun i hi => ?_⟩, rfl⟩
  rw [Lib.cell_of_heap h3]
  have : cur.toList[i]? = (zs.map (Value.int .i64))[i]? := by rw [← h4, List.getElem?_take]; simp [hi]
  rw [← Array.getElem?_toList, this]
  simp [List.getElem?_eq_getElem hi]

def nums5 : List Int := [0, 1, 3, 8, 20]
def nums7 : List Int := [0, 1, 5, 31, 32, 100, 700]
def nums3 : List Int := [-1, 60000, 60001]
theorem nums5_in : ∀ i : Fin 5, 0 ≤ nums5.getD i.val 0 ∧ nums5.getD i.val 0 ≤ 20 := by decide

set_option maxHeartbeats 2000000 in
set_option maxRecDepth 100000 in
theorem drawNumbers (B b p : Nat) (w : World) (h : Rd B b p w) (hp : p < 1000000000 - 100) :
    Calls Try.prog 35 #[.pointer (some ⟨b, 0, none⟩)] w fun e w' => ∃ (v : Value) (zs : List Int) (q : Nat), e = .returned v ∧ ZRow w.heap.size v zs w' ∧ zs.length ≤ 21 ∧ q ≤ p + 30 ∧ Rd B b q w' ∧ Below b w w' := by
  have hlt := h.lt
  obtain ⟨i0, hi, hz0, hz1, hz2⟩ := info_parts infoIntB
  go_enter Try.func35, Try.ntmps35
  go_wp2_with fail
  have HZ0 : Hid (ZRow w.heap.size (.slice (some ⟨w.heap.size, 0, none⟩) 0 0) [] (w.alloc (.cells #[] 3))) := zrow_new w
  have hr0 : Rd B b p (w.alloc (.cells #[] 3)) := h.keep ((Below.refl _ w).alloc (by omega) _)
  have hs0 : (w.alloc (.cells #[] 3)).heap.size = w.heap.size + 1 := by simp
  have HB0 : Hid (Below b w (w.alloc (.cells #[] 3))) := (Below.refl _ w).alloc (by omega) _
  have hbk := heap_alloc_new (w.alloc (.cells #[] 3)) (.cells (nums5.map (Value.int .i64)).toArray 3)
  have hone := one_walk B b p _ 5 5 nums5 _ (hr0.keep ((Below.refl _ _).alloc (by omega) (.cells (nums5.map (Value.int .i64)).toArray 3))) (by omega) (by omega) (by omega) (cells_ints hbk rfl 5 (by decide)) (by omega)
  rw [hs0] at hone
  refine hone.mono ?_
  rintro e w1 ⟨x, hx, rfl, hr1, ho1⟩
  have hin := nums5_in ⟨x, hx⟩
  have HZ1 : Hid (ZRow w.heap.size (.slice (some ⟨w.heap.size, 0, none⟩) 0 0) [] w1) := (HZ0.out.keep (C := 0) (fun g _ hg => Below.heap_alloc _ _ _ hg)).only ho1 hlt
  have HB1 : Hid (Below b w w1) := (HB0.out.alloc (by simp; omega) _).trans (ho1.below (Nat.le_refl _))
  have HR1 : Hid (Rd B b (p + 1) w1) := hr1
  have HSZ : Hid (w.heap.size ≤ w1.heap.size) := by show _ ≤ _; rw [ho1.size]; simp; omega
  dsimp only at hin
  obtain ⟨n0, hn0⟩ := Int.eq_ofNat_of_zero_le hin.1
  rw [hn0] at hin ⊢
  clear hone hbk hs0 hr0 hr1 ho1 HB0 HZ0 hn0 h
  have hn20 : n0 ≤ 20 := by omega
  clear hin
  go_wp2_with fail
  go_loopw [3, 4] (fun v n wr => ∃ (zs : List Int) (m q : Nat), n = .int .i64 (m : Int) ∧ m ≤ 20 ∧ q ≤ p + 1 + zs.length ∧ zs.length + m ≤ 20 ∧ Hid (ZRow w.heap.size v zs wr) ∧ Hid (Rd B b q wr) ∧ Hid (Below b w wr)) (fun _ n _ => (intOf n).toNat)
  case atStart => exact ⟨[], n0, p + 1, rfl, hn20, by simp, by simpa using hn20, HZ1, HR1, HB1⟩
  case round =>
    clear HZ1 HR1 HB1 HSZ
    obtain ⟨zs, m, q, rfl, hm, hq, hzl, HZ, HR, HB⟩ := hrel
    obtain ⟨g, cap, rfl⟩ := HZ.out.1
    have hszr : w.heap.size ≤ wr.heap.size := HB.out.size
    obtain ⟨zl, hzl2⟩ : ∃ zl, zl = zs.length := ⟨_, rfl⟩
    rw [← hzl2] at HZ hq hzl ⊢
    have HL : Hid (zl = zs.length) := hzl2
    have HZR : Hid (wr.ownsRow w.heap.size 3 1 (.slice (some ⟨g, 0, none⟩) zl cap) zl (zs.map (Value.int .i64))) := by
      have := HZ.out.2
      rw [← hzl2] at this
      exact this
    clear hzl2
    have hltr := HR.out.lt
    by_cases hm0 : 0 < m
    · have hm0' : (0 : Int) < (m : Int) := by omega
      have HM : Hid (m - 1 + 1 = m) := by show _ = _; omega
      have hbk := heap_alloc_new wr (.cells (nums7.map (Value.int .i64)).toArray 3)
      have hone := one_walk B b q wr.heap.size 7 7 nums7 _ (HR.out.keep ((Below.refl _ _).alloc (by omega) (.cells (nums7.map (Value.int .i64)).toArray 3))) (by omega) (by omega) (by omega) (cells_ints hbk rfl 7 (by decide)) (by omega)
      clear hbk hm0
      go_wp2_with fail
      refine hone.mono ?_
      rintro e w2 ⟨x, hx, rfl, hr2, ho2⟩
      generalize nums7.getD x 0 = z
      have HR2 : Hid (Rd B b (q + 1) w2) := hr2
      have HZ2 : Hid (w2.ownsRow w.heap.size 3 1 (.slice (some ⟨g, 0, none⟩) zl cap) zl (zs.map (Value.int .i64))) := by
        refine ownsRow_keep HZR.out (fun g' hg' => ?_)
        obtain ⟨cur, hc, hl⟩ := ownsRow_type HZR.out g' hg'
        have hge : w.heap.size ≤ g' := (HZR.out.lt g' hg').1
        rw [ho2.block g' (by omega)]
        exact Below.heap_alloc _ _ _ hl
      have HB2 : Hid (Below b w w2) := (HB.out.alloc (by omega) _).trans (ho2.below (Nat.le_refl _))
      have hsz2 : w.heap.size ≤ w2.heap.size := HB2.out.size
      have hblt : b < w2.heap.size := hr2.lt
      clear hr2 ho2 hone
      have hx1 : zl + 1 ≤ maxLen := by unfold maxLen; omega
      have hx2 : (zl + 1) * 8 ≤ 140737488355328 := by omega
      go_wp2_with (at_builtin; refine wp_app1 rfl _ _ 22 rfl w.heap.size 3 i0 (.int .i64 0) 8 Try.underlying22 hi hz0 hz1 hz2 rfl _ _ _ rfl HZ2.out (.int .i64 z) rfl rfl hx1 hx2 hsz2 ?_; intro g4 c4 w4 hown4 hb4 hkeep4)
      go_roundw
      case rel =>
        refine ⟨zs ++ [z], m - 1, q + 1, ?_, by omega, ?_, ?_, ⟨⟨g4, c4, ?_⟩, ?_⟩, ?_, ?_⟩
        · have := HM.out
          show Value.int .i64 _ = Value.int .i64 _
          congr 1
          omega
        · rw [List.length_append, ← HL.out]; simp; omega
        · rw [List.length_append, ← HL.out]; simp; have := HM.out; omega
        · rw [List.length_append, ← HL.out]; rfl
        · rw [List.length_append, ← HL.out]
          simpa using hown4
        · exact HR2.out.keep (hb4.mono (by omega))
        · exact HB2.out.trans (hb4.mono (by omega))
      case measure => have := HM.out; simp [intOf]; omega
    · have hm0' : ¬ (0 : Int) < (m : Int) := by omega
      have hpk := pick_walk B b q 12 wr HR.out (by omega) (by omega)
      clear hm0
      go_wp2_with fail
      refine hpk.mono ?_
      rintro e w2 ⟨x, rfl, _, _, hr2, ho2⟩
      have HR2 : Hid (Rd B b (q + 1) w2) := hr2
      have HZ2 : Hid (w2.ownsRow w.heap.size 3 1 (.slice (some ⟨g, 0, none⟩) zl cap) zl (zs.map (Value.int .i64))) := by
        refine ownsRow_keep HZR.out (fun g' hg' => ?_)
        have hge : w.heap.size ≤ g' := (HZR.out.lt g' hg').1
        exact ho2.block g' (by omega)
      have HB2 : Hid (Below b w w2) := HB.out.trans (ho2.below (Nat.le_refl _))
      have hsz2 : w.heap.size ≤ w2.heap.size := HB2.out.size
      have hblt : b < w2.heap.size := hr2.lt
      clear hr2 ho2 hpk
      by_cases hx : ((x : Int) == 0) = true
      · have hbk := heap_alloc_new w2 (.cells (nums3.map (Value.int .i64)).toArray 3)
        have hone := one_walk B b (q + 1) w2.heap.size 3 3 nums3 _ (HR2.out.keep ((Below.refl _ _).alloc (by omega) (.cells (nums3.map (Value.int .i64)).toArray 3))) (by omega) (by omega) (by omega) (cells_ints hbk rfl 3 (by decide)) (by omega)
        clear hbk
        go_wp2_with fail
        refine hone.mono ?_
        rintro e w3 ⟨y, hy, rfl, hr3, ho3⟩
        generalize nums3.getD y 0 = z
        have HR3 : Hid (Rd B b (q + 1 + 1) w3) := hr3
        have HZ3 : Hid (w3.ownsRow w.heap.size 3 1 (.slice (some ⟨g, 0, none⟩) zl cap) zl (zs.map (Value.int .i64))) := by
          refine ownsRow_keep HZ2.out (fun g' hg' => ?_)
          obtain ⟨cur, hc, hl⟩ := ownsRow_type HZ2.out g' hg'
          have hge : w.heap.size ≤ g' := (HZ2.out.lt g' hg').1
          rw [ho3.block g' (by omega)]
          exact Below.heap_alloc _ _ _ hl
        have HB3 : Hid (Below b w w3) := (HB2.out.alloc (by omega) _).trans (ho3.below (Nat.le_refl _))
        have hsz3 : w.heap.size ≤ w3.heap.size := HB3.out.size
        clear hr3 ho3 hone
        have hx1 : zl + 1 ≤ maxLen := by unfold maxLen; omega
        have hx2 : (zl + 1) * 8 ≤ 140737488355328 := by omega
        go_wp2_with (at_builtin; refine wp_app1 rfl _ _ 22 rfl w.heap.size 3 i0 (.int .i64 0) 8 Try.underlying22 hi hz0 hz1 hz2 rfl _ _ _ rfl HZ3.out (.int .i64 z) rfl rfl hx1 hx2 hsz3 ?_; intro g4 c4 w4 hown4 hb4 hkeep4)
        go_ret
        refine ⟨_, zs ++ [z], q + 1 + 1, rfl, ⟨⟨g4, c4, ?_⟩, ?_⟩, ?_, ?_, HR3.out.keep (hb4.mono (by omega)), HB3.out.trans (hb4.mono (by omega))⟩
        · rw [List.length_append, ← HL.out]; rfl
        · rw [List.length_append, ← HL.out]
          simpa using hown4
        · rw [List.length_append, ← HL.out]; simp; omega
        · omega
      · have hx' : ((x : Int) == 0) = false := by simpa using hx
        clear hx
        go_wp2_with fail
        go_ret
        refine ⟨_, zs, q + 1, rfl, ⟨⟨g, cap, ?_⟩, ?_⟩, ?_, ?_, HR2.out, HB2.out⟩
        · rw [← HL.out]; rfl
        · rw [← HL.out]; exact HZ2.out
        · rw [← HL.out]; omega
        · omega

end Go.Proofs.Yteihpdnbehnnhaa
