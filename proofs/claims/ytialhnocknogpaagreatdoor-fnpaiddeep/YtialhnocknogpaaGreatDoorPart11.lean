/-
  Texts that the last part needs, joined.
-/
import Derived.Test.YtialhnocknogpaaGreatDoorPart1
import Derived.Test.YtialhnocknogpaaGreatDoorPart2
import Derived.Test.YtialhnocknogpaaGreatDoorPart3
import Derived.Test.YtialhnocknogpaaGreatDoorPart4
import Derived.Test.YtialhnocknogpaaGreatDoorPart5
import Derived.Test.YtialhnocknogpaaGreatDoorPart6
import Derived.Test.YtialhnocknogpaaGreatDoorPart7
import Derived.Test.YtialhnocknogpaaGreatDoorPart8
import Derived.Test.YtialhnocknogpaaGreatDoorPart9
import Derived.Test.YtialhnocknogpaaGreatDoorPart10
import Derived.OwnWalk
import Derived.Deep.RegionWith
import Derived.Deep.RegionLaw
set_option linter.unusedVariables false
namespace Go.Proofs.YtialhnocknogpaaGreatDoor
open Go.RowKit Go.Deep

/-- Blocks whose heads are ok, few, with few items. -/
structure Good (cs : List BlkV) : Prop where
  ok : ∀ i, i < (cs.map (·.h)).length → headOkB ((cs.map (·.h)).getD i default) = true
  few : cs.length ≤ 20
  items : ∀ c ∈ cs, c.ss.length ≤ 4
theorem Good.nil : Good [] := ⟨fun i hi => by simp at hi, by simp, fun c hc => by cases hc⟩
def steps5 : List Int := [1, 5, 5, 9, 30]
theorem steps5_in : ∀ i : Fin 5, 1 ≤ steps5.getD i.val 0 ∧ steps5.getD i.val 0 ≤ 30 := by decide
theorem BList.only {B b : Nat} {v : Value} {cs : List BlkV} {w w' : World} (h : BList B v cs w) (ho : But b w w') (hb : b < B) : BList B v cs w' := h.keep ho.1 (fun g hg hl => ho.2 g hl (by omega))
/-- One more stays good. -/
theorem Good.more {bs cs : List BlkV} {t : Int} {ss : List ByteArray} {x : HeadV} (h : Good bs) (hm : mineV (bs.map (·.h)) t ss = some x) (h1 : cs.map (·.h) = bs.map (·.h) ++ [x]) (h2 : cs.map (·.ss) = bs.map (·.ss) ++ [ss]) (hs : ss.length ≤ 4) : Good cs := by
  have hcan : canMine (bs.map (·.h)) t ∧ (headMine (newH (bs.map (·.h)) t ss)).2 = true ∧ x = (headMine (newH (bs.map (·.h)) t ss)).1 := by
    unfold mineV at hm
    split at hm
    · rename_i h'
      exact ⟨h'.1, h'.2, (Option.some.inj hm).symm⟩
    · cases hm
  obtain ⟨hc, hk, hx⟩ := hcan
  have hxo : headOkB x = true := by
    rw [hx]
    exact headMine_ok (newH_ok hc.2.1 h.ok) hk
  refine ⟨?_, ?_, ?_⟩
  · rw [h1]
    intro i hi
    rcases Nat.lt_or_ge i (bs.map (·.h)).length with h' | h'
    · rw [List.getD_eq_getElem?_getD, List.getElem?_append_left h', ← List.getD_eq_getElem?_getD]
      exact h.ok i h'
    · have e : i = (bs.map (·.h)).length := by rw [List.length_append] at hi; simp at hi h' ⊢; omega
      rw [e, List.getD_eq_getElem?_getD, List.getElem?_append_right (Nat.le_refl _), Nat.sub_self]
      exact hxo
  · have := congrArg List.length h1
    have h3 := hc.1
    simp at this h3
    omega
  · intro c hc'
    have : c.ss ∈ cs.map (·.ss) := List.mem_map.2 ⟨c, hc', rfl⟩
    rw [h2] at this
    rcases List.mem_append.1 this with h' | h'
    · obtain ⟨d, hd, he⟩ := List.mem_map.1 h'
      rw [← he]
      exact h.items d hd
    · rw [List.mem_singleton.1 h']
      exact hs
theorem item_small {s : ByteArray} (h : isItem s.data.toList = true) : s.size ≤ 1048576 := by
  have := (isItem_size h).2
  omega
/-- What a drawn chain is. -/
def ChainPost (B b p B0 many : Nat) (w : World) (e : Ending) (w' : World) : Prop := ∃ (v : Value) (cs : List BlkV) (q : Nat), e = .returned v ∧ BList B0 v cs w' ∧ Good cs ∧ q ≤ p + 10 * many ∧ Rd B b q w' ∧ Below b w w' ∧ But b w w'

set_option maxHeartbeats 2000000 in
set_option maxRecDepth 100000 in
theorem drawChain (B b p B0 : Nat) (hb : b < B0) (v : Value) (bs : List BlkV) (many : Nat) (w : World) (h : Rd B b p w) (hp : p < 1000000000 - 1000) (hl : BList B0 v bs w) (hB0 : B0 ≤ w.heap.size) (hg : Good bs) (hm : many ≤ 20) :
    Calls Tryz.prog 22 #[.pointer (some ⟨b, 0, none⟩), v, .int .i64 (many : Int)] w fun e w' => ChainPost B b p B0 many w e w' := by
  have hlt := h.lt
  obtain ⟨g0, c0, rfl⟩ := hl.row.1
  have HP : Hid (∀ e w' v cs q, e = .returned v → BList B0 v cs w' → Good cs → q ≤ p + 10 * many → Rd B b q w' → Below b w w' → But b w w' → ChainPost B b p B0 many w e w') := fun e w' v cs q h1 h2 h3 h4 h5 h6 h7 => ⟨v, cs, q, h1, h2, h3, h4, h5, h6, h7⟩
  generalize ChainPost B b p B0 many w = CP at HP ⊢
  have HG0 : Hid (Good bs) := hg
  have HL0 : Hid (BList B0 (.slice (some ⟨g0, 0, none⟩) bs.length c0) bs w) := hl
  have HR0 : Hid (Rd B b p w) := h
  have HB0 : Hid (B0 ≤ w.heap.size) := hB0
  have hfew := hg.few
  clear h hl hg hB0
  have HN0 : Hid (bs.length = bs.length) := rfl
  obtain ⟨n0, hn0⟩ : ∃ n, n = bs.length := ⟨_, rfl⟩
  rw [← hn0] at HL0 hfew ⊢
  have HNN : Hid (n0 = bs.length) := hn0
  have HT0 : Hid (n0 ≠ 0 → ∃ t0 : Int, w.cell? ⟨g0, (n0 - 1) * 6 + 2, none⟩ = some (.int .i64 t0) ∧ 0 ≤ t0 ∧ t0 ≤ 99999) := by
    intro h0
    have hat := (FRow.at enBlk_len HL0.out.row).1
    have hj : n0 - 1 < bs.length := by omega
    have hc := AtBlk.c2 hat (n0 - 1) hj
    have ho := HG0.out.ok (n0 - 1) (by rw [List.length_map]; exact hj)
    rw [getD_map hj] at ho
    exact ⟨_, hc, (headOk_in ho).2.2.1.1, (headOk_in ho).2.2.1.2⟩
  clear hn0 HN0
  have hB0b : B0 ≤ w.heap.size := HB0.out
  have HSTART : Hid (∀ t0 : Int, 0 ≤ t0 → t0 ≤ 99999 → ∃ (cs : List BlkV) (g c k : Nat) (tt : Int) (mm q : Nat), Value.slice (some ⟨g0, 0, none⟩) n0 c0 = .slice (some ⟨g, 0, none⟩) k c ∧ Value.int .i64 t0 = .int .i64 tt ∧ Value.int .i64 (many : Int) = .int .i64 (mm : Int) ∧ 0 ≤ tt ∧ tt ≤ 99999 + 30 * ((many - mm : Nat) : Int) ∧ mm ≤ many ∧ q ≤ p + 10 * (many - mm) ∧ Hid (k = cs.length) ∧ Hid (BList B0 (.slice (some ⟨g, 0, none⟩) k c) cs w) ∧ Hid (Good cs) ∧ Hid (Rd B b q w) ∧ Hid (Below b w w ∧ But b w w)) := fun t0 h1 h2 => ⟨bs, g0, c0, n0, t0, many, p, rfl, rfl, rfl, h1, by omega, Nat.le_refl _, by omega, HNN, HL0, HG0, HR0, ⟨Below.refl _ _, But.refl _ _⟩⟩
  have hwm : (many : Int) ≤ 20 := by omega
  suffices hmain : ∀ t0 : Int, 0 ≤ t0 → t0 ≤ 99999 → (n0 = 0 → t0 = 0) → (n0 ≠ 0 → w.cell? ⟨g0, (n0 - 1) * 6 + 2, none⟩ = some (.int .i64 t0)) → Calls Tryz.prog 22 #[.pointer (some ⟨b, 0, none⟩), .slice (some ⟨g0, 0, none⟩) n0 c0, .int .i64 (many : Int)] w fun e w' => CP e w' by
    by_cases h0 : n0 = 0
    · exact hmain 0 (by omega) (by omega) (fun _ => rfl) (fun h => absurd h0 h)
    · obtain ⟨t0, h1, h2, h3⟩ := HT0.out h0
      exact hmain t0 h2 h3 (fun h => absurd h h0) (fun _ => h1)
  intro t0 ht0 ht1 hz0 hc0
  have HST := HSTART.out t0 ht0 ht1
  have HST' : Hid (∃ (cs : List BlkV) (g c k : Nat) (tt : Int) (mm q : Nat), Value.slice (some ⟨g0, 0, none⟩) n0 c0 = .slice (some ⟨g, 0, none⟩) k c ∧ Value.int .i64 t0 = .int .i64 tt ∧ Value.int .i64 (many : Int) = .int .i64 (mm : Int) ∧ 0 ≤ tt ∧ tt ≤ 99999 + 30 * ((many - mm : Nat) : Int) ∧ mm ≤ many ∧ q ≤ p + 10 * (many - mm) ∧ Hid (k = cs.length) ∧ Hid (BList B0 (.slice (some ⟨g, 0, none⟩) k c) cs w) ∧ Hid (Good cs) ∧ Hid (Rd B b q w) ∧ Hid (Below b w w ∧ But b w w)) := HST
  clear HST HSTART HT0 HL0 HG0 HR0 ht0 ht1
  by_cases h0 : n0 = 0
  · obtain rfl := hz0 h0
    subst h0
    clear hc0 hz0
    go_enter Tryz.func22, Tryz.ntmps22
    go_wp2_with fail
    go_loopw [1, 7, 8] (fun l t m wr => ∃ (cs : List BlkV) (g c k : Nat) (tt : Int) (mm q : Nat), l = .slice (some ⟨g, 0, none⟩) k c ∧ t = .int .i64 tt ∧ m = .int .i64 (mm : Int) ∧ 0 ≤ tt ∧ tt ≤ 99999 + 30 * ((many - mm : Nat) : Int) ∧ mm ≤ many ∧ q ≤ p + 10 * (many - mm) ∧ Hid (k = cs.length) ∧ Hid (BList B0 (.slice (some ⟨g, 0, none⟩) k c) cs wr) ∧ Hid (Good cs) ∧ Hid (Rd B b q wr) ∧ Hid (Below b w wr ∧ But b w wr)) (fun _ _ m _ => (intOf m).toNat)
    case atStart => exact HST'.out
    case round =>
      clear HST'
      obtain ⟨cs, g, c, k, tt, mm, q, rfl, rfl, rfl, ht0, ht1, hmm, hq, HK, HL, HG, HR, HB⟩ := hrel
      by_cases hm0 : 0 < mm
      · have hm0' : (0 : Int) < (mm : Int) := by omega
        have HM : Hid (mm - 1 + 1 = mm) := by show _ = _; omega
        have hszr : w.heap.size ≤ wr.heap.size := HB.out.2.1
        have hltr := HR.out.lt
        have hbk := heap_alloc_new wr (.cells (steps5.map (Value.int .i64)).toArray 3)
        have hone := one_walk B b q wr.heap.size 5 5 steps5 _ (HR.out.keep ((Below.refl _ _).alloc (by omega) (.cells (steps5.map (Value.int .i64)).toArray 3))) (by omega) (by omega) (by omega) (cells_ints hbk rfl 5 (by decide)) (by omega)
        have HL1 : Hid (BList B0 (.slice (some ⟨g, 0, none⟩) k c) cs (wr.alloc (.cells (steps5.map (Value.int .i64)).toArray 3))) := HL.out.below ((Below.refl _ wr).alloc (Nat.le_refl _) _)
        have HB1 : Hid (Below b w (wr.alloc (.cells (steps5.map (Value.int .i64)).toArray 3)) ∧ But b w (wr.alloc (.cells (steps5.map (Value.int .i64)).toArray 3))) := ⟨HB.out.1.alloc (by omega) _, HB.out.2.trans (But.alloc _ _ _)⟩
        clear hbk hm0 HL HB HR
        go_wp2_with fail
        refine hone.mono ?_
        rintro e w2 ⟨x, hx, rfl, hr2, ho2⟩
        have hin := steps5_in ⟨x, hx⟩
        dsimp only at hin
        generalize steps5.getD x 0 = st at hin ⊢
        have HL2 : Hid (BList B0 (.slice (some ⟨g, 0, none⟩) k c) cs w2) := HL1.out.only ho2.but hb
        have HB2 : Hid (Below b w w2 ∧ But b w w2) := ⟨HB1.out.1.trans (ho2.below (Nat.le_refl _)), HB1.out.2.trans ho2.but⟩
        have hit := drawItems B b (q + 1) 4 w2 hr2 (by omega) (by omega)
        have wt : IntKind.i64.wrap (tt + st) = tt + st := by rw [IntKind.wrap_i64]; omega
        clear hone HL1 HB1 ho2 hr2
        go_wp2_with fail
        refine hit.mono ?_
        rintro e w3 ⟨v3, ss, q3, rfl, hz3, hl3, hi3, hq3, hr3, bl3, bu3⟩
        obtain ⟨gi, ci, hv3⟩ := hz3.1
        subst hv3
        have HL3 : Hid (BList B0 (.slice (some ⟨g, 0, none⟩) k c) cs w3) := HL2.out.only bu3 hb
        have HB3 : Hid (Below b w w3 ∧ But b w w3) := ⟨HB2.out.1.trans bl3, HB2.out.2.trans bu3⟩
        have HR3 : Hid (Rd B b q3 w3) := hr3
        have HSS : Hid (ss.length ≤ 4) := hl3
        have hmi := specL4Mine g k c cs (tt + st) gi ss.length ci ss w3 (FRow.at enBlk_len HL3.out.row).1 (fun b' hb' => ⟨(HL3.out.items b' hb').1, by have := HG.out.items b' hb'; omega⟩) HK.out (by have := HG.out.few; have := HK.out; omega) HG.out.ok (SRow.at hz3).1 rfl (by omega) (fun i hi => item_small (hi3 i hi))
        have hltr3 := hr3.lt
        clear hit HL2 HB2 hz3 hi3 bl3 bu3 hr3 hl3
        obtain ⟨sl, hsl⟩ : ∃ n, n = ss.length := ⟨_, rfl⟩
        rw [← hsl] at hmi ⊢
        clear hsl
        go_wp2_with fail
        refine hmi.mono ?_
        rintro e w4 ⟨b4, ⟨hnone, rfl⟩ | ⟨y, v4, ds, hsome, rfl, l4, h41, h42⟩⟩
        · have HL4 : Hid (BList B0 (.slice (some ⟨g, 0, none⟩) k c) cs w4) := HL3.out.below b4
          have HB4 : Hid (Below b w w4 ∧ But b w w4) := ⟨HB3.out.1.trans (b4.mono (by omega)), HB3.out.2.trans (Below.but b4)⟩
          have HR4 : Hid (Rd B b q3 w4) := HR3.out.keep (b4.mono (by omega))
          clear b4 hnone hmi
          go_wp2_with fail
          go_roundw
          case rel => exact ⟨cs, g, c, k, tt + st, mm - 1, q3, rfl, rfl, by have := HM.out; show Value.int .i64 _ = Value.int .i64 _; congr 1; omega, by omega, by have := HM.out; omega, by have := HM.out; omega, by have := HM.out; omega, HK, HL4, HG, HR4, HB4⟩
          case measure => have := HM.out; simp [intOf]; omega
        · obtain ⟨g4, c4, hv4⟩ := l4.row.1
          subst hv4
          have hsz3 : w.heap.size ≤ w3.heap.size := HB3.out.2.1
          have HL4 : Hid (BList B0 (.slice (some ⟨g4, 0, none⟩) ds.length c4) ds w4) := l4.mono (by omega)
          have HG4 : Hid (Good ds) := HG.out.more hsome h41 h42 HSS.out
          have HB4 : Hid (Below b w w4 ∧ But b w w4) := ⟨HB3.out.1.trans (b4.mono (by omega)), HB3.out.2.trans (Below.but b4)⟩
          have HR4 : Hid (Rd B b q3 w4) := HR3.out.keep (b4.mono (by omega))
          clear b4 hsome hmi l4 h41 h42
          obtain ⟨dl, hdl⟩ : ∃ n, n = ds.length := ⟨_, rfl⟩
          have HDL : Hid (dl = ds.length) := hdl
          rw [← hdl] at HL4 ⊢
          clear hdl
          go_wp2_with fail
          go_roundw
          case rel => exact ⟨ds, g4, c4, dl, tt + st, mm - 1, q3, rfl, rfl, by have := HM.out; show Value.int .i64 _ = Value.int .i64 _; congr 1; omega, by omega, by have := HM.out; omega, by have := HM.out; omega, by have := HM.out; omega, HDL, HL4, HG4, HR4, HB4⟩
          case measure => have := HM.out; simp [intOf]; omega
      · have hm0' : ¬ (0 : Int) < (mm : Int) := by omega
        go_wp2_with fail
        exact HP.out _ _ _ cs q rfl HL.out HG.out (by omega) HR.out HB.out.1 HB.out.2
  · have c2 := hc0 h0
    obtain ⟨j, hj⟩ : ∃ j, j = n0 - 1 := ⟨_, rfl⟩
    rw [← hj] at c2
    have hw01 : IntKind.i64.wrap ((n0 : Int) - 1) = (j : Int) := by rw [IntKind.wrap_i64]; omega
    have lj : (j : Int) < (n0 : Int) := by omega
    have lj0 : (0 : Int) ≤ (j : Int) := by omega
    have hn0' : (0 : Int) < (n0 : Int) := by omega
    have hnn0 : 0 < n0 := by omega
    have hnd0 : decide (0 < n0) = true := decide_eq_true hnn0
    clear hc0 hz0 h0 hj
    go_enter Tryz.func22, Tryz.ntmps22
    go_wp2_with fail
    clear c2
    go_loopw [1, 7, 8] (fun l t m wr => ∃ (cs : List BlkV) (g c k : Nat) (tt : Int) (mm q : Nat), l = .slice (some ⟨g, 0, none⟩) k c ∧ t = .int .i64 tt ∧ m = .int .i64 (mm : Int) ∧ 0 ≤ tt ∧ tt ≤ 99999 + 30 * ((many - mm : Nat) : Int) ∧ mm ≤ many ∧ q ≤ p + 10 * (many - mm) ∧ Hid (k = cs.length) ∧ Hid (BList B0 (.slice (some ⟨g, 0, none⟩) k c) cs wr) ∧ Hid (Good cs) ∧ Hid (Rd B b q wr) ∧ Hid (Below b w wr ∧ But b w wr)) (fun _ _ m _ => (intOf m).toNat)
    case atStart => exact HST'.out
    case round =>
      clear HST'
      obtain ⟨cs, g, c, k, tt, mm, q, rfl, rfl, rfl, ht0, ht1, hmm, hq, HK, HL, HG, HR, HB⟩ := hrel
      by_cases hm0 : 0 < mm
      · have hm0' : (0 : Int) < (mm : Int) := by omega
        have HM : Hid (mm - 1 + 1 = mm) := by show _ = _; omega
        have hszr : w.heap.size ≤ wr.heap.size := HB.out.2.1
        have hltr := HR.out.lt
        have hbk := heap_alloc_new wr (.cells (steps5.map (Value.int .i64)).toArray 3)
        have hone := one_walk B b q wr.heap.size 5 5 steps5 _ (HR.out.keep ((Below.refl _ _).alloc (by omega) (.cells (steps5.map (Value.int .i64)).toArray 3))) (by omega) (by omega) (by omega) (cells_ints hbk rfl 5 (by decide)) (by omega)
        have HL1 : Hid (BList B0 (.slice (some ⟨g, 0, none⟩) k c) cs (wr.alloc (.cells (steps5.map (Value.int .i64)).toArray 3))) := HL.out.below ((Below.refl _ wr).alloc (Nat.le_refl _) _)
        have HB1 : Hid (Below b w (wr.alloc (.cells (steps5.map (Value.int .i64)).toArray 3)) ∧ But b w (wr.alloc (.cells (steps5.map (Value.int .i64)).toArray 3))) := ⟨HB.out.1.alloc (by omega) _, HB.out.2.trans (But.alloc _ _ _)⟩
        clear hbk hm0 HL HB HR
        go_wp2_with fail
        refine hone.mono ?_
        rintro e w2 ⟨x, hx, rfl, hr2, ho2⟩
        have hin := steps5_in ⟨x, hx⟩
        dsimp only at hin
        generalize steps5.getD x 0 = st at hin ⊢
        have HL2 : Hid (BList B0 (.slice (some ⟨g, 0, none⟩) k c) cs w2) := HL1.out.only ho2.but hb
        have HB2 : Hid (Below b w w2 ∧ But b w w2) := ⟨HB1.out.1.trans (ho2.below (Nat.le_refl _)), HB1.out.2.trans ho2.but⟩
        have hit := drawItems B b (q + 1) 4 w2 hr2 (by omega) (by omega)
        have wt : IntKind.i64.wrap (tt + st) = tt + st := by rw [IntKind.wrap_i64]; omega
        clear hone HL1 HB1 ho2 hr2
        go_wp2_with fail
        refine hit.mono ?_
        rintro e w3 ⟨v3, ss, q3, rfl, hz3, hl3, hi3, hq3, hr3, bl3, bu3⟩
        obtain ⟨gi, ci, hv3⟩ := hz3.1
        subst hv3
        have HL3 : Hid (BList B0 (.slice (some ⟨g, 0, none⟩) k c) cs w3) := HL2.out.only bu3 hb
        have HB3 : Hid (Below b w w3 ∧ But b w w3) := ⟨HB2.out.1.trans bl3, HB2.out.2.trans bu3⟩
        have HR3 : Hid (Rd B b q3 w3) := hr3
        have HSS : Hid (ss.length ≤ 4) := hl3
        have hmi := specL4Mine g k c cs (tt + st) gi ss.length ci ss w3 (FRow.at enBlk_len HL3.out.row).1 (fun b' hb' => ⟨(HL3.out.items b' hb').1, by have := HG.out.items b' hb'; omega⟩) HK.out (by have := HG.out.few; have := HK.out; omega) HG.out.ok (SRow.at hz3).1 rfl (by omega) (fun i hi => item_small (hi3 i hi))
        have hltr3 := hr3.lt
        clear hit HL2 HB2 hz3 hi3 bl3 bu3 hr3 hl3
        obtain ⟨sl, hsl⟩ : ∃ n, n = ss.length := ⟨_, rfl⟩
        rw [← hsl] at hmi ⊢
        clear hsl
        go_wp2_with fail
        refine hmi.mono ?_
        rintro e w4 ⟨b4, ⟨hnone, rfl⟩ | ⟨y, v4, ds, hsome, rfl, l4, h41, h42⟩⟩
        · have HL4 : Hid (BList B0 (.slice (some ⟨g, 0, none⟩) k c) cs w4) := HL3.out.below b4
          have HB4 : Hid (Below b w w4 ∧ But b w w4) := ⟨HB3.out.1.trans (b4.mono (by omega)), HB3.out.2.trans (Below.but b4)⟩
          have HR4 : Hid (Rd B b q3 w4) := HR3.out.keep (b4.mono (by omega))
          clear b4 hnone hmi
          go_wp2_with fail
          go_roundw
          case rel => exact ⟨cs, g, c, k, tt + st, mm - 1, q3, rfl, rfl, by have := HM.out; show Value.int .i64 _ = Value.int .i64 _; congr 1; omega, by omega, by have := HM.out; omega, by have := HM.out; omega, by have := HM.out; omega, HK, HL4, HG, HR4, HB4⟩
          case measure => have := HM.out; simp [intOf]; omega
        · obtain ⟨g4, c4, hv4⟩ := l4.row.1
          subst hv4
          have hsz3 : w.heap.size ≤ w3.heap.size := HB3.out.2.1
          have HL4 : Hid (BList B0 (.slice (some ⟨g4, 0, none⟩) ds.length c4) ds w4) := l4.mono (by omega)
          have HG4 : Hid (Good ds) := HG.out.more hsome h41 h42 HSS.out
          have HB4 : Hid (Below b w w4 ∧ But b w w4) := ⟨HB3.out.1.trans (b4.mono (by omega)), HB3.out.2.trans (Below.but b4)⟩
          have HR4 : Hid (Rd B b q3 w4) := HR3.out.keep (b4.mono (by omega))
          clear b4 hsome hmi l4 h41 h42
          obtain ⟨dl, hdl⟩ : ∃ n, n = ds.length := ⟨_, rfl⟩
          have HDL : Hid (dl = ds.length) := hdl
          rw [← hdl] at HL4 ⊢
          clear hdl
          go_wp2_with fail
          go_roundw
          case rel => exact ⟨ds, g4, c4, dl, tt + st, mm - 1, q3, rfl, rfl, by have := HM.out; show Value.int .i64 _ = Value.int .i64 _; congr 1; omega, by omega, by have := HM.out; omega, by have := HM.out; omega, by have := HM.out; omega, HDL, HL4, HG4, HR4, HB4⟩
          case measure => have := HM.out; simp [intOf]; omega
      · have hm0' : ¬ (0 : Int) < (mm : Int) := by omega
        go_wp2_with fail
        exact HP.out _ _ _ cs q rfl HL.out HG.out (by omega) HR.out HB.out.1 HB.out.2

end Go.Proofs.YtialhnocknogpaaGreatDoor

set_option linter.unusedVariables false
namespace Go.Proofs.YtialhnocknogpaaGreatDoor
open Go.RowKit Go.Deep

/-- The first block's work is the least: the first number does. -/
theorem mine_first {t : Int} {ss : List ByteArray} (h0 : 0 ≤ t) (h1 : t ≤ 99999) : mineV [] t ss ≠ none := by
  have hk : headOkB (headNo (newH [] t ss) 0) = true := newH_ok ⟨h0, h1⟩ (fun i hi => absurd hi (Nat.not_lt_zero _))
  have hm : headMeets (headNo (newH [] t ss) 0) = true := by
    rw [meets_yes hk, decide_eq_true_eq]
    have h3 := headOf_lt (headX (headNo (newH [] t ss) 0))
    have h4 : (headNo (newH [] t ss) 0).diff = 1 := rfl
    rw [h4]
    omega
  rw [mine_yes ⟨by show (0 : Nat) < 20; decide, ⟨h0, h1⟩, .inl rfl⟩ (by rw [headMine_yes (Nat.zero_le _) hm (fun j hj => absurd hj (Nat.not_lt_zero _))])]
  exact fun h => by cases h
theorem its_more {bs cs : List BlkV} {ss : List ByteArray} (h : ∀ c ∈ bs, itemsOkB c.ss = true) (h2 : cs.map (·.ss) = bs.map (·.ss) ++ [ss]) (hs : itemsOkB ss = true) : ∀ c ∈ cs, itemsOkB c.ss = true := by
  intro c hc
  have : c.ss ∈ cs.map (·.ss) := List.mem_map.2 ⟨c, hc, rfl⟩
  rw [h2] at this
  rcases List.mem_append.1 this with h' | h'
  · obtain ⟨d, hd, he⟩ := List.mem_map.1 h'
    rw [← he]
    exact h d hd
  · rw [List.mem_singleton.1 h']
    exact hs
theorem its_ok {ss : List ByteArray} (hl : ss.length ≤ 4) (h : ∀ i, i < ss.length → isItem (ss.getD i ByteArray.empty).data.toList = true) : itemsOkB ss = true := by
  rw [itemsOkB, Bool.and_eq_true, decide_eq_true_eq, List.all_eq_true]
  refine ⟨by omega, fun s hs => ?_⟩
  obtain ⟨j, hj, rfl⟩ := List.mem_iff_getElem.1 hs
  have := h j hj
  rwa [List.getD_eq_getElem?_getD, List.getElem?_eq_getElem hj] at this
theorem more_ne {bs cs : List BlkV} {ss : List ByteArray} (h2 : cs.map (·.ss) = bs.map (·.ss) ++ [ss]) : cs ≠ [] := by
  intro h
  have := congrArg List.length h2
  rw [h] at this
  simp at this
/-- What a chain drawn from nothing is. -/
def ChainH (B b p B0 many : Nat) (w : World) (e : Ending) (w' : World) : Prop := ∃ (v : Value) (cs : List BlkV) (q : Nat), e = .returned v ∧ BList B0 v cs w' ∧ Good cs ∧ (∀ c ∈ cs, itemsOkB c.ss = true) ∧ (0 < many → cs ≠ []) ∧ q ≤ p + 10 * many ∧ Rd B b q w' ∧ Below b w w' ∧ But b w w'

set_option maxHeartbeats 2000000 in
set_option maxRecDepth 100000 in
theorem drawChainH (B b p B0 g0 c0 : Nat) (hb : b < B0) (many : Nat) (w : World) (h : Rd B b p w) (hp : p < 1000000000 - 1000) (hl : BList B0 (.slice (some ⟨g0, 0, none⟩) 0 c0) [] w) (hB0 : B0 ≤ w.heap.size) (hm : many ≤ 20) :
    Calls Tryz.prog 22 #[.pointer (some ⟨b, 0, none⟩), .slice (some ⟨g0, 0, none⟩) 0 c0, .int .i64 (many : Int)] w fun e w' => ChainH B b p B0 many w e w' := by
  have hlt := h.lt
  have HP : Hid (∀ e w' v cs q, e = .returned v → BList B0 v cs w' → Good cs → (∀ c ∈ cs, itemsOkB c.ss = true) → (0 < many → cs ≠ []) → q ≤ p + 10 * many → Rd B b q w' → Below b w w' → But b w w' → ChainH B b p B0 many w e w') := fun e w' v cs q h1 h2 h3 ha hc h4 h5 h6 h7 => ⟨v, cs, q, h1, h2, h3, ha, hc, h4, h5, h6, h7⟩
  generalize ChainH B b p B0 many w = CP at HP ⊢
  have HL0 : Hid (BList B0 (.slice (some ⟨g0, 0, none⟩) 0 c0) [] w) := hl
  have HR0 : Hid (Rd B b p w) := h
  have hB0b : B0 ≤ w.heap.size := hB0
  clear h hl hB0
  have hwm : (many : Int) ≤ 20 := by omega
  go_enter Tryz.func22, Tryz.ntmps22
  go_wp2_with fail
  go_loopw [1, 7, 8] (fun l t m wr => ∃ (cs : List BlkV) (g c k : Nat) (tt : Int) (mm q : Nat), l = .slice (some ⟨g, 0, none⟩) k c ∧ t = .int .i64 tt ∧ m = .int .i64 (mm : Int) ∧ 0 ≤ tt ∧ tt ≤ 30 * ((many - mm : Nat) : Int) ∧ mm ≤ many ∧ q ≤ p + 10 * (many - mm) ∧ Hid (k = cs.length) ∧ Hid (BList B0 (.slice (some ⟨g, 0, none⟩) k c) cs wr) ∧ Hid (Good cs ∧ (∀ c ∈ cs, itemsOkB c.ss = true) ∧ (mm < many → cs ≠ [])) ∧ Hid (Rd B b q wr) ∧ Hid (Below b w wr ∧ But b w wr)) (fun _ _ m _ => (intOf m).toNat)
  case atStart => exact ⟨[], g0, c0, 0, 0, many, p, rfl, rfl, rfl, Int.le_refl _, by omega, Nat.le_refl _, by omega, rfl, HL0, ⟨Good.nil, fun c hc => absurd hc (by simp), fun h => absurd h (Nat.lt_irrefl _)⟩, HR0, ⟨Below.refl _ _, But.refl _ _⟩⟩
  case round =>
    clear HL0 HR0
    obtain ⟨cs, g, c, k, tt, mm, q, rfl, rfl, rfl, ht0, ht1, hmm, hq, HK, HL, HG, HR, HB⟩ := hrel
    by_cases hm0 : 0 < mm
    · have hm0' : (0 : Int) < (mm : Int) := by omega
      have HM : Hid (mm - 1 + 1 = mm) := by show _ = _; omega
      have hszr : w.heap.size ≤ wr.heap.size := HB.out.2.1
      have hltr := HR.out.lt
      have hbk := heap_alloc_new wr (.cells (steps5.map (Value.int .i64)).toArray 3)
      have hone := one_walk B b q wr.heap.size 5 5 steps5 _ (HR.out.keep ((Below.refl _ _).alloc (by omega) (.cells (steps5.map (Value.int .i64)).toArray 3))) (by omega) (by omega) (by omega) (cells_ints hbk rfl 5 (by decide)) (by omega)
      have HL1 : Hid (BList B0 (.slice (some ⟨g, 0, none⟩) k c) cs (wr.alloc (.cells (steps5.map (Value.int .i64)).toArray 3))) := HL.out.below ((Below.refl _ wr).alloc (Nat.le_refl _) _)
      have HB1 : Hid (Below b w (wr.alloc (.cells (steps5.map (Value.int .i64)).toArray 3)) ∧ But b w (wr.alloc (.cells (steps5.map (Value.int .i64)).toArray 3))) := ⟨HB.out.1.alloc (by omega) _, HB.out.2.trans (But.alloc _ _ _)⟩
      clear hbk hm0 HL HB HR
      go_wp2_with fail
      refine hone.mono ?_
      rintro e w2 ⟨x, hx, rfl, hr2, ho2⟩
      have hin := steps5_in ⟨x, hx⟩
      dsimp only at hin
      generalize steps5.getD x 0 = st at hin ⊢
      have HL2 : Hid (BList B0 (.slice (some ⟨g, 0, none⟩) k c) cs w2) := HL1.out.only ho2.but hb
      have HB2 : Hid (Below b w w2 ∧ But b w w2) := ⟨HB1.out.1.trans (ho2.below (Nat.le_refl _)), HB1.out.2.trans ho2.but⟩
      have hit := drawItems B b (q + 1) 4 w2 hr2 (by omega) (by omega)
      have wt : IntKind.i64.wrap (tt + st) = tt + st := by rw [IntKind.wrap_i64]; omega
      clear hone HL1 HB1 ho2 hr2
      go_wp2_with fail
      refine hit.mono ?_
      rintro e w3 ⟨v3, ss, q3, rfl, hz3, hl3, hi3, hq3, hr3, bl3, bu3⟩
      obtain ⟨gi, ci, hv3⟩ := hz3.1
      subst hv3
      have HL3 : Hid (BList B0 (.slice (some ⟨g, 0, none⟩) k c) cs w3) := HL2.out.only bu3 hb
      have HB3 : Hid (Below b w w3 ∧ But b w w3) := ⟨HB2.out.1.trans bl3, HB2.out.2.trans bu3⟩
      have HR3 : Hid (Rd B b q3 w3) := hr3
      have HSS : Hid (ss.length ≤ 4) := hl3
      have HIO : Hid (itemsOkB ss = true) := its_ok hl3 hi3
      have HNE : Hid (mineV (cs.map (·.h)) (tt + st) ss = none → cs ≠ []) := fun hn hc => by
        rw [hc] at hn
        exact mine_first (by omega) (by omega) hn
      have hmi := specL4Mine g k c cs (tt + st) gi ss.length ci ss w3 (FRow.at enBlk_len HL3.out.row).1 (fun b' hb' => ⟨(HL3.out.items b' hb').1, by have := HG.out.1.items b' hb'; omega⟩) HK.out (by have := HG.out.1.few; have := HK.out; omega) HG.out.1.ok (SRow.at hz3).1 rfl (by omega) (fun i hi => item_small (hi3 i hi))
      have hltr3 := hr3.lt
      clear hit HL2 HB2 hz3 hi3 bl3 bu3 hr3 hl3
      obtain ⟨sl, hsl⟩ : ∃ n, n = ss.length := ⟨_, rfl⟩
      rw [← hsl] at hmi ⊢
      clear hsl
      go_wp2_with fail
      refine hmi.mono ?_
      rintro e w4 ⟨b4, ⟨hnone, rfl⟩ | ⟨y, v4, ds, hsome, rfl, l4, h41, h42⟩⟩
      · have HL4 : Hid (BList B0 (.slice (some ⟨g, 0, none⟩) k c) cs w4) := HL3.out.below b4
        have HB4 : Hid (Below b w w4 ∧ But b w w4) := ⟨HB3.out.1.trans (b4.mono (by omega)), HB3.out.2.trans (Below.but b4)⟩
        have HR4 : Hid (Rd B b q3 w4) := HR3.out.keep (b4.mono (by omega))
        have HG4 : Hid (Good cs ∧ (∀ c ∈ cs, itemsOkB c.ss = true) ∧ (mm - 1 < many → cs ≠ [])) := ⟨HG.out.1, HG.out.2.1, fun _ => HNE.out hnone⟩
        clear b4 hnone hmi HNE HG
        go_wp2_with fail
        go_roundw
        case rel => exact ⟨cs, g, c, k, tt + st, mm - 1, q3, rfl, rfl, by have := HM.out; show Value.int .i64 _ = Value.int .i64 _; congr 1; omega, by omega, by have := HM.out; omega, by have := HM.out; omega, by have := HM.out; omega, HK, HL4, HG4, HR4, HB4⟩
        case measure => have := HM.out; simp [intOf]; omega
      · obtain ⟨g4, c4, hv4⟩ := l4.row.1
        subst hv4
        have hsz3 : w.heap.size ≤ w3.heap.size := HB3.out.2.1
        have HL4 : Hid (BList B0 (.slice (some ⟨g4, 0, none⟩) ds.length c4) ds w4) := l4.mono (by omega)
        have HG4 : Hid (Good ds ∧ (∀ c ∈ ds, itemsOkB c.ss = true) ∧ (mm - 1 < many → ds ≠ [])) := ⟨HG.out.1.more hsome h41 h42 HSS.out, its_more HG.out.2.1 h42 HIO.out, fun _ => more_ne h42⟩
        have HB4 : Hid (Below b w w4 ∧ But b w w4) := ⟨HB3.out.1.trans (b4.mono (by omega)), HB3.out.2.trans (Below.but b4)⟩
        have HR4 : Hid (Rd B b q3 w4) := HR3.out.keep (b4.mono (by omega))
        clear b4 hsome hmi l4 h41 h42 HNE HG
        obtain ⟨dl, hdl⟩ : ∃ n, n = ds.length := ⟨_, rfl⟩
        have HDL : Hid (dl = ds.length) := hdl
        rw [← hdl] at HL4 ⊢
        clear hdl
        go_wp2_with fail
        go_roundw
        case rel => exact ⟨ds, g4, c4, dl, tt + st, mm - 1, q3, rfl, rfl, by have := HM.out; show Value.int .i64 _ = Value.int .i64 _; congr 1; omega, by omega, by have := HM.out; omega, by have := HM.out; omega, by have := HM.out; omega, HDL, HL4, HG4, HR4, HB4⟩
        case measure => have := HM.out; simp [intOf]; omega
    · have hm0' : ¬ (0 : Int) < (mm : Int) := by omega
      go_wp2_with fail
      exact HP.out _ _ _ cs q rfl HL.out HG.out.1 HG.out.2.1 (fun h => HG.out.2.2 (by omega)) (by omega) HR.out HB.out.1 HB.out.2

end Go.Proofs.YtialhnocknogpaaGreatDoor

set_option linter.unusedVariables false
namespace Go.Proofs.YtialhnocknogpaaGreatDoor
open Go.RowKit Go.Deep

def many7 : List Int := [0, 1, 3, 5, 8, 8, 13]
theorem many7_in : ∀ i : Fin 7, 0 ≤ many7.getD i.val 0 ∧ many7.getD i.val 0 ≤ 13 := by decide
def BlocksPost (B b p : Nat) (w : World) (e : Ending) (w' : World) : Prop := ∃ (v : Value) (cs : List BlkV) (q : Nat), e = .returned v ∧ BList w.heap.size v cs w' ∧ Good cs ∧ q ≤ p + 200 ∧ Rd B b q w' ∧ Below b w w' ∧ But b w w'

end Go.Proofs.YtialhnocknogpaaGreatDoor

set_option linter.unusedVariables false
namespace Go.Proofs.YtialhnocknogpaaGreatDoor
open Go.RowKit Go.Deep

theorem tree_fine {f : Nat → PeakV} {N : Nat} (hf : ∀ i, i < N → Fine (f i) 0 0) : ∀ (j a : Nat), a + 2 ^ j ≤ N → j ≤ 5 → Fine (treeT f a j) 0 j
  | 0, a, h, _ => hf a (by rw [Nat.pow_zero] at h; omega)
  | j + 1, a, h, h5 => by
    have e1 : 2 ^ (j + 1) = 2 ^ j + 2 ^ j := by rw [Nat.pow_succ']; omega
    rw [e1] at h
    have i1 : a + 2 ^ j ≤ N := Nat.le_trans (Nat.add_le_add_left (Nat.le_add_right _ _) a) h
    have i2 : a + 2 ^ j + 2 ^ j ≤ N := by rw [Nat.add_assoc]; exact h
    have h1 : Fine (treeT f a j) 0 j := tree_fine hf j a i1 (by omega)
    have h2 : Fine (treeT f (a + 2 ^ j) j) 0 j := tree_fine hf j (a + 2 ^ j) i2 (by omega)
    have c1 := h1.cnt
    have c2 := h2.cnt
    have w1 := h1.wk
    have w2 := h2.wk
    have l1 := h1.l1
    have l2 := h2.l1
    refine ⟨?_, h5, isSum_both _ _, ?_, Int.le_refl _, ?_⟩
    · show (treeT f a j).count + (treeT f (a + 2 ^ j) j).count = _
      rw [c1, c2, e1]
      omega
    · show (treeT f a j).count + (treeT f (a + 2 ^ j) j).count ≤ (treeT f a j).work + (treeT f (a + 2 ^ j) j).work ∧ (treeT f a j).work + (treeT f (a + 2 ^ j) j).work ≤ ((treeT f a j).count + (treeT f (a + 2 ^ j) j).count) * 8
      omega
    · show (0 : Int) ≤ (treeT f a j).work + (treeT f (a + 2 ^ j) j).work
      omega
theorem sibR_len (f : Nat → PeakV) : ∀ (j a k x : Nat), (sibR f a k j x).length = j
  | 0, _, _, _ => rfl
  | j + 1, a, k, x => by rw [sibR, List.length_cons, sibR_len f j]
theorem sibR_at (f : Nat → PeakV) : ∀ (j a k x i : Nat), i < j → (sibR f a k j x).getD i default = treeT f (a + (x / 2 ^ i + 1 - x / 2 ^ i % 2 * 2) * 2 ^ (k + i)) (k + i)
  | j + 1, a, k, x, 0, _ => by simp [sibR]
  | j + 1, a, k, x, i + 1, h => by
    have e1 : x / 2 / 2 ^ i = x / 2 ^ (i + 1) := by rw [Nat.div_div_eq_div_mul, ← Nat.pow_succ']
    rw [sibR, List.getD_cons_succ, sibR_at f j a (k + 1) (x / 2) i (by omega), e1, show k + 1 + i = k + (i + 1) from by omega]
theorem climb_to {f : Nat → PeakV} {N : Nat} (hf : ∀ i, i < N → Fine (f i) 0 0) (j a x : Nat) (ha : a + 2 ^ j ≤ N) (hj : 2 ^ j ≤ 20) (hx : x < 2 ^ j) : ∀ i, i ≤ j → ∃ l : Int, walkTo (f (a + x)) x (sibR f a 0 j x) i = some (treeT f (a + x / 2 ^ i * 2 ^ i) i, l) ∧ 0 ≤ l
  | 0, _ => ⟨0, by simp [walkTo, treeT], Int.le_refl _⟩
  | i + 1, hi => by
    obtain ⟨l, h1, h2⟩ := climb_to hf j a x ha hj hx i (by omega)
    have hs := sibR_at f j a 0 x i (by omega)
    rw [Nat.zero_add] at hs
    have hpos : 0 < 2 ^ i := Nat.two_pow_pos i
    have e1 : 2 ^ (i + 1) = 2 * 2 ^ i := Nat.pow_succ'
    have hle : 2 ^ (i + 1) ≤ 2 ^ j := Nat.pow_le_pow_right (by decide) hi
    have h4 : i ≤ 4 := by
      refine Classical.byContradiction fun h => ?_
      have : 2 ^ 5 ≤ 2 ^ i := Nat.pow_le_pow_right (by decide) (by omega)
      omega
    have ey : x / 2 ^ (i + 1) = x / 2 ^ i / 2 := by rw [Nat.div_div_eq_div_mul, ← Nat.pow_succ]
    obtain ⟨d, hd⟩ : ∃ d, j = i + 1 + d := ⟨j - (i + 1), by omega⟩
    have ej : 2 ^ j = 2 ^ d * (2 * 2 ^ i) := by rw [hd, Nat.pow_add, e1, Nat.mul_comm]
    have hy : x / 2 ^ i < 2 * 2 ^ d := by
      rw [Nat.div_lt_iff_lt_mul hpos]
      have : 2 * 2 ^ d * 2 ^ i = 2 ^ j := by rw [ej, Nat.mul_comm 2 (2 ^ d), Nat.mul_assoc]
      omega
    generalize hxy : x / 2 ^ i = y at h1 hs ey hy
    have hsib : (y + 1 - y % 2 * 2) < 2 * 2 ^ d := by omega
    have hin : ∀ z, z < 2 * 2 ^ d → a + z * 2 ^ i + 2 ^ i ≤ N := by
      intro z hz
      have h5 : (z + 1) * 2 ^ i ≤ 2 * 2 ^ d * 2 ^ i := Nat.mul_le_mul_right _ hz
      have h6 : 2 * 2 ^ d * 2 ^ i = 2 ^ j := by rw [ej, Nat.mul_comm 2 (2 ^ d), Nat.mul_assoc]
      rw [Nat.add_mul, Nat.one_mul, h6] at h5
      omega
    have f1 := tree_fine hf i (a + y * 2 ^ i) (hin y hy) (by omega)
    have f2 := tree_fine hf i (a + (y + 1 - y % 2 * 2) * 2 ^ i) (hin _ hsib) (by omega)
    have c20 : (treeT f (a + (y + 1 - y % 2 * 2) * 2 ^ i) i).count ≤ 20 := by
      rw [f2.cnt]
      have : 2 ^ i ≤ 20 := by omega
      exact_mod_cast this
    have hb : (peakOkB ((sibR f a 0 j x).getD i default) && decide (((sibR f a 0 j x).getD i default).count = (treeT f (a + y * 2 ^ i) i).count)) = true := by
      rw [hs, Bool.and_eq_true, decide_eq_true_eq, f1.cnt, f2.cnt]
      exact ⟨fine_ok f2 c20, rfl⟩
    have hw := f2.l1
    have e2 : x / 2 ^ (i + 1) * 2 ^ (i + 1) = y / 2 * 2 * 2 ^ i := by rw [ey, e1, Nat.mul_assoc]
    rw [e2]
    by_cases hm : y % 2 = 1
    · have hw2 := walk_left h1 hb (by rw [hxy]; exact hm)
      rw [hs] at hw2
      have e3 : y + 1 - y % 2 * 2 = y / 2 * 2 := by omega
      have e4 : a + y * 2 ^ i = a + y / 2 * 2 * 2 ^ i + 2 ^ i := by
        have : y = y / 2 * 2 + 1 := by omega
        rw [Nat.add_assoc, ← Nat.succ_mul]
        exact congrArg (fun z => a + z * 2 ^ i) this
      rw [e3, e4] at hw2
      rw [e3] at hw
      exact ⟨_, hw2, by omega⟩
    · have hw2 := walk_right h1 hb (by rw [hxy]; exact hm)
      rw [hs] at hw2
      have e3 : y + 1 - y % 2 * 2 = y / 2 * 2 + 1 := by omega
      have e5 : y = y / 2 * 2 := by omega
      have e4 : a + (y / 2 * 2 + 1) * 2 ^ i = a + y / 2 * 2 * 2 ^ i + 2 ^ i := by rw [Nat.add_mul, Nat.one_mul, Nat.add_assoc]
      rw [e3, e4, ← e5] at hw2
      rw [← e5]
      exact ⟨_, hw2, h2⟩
theorem same_refl (q : PeakV) : samePB q q = true := by simp [samePB]
/-- What is noted for a leaf climbs. -/
theorem climb_yes {l : List HeadV} (hok : ∀ i, i < l.length → headOkB (l.getD i default) = true) (j a x : Nat) (ha : a + 2 ^ j ≤ l.length) (hj : 2 ^ j ≤ 20) (hx : x < 2 ^ j) : 0 ≤ climbV (treeT (leafF l) a j) (l.getD (a + x) default) x (sibT (leafF l) a j x) := by
  obtain ⟨w, h1, h2⟩ := climb_to (f := leafF l) (N := l.length) (fun i hi => fine_leaf (hok i hi)) j a x ha hj hx j (Nat.le_refl _)
  rw [Nat.div_eq_of_lt hx, Nat.zero_mul, Nat.add_zero, sibR_eq _ _ _ _ hx] at h1
  have hlen : (sibT (leafF l) a j x).length = j := by rw [← sibR_eq _ _ _ _ hx]; exact sibR_len _ _ _ _ _
  have h3 : walkTo (leafP (l.getD (a + x) default)) x (sibT (leafF l) a j x) (sibT (leafF l) a j x).length = some (treeT (leafF l) a j, w) := by rw [hlen]; exact h1
  rw [climb_some h3, if_pos (same_refl _)]
  exact h2
/-- What RangeProof tells of ok heads and a place among them passes RangeCheck. -/
theorem check_proof {l : List HeadV} (hok : ∀ i, i < l.length → headOkB (l.getD i default) = true) (hl : l.length ≤ 20) (x : Nat) (hx : x < l.length) (hr : rangeOkB (ofP l l.length) = true) : 0 ≤ checkV ⟨(rangeRoot (ofP l l.length)).toArray⟩ (l.getD x default) (x : Int) (ofP l l.length) (notesN (leafF l) x l.length) := by
  obtain ⟨t, t1, t2, t3⟩ := stk_shp (leafF_cnt l) x l.length
  have hp := stk_peaks t1
  obtain ⟨k, a, i, k1, k2, k3, k4, k5, k6, k7, k8⟩ := shp_place (leafF_cnt l) x t l.length 0 t2 hx
  have hc := shp_cnt (leafF_cnt l) t l.length 0 t2
  have hmono := cnt_mono (peaksT_pos (leafF_cnt l) t) ((peaksT (leafF l) t).length - (k + 1)) (k + 1) (by omega)
  rw [show k + 1 + ((peaksT (leafF l) t).length - (k + 1)) = (peaksT (leafF l) t).length from by omega, hc, cntTo, k4, k5, treeT_cnt (leafF_cnt l)] at hmono
  have hai : a + 2 ^ i ≤ l.length := by
    generalize 2 ^ i = P at hmono ⊢
    omega
  have hi20 : 2 ^ i ≤ 20 := by omega
  have h4 : i ≤ 4 := by
    refine Classical.byContradiction fun h => ?_
    have : 2 ^ 5 ≤ 2 ^ i := Nat.pow_le_pow_right (by decide) (by omega)
    omega
  have hlt : x - a < 2 ^ i := by omega
  have hlen : (sibT (leafF l) a i (x - a)).length = i := by rw [← sibR_eq _ _ _ _ hlt]; exact sibR_len _ _ _ _ _
  have hcl := climb_yes hok i a (x - a) hai hi20 hlt
  rw [show a + (x - a) = x from by omega] at hcl
  rw [← hp] at k1 k2 k3 k4 k5
  have hn : notesN (leafF l) x l.length = sibT (leafF l) a i (x - a) := by rw [t3, k8]
  have hxa : ((x : Int) - cntTo (ofP l l.length) k).toNat = x - a := by rw [k4]; omega
  have hwk : 0 ≤ wrkTo (ofP l l.length) k := by
    have : ∀ m, m ≤ (ofP l l.length).length → 0 ≤ wrkTo (ofP l l.length) m := by
      intro m
      induction m with
      | zero => intro _; exact Int.le_refl _
      | succ m ih =>
        intro hm
        have h3 := ih (by omega)
        have h4 := rangeOk_at hr m (by omega)
        rw [wrkTo]
        omega
    exact this k (by omega)
  rw [hn, check_some ⟨hok x hx, Int.natCast_nonneg _, by omega, hr, rfl⟩ (place_at k1 k2 k3), hxa, k5, if_neg (by omega)]
  omega
end Go.Proofs.YtialhnocknogpaaGreatDoor

set_option linter.unusedVariables false
namespace Go.Proofs.YtialhnocknogpaaGreatDoor
open Go.RowKit Go.Deep

theorem shp_down {f : Nat → PeakV} (hf : ∀ i, (f i).count = 1) : ∀ (t : List (Nat × Nat)) (e j : Nat), Shp e j t → (∀ i, 0 < i → i < (peaksT f t).length → ((peaksT f t).getD i default).count < ((peaksT f t).getD (i - 1) default).count) ∧ (0 < (peaksT f t).length → ((2 ^ j : Nat) : Int) ≤ ((peaksT f t).getD ((peaksT f t).length - 1) default).count)
  | [], _, _, _ => ⟨fun i _ h => absurd h (by simp [peaksT]), fun h => absurd h (by simp [peaksT])⟩
  | s :: r, e, j, h => by
    obtain ⟨h1, h2, h3⟩ := h
    obtain ⟨ih1, ih2⟩ := shp_down hf r _ _ h3
    have hl : (peaksT f (s :: r)).length = (peaksT f r).length + 1 := by rw [peaksT_cons, List.length_append]; rfl
    have e1 : (peaksT f (s :: r)).getD (peaksT f r).length default = treeT f s.1 s.2 := by
      rw [peaksT_cons, List.getD_eq_getElem?_getD, List.getElem?_append_right (Nat.le_refl _), Nat.sub_self]
      rfl
    have e2 : ∀ i, i < (peaksT f r).length → (peaksT f (s :: r)).getD i default = (peaksT f r).getD i default := fun i hi => by
      rw [peaksT_cons, List.getD_eq_getElem?_getD, List.getElem?_append_left hi, ← List.getD_eq_getElem?_getD]
    have hlt : ((2 ^ s.2 : Nat) : Int) < ((2 ^ (s.2 + 1) : Nat) : Int) := by exact_mod_cast Nat.pow_lt_pow_right (by decide) (Nat.lt_succ_self _)
    have hle : ((2 ^ j : Nat) : Int) ≤ ((2 ^ s.2 : Nat) : Int) := by exact_mod_cast Nat.pow_le_pow_right (by decide) h2
    refine ⟨fun i hi hil => ?_, fun _ => ?_⟩
    · by_cases hb : i < (peaksT f r).length
      · rw [e2 i hb, e2 (i - 1) (by omega)]
        exact ih1 i hi hb
      · have hb2 : i = (peaksT f r).length := by omega
        have h4 := ih2 (by omega)
        rw [hb2, e1, e2 _ (by omega), treeT_cnt hf]
        exact Int.lt_of_lt_of_le hlt h4
    · rw [hl, Nat.add_sub_cancel, e1, treeT_cnt hf]
      exact hle
theorem peaksT_two {f : Nat → PeakV} (hf : ∀ i, (f i).count = 1) (t : List (Nat × Nat)) : ∀ q ∈ peaksT f t, ∃ i : Nat, q.count = ((2 ^ i : Nat) : Int) := by
  intro q hq
  rw [peaksT, List.mem_reverse] at hq
  obtain ⟨s, _, rfl⟩ := List.mem_map.1 hq
  exact ⟨s.2, treeT_cnt hf _ _⟩
theorem two_yes {i : Nat} (h : ((2 ^ i : Nat) : Int) ≤ 20) : twoB ((2 ^ i : Nat) : Int) = true := by
  have h4 : i ≤ 4 := by
    refine Classical.byContradiction fun hn => ?_
    have h5 : 2 ^ 5 ≤ 2 ^ i := Nat.pow_le_pow_right (by decide) (by omega)
    have h6 : 2 ^ i ≤ 20 := by exact_mod_cast h
    omega
  have : i = 0 ∨ i = 1 ∨ i = 2 ∨ i = 3 ∨ i = 4 := by omega
  rcases this with rfl | rfl | rfl | rfl | rfl <;> decide
theorem ofP_rangeOk {l : List HeadV} (hok : ∀ i, i < l.length → headOkB (l.getD i default) = true) (hl : l.length ≤ 20) (m : Nat) (hm : m ≤ l.length) : rangeOkB (ofP l m) = true := by
  obtain ⟨h1, h2, h3⟩ := ofP_ok hok hl m hm
  obtain ⟨t, t1, t2, _⟩ := stk_shp (leafF_cnt l) 0 m
  have hp := stk_peaks t1
  have hd := (shp_down (leafF_cnt l) t m 0 t2).1
  rw [← hp] at hd
  rw [rangeOk_end, h2, decide_eq_true_eq]
  · omega
  · intro i hi
    have hmem : (ofP l m).getD i default ∈ ofP l m := by rw [List.getD_eq_getElem?_getD, List.getElem?_eq_getElem hi]; exact List.getElem_mem hi
    have hk := h1 _ hmem
    have hc := peakOk_in hk
    obtain ⟨j, hj⟩ := peaksT_two (leafF_cnt l) t _ (by rw [← hp]; exact hmem)
    have h2c : twoB ((ofP l m).getD i default).count = true := by rw [hj]; exact two_yes (by rw [← hj]; exact hc.2.1)
    rw [stepOk, hk, h2c, Bool.true_and, Bool.true_and, Bool.or_eq_true, decide_eq_true_eq, decide_eq_true_eq]
    by_cases h0 : i = 0
    · exact .inl h0
    · exact .inr (hd i (by omega) hi)
/-- What RangeProof tells of ok heads and a place among them passes RangeCheck. -/
theorem check_proofs {l : List HeadV} (hok : ∀ i, i < l.length → headOkB (l.getD i default) = true) (hl : l.length ≤ 20) (x : Nat) (hx : x < l.length) : 0 ≤ checkV ⟨(rangeRoot (ofP l l.length)).toArray⟩ (l.getD x default) (x : Int) (ofP l l.length) (notesN (leafF l) x l.length) :=
  check_proof hok hl x hx (ofP_rangeOk hok hl _ (Nat.le_refl _))
end Go.Proofs.YtialhnocknogpaaGreatDoor

set_option linter.unusedVariables false
namespace Go.Proofs.YtialhnocknogpaaGreatDoor
open Go.RowKit Go.Deep

theorem flat_set {α : Type} [Inhabited α] (k : Nat) (enc : α → List Value) (hk : ∀ a, (enc a).length = k) : ∀ (l : List α) (i j : Nat) (v : Value) (a : α), i < l.length → j < k → enc a = (enc (l.getD i default)).set j v → (l.flatMap enc).set (i * k + j) v = (l.set i a).flatMap enc
  | [], i, j, v, a, hi, _, _ => by cases hi
  | x :: r, 0, j, v, a, _, hj, he => by
    have he' : enc a = (enc x).set j v := he
    rw [List.flatMap_cons, Nat.zero_mul, Nat.zero_add, List.set_append_left _ _ (by rw [hk]; exact hj), List.set_cons_zero, List.flatMap_cons, he']
  | x :: r, i + 1, j, v, a, hi, hj, he => by
    have e : (i + 1) * k + j = k + (i * k + j) := by rw [Nat.add_mul]; omega
    rw [List.flatMap_cons, List.set_append_right _ _ (by rw [hk, e]; omega), hk, e, Nat.add_sub_cancel_left, flat_set k enc hk r i j v a (by simpa using hi) hj (by simpa using he), List.set_cons_succ, List.flatMap_cons]
/-- A field of one block written. -/
theorem BRow.set {B g n c : Nat} {cs : List BlkV} {w : World} (h : BRow B (.slice (some ⟨g, 0, none⟩) n c) cs w) (i j : Nat) (v : Value) (b : BlkV) (hi : i < cs.length) (hj : j < 6) (he : enBlk b = (enBlk (cs.getD i default)).set j v) :
    BRow B (.slice (some ⟨g, 0, none⟩) n c) (cs.set i b) (w.setCell ⟨g, i * 6 + j, none⟩ v) := by
  obtain ⟨⟨g', c', hv⟩, h1, h2⟩ := h
  refine ⟨⟨g', c', by rw [List.length_set]; exact hv⟩, ?_⟩
  rw [List.length_set]
  refine ⟨by rw [← flat_set 6 enBlk enBlk_len cs i j v b hi hj he, List.length_set]; exact h1, ?_⟩
  rcases h2 with ⟨h3, _⟩ | ⟨g2, c2, cur, hv2, hB, hg, hc, hm, hs, ht⟩
  · cases h3
  · have eg : g = g2 := by simp only [Value.slice.injEq, Option.some.injEq, Addr.mk.injEq, and_true] at hv2; exact hv2.1
    subst eg
    refine .inr ⟨g, c2, cur.setIfInBounds (i * 6 + j) v, hv2, hB, ?_, hc, hm, by rw [Array.size_setIfInBounds]; exact hs, ?_⟩
    · simp [World.setCell, Array.getElem?_modify, hg]
    · rw [← flat_set 6 enBlk enBlk_len cs i j v b hi hj he, ← ht, Array.toList_setIfInBounds, List.take_set]
theorem BRow.frozen {B g n c : Nat} {cs : List BlkV} {w : World} (h : BRow B (.slice (some ⟨g, 0, none⟩) n c) cs w) (j : Nat) : w.frozen? ⟨g, j, none⟩ = false := by
  obtain ⟨g', c', cur, hv, _, _, hg, _⟩ := h.block
  have e : g = g' := by simp only [Value.slice.injEq, Option.some.injEq, Addr.mk.injEq, and_true] at hv; exact hv.1
  subst e
  exact Lib.frozen_of_heap hg j
/-- The first of a list, as a row of its own that has room. -/
theorem BRow.first {B g n c : Nat} {cs : List BlkV} {w : World} (h : BRow B (.slice (some ⟨g, 0, none⟩) n c) cs w) (k : Nat) (hk : k ≤ cs.length) : w.ownsRow B 70 6 (.slice (some ⟨g, 0, none⟩) k c) k ((cs.take k).flatMap enBlk) := by
  have hlk : (cs.take k).length = k := by rw [List.length_take]; omega
  obtain ⟨⟨g', c', hv⟩, h1, h2⟩ := h
  refine ⟨by rw [flat_length 6 enBlk enBlk_len, hlk], ?_⟩
  rcases h2 with ⟨h3, _⟩ | ⟨g2, c2, cur, hv2, hB, hg, hc, hm, hs, ht⟩
  · cases h3
  · simp only [Value.slice.injEq, Option.some.injEq, Addr.mk.injEq, and_true] at hv2
    obtain ⟨rfl, rfl, rfl⟩ := hv2
    refine .inr ⟨g, c, cur, rfl, hB, hg, by omega, hm, hs, ?_⟩
    have e : cs.flatMap enBlk = (cs.take k).flatMap enBlk ++ (cs.drop k).flatMap enBlk := by rw [← List.flatMap_append, List.take_append_drop]
    have hmul : k * 6 ≤ cs.length * 6 := Nat.mul_le_mul_right 6 hk
    have e2 : cur.toList.take (k * 6) = (cur.toList.take (cs.length * 6)).take (k * 6) := by rw [List.take_take, Nat.min_eq_left hmul]
    rw [e2, ht, e, List.take_append_of_le_length (by rw [flat_length 6 enBlk enBlk_len, hlk]; exact Nat.le_refl _), List.take_of_length_le (by rw [flat_length 6 enBlk enBlk_len, hlk]; exact Nat.le_refl _)]

end Go.Proofs.YtialhnocknogpaaGreatDoor

set_option linter.unusedVariables false
namespace Go.Proofs.YtialhnocknogpaaGreatDoor
open Go.RowKit

def items4 : List ByteArray := [⟨#[]⟩, ⟨#[65]⟩, ⟨#[116, 111, 111, 108, 111, 110, 103, 101, 114]⟩, ⟨#[97, 32, 98]⟩]
theorem items4_size : ∀ i : Fin 4, (items4.getD i.val ByteArray.empty).size ≤ 16 := by decide

def belows : List Int := [1, 2, 37, 1000, 60000, 0, 60001]
theorem belows_in : ∀ i : Fin 7, 0 ≤ belows.getD i.val 0 ∧ belows.getD i.val 0 ≤ 60001 := by decide

end Go.Proofs.YtialhnocknogpaaGreatDoor

set_option linter.unusedVariables false
namespace Go.Proofs.YtialhnocknogpaaGreatDoor
open Go.RowKit

end Go.Proofs.YtialhnocknogpaaGreatDoor

set_option linter.unusedVariables false
namespace Go.Proofs.YtialhnocknogpaaGreatDoor
open Go.RowKit

def OfPost (w : World) (e : Ending) (w' : World) : Prop := ∃ (key : ByteArray) (g n c : Nat) (ss : List ByteArray), e = .returned (.tuple #[.string key, .slice (some ⟨g, 0, none⟩) n c]) ∧ key.size ≤ 16 ∧ AtS w' g ss ∧ n = ss.length ∧ n ≤ 21 ∧ (∀ i, i < ss.length → (ss.getD i ByteArray.empty).size ≤ 16) ∧ Below w.heap.size w w'
def most4 : List Int := [0, 3, 8, 20]
theorem most4_in : ∀ i : Fin 4, ∃ m : Nat, most4.getD i.val 0 = (m : Int) ∧ m ≤ 20 := fun i => ⟨(most4.getD i.val 0).toNat, by revert i; decide, by revert i; decide⟩

end Go.Proofs.YtialhnocknogpaaGreatDoor

set_option linter.unusedVariables false
namespace Go.Proofs.YtialhnocknogpaaGreatDoor
open Go.RowKit Go.Deep

/-- A list of blocks of whose heads the texts are short. -/
structure Loose (B : Nat) (v : Value) (cs : List BlkV) (w : World) : Prop where
  row : BRow B v cs w
  few : cs.length ≤ 20
  wf : ∀ c ∈ cs, c.h.prev.size ≤ 16 ∧ c.h.root.size ≤ 16
def AnyPost (B b p : Nat) (w : World) (e : Ending) (w' : World) : Prop := ∃ (v : Value) (cs : List BlkV) (q : Nat), e = .returned v ∧ Loose w.heap.size v cs w' ∧ q ≤ p + 300 ∧ Rd B b q w' ∧ Below b w w'
theorem Good.wf {cs : List BlkV} (h : Good cs) : ∀ c ∈ cs, c.h.prev.size ≤ 16 ∧ c.h.root.size ≤ 16 := by
  intro c hc
  obtain ⟨i, hi, he⟩ := List.mem_iff_getElem.1 hc
  have ho := h.ok i (by rw [List.length_map]; exact hi)
  rw [getD_map hi] at ho
  have e : cs.getD i default = c := by rw [List.getD_eq_getElem?_getD, List.getElem?_eq_getElem hi]; exact he
  rw [e] at ho
  have h1 := headOk_in ho
  exact ⟨Nat.le_of_eq (sum_size h1.1), Nat.le_of_eq (sum_size h1.2.1)⟩
theorem mem_set {cs : List BlkV} {k : Nat} {b c : BlkV} (h : c ∈ cs.set k b) : c = b ∨ c ∈ cs := by
  rcases List.mem_or_eq_of_mem_set h with h' | h'
  · exact .inr h'
  · exact .inl h'
theorem getD_mem {cs : List BlkV} {k : Nat} (h : k < cs.length) : cs.getD k default ∈ cs := by rw [List.getD_eq_getElem?_getD, List.getElem?_eq_getElem h]; exact List.getElem_mem h
/-- One field written that is no text. -/
theorem Loose.set {B g n c : Nat} {cs : List BlkV} {w : World} (h : BRow B (.slice (some ⟨g, 0, none⟩) n c) cs w) (hg : Good cs) (k j : Nat) (v : Value) (b : BlkV) (hk : k < cs.length) (hj : j < 6) (he : enBlk b = (enBlk (cs.getD k default)).set j v) (h1 : b.h.prev = (cs.getD k default).h.prev) (h2 : b.h.root = (cs.getD k default).h.root) :
    Loose B (.slice (some ⟨g, 0, none⟩) n c) (cs.set k b) (w.setCell ⟨g, k * 6 + j, none⟩ v) := by
  refine ⟨h.set k j v b hk hj he, by rw [List.length_set]; exact hg.few, fun x hx => ?_⟩
  rcases mem_set hx with rfl | h'
  · rw [h1, h2]
    exact hg.wf _ (getD_mem hk)
  · exact hg.wf x h'
theorem BRow.same {B g n c : Nat} {cs : List BlkV} {w w' : World} (h : BRow B (.slice (some ⟨g, 0, none⟩) n c) cs w) (hk : w'.heap[g]? = w.heap[g]?) : BRow B (.slice (some ⟨g, 0, none⟩) n c) cs w' := by
  obtain ⟨h0, h1, h2⟩ := h
  refine ⟨h0, h1, ?_⟩
  rcases h2 with ⟨h3, _⟩ | ⟨g', cap', cur, hv, hB, hg, h4⟩
  · cases h3
  · have e : g = g' := by simp only [Value.slice.injEq, Option.some.injEq, Addr.mk.injEq, and_true] at hv; exact hv.1
    exact .inr ⟨g', cap', cur, hv, hB, by rw [← e, hk, e]; exact hg, h4⟩
def non3 : List Int := [0, 401, 7]
def dif4 : List Int := [0, 1, 2, 9]
def tim3 : List Int := [0, 99999, 100000]

end Go.Proofs.YtialhnocknogpaaGreatDoor

set_option linter.unusedVariables false
namespace Go.Proofs.YtialhnocknogpaaGreatDoor
open Go.RowKit Go.Deep

/-- Drawn heads: few, with short texts. -/
def HeadsPost (B : Nat) (e : Ending) (w' : World) : Prop := ∃ (g n c : Nat) (l : List HeadV), e = .returned (.slice (some ⟨g, 0, none⟩) n c) ∧ AtHead w' g l ∧ n = l.length ∧ n ≤ c ∧ n ≤ 20 ∧ (∀ i, i < l.length → (l.getD i default).prev.size ≤ 16 ∧ (l.getD i default).root.size ≤ 16) ∧ B ≤ g

end Go.Proofs.YtialhnocknogpaaGreatDoor

set_option linter.unusedVariables false
namespace Go.Proofs.YtialhnocknogpaaGreatDoor
open Go.RowKit Go.Deep

/-- A drawn proof: its peaks, its other lists, its head. -/
structure PdDrew (B : Nat) (a : Int) (h : HeadV) (pa : Option Addr) (pn pc : Nat) (ps : List PeakV) (w' : World) : Prop where
  at_ : -1 ≤ a ∧ a ≤ 30
  pk : Pks B (.slice pa pn pc) ps w'
  sz : ∀ i, i < ps.length → (ps.getD i default).sum.size ≤ maxLen
  few : ps.length ≤ 20
def PaidPost (B b p : Nat) (w : World) (e : Ending) (w' : World) : Prop := ∃ (a : Int) (h : HeadV) (pa : Option Addr) (pn pc : Nat) (sa : Option Addr) (sn sc : Nat) (da : Option Addr) (dn dc : Nat) (ps : List PeakV) (s1 s2 : ByteArray) (q : Nat), e = .returned (.tuple #[.agg #[.int .i64 a, .string h.prev, .string h.root, .int .i64 h.time, .int .i64 h.diff, .int .i64 h.nonce, .slice pa pn pc, .slice sa sn sc, .slice da dn dc], .string s1, .string s2]) ∧ PdDrew w.heap.size a h pa pn pc ps w' ∧ q ≤ p + 300 ∧ Rd B b q w' ∧ Below b w w' ∧ But b w w'
theorem results_row_tmp_tmp {P : Program} {fn : Func} {p u v : Tmp} {ty : TypeId} (h : fn.results = #[.cell p ty, .tmp u, .tmp v]) (tmps : Array Value) (w : World) (g : Nat) (t : TypeId) (cs : Array Value) (fr : Nat × Nat) (d : TypeDesc)
    (hp : tmps.getD p undef = .pointer (some ⟨g, 0, none⟩)) (hg : w.heap[g]? = some (.cells cs t fr))
    (hu : P.underlying ty = some d) (hd : (match d with | .struct _ | .array _ _ => true | _ => false) = true) (hi : (P.info? ty).map (·.size) = some cs.size) :
    (results fn tmps).run P w = .ok (.tuple #[.agg cs, tmps.getD u undef, tmps.getD v undef]) w := by
  have e : (results fn tmps).run P w = ((asAddr (tmps.getD p undef)).run P w).andThen fun a w₁ => ((loadVar ty a).run P w₁).andThen fun x w₂ => .ok (.tuple #[x, tmps.getD u undef, tmps.getD v undef]) w₂ := by
    simp only [results, h]
    simp [Sem.run_bind, Result.andThen]
  rw [e, hp]
  simp [asAddr, run_loadVar_row w g t ty cs fr d hg hu hd hi, Result.andThen]
theorem blkS_of_list {B g c : Nat} {cs : List BlkV} {w : World} (hl : BList B (.slice (some ⟨g, 0, none⟩) cs.length c) cs w) (hg : Good cs) (hi : ∀ x ∈ cs, itemsOkB x.ss = true) : BlksS g cs.length c cs w := by
  have hat := (FRow.at enBlk_len hl.row).1
  have hfew := hg.few
  refine ⟨⟨hat, fun b hb => (hl.items b hb).1, rfl, by omega⟩, fun b hb => ?_, fun b hb => ?_, fun b hb i hi2 => ?_⟩
  · obtain ⟨j, hj, rfl⟩ := List.mem_iff_getElem.1 hb
    have h1 := hg.ok j (by rw [List.length_map]; exact hj)
    have e : (cs.map (·.h)).getD j default = cs[j].h := by simp [List.getD_eq_getElem?_getD, List.getElem?_eq_getElem hj]
    rw [e] at h1
    have h2 := headOk_in h1
    exact ⟨by rw [sum_size h2.1]; decide, by rw [sum_size h2.2.1]; decide⟩
  · have h1 := (hl.items b hb).1.2
    have h2 := hg.items b hb
    omega
  · exact item_small (itemsOk_at (hi b hb) i hi2)

theorem AtF.sameQ {α : Type} [Inhabited α] {en : α → List Value} {k g : Nat} {w w' : World} {l : List α} (h : AtF en k w g l) (hs : w.heap.size ≤ w'.heap.size) (hk : w'.heap[g]? = w.heap[g]?) : AtF en k w' g l :=
  ⟨Nat.lt_of_lt_of_le h.1 hs, fun i j hi hj => (World.cell?_of_block (a := ⟨g, i * k + j, none⟩) hk).trans (h.2 i j hi hj)⟩
theorem blkS_only {g n c b : Nat} {cs : List BlkV} {w w' : World} (h : BlksS g n c cs w) (o : Only b w w') (hg : g ≠ b) (hi : ∀ x ∈ cs, x.g ≠ b) : BlksS g n c cs w' := by
  refine ⟨⟨AtF.sameQ h.b.at_ (Nat.le_of_eq o.size.symm) (o.block g hg), fun x hx => ?_, h.b.len, h.b.max⟩, h.wf, h.few, h.small⟩
  have h1 := h.b.items x hx
  exact ⟨⟨Nat.lt_of_lt_of_le h1.1.1 (Nat.le_of_eq o.size.symm), fun i hi2 => (World.cell?_of_block (a := ⟨x.g, i, none⟩) (o.block x.g (hi x hx))).trans (h1.1.2 i hi2)⟩, h1.2⟩
theorem nine_k {k : Nat} {w0 w : World} {g6 : Nat} (hb : Below k w0 w) (hg : k ≤ g6) (x0 x1 x2 x3 x4 x5 x6 x7 x8 : Value) : Below k w0 (((((((((w.setCell ⟨g6, 0, none⟩ x0).setCell ⟨g6, 1, none⟩ x1).setCell ⟨g6, 2, none⟩ x2).setCell ⟨g6, 3, none⟩ x3).setCell ⟨g6, 4, none⟩ x4).setCell ⟨g6, 5, none⟩ x5).setCell ⟨g6, 6, none⟩ x6).setCell ⟨g6, 7, none⟩ x7).setCell ⟨g6, 8, none⟩ x8) :=
  ((((((((hb.setCell (p := ⟨g6, 0, none⟩) hg x0).setCell (p := ⟨g6, 1, none⟩) hg x1).setCell (p := ⟨g6, 2, none⟩) hg x2).setCell (p := ⟨g6, 3, none⟩) hg x3).setCell (p := ⟨g6, 4, none⟩) hg x4).setCell (p := ⟨g6, 5, none⟩) hg x5).setCell (p := ⟨g6, 6, none⟩) hg x6).setCell (p := ⟨g6, 7, none⟩) hg x7).setCell (p := ⟨g6, 8, none⟩) hg x8
theorem nine_but {b : Nat} {w0 w : World} {g6 : Nat} (hb : But b w0 w) (hg : g6 = w0.heap.size) (x0 x1 x2 x3 x4 x5 x6 x7 x8 : Value) : But b w0 (((((((((w.setCell ⟨g6, 0, none⟩ x0).setCell ⟨g6, 1, none⟩ x1).setCell ⟨g6, 2, none⟩ x2).setCell ⟨g6, 3, none⟩ x3).setCell ⟨g6, 4, none⟩ x4).setCell ⟨g6, 5, none⟩ x5).setCell ⟨g6, 6, none⟩ x6).setCell ⟨g6, 7, none⟩ x7).setCell ⟨g6, 8, none⟩ x8) :=
  ⟨Nat.le_trans hb.1 (Nat.le_of_eq (set9_size x0 x1 x2 x3 x4 x5 x6 x7 x8)), fun c hc hne => (set9_other (show c ≠ g6 by omega) x0 x1 x2 x3 x4 x5 x6 x7 x8).trans (hb.2 c hc hne)⟩
theorem proof_fine {cs : List BlkV} {x : Int} (h : Good cs) : (∀ i, i < (proofL (cs.map (·.h)) x).1.length → ((proofL (cs.map (·.h)) x).1.getD i default).sum.size ≤ maxLen) ∧ (proofL (cs.map (·.h)) x).1.length ≤ 20 := by
  have hl : (cs.map (·.h)).length ≤ 20 := by rw [List.length_map]; exact h.few
  obtain ⟨h1, _, h3⟩ := ofP_ok h.ok hl (cs.map (·.h)).length (Nat.le_refl _)
  unfold proofL
  split
  · refine ⟨fun i hi => ?_, Nat.le_trans h3 hl⟩
    have := peakOk_sum (getD_all (C := fun q => peakOkB q = true) h1 i hi)
    rw [sum_size this]
    decide
  · exact ⟨fun i hi => absurd hi (Nat.not_lt_zero _), Nat.zero_le _⟩
set_option maxHeartbeats 8000000 in
set_option maxRecDepth 100000 in
theorem drawPaid (B b p : Nat) (w : World) (h : Rd B b p w) (hp : p < 1000000000 - 2000) :
    Calls Tryz.prog 10 #[.pointer (some ⟨b, 0, none⟩)] w fun e w' => PaidPost B b p w e w' := by
  have hlt := h.lt
  have HQ : Hid (∀ (a : Int) (h : HeadV) (pa : Option Addr) (pn pc : Nat) (sa : Option Addr) (sn sc : Nat) (da : Option Addr) (dn dc : Nat) (ps : List PeakV) (s1 s2 : ByteArray) (q : Nat) (w' : World), PdDrew w.heap.size a h pa pn pc ps w' → q ≤ p + 300 → Rd B b q w' → Below b w w' → But b w w' → PaidPost B b p w (.returned (.tuple #[.agg #[.int .i64 a, .string h.prev, .string h.root, .int .i64 h.time, .int .i64 h.diff, .int .i64 h.nonce, .slice pa pn pc, .slice sa sn sc, .slice da dn dc], .string s1, .string s2])) w') := fun a h pa pn pc sa sn sc da dn dc ps s1 s2 q w' h1 h2 h3 h4 h5 => ⟨a, h, pa, pn, pc, sa, sn, sc, da, dn, dc, ps, s1, s2, q, rfl, h1, h2, h3, h4, h5⟩
  generalize PaidPost B b p w = Q at HQ ⊢
  obtain ⟨g6, hg6⟩ : ∃ g6, g6 = w.heap.size := ⟨_, rfl⟩
  have hs0 : (w.alloc (.cells #[.int .i64 0, .string ⟨#[]⟩, .string ⟨#[]⟩, .int .i64 0, .int .i64 0, .int .i64 0, .slice none 0 0, .slice none 0 0, .slice none 0 0] 30)).heap.size = g6 + 1 := by rw [hg6]; simp
  have T0 : Hid (CBk ((w.alloc (.cells #[.int .i64 0, .string ⟨#[]⟩, .string ⟨#[]⟩, .int .i64 0, .int .i64 0, .int .i64 0, .slice none 0 0, .slice none 0 0, .slice none 0 0] 30)).alloc (.cells #[] 70)) g6 30 #[.int .i64 0, .string ⟨#[]⟩, .string ⟨#[]⟩, .int .i64 0, .int .i64 0, .int .i64 0, .slice none 0 0, .slice none 0 0, .slice none 0 0]) := by rw [hg6]; exact (CBk.new w _ _).alloc _
  have HR0 : Hid (Rd B b p ((w.alloc (.cells #[.int .i64 0, .string ⟨#[]⟩, .string ⟨#[]⟩, .int .i64 0, .int .i64 0, .int .i64 0, .slice none 0 0, .slice none 0 0, .slice none 0 0] 30)).alloc (.cells #[] 70))) := h.keep (((Below.refl _ w).alloc (by omega) _).alloc (by omega) _)
  have HB0 : Hid (Below b w ((w.alloc (.cells #[.int .i64 0, .string ⟨#[]⟩, .string ⟨#[]⟩, .int .i64 0, .int .i64 0, .int .i64 0, .slice none 0 0, .slice none 0 0, .slice none 0 0] 30)).alloc (.cells #[] 70)) ∧ But b w ((w.alloc (.cells #[.int .i64 0, .string ⟨#[]⟩, .string ⟨#[]⟩, .int .i64 0, .int .i64 0, .int .i64 0, .slice none 0 0, .slice none 0 0, .slice none 0 0] 30)).alloc (.cells #[] 70))) := ⟨((Below.refl _ w).alloc (by omega) _).alloc (by omega) _, (But.alloc _ _ _).trans (But.alloc _ _ _)⟩
  have HL0 : Hid (BList (g6 + 1) (.slice (some ⟨g6 + 1, 0, none⟩) 0 0) [] ((w.alloc (.cells #[.int .i64 0, .string ⟨#[]⟩, .string ⟨#[]⟩, .int .i64 0, .int .i64 0, .int .i64 0, .slice none 0 0, .slice none 0 0, .slice none 0 0] 30)).alloc (.cells #[] 70))) := by
    have h1 := frow_new enBlk 70 6 (w.alloc (.cells #[.int .i64 0, .string ⟨#[]⟩, .string ⟨#[]⟩, .int .i64 0, .int .i64 0, .int .i64 0, .slice none 0 0, .slice none 0 0, .slice none 0 0] 30))
    rw [hs0] at h1
    exact ⟨h1, (fun c hc => by cases hc), (fun c hc => by cases hc), (fun c hc => by cases hc)⟩
  have HGB : Hid (b < g6) := by show _ < _; omega
  have HGW : Hid (g6 = w.heap.size) := hg6
  have HZ0 : Hid (((w.alloc (.cells #[.int .i64 0, .string ⟨#[]⟩, .string ⟨#[]⟩, .int .i64 0, .int .i64 0, .int .i64 0, .slice none 0 0, .slice none 0 0, .slice none 0 0] 30)).alloc (.cells #[] 70)).heap.size = g6 + 2) := by show _ = _; rw [hg6]; simp
  clear h hs0
  go_enter Tryz.func10, Tryz.ntmps10
  have hpk := pick_walk B b p 8 _ HR0.out (by omega) (by omega)
  go_wp2_with fail
  rw [← hg6]
  generalize (w.alloc (.cells #[.int .i64 0, .string ⟨#[]⟩, .string ⟨#[]⟩, .int .i64 0, .int .i64 0, .int .i64 0, .slice none 0 0, .slice none 0 0, .slice none 0 0] 30)).alloc (.cells #[] 70) = W0 at T0 HR0 HB0 HL0 HZ0 hpk ⊢
  clear hg6
  refine hpk.mono ?_
  rintro e w1 ⟨x, rfl, hx1, _, hr1, o1⟩
  have hxl := hx1 (by omega)
  have HL1 : Hid (BList (g6 + 1) (.slice (some ⟨g6 + 1, 0, none⟩) 0 0) [] w1) := HL0.out.only o1.but (by have := HGB.out; omega)
  have T1 : Hid (CBk w1 g6 30 #[.int .i64 0, .string ⟨#[]⟩, .string ⟨#[]⟩, .int .i64 0, .int .i64 0, .int .i64 0, .slice none 0 0, .slice none 0 0, .slice none 0 0]) := (o1.block g6 (by have := HGB.out; omega)).trans T0.out
  have HB1 : Hid (Below b w w1 ∧ But b w w1) := ⟨HB0.out.1.trans (o1.below (Nat.le_refl _)), HB0.out.2.trans o1.but⟩
  have HZ1 : Hid (g6 + 1 ≤ w1.heap.size) := by show _ ≤ _; rw [o1.size, HZ0.out]; omega
  obtain ⟨many, hmany⟩ : ∃ many : Nat, many = 1 + x := ⟨_, rfl⟩
  have hw1 : IntKind.i64.wrap (1 + (x : Int)) = (many : Int) := by rw [IntKind.wrap_i64]; omega
  have HMP : Hid (0 < many ∧ many ≤ 8) := by show _ ∧ _; omega
  have hch := drawChainH B b (p + 1) (g6 + 1) (g6 + 1) 0 (by have := HGB.out; omega) many w1 hr1 (by omega) HL1.out HZ1.out (by omega)
  clear hpk hr1 o1 hx1 hxl T0 HR0 HB0 HL0 HZ0 hmany
  go_wp2_with fail
  refine Calls.mono hch ?_
  rintro e w2 ⟨v, cs, q, rfl, l2, g2, i2, n2, hq2, hr2, bl2, bu2⟩
  obtain ⟨g, c, rfl⟩ := l2.row.1
  have hne := n2 HMP.out.1
  have T2 : Hid (CBk w2 g6 30 #[.int .i64 0, .string ⟨#[]⟩, .string ⟨#[]⟩, .int .i64 0, .int .i64 0, .int .i64 0, .slice none 0 0, .slice none 0 0, .slice none 0 0]) := (bu2.2 g6 T1.out.lt (by have := HGB.out; omega)).trans T1.out
  have HB2 : Hid (Below b w w2 ∧ But b w w2) := ⟨HB1.out.1.trans bl2, HB1.out.2.trans bu2⟩
  have HS2 : Hid (BlksS g cs.length c cs w2) := blkS_of_list l2 g2 i2
  have HGG : Hid (g6 + 1 ≤ g ∧ ∀ x ∈ cs, g6 + 1 ≤ x.g) := ⟨(FRow.at enBlk_len l2.row).2.2.1, fun x hx => (l2.items x hx).2⟩
  have HGD : Hid (Good cs) := g2
  have HIO : Hid (∀ x ∈ cs, itemsOkB x.ss = true) := i2
  have hq2' : q ≤ p + 1 + 10 * many := hq2
  have HN20 : Hid (0 < cs.length ∧ cs.length ≤ 20) := ⟨by cases cs with | nil => exact absurd rfl hne | cons _ _ => simp, g2.few⟩
  have hpk := pick_walk B b q (cs.length : Int) w2 hr2 (by have := HMP.out; omega) (by have := HN20.out; omega)
  obtain ⟨n, hn⟩ : ∃ n, n = cs.length := ⟨_, rfl⟩
  have HN : Hid (n = cs.length) := hn
  rw [← hn] at hpk HN20 HS2 ⊢
  clear hch l2 g2 i2 n2 hq2 hr2 bl2 bu2 hne T1 HB1 HL1 HZ1 hn
  go_wp2_with fail
  refine hpk.mono ?_
  rintro e w3 ⟨at0, rfl, hx1, _, hr3, o3⟩
  have hat0 : at0 < n := by have := hx1 (by have := HN20.out; omega); omega
  have T3 : Hid (CBk w3 g6 30 #[.int .i64 0, .string ⟨#[]⟩, .string ⟨#[]⟩, .int .i64 0, .int .i64 0, .int .i64 0, .slice none 0 0, .slice none 0 0, .slice none 0 0]) := (o3.block g6 (by have := HGB.out; omega)).trans T2.out
  have HB3 : Hid (Below b w w3 ∧ But b w w3) := ⟨HB2.out.1.trans (o3.below (Nat.le_refl _)), HB2.out.2.trans o3.but⟩
  have HR3 : Hid (Rd B b (q + 1) w3) := hr3
  have HS3 : Hid (BlksS g n c cs w3) := blkS_only HS2.out o3 (by have := HGB.out; have := HGG.out.1; omega) (fun x hx => by have := HGB.out; have := HGG.out.2 x hx; omega)
  clear hpk hx1 hr3 o3 T2 HB2 HS2
  go_wp2_with fail
  go_loopw [6, 7] (fun a i wr => ∃ (x k : Nat), a = .int .i64 (x : Int) ∧ i = .int .i64 (k : Int) ∧ x < n ∧ k ≤ n ∧ Hid (wr = w3)) (fun _ i _ => n - (intOf i).toNat)
  case atStart => exact ⟨at0, 0, rfl, rfl, hat0, Nat.zero_le _, rfl⟩
  case round =>
    clear hat0
    obtain ⟨X, k, rfl, rfl, hX, hk, HW⟩ := hrel
    obtain rfl : w3 = wr := HW.out.symm
    have hXl : X < cs.length := by rw [← HN.out]; exact hX
    have c5 := AtBlk.c5 HS3.out.b.at_ X hXl
    have lx1 : (X : Int) < (n : Int) := by omega
    have lx0 : (0 : Int) ≤ (X : Int) := by omega
    by_cases hgo : k < n
    · by_cases hb0 : (cs.getD X default).n = 0
      · rw [hb0] at c5
        have lk : (k : Int) < (n : Int) := by omega
        have h20 := HN20.out
        have wx : IntKind.i64.wrap ((X : Int) + 1) = (X : Int) + 1 := by rw [IntKind.wrap_i64]; omega
        have wk : IntKind.i64.wrap ((k : Int) + 1) = (k : Int) + 1 := by rw [IntKind.wrap_i64]; omega
        have hnz : ¬ (n : Int) = 0 := by omega
        have hql : (X + 1) % n < n := Nat.mod_lt _ (by omega)
        have hre : Int.tmod ((X : Int) + 1) (n : Int) = (((X + 1) % n : Nat) : Int) := rfl
        generalize (X + 1) % n = qq at hre hql
        generalize (cs.getD X default).g = bg at c5
        generalize (cs.getD X default).cap = bc at c5
        have HK1 : Hid (k + 1 ≤ n) := hgo
        clear hb0 hXl
        go_wp2_with fail
        go_roundw
        case rel => exact ⟨qq, k + 1, by go_num, by go_num, hql, HK1.out, trivial⟩
        case measure => have := HK1.out; simp [intOf]; omega
      · have lk : (k : Int) < (n : Int) := by omega
        obtain ⟨bn0, hbn0⟩ : ∃ y, y = (cs.getD X default).n := ⟨_, rfl⟩
        obtain ⟨bg0, hbg0⟩ : ∃ y, y = (cs.getD X default).g := ⟨_, rfl⟩
        obtain ⟨bc0, hbc0⟩ : ∃ y, y = (cs.getD X default).cap := ⟨_, rfl⟩
        rw [← hbn0, ← hbg0, ← hbc0] at c5
        have hbn1 : ¬ bn0 = 0 := by rw [hbn0]; exact hb0
        have hbn2 : ¬ ((bn0 : Nat) : Int) = 0 := by omega
        clear hb0 hbn0 hbg0 hbc0
        have hlh := specL4Heads g n c cs w3 HS3.out.b.at_ HN.out (by have := HN20.out; omega)
        go_wp2_with fail
        refine hlh.mono ?_
        rintro e w4 ⟨v4, rfl, r4, b4⟩
        obtain ⟨⟨g7, c7, rfl⟩, -⟩ := id r4
        have hlt3 := HR3.out.lt
        have B4 : Hid (Below w3.heap.size w3 w4) := b4
        have hat7 := (FRow.at enHead_len r4).1
        have hof := specL5Of g7 (cs.map (·.h)).length c7 (cs.map (·.h)) w4 hat7 rfl (by rw [List.length_map]; have := HN20.out; have := HN.out; omega) HGD.out.ok
        have hrk := ofP_rangeOk HGD.out.ok (by rw [List.length_map]; have := HN20.out; have := HN.out; omega) (cs.map (·.h)).length (Nat.le_refl _)
        generalize ofP (cs.map (·.h)) (cs.map (·.h)).length = PP at hof hrk
        obtain ⟨N7, hN7⟩ : ∃ N7, N7 = (cs.map (·.h)).length := ⟨_, rfl⟩
        rw [← hN7] at hof ⊢
        clear hlh r4 b4 hat7 hN7
        go_wp2_with fail
        refine hof.mono ?_
        rintro e w5 ⟨v5, rfl, r5, b5⟩
        obtain ⟨⟨g8, c8, rfl⟩, -⟩ := id r5
        have B5 : Hid (Below w3.heap.size w3 w5) := B4.out.trans (b5.mono B4.out.size)
        have hrt := specL5Root g8 PP.length c8 PP w5 (FRow.at pEnc_len r5).1 rfl hrk
        generalize (⟨(sumB (rrT PP PP.length)).toArray⟩ : ByteArray) = root at hrt
        obtain ⟨N8, hN8⟩ : ∃ N8, N8 = PP.length := ⟨_, rfl⟩
        rw [← hN8] at hrt ⊢
        clear hof r5 b5 hrk hN8 B4
        go_wp2_with fail
        refine hrt.mono ?_
        rintro e w6 ⟨rfl, b6⟩
        have B6 : Hid (Below w3.heap.size w3 w6) := B5.out.trans (b6.mono B5.out.size)
        have T6 : Hid (CBk w6 g6 30 #[.int .i64 0, .string ⟨#[]⟩, .string ⟨#[]⟩, .int .i64 0, .int .i64 0, .int .i64 0, .slice none 0 0, .slice none 0 0, .slice none 0 0]) := T3.out.call B6.out
        have HB6 : Hid (Below b w w6 ∧ But b w w6) := ⟨HB3.out.1.trans (B6.out.mono (by omega)), HB3.out.2.trans (Below.but B6.out)⟩
        have HR6 : Hid (Rd B b (q + 1) w6) := HR3.out.keep (B6.out.mono hlt3)
        have HS6 : Hid (BlksS g n c cs w6) := HS3.out.below B6.out
        have c6 := AtBlk.c5 HS6.out.b.at_ X hXl
        have HBN : Hid ((cs.getD X default).n = (cs.getD X default).ss.length ∧ (cs.getD X default).n ≤ 4) := by
          have hm := blk_mem hXl
          have h1 := (HS3.out.b.items _ hm).2
          have h2 := HGD.out.items _ hm
          exact ⟨h1, by omega⟩
        have HXL : Hid (X < cs.length) := hXl
        clear hrt b6 B5 B6 T3 HB3 HR3 HS3 c5 hXl
        by_cases hb0 : (cs.getD X default).n = 0
        · have hb0i : (((cs.getD X default).n : Nat) : Int) = 0 := by omega
          rw [hb0] at c6
          have TE : Hid (CBk (((((((((w6.setCell ⟨g6, 0, none⟩ (.int .i64 0)).setCell ⟨g6, 1, none⟩ (.string ⟨#[]⟩)).setCell ⟨g6, 2, none⟩ (.string ⟨#[]⟩)).setCell ⟨g6, 3, none⟩ (.int .i64 0)).setCell ⟨g6, 4, none⟩ (.int .i64 0)).setCell ⟨g6, 5, none⟩ (.int .i64 0)).setCell ⟨g6, 6, none⟩ (.slice none 0 0)).setCell ⟨g6, 7, none⟩ (.slice none 0 0)).setCell ⟨g6, 8, none⟩ (.slice none 0 0)) g6 30 #[.int .i64 0, .string ⟨#[]⟩, .string ⟨#[]⟩, .int .i64 0, .int .i64 0, .int .i64 0, .slice none 0 0, .slice none 0 0, .slice none 0 0]) := set9_blk T6.out (.int .i64 0) (.string ⟨#[]⟩) (.string ⟨#[]⟩) (.int .i64 0) (.int .i64 0) (.int .i64 0) (.slice none 0 0) (.slice none 0 0) (.slice none 0 0)
          have HQF : Hid (Q (.returned (.tuple #[.agg #[.int .i64 0, .string ⟨#[]⟩, .string ⟨#[]⟩, .int .i64 0, .int .i64 0, .int .i64 0, .slice none 0 0, .slice none 0 0, .slice none 0 0], .string ⟨#[97]⟩, .string root])) (((((((((w6.setCell ⟨g6, 0, none⟩ (.int .i64 0)).setCell ⟨g6, 1, none⟩ (.string ⟨#[]⟩)).setCell ⟨g6, 2, none⟩ (.string ⟨#[]⟩)).setCell ⟨g6, 3, none⟩ (.int .i64 0)).setCell ⟨g6, 4, none⟩ (.int .i64 0)).setCell ⟨g6, 5, none⟩ (.int .i64 0)).setCell ⟨g6, 6, none⟩ (.slice none 0 0)).setCell ⟨g6, 7, none⟩ (.slice none 0 0)).setCell ⟨g6, 8, none⟩ (.slice none 0 0))) := HQ.out 0 zeroH none 0 0 none 0 0 none 0 0 [] ⟨#[97]⟩ root (q + 1) _ ⟨⟨by decide, by decide⟩, .inl ⟨rfl, rfl⟩, fun i hi => absurd hi (Nat.not_lt_zero _), Nat.zero_le _⟩ (by have := HMP.out; omega) (HR6.out.keep (nine_k (Below.refl _ _) HGB.out (.int .i64 0) (.string ⟨#[]⟩) (.string ⟨#[]⟩) (.int .i64 0) (.int .i64 0) (.int .i64 0) (.slice none 0 0) (.slice none 0 0) (.slice none 0 0))) (nine_k HB6.out.1 (Nat.le_of_lt HGB.out) (.int .i64 0) (.string ⟨#[]⟩) (.string ⟨#[]⟩) (.int .i64 0) (.int .i64 0) (.int .i64 0) (.slice none 0 0) (.slice none 0 0) (.slice none 0 0)) (nine_but HB6.out.2 HGW.out (.int .i64 0) (.string ⟨#[]⟩) (.string ⟨#[]⟩) (.int .i64 0) (.int .i64 0) (.int .i64 0) (.slice none 0 0) (.slice none 0 0) (.slice none 0 0))
          obtain ⟨e0, e1, e2, e3, e4, e5, e6, e7, e8⟩ := T6.out.nineP
          obtain ⟨f0, f1, f2, f3, f4, f5, f6, f7, f8⟩ := T6.out.nineZ
          generalize (cs.getD X default).g = bg at c6
          generalize (cs.getD X default).cap = bc at c6
          clear hb0 hb0i HBN
          go_wp2_with fail
          exact bodyPost_ret (results_row_tmp_tmp (p := 2) (u := 3) (v := 4) rfl _ _ g6 30 #[.int .i64 0, .string ⟨#[]⟩, .string ⟨#[]⟩, .int .i64 0, .int .i64 0, .int .i64 0, .slice none 0 0, .slice none 0 0, .slice none 0 0] (0, 0) _ rfl TE.out Tryz.underlying30 rfl (by kernel_rfl)) rfl HQF.out
        have HIS : Hid (∀ (Y : Nat) w', Y < (cs.getD X default).n → BlksS g n c cs w' → w'.cell? ⟨(cs.getD X default).g, Y, none⟩ = some (.string ((cs.getD X default).ss.getD Y ByteArray.empty))) := fun Y w' hY hS => (hS.b.items _ (blk_mem HXL.out)).1.2 Y (by have := HBN.out.1; omega)
        have HL9 : Hid (∀ (Y : Nat), Y < (cs.getD X default).n → ∀ w', BlksS g n c cs w' → Calls Tryz.prog 26 #[.slice (some ⟨g, 0, none⟩) n c, .int .i64 (X : Int), .int .i64 (Y : Int)] w' fun e w'' => ∃ (pa : Option Addr) (pn pc : Nat) (sa : Option Addr) (sn sc : Nat) (da : Option Addr) (dn dc : Nat), e = .returned (.agg #[.int .i64 (X : Int), .string (cs.getD X default).h.prev, .string (cs.getD X default).h.root, .int .i64 (cs.getD X default).h.time, .int .i64 (cs.getD X default).h.diff, .int .i64 (cs.getD X default).h.nonce, .slice pa pn pc, .slice sa sn sc, .slice da dn dc]) ∧ Pks w'.heap.size (.slice pa pn pc) (proofL (cs.map (·.h)) (X : Int)).1 w'' ∧ Below w'.heap.size w' w'') := fun Y hY w' hS => by
          refine (specL9OfG g n c cs X Y w' hS (heads_good (by rw [List.length_map]; have := HN20.out; have := HN.out; omega) HGD.out.ok) HXL.out (HIO.out _ (blk_mem HXL.out)) (by have := HBN.out.1; omega)).mono ?_
          rintro e w'' ⟨⟨vp, vs, vd, rfl, k1, k2, k3, b9⟩, -⟩
          obtain ⟨pa, pn, pc, rfl⟩ := pks_slice k1
          obtain ⟨sa, sn, sc, rfl⟩ := pks_slice k2
          obtain ⟨da, dn, dc, rfl⟩ := sds_slice k3
          exact ⟨pa, pn, pc, sa, sn, sc, da, dn, dc, rfl, k1, b9⟩
        have HPK : Hid ((∀ i, i < (proofL (cs.map (·.h)) (X : Int)).1.length → ((proofL (cs.map (·.h)) (X : Int)).1.getD i default).sum.size ≤ maxLen) ∧ (proofL (cs.map (·.h)) (X : Int)).1.length ≤ 20) := proof_fine HGD.out
        generalize (proofL (cs.map (·.h)) (X : Int)).1 = PK at HL9 HPK
        have HBG : Hid (g6 + 1 ≤ (cs.getD X default).g) := HGG.out.2 _ (blk_mem HXL.out)
        generalize cs.getD X default = bb at c6 hb0 HBN HIS HL9 HBG
        obtain ⟨hh, bg, bn, bc, bss⟩ := bb
        dsimp only at c6 hb0 HBN HIS HL9 HBG
        have hbn0 : ¬ ((bn : Nat) : Int) = 0 := by omega
        have hbn1 : ¬ bn = 0 := hb0
        have hpk := pick_walk B b (q + 1) (bn : Int) w6 HR6.out (by have := HMP.out; omega) (by have := HBN.out.2; omega)
        go_wp2_with fail
        refine hpk.mono ?_
        rintro e w7 ⟨Y, rfl, hx1, _, hr7, o7⟩
        have hY : Y < bn := by have := hx1 (by omega); omega
        have T7 : Hid (CBk w7 g6 30 #[.int .i64 0, .string ⟨#[]⟩, .string ⟨#[]⟩, .int .i64 0, .int .i64 0, .int .i64 0, .slice none 0 0, .slice none 0 0, .slice none 0 0]) := (o7.block g6 (by have := HGB.out; omega)).trans T6.out
        have HB7 : Hid (Below b w w7 ∧ But b w w7) := ⟨HB6.out.1.trans (o7.below (Nat.le_refl _)), HB6.out.2.trans o7.but⟩
        have HR7 : Hid (Rd B b (q + 1 + 1) w7) := hr7
        have HS7 : Hid (BlksS g n c cs w7) := blkS_only HS6.out o7 (by have := HGB.out; have := HGG.out.1; omega) (fun x hx => by have := HGB.out; have := HGG.out.2 x hx; omega)
        have hlt7 := HR7.out.lt
        have HC8 : Hid (∀ w', Below w7.heap.size w7 w' → (w'.cell? ⟨g, X * 6 + 5, none⟩ = some (.slice (some ⟨bg, 0, none⟩) bn bc)) ∧ (w'.cell? ⟨bg, Y, none⟩ = some (.string (bss.getD Y ByteArray.empty)))) := fun w' hb => ⟨by
          have h1 := (o7.block g (by have := HGB.out; have := HGG.out.1; omega))
          have h2 : w'.cell? ⟨g, X * 6 + 5, none⟩ = w7.cell? ⟨g, X * 6 + 5, none⟩ := hb.cell (p := ⟨g, X * 6 + 5, none⟩) HS7.out.b.at_.1
          have h3 : w7.cell? ⟨g, X * 6 + 5, none⟩ = w6.cell? ⟨g, X * 6 + 5, none⟩ := World.cell?_of_block (a := ⟨g, X * 6 + 5, none⟩) h1
          rw [h2, h3]; exact c6, HIS.out Y w' hY (HS7.out.below hb)⟩
        have HL10 := HL9.out Y hY
        have HL10 : Hid _ := HL10
        have S7 := HC8.out w7 (Below.refl _ _)
        have S7d := HC8.out w7.drew (Below.refl _ _).drew
        have ly1 : (Y : Int) < (bn : Int) := by omega
        have ly0 : (0 : Int) ≤ (Y : Int) := by omega
        have hn1 : ¬ g = g6 := by have := HGG.out.1; omega
        have hn2 : ¬ bg = g6 := by have := HBG.out; omega
        have hn3 : ¬ g6 = g := fun h => hn1 h.symm
        have hn4 : ¬ g6 = bg := fun h => hn2 h.symm
        have HS7d : Hid (BlksS g n c cs w7.drew) := HS7.out.below (Below.refl _ _).drew
        clear hpk hr7 o7 T6 HB6 HR6 HS6 c6 HIS HL9 hx1
        generalize bss.getD Y ByteArray.empty = it at HC8 S7 S7d
        go_wp2_with fail
        obtain ⟨p0, p1⟩ := S7d
        go_region_held3 (fun w' => w'.cell? ⟨g, X * 6 + 5, none⟩ = some (.slice (some ⟨bg, 0, none⟩) bn bc) ∧ w'.cell? ⟨bg, Y, none⟩ = some (.string it))
          (first | (with_reducible first | exact S7 | exact ⟨p0, p1⟩ | exact S8) | go_keep)
          (first
            | (go_at_call 26; refine (HL10.out _ HS7d.out).mono ?_; rintro e w8 ⟨pa, pn, pc, sa, sn, sc, da, dn, dc, rfl, k8, b8⟩; have B8 : Hid (Below w7.heap.size w7 w8) := ((Below.refl w7.heap.size w7).drew).trans b8; have K8 : Hid (Pks w7.heap.size (.slice pa pn pc) PK w8) := k8; have S8 := HC8.out w8 B8.out; have T8 : Hid (CBk w8 g6 30 #[.int .i64 0, .string ⟨#[]⟩, .string ⟨#[]⟩, .int .i64 0, .int .i64 0, .int .i64 0, .slice none 0 0, .slice none 0 0, .slice none 0 0]) := T7.out.call B8.out; obtain ⟨e0, e1, e2, e3, e4, e5, e6, e7, e8⟩ := T8.out.nineP; obtain ⟨f0, f1, f2, f3, f4, f5, f6, f7, f8⟩ := T8.out.nineZ))
        all_goals
          have TE : Hid (CBk (((((((((w8.setCell ⟨g6, 0, none⟩ (.int .i64 (X : Int))).setCell ⟨g6, 1, none⟩ (.string hh.prev)).setCell ⟨g6, 2, none⟩ (.string hh.root)).setCell ⟨g6, 3, none⟩ (.int .i64 hh.time)).setCell ⟨g6, 4, none⟩ (.int .i64 hh.diff)).setCell ⟨g6, 5, none⟩ (.int .i64 hh.nonce)).setCell ⟨g6, 6, none⟩ (.slice pa pn pc)).setCell ⟨g6, 7, none⟩ (.slice sa sn sc)).setCell ⟨g6, 8, none⟩ (.slice da dn dc)) g6 30 #[.int .i64 (X : Int), .string hh.prev, .string hh.root, .int .i64 hh.time, .int .i64 hh.diff, .int .i64 hh.nonce, .slice pa pn pc, .slice sa sn sc, .slice da dn dc]) := set9_blk T8.out (.int .i64 (X : Int)) (.string hh.prev) (.string hh.root) (.int .i64 hh.time) (.int .i64 hh.diff) (.int .i64 hh.nonce) (.slice pa pn pc) (.slice sa sn sc) (.slice da dn dc)
          have hkp : Pks w.heap.size (.slice pa pn pc) PK (((((((((w8.setCell ⟨g6, 0, none⟩ (.int .i64 (X : Int))).setCell ⟨g6, 1, none⟩ (.string hh.prev)).setCell ⟨g6, 2, none⟩ (.string hh.root)).setCell ⟨g6, 3, none⟩ (.int .i64 hh.time)).setCell ⟨g6, 4, none⟩ (.int .i64 hh.diff)).setCell ⟨g6, 5, none⟩ (.int .i64 hh.nonce)).setCell ⟨g6, 6, none⟩ (.slice pa pn pc)).setCell ⟨g6, 7, none⟩ (.slice sa sn sc)).setCell ⟨g6, 8, none⟩ (.slice da dn dc)) := (K8.out.keep (Nat.le_of_eq (set9_size (.int .i64 (X : Int)) (.string hh.prev) (.string hh.root) (.int .i64 hh.time) (.int .i64 hh.diff) (.int .i64 hh.nonce) (.slice pa pn pc) (.slice sa sn sc) (.slice da dn dc))) (fun g9 hg9 => set9_other (show g9 ≠ g6 by have := (K8.out.blk hg9).2; have := T7.out.lt; omega) (.int .i64 (X : Int)) (.string hh.prev) (.string hh.root) (.int .i64 hh.time) (.int .i64 hh.diff) (.int .i64 hh.nonce) (.slice pa pn pc) (.slice sa sn sc) (.slice da dn dc))).mono HB7.out.2.1
          have hr9 : Rd B b (q + 1 + 1) (((((((((w8.setCell ⟨g6, 0, none⟩ (.int .i64 (X : Int))).setCell ⟨g6, 1, none⟩ (.string hh.prev)).setCell ⟨g6, 2, none⟩ (.string hh.root)).setCell ⟨g6, 3, none⟩ (.int .i64 hh.time)).setCell ⟨g6, 4, none⟩ (.int .i64 hh.diff)).setCell ⟨g6, 5, none⟩ (.int .i64 hh.nonce)).setCell ⟨g6, 6, none⟩ (.slice pa pn pc)).setCell ⟨g6, 7, none⟩ (.slice sa sn sc)).setCell ⟨g6, 8, none⟩ (.slice da dn dc)) := HR7.out.keep (nine_k (B8.out.mono hlt7) HGB.out (.int .i64 (X : Int)) (.string hh.prev) (.string hh.root) (.int .i64 hh.time) (.int .i64 hh.diff) (.int .i64 hh.nonce) (.slice pa pn pc) (.slice sa sn sc) (.slice da dn dc))
          have hb9 : Below b w (((((((((w8.setCell ⟨g6, 0, none⟩ (.int .i64 (X : Int))).setCell ⟨g6, 1, none⟩ (.string hh.prev)).setCell ⟨g6, 2, none⟩ (.string hh.root)).setCell ⟨g6, 3, none⟩ (.int .i64 hh.time)).setCell ⟨g6, 4, none⟩ (.int .i64 hh.diff)).setCell ⟨g6, 5, none⟩ (.int .i64 hh.nonce)).setCell ⟨g6, 6, none⟩ (.slice pa pn pc)).setCell ⟨g6, 7, none⟩ (.slice sa sn sc)).setCell ⟨g6, 8, none⟩ (.slice da dn dc)) := nine_k (HB7.out.1.trans (B8.out.mono (Nat.le_of_lt hlt7))) (Nat.le_of_lt HGB.out) (.int .i64 (X : Int)) (.string hh.prev) (.string hh.root) (.int .i64 hh.time) (.int .i64 hh.diff) (.int .i64 hh.nonce) (.slice pa pn pc) (.slice sa sn sc) (.slice da dn dc)
          have hu9 : But b w (((((((((w8.setCell ⟨g6, 0, none⟩ (.int .i64 (X : Int))).setCell ⟨g6, 1, none⟩ (.string hh.prev)).setCell ⟨g6, 2, none⟩ (.string hh.root)).setCell ⟨g6, 3, none⟩ (.int .i64 hh.time)).setCell ⟨g6, 4, none⟩ (.int .i64 hh.diff)).setCell ⟨g6, 5, none⟩ (.int .i64 hh.nonce)).setCell ⟨g6, 6, none⟩ (.slice pa pn pc)).setCell ⟨g6, 7, none⟩ (.slice sa sn sc)).setCell ⟨g6, 8, none⟩ (.slice da dn dc)) := nine_but (HB7.out.2.trans (Below.but B8.out)) HGW.out (.int .i64 (X : Int)) (.string hh.prev) (.string hh.root) (.int .i64 hh.time) (.int .i64 hh.diff) (.int .i64 hh.nonce) (.slice pa pn pc) (.slice sa sn sc) (.slice da dn dc)
          have HQF : Hid (Q (.returned (.tuple #[.agg #[.int .i64 (X : Int), .string hh.prev, .string hh.root, .int .i64 hh.time, .int .i64 hh.diff, .int .i64 hh.nonce, .slice pa pn pc, .slice sa sn sc, .slice da dn dc], .string it, .string root])) (((((((((w8.setCell ⟨g6, 0, none⟩ (.int .i64 (X : Int))).setCell ⟨g6, 1, none⟩ (.string hh.prev)).setCell ⟨g6, 2, none⟩ (.string hh.root)).setCell ⟨g6, 3, none⟩ (.int .i64 hh.time)).setCell ⟨g6, 4, none⟩ (.int .i64 hh.diff)).setCell ⟨g6, 5, none⟩ (.int .i64 hh.nonce)).setCell ⟨g6, 6, none⟩ (.slice pa pn pc)).setCell ⟨g6, 7, none⟩ (.slice sa sn sc)).setCell ⟨g6, 8, none⟩ (.slice da dn dc))) := HQ.out (X : Int) hh pa pn pc sa sn sc da dn dc PK it root (q + 1 + 1) _ ⟨⟨by omega, by have := HN20.out; omega⟩, hkp, HPK.out.1, HPK.out.2⟩ (by have := HMP.out; omega) hr9 hb9 hu9
          clear hkp hr9 hb9 hu9
          go_wp2_with fail
          exact bodyPost_ret (results_row_tmp_tmp (p := 2) (u := 3) (v := 4) rfl _ _ g6 30 #[.int .i64 (X : Int), .string hh.prev, .string hh.root, .int .i64 hh.time, .int .i64 hh.diff, .int .i64 hh.nonce, .slice pa pn pc, .slice sa sn sc, .slice da dn dc] (0, 0) _ rfl TE.out Tryz.underlying30 rfl (by kernel_rfl)) rfl HQF.out
    · have lk : ¬ (k : Int) < (n : Int) := by omega
      have hlh := specL4Heads g n c cs w3 HS3.out.b.at_ HN.out (by have := HN20.out; omega)
      go_wp2_with fail
      refine hlh.mono ?_
      rintro e w4 ⟨v4, rfl, r4, b4⟩
      obtain ⟨⟨g7, c7, rfl⟩, -⟩ := id r4
      have hlt3 := HR3.out.lt
      have B4 : Hid (Below w3.heap.size w3 w4) := b4
      have hat7 := (FRow.at enHead_len r4).1
      have hof := specL5Of g7 (cs.map (·.h)).length c7 (cs.map (·.h)) w4 hat7 rfl (by rw [List.length_map]; have := HN20.out; have := HN.out; omega) HGD.out.ok
      have hrk := ofP_rangeOk HGD.out.ok (by rw [List.length_map]; have := HN20.out; have := HN.out; omega) (cs.map (·.h)).length (Nat.le_refl _)
      generalize ofP (cs.map (·.h)) (cs.map (·.h)).length = PP at hof hrk
      obtain ⟨N7, hN7⟩ : ∃ N7, N7 = (cs.map (·.h)).length := ⟨_, rfl⟩
      rw [← hN7] at hof ⊢
      clear hlh r4 b4 hat7 hN7
      go_wp2_with fail
      refine hof.mono ?_
      rintro e w5 ⟨v5, rfl, r5, b5⟩
      obtain ⟨⟨g8, c8, rfl⟩, -⟩ := id r5
      have B5 : Hid (Below w3.heap.size w3 w5) := B4.out.trans (b5.mono B4.out.size)
      have hrt := specL5Root g8 PP.length c8 PP w5 (FRow.at pEnc_len r5).1 rfl hrk
      generalize (⟨(sumB (rrT PP PP.length)).toArray⟩ : ByteArray) = root at hrt
      obtain ⟨N8, hN8⟩ : ∃ N8, N8 = PP.length := ⟨_, rfl⟩
      rw [← hN8] at hrt ⊢
      clear hof r5 b5 hrk hN8 B4
      go_wp2_with fail
      refine hrt.mono ?_
      rintro e w6 ⟨rfl, b6⟩
      have B6 : Hid (Below w3.heap.size w3 w6) := B5.out.trans (b6.mono B5.out.size)
      have T6 : Hid (CBk w6 g6 30 #[.int .i64 0, .string ⟨#[]⟩, .string ⟨#[]⟩, .int .i64 0, .int .i64 0, .int .i64 0, .slice none 0 0, .slice none 0 0, .slice none 0 0]) := T3.out.call B6.out
      have HB6 : Hid (Below b w w6 ∧ But b w w6) := ⟨HB3.out.1.trans (B6.out.mono (by omega)), HB3.out.2.trans (Below.but B6.out)⟩
      have HR6 : Hid (Rd B b (q + 1) w6) := HR3.out.keep (B6.out.mono hlt3)
      have HS6 : Hid (BlksS g n c cs w6) := HS3.out.below B6.out
      have c6 := AtBlk.c5 HS6.out.b.at_ X hXl
      have HBN : Hid ((cs.getD X default).n = (cs.getD X default).ss.length ∧ (cs.getD X default).n ≤ 4) := by
        have hm := blk_mem hXl
        have h1 := (HS3.out.b.items _ hm).2
        have h2 := HGD.out.items _ hm
        exact ⟨h1, by omega⟩
      have HXL : Hid (X < cs.length) := hXl
      clear hrt b6 B5 B6 T3 HB3 HR3 HS3 c5 hXl
      by_cases hb0 : (cs.getD X default).n = 0
      · have hb0i : (((cs.getD X default).n : Nat) : Int) = 0 := by omega
        rw [hb0] at c6
        have TE : Hid (CBk (((((((((w6.setCell ⟨g6, 0, none⟩ (.int .i64 0)).setCell ⟨g6, 1, none⟩ (.string ⟨#[]⟩)).setCell ⟨g6, 2, none⟩ (.string ⟨#[]⟩)).setCell ⟨g6, 3, none⟩ (.int .i64 0)).setCell ⟨g6, 4, none⟩ (.int .i64 0)).setCell ⟨g6, 5, none⟩ (.int .i64 0)).setCell ⟨g6, 6, none⟩ (.slice none 0 0)).setCell ⟨g6, 7, none⟩ (.slice none 0 0)).setCell ⟨g6, 8, none⟩ (.slice none 0 0)) g6 30 #[.int .i64 0, .string ⟨#[]⟩, .string ⟨#[]⟩, .int .i64 0, .int .i64 0, .int .i64 0, .slice none 0 0, .slice none 0 0, .slice none 0 0]) := set9_blk T6.out (.int .i64 0) (.string ⟨#[]⟩) (.string ⟨#[]⟩) (.int .i64 0) (.int .i64 0) (.int .i64 0) (.slice none 0 0) (.slice none 0 0) (.slice none 0 0)
        have HQF : Hid (Q (.returned (.tuple #[.agg #[.int .i64 0, .string ⟨#[]⟩, .string ⟨#[]⟩, .int .i64 0, .int .i64 0, .int .i64 0, .slice none 0 0, .slice none 0 0, .slice none 0 0], .string ⟨#[97]⟩, .string root])) (((((((((w6.setCell ⟨g6, 0, none⟩ (.int .i64 0)).setCell ⟨g6, 1, none⟩ (.string ⟨#[]⟩)).setCell ⟨g6, 2, none⟩ (.string ⟨#[]⟩)).setCell ⟨g6, 3, none⟩ (.int .i64 0)).setCell ⟨g6, 4, none⟩ (.int .i64 0)).setCell ⟨g6, 5, none⟩ (.int .i64 0)).setCell ⟨g6, 6, none⟩ (.slice none 0 0)).setCell ⟨g6, 7, none⟩ (.slice none 0 0)).setCell ⟨g6, 8, none⟩ (.slice none 0 0))) := HQ.out 0 zeroH none 0 0 none 0 0 none 0 0 [] ⟨#[97]⟩ root (q + 1) _ ⟨⟨by decide, by decide⟩, .inl ⟨rfl, rfl⟩, fun i hi => absurd hi (Nat.not_lt_zero _), Nat.zero_le _⟩ (by have := HMP.out; omega) (HR6.out.keep (nine_k (Below.refl _ _) HGB.out (.int .i64 0) (.string ⟨#[]⟩) (.string ⟨#[]⟩) (.int .i64 0) (.int .i64 0) (.int .i64 0) (.slice none 0 0) (.slice none 0 0) (.slice none 0 0))) (nine_k HB6.out.1 (Nat.le_of_lt HGB.out) (.int .i64 0) (.string ⟨#[]⟩) (.string ⟨#[]⟩) (.int .i64 0) (.int .i64 0) (.int .i64 0) (.slice none 0 0) (.slice none 0 0) (.slice none 0 0)) (nine_but HB6.out.2 HGW.out (.int .i64 0) (.string ⟨#[]⟩) (.string ⟨#[]⟩) (.int .i64 0) (.int .i64 0) (.int .i64 0) (.slice none 0 0) (.slice none 0 0) (.slice none 0 0))
        obtain ⟨e0, e1, e2, e3, e4, e5, e6, e7, e8⟩ := T6.out.nineP
        obtain ⟨f0, f1, f2, f3, f4, f5, f6, f7, f8⟩ := T6.out.nineZ
        generalize (cs.getD X default).g = bg at c6
        generalize (cs.getD X default).cap = bc at c6
        clear hb0 hb0i HBN
        go_wp2_with fail
        exact bodyPost_ret (results_row_tmp_tmp (p := 2) (u := 3) (v := 4) rfl _ _ g6 30 #[.int .i64 0, .string ⟨#[]⟩, .string ⟨#[]⟩, .int .i64 0, .int .i64 0, .int .i64 0, .slice none 0 0, .slice none 0 0, .slice none 0 0] (0, 0) _ rfl TE.out Tryz.underlying30 rfl (by kernel_rfl)) rfl HQF.out
      have HIS : Hid (∀ (Y : Nat) w', Y < (cs.getD X default).n → BlksS g n c cs w' → w'.cell? ⟨(cs.getD X default).g, Y, none⟩ = some (.string ((cs.getD X default).ss.getD Y ByteArray.empty))) := fun Y w' hY hS => (hS.b.items _ (blk_mem HXL.out)).1.2 Y (by have := HBN.out.1; omega)
      have HL9 : Hid (∀ (Y : Nat), Y < (cs.getD X default).n → ∀ w', BlksS g n c cs w' → Calls Tryz.prog 26 #[.slice (some ⟨g, 0, none⟩) n c, .int .i64 (X : Int), .int .i64 (Y : Int)] w' fun e w'' => ∃ (pa : Option Addr) (pn pc : Nat) (sa : Option Addr) (sn sc : Nat) (da : Option Addr) (dn dc : Nat), e = .returned (.agg #[.int .i64 (X : Int), .string (cs.getD X default).h.prev, .string (cs.getD X default).h.root, .int .i64 (cs.getD X default).h.time, .int .i64 (cs.getD X default).h.diff, .int .i64 (cs.getD X default).h.nonce, .slice pa pn pc, .slice sa sn sc, .slice da dn dc]) ∧ Pks w'.heap.size (.slice pa pn pc) (proofL (cs.map (·.h)) (X : Int)).1 w'' ∧ Below w'.heap.size w' w'') := fun Y hY w' hS => by
        refine (specL9OfG g n c cs X Y w' hS (heads_good (by rw [List.length_map]; have := HN20.out; have := HN.out; omega) HGD.out.ok) HXL.out (HIO.out _ (blk_mem HXL.out)) (by have := HBN.out.1; omega)).mono ?_
        rintro e w'' ⟨⟨vp, vs, vd, rfl, k1, k2, k3, b9⟩, -⟩
        obtain ⟨pa, pn, pc, rfl⟩ := pks_slice k1
        obtain ⟨sa, sn, sc, rfl⟩ := pks_slice k2
        obtain ⟨da, dn, dc, rfl⟩ := sds_slice k3
        exact ⟨pa, pn, pc, sa, sn, sc, da, dn, dc, rfl, k1, b9⟩
      have HPK : Hid ((∀ i, i < (proofL (cs.map (·.h)) (X : Int)).1.length → ((proofL (cs.map (·.h)) (X : Int)).1.getD i default).sum.size ≤ maxLen) ∧ (proofL (cs.map (·.h)) (X : Int)).1.length ≤ 20) := proof_fine HGD.out
      generalize (proofL (cs.map (·.h)) (X : Int)).1 = PK at HL9 HPK
      have HBG : Hid (g6 + 1 ≤ (cs.getD X default).g) := HGG.out.2 _ (blk_mem HXL.out)
      generalize cs.getD X default = bb at c6 hb0 HBN HIS HL9 HBG
      obtain ⟨hh, bg, bn, bc, bss⟩ := bb
      dsimp only at c6 hb0 HBN HIS HL9 HBG
      have hbn0 : ¬ ((bn : Nat) : Int) = 0 := by omega
      have hbn1 : ¬ bn = 0 := hb0
      have hpk := pick_walk B b (q + 1) (bn : Int) w6 HR6.out (by have := HMP.out; omega) (by have := HBN.out.2; omega)
      go_wp2_with fail
      refine hpk.mono ?_
      rintro e w7 ⟨Y, rfl, hx1, _, hr7, o7⟩
      have hY : Y < bn := by have := hx1 (by omega); omega
      have T7 : Hid (CBk w7 g6 30 #[.int .i64 0, .string ⟨#[]⟩, .string ⟨#[]⟩, .int .i64 0, .int .i64 0, .int .i64 0, .slice none 0 0, .slice none 0 0, .slice none 0 0]) := (o7.block g6 (by have := HGB.out; omega)).trans T6.out
      have HB7 : Hid (Below b w w7 ∧ But b w w7) := ⟨HB6.out.1.trans (o7.below (Nat.le_refl _)), HB6.out.2.trans o7.but⟩
      have HR7 : Hid (Rd B b (q + 1 + 1) w7) := hr7
      have HS7 : Hid (BlksS g n c cs w7) := blkS_only HS6.out o7 (by have := HGB.out; have := HGG.out.1; omega) (fun x hx => by have := HGB.out; have := HGG.out.2 x hx; omega)
      have hlt7 := HR7.out.lt
      have HC8 : Hid (∀ w', Below w7.heap.size w7 w' → (w'.cell? ⟨g, X * 6 + 5, none⟩ = some (.slice (some ⟨bg, 0, none⟩) bn bc)) ∧ (w'.cell? ⟨bg, Y, none⟩ = some (.string (bss.getD Y ByteArray.empty)))) := fun w' hb => ⟨by
        have h1 := (o7.block g (by have := HGB.out; have := HGG.out.1; omega))
        have h2 : w'.cell? ⟨g, X * 6 + 5, none⟩ = w7.cell? ⟨g, X * 6 + 5, none⟩ := hb.cell (p := ⟨g, X * 6 + 5, none⟩) HS7.out.b.at_.1
        have h3 : w7.cell? ⟨g, X * 6 + 5, none⟩ = w6.cell? ⟨g, X * 6 + 5, none⟩ := World.cell?_of_block (a := ⟨g, X * 6 + 5, none⟩) h1
        rw [h2, h3]; exact c6, HIS.out Y w' hY (HS7.out.below hb)⟩
      have HL10 := HL9.out Y hY
      have HL10 : Hid _ := HL10
      have S7 := HC8.out w7 (Below.refl _ _)
      have S7d := HC8.out w7.drew (Below.refl _ _).drew
      have ly1 : (Y : Int) < (bn : Int) := by omega
      have ly0 : (0 : Int) ≤ (Y : Int) := by omega
      have hn1 : ¬ g = g6 := by have := HGG.out.1; omega
      have hn2 : ¬ bg = g6 := by have := HBG.out; omega
      have hn3 : ¬ g6 = g := fun h => hn1 h.symm
      have hn4 : ¬ g6 = bg := fun h => hn2 h.symm
      have HS7d : Hid (BlksS g n c cs w7.drew) := HS7.out.below (Below.refl _ _).drew
      clear hpk hr7 o7 T6 HB6 HR6 HS6 c6 HIS HL9 hx1
      generalize bss.getD Y ByteArray.empty = it at HC8 S7 S7d
      go_wp2_with fail
      obtain ⟨p0, p1⟩ := S7d
      go_region_held3 (fun w' => w'.cell? ⟨g, X * 6 + 5, none⟩ = some (.slice (some ⟨bg, 0, none⟩) bn bc) ∧ w'.cell? ⟨bg, Y, none⟩ = some (.string it))
        (first | (with_reducible first | exact S7 | exact ⟨p0, p1⟩ | exact S8) | go_keep)
        (first
          | (go_at_call 26; refine (HL10.out _ HS7d.out).mono ?_; rintro e w8 ⟨pa, pn, pc, sa, sn, sc, da, dn, dc, rfl, k8, b8⟩; have B8 : Hid (Below w7.heap.size w7 w8) := ((Below.refl w7.heap.size w7).drew).trans b8; have K8 : Hid (Pks w7.heap.size (.slice pa pn pc) PK w8) := k8; have S8 := HC8.out w8 B8.out; have T8 : Hid (CBk w8 g6 30 #[.int .i64 0, .string ⟨#[]⟩, .string ⟨#[]⟩, .int .i64 0, .int .i64 0, .int .i64 0, .slice none 0 0, .slice none 0 0, .slice none 0 0]) := T7.out.call B8.out; obtain ⟨e0, e1, e2, e3, e4, e5, e6, e7, e8⟩ := T8.out.nineP; obtain ⟨f0, f1, f2, f3, f4, f5, f6, f7, f8⟩ := T8.out.nineZ))
      all_goals
        have TE : Hid (CBk (((((((((w8.setCell ⟨g6, 0, none⟩ (.int .i64 (X : Int))).setCell ⟨g6, 1, none⟩ (.string hh.prev)).setCell ⟨g6, 2, none⟩ (.string hh.root)).setCell ⟨g6, 3, none⟩ (.int .i64 hh.time)).setCell ⟨g6, 4, none⟩ (.int .i64 hh.diff)).setCell ⟨g6, 5, none⟩ (.int .i64 hh.nonce)).setCell ⟨g6, 6, none⟩ (.slice pa pn pc)).setCell ⟨g6, 7, none⟩ (.slice sa sn sc)).setCell ⟨g6, 8, none⟩ (.slice da dn dc)) g6 30 #[.int .i64 (X : Int), .string hh.prev, .string hh.root, .int .i64 hh.time, .int .i64 hh.diff, .int .i64 hh.nonce, .slice pa pn pc, .slice sa sn sc, .slice da dn dc]) := set9_blk T8.out (.int .i64 (X : Int)) (.string hh.prev) (.string hh.root) (.int .i64 hh.time) (.int .i64 hh.diff) (.int .i64 hh.nonce) (.slice pa pn pc) (.slice sa sn sc) (.slice da dn dc)
        have hkp : Pks w.heap.size (.slice pa pn pc) PK (((((((((w8.setCell ⟨g6, 0, none⟩ (.int .i64 (X : Int))).setCell ⟨g6, 1, none⟩ (.string hh.prev)).setCell ⟨g6, 2, none⟩ (.string hh.root)).setCell ⟨g6, 3, none⟩ (.int .i64 hh.time)).setCell ⟨g6, 4, none⟩ (.int .i64 hh.diff)).setCell ⟨g6, 5, none⟩ (.int .i64 hh.nonce)).setCell ⟨g6, 6, none⟩ (.slice pa pn pc)).setCell ⟨g6, 7, none⟩ (.slice sa sn sc)).setCell ⟨g6, 8, none⟩ (.slice da dn dc)) := (K8.out.keep (Nat.le_of_eq (set9_size (.int .i64 (X : Int)) (.string hh.prev) (.string hh.root) (.int .i64 hh.time) (.int .i64 hh.diff) (.int .i64 hh.nonce) (.slice pa pn pc) (.slice sa sn sc) (.slice da dn dc))) (fun g9 hg9 => set9_other (show g9 ≠ g6 by have := (K8.out.blk hg9).2; have := T7.out.lt; omega) (.int .i64 (X : Int)) (.string hh.prev) (.string hh.root) (.int .i64 hh.time) (.int .i64 hh.diff) (.int .i64 hh.nonce) (.slice pa pn pc) (.slice sa sn sc) (.slice da dn dc))).mono HB7.out.2.1
        have hr9 : Rd B b (q + 1 + 1) (((((((((w8.setCell ⟨g6, 0, none⟩ (.int .i64 (X : Int))).setCell ⟨g6, 1, none⟩ (.string hh.prev)).setCell ⟨g6, 2, none⟩ (.string hh.root)).setCell ⟨g6, 3, none⟩ (.int .i64 hh.time)).setCell ⟨g6, 4, none⟩ (.int .i64 hh.diff)).setCell ⟨g6, 5, none⟩ (.int .i64 hh.nonce)).setCell ⟨g6, 6, none⟩ (.slice pa pn pc)).setCell ⟨g6, 7, none⟩ (.slice sa sn sc)).setCell ⟨g6, 8, none⟩ (.slice da dn dc)) := HR7.out.keep (nine_k (B8.out.mono hlt7) HGB.out (.int .i64 (X : Int)) (.string hh.prev) (.string hh.root) (.int .i64 hh.time) (.int .i64 hh.diff) (.int .i64 hh.nonce) (.slice pa pn pc) (.slice sa sn sc) (.slice da dn dc))
        have hb9 : Below b w (((((((((w8.setCell ⟨g6, 0, none⟩ (.int .i64 (X : Int))).setCell ⟨g6, 1, none⟩ (.string hh.prev)).setCell ⟨g6, 2, none⟩ (.string hh.root)).setCell ⟨g6, 3, none⟩ (.int .i64 hh.time)).setCell ⟨g6, 4, none⟩ (.int .i64 hh.diff)).setCell ⟨g6, 5, none⟩ (.int .i64 hh.nonce)).setCell ⟨g6, 6, none⟩ (.slice pa pn pc)).setCell ⟨g6, 7, none⟩ (.slice sa sn sc)).setCell ⟨g6, 8, none⟩ (.slice da dn dc)) := nine_k (HB7.out.1.trans (B8.out.mono (Nat.le_of_lt hlt7))) (Nat.le_of_lt HGB.out) (.int .i64 (X : Int)) (.string hh.prev) (.string hh.root) (.int .i64 hh.time) (.int .i64 hh.diff) (.int .i64 hh.nonce) (.slice pa pn pc) (.slice sa sn sc) (.slice da dn dc)
        have hu9 : But b w (((((((((w8.setCell ⟨g6, 0, none⟩ (.int .i64 (X : Int))).setCell ⟨g6, 1, none⟩ (.string hh.prev)).setCell ⟨g6, 2, none⟩ (.string hh.root)).setCell ⟨g6, 3, none⟩ (.int .i64 hh.time)).setCell ⟨g6, 4, none⟩ (.int .i64 hh.diff)).setCell ⟨g6, 5, none⟩ (.int .i64 hh.nonce)).setCell ⟨g6, 6, none⟩ (.slice pa pn pc)).setCell ⟨g6, 7, none⟩ (.slice sa sn sc)).setCell ⟨g6, 8, none⟩ (.slice da dn dc)) := nine_but (HB7.out.2.trans (Below.but B8.out)) HGW.out (.int .i64 (X : Int)) (.string hh.prev) (.string hh.root) (.int .i64 hh.time) (.int .i64 hh.diff) (.int .i64 hh.nonce) (.slice pa pn pc) (.slice sa sn sc) (.slice da dn dc)
        have HQF : Hid (Q (.returned (.tuple #[.agg #[.int .i64 (X : Int), .string hh.prev, .string hh.root, .int .i64 hh.time, .int .i64 hh.diff, .int .i64 hh.nonce, .slice pa pn pc, .slice sa sn sc, .slice da dn dc], .string it, .string root])) (((((((((w8.setCell ⟨g6, 0, none⟩ (.int .i64 (X : Int))).setCell ⟨g6, 1, none⟩ (.string hh.prev)).setCell ⟨g6, 2, none⟩ (.string hh.root)).setCell ⟨g6, 3, none⟩ (.int .i64 hh.time)).setCell ⟨g6, 4, none⟩ (.int .i64 hh.diff)).setCell ⟨g6, 5, none⟩ (.int .i64 hh.nonce)).setCell ⟨g6, 6, none⟩ (.slice pa pn pc)).setCell ⟨g6, 7, none⟩ (.slice sa sn sc)).setCell ⟨g6, 8, none⟩ (.slice da dn dc))) := HQ.out (X : Int) hh pa pn pc sa sn sc da dn dc PK it root (q + 1 + 1) _ ⟨⟨by omega, by have := HN20.out; omega⟩, hkp, HPK.out.1, HPK.out.2⟩ (by have := HMP.out; omega) hr9 hb9 hu9
        clear hkp hr9 hb9 hu9
        go_wp2_with fail
        exact bodyPost_ret (results_row_tmp_tmp (p := 2) (u := 3) (v := 4) rfl _ _ g6 30 #[.int .i64 (X : Int), .string hh.prev, .string hh.root, .int .i64 hh.time, .int .i64 hh.diff, .int .i64 hh.nonce, .slice pa pn pc, .slice sa sn sc, .slice da dn dc] (0, 0) _ rfl TE.out Tryz.underlying30 rfl (by kernel_rfl)) rfl HQF.out

end Go.Proofs.YtialhnocknogpaaGreatDoor

