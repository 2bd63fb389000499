/-
  The program's schedule of words.
-/
import Derived.Test.YtjeldedjhlicmaaDoorShaI3
import Derived.Test.YtjeldedjhlicmaaDoorShaU
import Derived.RegionTactic
import Derived.Deep.RegionWith
import Derived.Deep.RegionHeld2
import Derived.Deep.Cut
import Derived.BigRegion
import Derived.BigQuiet
import Derived.Deep.QuietTactic
import Derived.ChangeAlike
set_option linter.unusedVariables false
namespace Go.Proofs.YtjeldedjhlicmaaDoor
open Go.RowKit

theorem size64 : (Tryd.prog.info? 110).map (·.size) = some 64 := by kernel_rfl
theorem keepO {w : World} {G i j : Nat} {v u : Value} (h : w.cell? ⟨G, j, none⟩ = some u) (hne : ¬ i = j) : (w.setCell ⟨G, i, none⟩ v).drew.cell? ⟨G, j, none⟩ = some u := by
  have : (w.setCell ⟨G, i, none⟩ v).cell? ⟨G, j, none⟩ = w.cell? ⟨G, j, none⟩ := by
    apply World.cell?_setCell_other
    intro he
    simp only [Addr.mk.injEq, true_and, and_true] at he
    exact hne he
  exact this.trans h

set_option maxHeartbeats 1000000 in
set_option maxRecDepth 100000 in
theorem scheduleI (bs : List Nat) (g o cap : Nat) (w : World) (hn : ∀ i, i < bs.length → w.cell? ⟨g, o + i, none⟩ = some (.int .u8 ((bs.getD i 0 : Nat) : Int))) (hl : bs.length = 64) (hbb : ∀ x ∈ bs, x < 256) (hg : g < w.heap.size) :
    Calls Tryd.prog 82 #[.slice (some ⟨g, o, none⟩) 64 cap] w fun e w' => e = .returned (.agg (uCells (schedTo bs 48))) ∧ Below w.heap.size w w' := by
  have z1 : RowU 110 ((w.alloc (.cells (uCells (List.replicate 64 0)) 110)).alloc (.cells (uCells (List.replicate 64 0)) 110)) w.heap.size (List.replicate 64 0) := by
    show _ = _
    rw [Below.heap_alloc _ _ _ (by simp)]
    exact heap_alloc_new w _
  have z2 : RowU 110 ((w.alloc (.cells (uCells (List.replicate 64 0)) 110)).alloc (.cells (uCells (List.replicate 64 0)) 110)) (w.heap.size + 1) (fillTo bs 0) := by
    have := heap_alloc_new (w.alloc (.cells (uCells (List.replicate 64 0)) 110)) (.cells (uCells (List.replicate 64 0)) 110)
    rw [show (w.alloc (.cells (uCells (List.replicate 64 0)) 110)).heap.size = w.heap.size + 1 from by simp] at this
    exact this
  have z3 : Below w.heap.size w ((w.alloc (.cells (uCells (List.replicate 64 0)) 110)).alloc (.cells (uCells (List.replicate 64 0)) 110)) := ((Below.refl _ w).alloc (Nat.le_refl _) _).alloc (by simp) _
  go_enter Tryd.func82, Tryd.ntmps82
  go_wp2
  go_loopw [9] (fun i wr => ∃ k : Nat, k ≤ 64 ∧ i = .int .i64 k ∧ RowU 110 wr w.heap.size (List.replicate 64 0) ∧ RowU 110 wr (w.heap.size + 1) (fillTo bs k) ∧ Below w.heap.size w wr) (fun i _ => 64 - (intOf i).toNat)
  case atStart => exact ⟨0, by omega, rfl, z1, z2, z3⟩
  case round =>
    clear z1 z2 z3
    obtain ⟨k, hk, rfl, hr0, hr1, hbw⟩ := hrel
    by_cases hlt : k < 64
    · obtain ⟨q, hq⟩ : ∃ q : Nat, q = k / 4 := ⟨_, rfl⟩
      have rq : (k : Int) / 4 = (q : Int) := by rw [hq]; simp
      have hq16 : q < 16 := by omega
      obtain ⟨b, hb⟩ : ∃ b, b = bs.getD k 0 := ⟨_, rfl⟩
      have cb : wr.cell? ⟨g, o + k, none⟩ = some (.int .u8 (b : Int)) := by
        rw [hbw.cell (p := ⟨g, o + k, none⟩) hg, hn k (by omega), hb]
      have hb256 : b < 256 := by rw [hb]; exact byte_getD hbb k
      obtain ⟨old, hold⟩ : ∃ x, x = (fillTo bs k).getD q 0 := ⟨_, rfl⟩
      have cq := hr1.cell q (by rw [fillTo_length]; omega)
      rw [← hold] at cq
      have hfz := hr1.frozen q
      obtain ⟨v, hv⟩ : ∃ v : Nat, v = old * 256 % 4294967296 ||| b := ⟨_, rfl⟩
      have rv : bits .or .u32 ((old : Int) * 256 % 4294967296) (b : Int) = (v : Int) := by
        rw [hv, ← or32 _ _ (Nat.mod_lt _ (by decide)) (by omega)]
        simp
      have HV : Hid ((fillTo bs k).set q v = fillTo bs (k + 1)) := by
        show _ = _
        rw [fillTo, hv, hold, hq, hb]
      have H0 : Hid (RowU 110 wr w.heap.size (List.replicate 64 0)) := hr0
      have H1 : Hid (RowU 110 wr (w.heap.size + 1) (fillTo bs k)) := hr1
      have HB : Hid (Below w.heap.size w wr) := hbw
      clear hq hb hold hv hr0 hr1 hbw hn
      go_wp2
      go_roundw
      case rel =>
        refine ⟨k + 1, by omega, by go_num, ?_, ?_, HB.out.setCell (p := ⟨w.heap.size + 1, q, none⟩) (by show w.heap.size ≤ w.heap.size + 1; omega) _⟩
        · exact H0.out.keep (Below.heap_setCell wr ⟨w.heap.size + 1, q, none⟩ (.int .u32 (v : Int)) w.heap.size (by show w.heap.size ≠ w.heap.size + 1; omega))
        · have := H1.out.set q v
          rw [HV.out] at this
          exact this
      case measure => simp [intOf]; omega
    · have hk64 : k = 64 := by omega
      have hrow0 : RowU 110 wr (w.heap.size + 1) (schedTo bs 0 ++ List.replicate 48 0) := by
        rw [hk64, fill_sched bs hbb] at hr1; exact hr1
      obtain ⟨w0, rfl⟩ : ∃ w0 : World, w0 = wr := ⟨_, rfl⟩
      obtain ⟨k0, hk0⟩ : ∃ k0 : Nat, k0 = k := ⟨_, rfl⟩
      rw [← hk0] at hlt ⊢
      clear hk0 hk64 hk hr1 hn
      go_wp2
      go_loopw [6] (fun i wr => ∃ k ii : Nat, k ≤ 48 ∧ ii ≤ 64 ∧ Hid (ii = 16 + k) ∧ i = .int .i64 (ii : Int) ∧ RowU 110 wr w.heap.size (List.replicate 64 0) ∧ RowU 110 wr (w.heap.size + 1) (schedTo bs k ++ List.replicate (48 - k) 0) ∧ Below w.heap.size w wr) (fun i _ => 64 - (intOf i).toNat)
      case atStart => exact ⟨0, 16, by omega, by omega, rfl, rfl, hr0, hrow0, hbw⟩
      case round =>
        clear hbw hrow0 hr0
        obtain ⟨k, ii, hk, hii, HI, rfl, hr0, hrow, hbw⟩ := hrel
        by_cases hklt : k < 48
        · have hlen := schedTo_length bs k
          have hall := schedTo_lt bs hbb k
          obtain ⟨p, hp⟩ : ∃ x, x = (schedTo bs k).getD k 0 := ⟨_, rfl⟩
          obtain ⟨x, hx⟩ : ∃ x, x = (schedTo bs k).getD (k + 1) 0 := ⟨_, rfl⟩
          obtain ⟨q, hq⟩ : ∃ x, x = (schedTo bs k).getD (k + 9) 0 := ⟨_, rfl⟩
          obtain ⟨y, hy⟩ : ∃ x, x = (schedTo bs k).getD (k + 14) 0 := ⟨_, rfl⟩
          have cp := hrow.cell k (by simp; omega)
          have cx := hrow.cell (k + 1) (by simp; omega)
          have cq := hrow.cell (k + 9) (by simp; omega)
          have cy := hrow.cell (k + 14) (by simp; omega)
          rw [sched_at bs k _ _ (by omega), ← hp] at cp
          rw [sched_at bs k _ _ (by omega), ← hx] at cx
          rw [sched_at bs k _ _ (by omega), ← hq] at cq
          rw [sched_at bs k _ _ (by omega), ← hy] at cy
          have lp : p < 4294967296 := by rw [hp]; exact getD_lt hall _
          have lx : x < 4294967296 := by rw [hx]; exact getD_lt hall _
          have lq : q < 4294967296 := by rw [hq]; exact getD_lt hall _
          have ly : y < 4294967296 := by rw [hy]; exact getD_lt hall _
          have hfz := hrow.frozen ii
          have hck := hrow.cell ii (by rw [HI.out]; simp; omega)
          generalize (schedTo bs k ++ List.replicate (48 - k) 0).getD ii 0 = old at hck
          have hi64 : ii < 64 := by rw [HI.out]; omega
          obtain ⟨m1, hm1⟩ : ∃ m, m = k + 1 := ⟨_, rfl⟩
          obtain ⟨m9, hm9⟩ : ∃ m, m = k + 9 := ⟨_, rfl⟩
          obtain ⟨m14, hm14⟩ : ∃ m, m = k + 14 := ⟨_, rfl⟩
          rw [← hm1] at cx
          rw [← hm9] at cq
          rw [← hm14] at cy
          have s16 : IntKind.i64.wrap ((ii : Int) - 16) = (k : Int) := by rw [IntKind.wrap_i64, HI.out]; omega
          have s15 : IntKind.i64.wrap ((ii : Int) - 15) = (m1 : Int) := by rw [IntKind.wrap_i64, HI.out, hm1]; omega
          have s7 : IntKind.i64.wrap ((ii : Int) - 7) = (m9 : Int) := by rw [IntKind.wrap_i64, HI.out, hm9]; omega
          have s2 : IntKind.i64.wrap ((ii : Int) - 2) = (m14 : Int) := by rw [IntKind.wrap_i64, HI.out, hm14]; omega
          have lk : (k : Int) < 64 := by omega
          have l1 : (m1 : Int) < 64 := by omega
          have l9 : (m9 : Int) < 64 := by omega
          have l14 : (m14 : Int) < 64 := by omega
          have li : (ii : Int) < 64 := by omega
          have n0 : ¬ ii = k := by rw [HI.out]; omega
          have n1 : ¬ ii = m1 := by rw [HI.out, hm1]; omega
          have n9 : ¬ ii = m9 := by rw [HI.out, hm9]; omega
          have n14 : ¬ ii = m14 := by rw [HI.out, hm14]; omega
          have n0' : ¬ k = ii := by rw [HI.out]; omega
          have n1' : ¬ m1 = ii := by rw [HI.out, hm1]; omega
          have n9' : ¬ m9 = ii := by rw [HI.out, hm9]; omega
          have n14' : ¬ m14 = ii := by rw [HI.out, hm14]; omega
          obtain ⟨v, hv⟩ : ∃ v : Nat, v = (p + sig0 x + q + sig1 y) % 4294967296 := ⟨_, rfl⟩
          have HV : Hid ((schedTo bs k ++ List.replicate (48 - k) 0).set ii v = schedTo bs (k + 1) ++ List.replicate (48 - (k + 1)) 0) := by
            show _ = _
            rw [HI.out]
            refine sched_set bs k hklt v ?_
            rw [hv, hp, hx, hq, hy]
          have HROW : Hid (RowU 110 wr (w.heap.size + 1) (schedTo bs k ++ List.replicate (48 - k) 0)) := hrow
          have H0 : Hid (RowU 110 wr w.heap.size (List.replicate 64 0)) := hr0
          have HB : Hid (Below w.heap.size w wr) := hbw
          have rsum : IntKind.u32.wrap (IntKind.u32.wrap (IntKind.u32.wrap ((p : Int) + ((sig0 x : Nat) : Int)) + (q : Int)) + ((sig1 y : Nat) : Int)) = (v : Int) := by
            rw [hv]
            simp only [IntKind.wrap_u32]
            omega
          clear hm1 hm9 hm14 hp hx hq hy hrow hr0 hbw hlen hall hv hlt
          go_wp2_with fail
          go_region_held2 (fun W => W.cell? ⟨w.heap.size + 1, k, none⟩ = some (.int .u32 (p : Int)) ∧ W.cell? ⟨w.heap.size + 1, m1, none⟩ = some (.int .u32 (x : Int)) ∧ W.cell? ⟨w.heap.size + 1, m9, none⟩ = some (.int .u32 (q : Int)) ∧ W.cell? ⟨w.heap.size + 1, m14, none⟩ = some (.int .u32 (y : Int))) (first | exact ⟨cp, cx, cq, cy⟩ | exact ⟨keepO cp n0, keepO cx n1, keepO cq n9, keepO cy n14⟩) (first | (go_at_call 105; refine (nearI _ _ lx).mono ?_; rintro e w1 ⟨rfl, rfl⟩) | (go_at_call 106; refine (farI _ _ ly).mono ?_; rintro e w1 ⟨rfl, rfl⟩))
          go_wp2
          go_roundw
          case rel =>
            refine ⟨k + 1, ii + 1, by omega, by omega, by show ii + 1 = 16 + (k + 1); have := HI.out; omega, by go_num, ?_, ?_, (HB.out.setCell (p := ⟨w.heap.size + 1, ii, none⟩) (by show w.heap.size ≤ w.heap.size + 1; omega) _).drew⟩
            · exact (H0.out.keep (Below.heap_setCell wr ⟨w.heap.size + 1, ii, none⟩ (.int .u32 (v : Int)) w.heap.size (by show w.heap.size ≠ w.heap.size + 1; omega))).drew
            · have := (HROW.out.set ii v).drew
              rw [HV.out] at this
              exact this
          case measure => simp [intOf]; omega
        · have hi64 : ¬ ii < 64 := by rw [HI.out]; omega
          have hfin : RowU 110 wr (w.heap.size + 1) (schedTo bs 48) := by
            have h48 : k = 48 := by omega
            rw [h48] at hrow
            simpa using hrow
          have hlen := schedTo_length bs 48
          clear hrow
          obtain ⟨L, hL⟩ : ∃ L, L = schedTo bs 48 := ⟨_, rfl⟩
          rw [← hL] at hfin hlen
          have HL : Hid (L = schedTo bs 48) := hL
          clear hL
          have hlen : L.length = 64 := hlen
          have hld := run_loadAt_mid (P := Tryd.prog) wr (w.heap.size + 1) 0 110 (uCells L).toList _ hfin.range Tryd.underlying110 rfl (by rw [size64, Array.length_toList, uCells_size, hlen])
          have hst := run_storeAt_mid (P := Tryd.prog) wr w.heap.size 0 110 (uCells L) (hr0.there _ (by rw [uCells_size, hlen]; simp)) (by rw [size64, uCells_size, hlen]) (uCells_one _)
          rw [Array.toArray_toList] at hld
          have hout : RowU 110 (wr.setCells w.heap.size 0 (uCells L).toList) w.heap.size L := hr0.over (by rw [hlen]; simp)
          have hbo : Below w.heap.size w (wr.setCells w.heap.size 0 (uCells L).toList) := Below.setCells hbw (Nat.le_refl _) _ 0
          have hlv := run_loadVar_mid (P := Tryd.prog) (wr.setCells w.heap.size 0 (uCells L).toList) w.heap.size 0 110 (uCells L).toList _ hout.range Tryd.underlying110 rfl (by rw [size64, Array.length_toList, uCells_size, hlen])
          rw [Array.toArray_toList] at hlv
          clear hout hld hst
          go_upto_region 11 with fail
          refine wp_region_list ?_
          refine wpList_load_mid rfl 110 _ rfl (w.heap.size + 1) 0 rfl (uCells L).toList _ hfin.range Tryd.underlying110 rfl (by rw [size64, Array.length_toList, uCells_size, hlen]) ?_
          rw [Array.toArray_toList]
          refine wpList_store_mid rfl 110 _ _ rfl w.heap.size 0 (uCells L) rfl rfl (hr0.there _ (by rw [uCells_size, hlen]; simp)) (by rw [size64, uCells_size, hlen]) (uCells_one _) ?_
          go_wp2
          rw [← HL.out]
          exact bodyPost_ret (v := .agg (uCells L)) (results_cell1 (p := 2) (b := w.heap.size) rfl _ _ _ rfl hlv) rfl ⟨rfl, hbo⟩

end Go.Proofs.YtjeldedjhlicmaaDoor
