/-
  Texts that the last part needs, joined.
-/
import Derived.Test.YtjeldedjhlicmaaGreatDoorPart1
import Derived.Test.YtjeldedjhlicmaaGreatDoorPart2
import Derived.Test.YtjeldedjhlicmaaGreatDoorPart3
import Derived.Test.YtjeldedjhlicmaaGreatDoorPart4
import Derived.Test.YtjeldedjhlicmaaGreatDoorPart5
import Derived.RegionTactic
import Derived.Deep.RegionWith
import Derived.Deep.RegionHeld2
import Derived.Deep.Cut
import Derived.BigRegion
import Derived.BigQuiet
import Derived.Deep.QuietTactic
import Derived.ChangeAlike
import Derived.Shelf.Strings.MapGrows
import Derived.Deep.RegionHeld3
set_option linter.unusedVariables false
namespace Go.Proofs.YtjeldedjhlicmaaGreatDoor
open Go.RowKit

theorem size64 : (Tryz.prog.info? 124).map (·.size) = some 64 := by kernel_rfl
theorem keepO {w : World} {G i j : Nat} {v u : Value} (h : w.cell? ⟨G, j, none⟩ = some u) (hne : ¬ i = j) : (w.setCell ⟨G, i, none⟩ v).drew.cell? ⟨G, j, none⟩ = some u := by
  have : (w.setCell ⟨G, i, none⟩ v).cell? ⟨G, j, none⟩ = w.cell? ⟨G, j, none⟩ := by
    apply World.cell?_setCell_other
    intro he
    simp only [Addr.mk.injEq, true_and, and_true] at he
    exact hne he
  exact this.trans h

set_option maxHeartbeats 1000000 in
set_option maxRecDepth 100000 in
theorem scheduleI (bs : List Nat) (g o cap : Nat) (w : World) (hn : ∀ i, i < bs.length → w.cell? ⟨g, o + i, none⟩ = some (.int .u8 ((bs.getD i 0 : Nat) : Int))) (hl : bs.length = 64) (hbb : ∀ x ∈ bs, x < 256) (hg : g < w.heap.size) :
    Calls Tryz.prog 94 #[.slice (some ⟨g, o, none⟩) 64 cap] w fun e w' => e = .returned (.agg (uCells (schedTo bs 48))) ∧ Below w.heap.size w w' := by
  have z1 : RowU 124 ((w.alloc (.cells (uCells (List.replicate 64 0)) 124)).alloc (.cells (uCells (List.replicate 64 0)) 124)) w.heap.size (List.replicate 64 0) := by
    show _ = _
    rw [Below.heap_alloc _ _ _ (by simp)]
    exact heap_alloc_new w _
  have z2 : RowU 124 ((w.alloc (.cells (uCells (List.replicate 64 0)) 124)).alloc (.cells (uCells (List.replicate 64 0)) 124)) (w.heap.size + 1) (fillTo bs 0) := by
    have := heap_alloc_new (w.alloc (.cells (uCells (List.replicate 64 0)) 124)) (.cells (uCells (List.replicate 64 0)) 124)
    rw [show (w.alloc (.cells (uCells (List.replicate 64 0)) 124)).heap.size = w.heap.size + 1 from by simp] at this
    exact this
  have z3 : Below w.heap.size w ((w.alloc (.cells (uCells (List.replicate 64 0)) 124)).alloc (.cells (uCells (List.replicate 64 0)) 124)) := ((Below.refl _ w).alloc (Nat.le_refl _) _).alloc (by simp) _
  go_enter Tryz.func94, Tryz.ntmps94
  go_wp2
  go_loopw [9] (fun i wr => ∃ k : Nat, k ≤ 64 ∧ i = .int .i64 k ∧ RowU 124 wr w.heap.size (List.replicate 64 0) ∧ RowU 124 wr (w.heap.size + 1) (fillTo bs k) ∧ Below w.heap.size w wr) (fun i _ => 64 - (intOf i).toNat)
  case atStart => exact ⟨0, by omega, rfl, z1, z2, z3⟩
  case round =>
    clear z1 z2 z3
    obtain ⟨k, hk, rfl, hr0, hr1, hbw⟩ := hrel
    by_cases hlt : k < 64
    · obtain ⟨q, hq⟩ : ∃ q : Nat, q = k / 4 := ⟨_, rfl⟩
      have rq : (k : Int) / 4 = (q : Int) := by rw [hq]; simp
      have hq16 : q < 16 := by omega
      obtain ⟨b, hb⟩ : ∃ b, b = bs.getD k 0 := ⟨_, rfl⟩
      have cb : wr.cell? ⟨g, o + k, none⟩ = some (.int .u8 (b : Int)) := by
        rw [hbw.cell (p := ⟨g, o + k, none⟩) hg, hn k (by omega), hb]
      have hb256 : b < 256 := by rw [hb]; exact byte_getD hbb k
      obtain ⟨old, hold⟩ : ∃ x, x = (fillTo bs k).getD q 0 := ⟨_, rfl⟩
      have cq := hr1.cell q (by rw [fillTo_length]; omega)
      rw [← hold] at cq
      have hfz := hr1.frozen q
      obtain ⟨v, hv⟩ : ∃ v : Nat, v = old * 256 % 4294967296 ||| b := ⟨_, rfl⟩
      have rv : bits .or .u32 ((old : Int) * 256 % 4294967296) (b : Int) = (v : Int) := by
        rw [hv, ← or32 _ _ (Nat.mod_lt _ (by decide)) (by omega)]
        simp
      have HV : Hid ((fillTo bs k).set q v = fillTo bs (k + 1)) := by
        show _ = _
        rw [fillTo, hv, hold, hq, hb]
      have H0 : Hid (RowU 124 wr w.heap.size (List.replicate 64 0)) := hr0
      have H1 : Hid (RowU 124 wr (w.heap.size + 1) (fillTo bs k)) := hr1
      have HB : Hid (Below w.heap.size w wr) := hbw
      clear hq hb hold hv hr0 hr1 hbw hn
      go_wp2
      go_roundw
      case rel =>
        refine ⟨k + 1, by omega, by go_num, ?_, ?_, HB.out.setCell (p := ⟨w.heap.size + 1, q, none⟩) (by show w.heap.size ≤ w.heap.size + 1; omega) _⟩
        · exact H0.out.keep (Below.heap_setCell wr ⟨w.heap.size + 1, q, none⟩ (.int .u32 (v : Int)) w.heap.size (by show w.heap.size ≠ w.heap.size + 1; omega))
        · have := H1.out.set q v
          rw [HV.out] at this
          exact this
      case measure => simp [intOf]; omega
    · have hk64 : k = 64 := by omega
      have hrow0 : RowU 124 wr (w.heap.size + 1) (schedTo bs 0 ++ List.replicate 48 0) := by
        rw [hk64, fill_sched bs hbb] at hr1; exact hr1
      obtain ⟨w0, rfl⟩ : ∃ w0 : World, w0 = wr := ⟨_, rfl⟩
      obtain ⟨k0, hk0⟩ : ∃ k0 : Nat, k0 = k := ⟨_, rfl⟩
      rw [← hk0] at hlt ⊢
      clear hk0 hk64 hk hr1 hn
      go_wp2
      go_loopw [6] (fun i wr => ∃ k ii : Nat, k ≤ 48 ∧ ii ≤ 64 ∧ Hid (ii = 16 + k) ∧ i = .int .i64 (ii : Int) ∧ RowU 124 wr w.heap.size (List.replicate 64 0) ∧ RowU 124 wr (w.heap.size + 1) (schedTo bs k ++ List.replicate (48 - k) 0) ∧ Below w.heap.size w wr) (fun i _ => 64 - (intOf i).toNat)
      case atStart => exact ⟨0, 16, by omega, by omega, rfl, rfl, hr0, hrow0, hbw⟩
      case round =>
        clear hbw hrow0 hr0
        obtain ⟨k, ii, hk, hii, HI, rfl, hr0, hrow, hbw⟩ := hrel
        by_cases hklt : k < 48
        · have hlen := schedTo_length bs k
          have hall := schedTo_lt bs hbb k
          obtain ⟨p, hp⟩ : ∃ x, x = (schedTo bs k).getD k 0 := ⟨_, rfl⟩
          obtain ⟨x, hx⟩ : ∃ x, x = (schedTo bs k).getD (k + 1) 0 := ⟨_, rfl⟩
          obtain ⟨q, hq⟩ : ∃ x, x = (schedTo bs k).getD (k + 9) 0 := ⟨_, rfl⟩
          obtain ⟨y, hy⟩ : ∃ x, x = (schedTo bs k).getD (k + 14) 0 := ⟨_, rfl⟩
          have cp := hrow.cell k (by simp; omega)
          have cx := hrow.cell (k + 1) (by simp; omega)
          have cq := hrow.cell (k + 9) (by simp; omega)
          have cy := hrow.cell (k + 14) (by simp; omega)
          rw [sched_at bs k _ _ (by omega), ← hp] at cp
          rw [sched_at bs k _ _ (by omega), ← hx] at cx
          rw [sched_at bs k _ _ (by omega), ← hq] at cq
          rw [sched_at bs k _ _ (by omega), ← hy] at cy
          have lp : p < 4294967296 := by rw [hp]; exact getD_lt hall _
          have lx : x < 4294967296 := by rw [hx]; exact getD_lt hall _
          have lq : q < 4294967296 := by rw [hq]; exact getD_lt hall _
          have ly : y < 4294967296 := by rw [hy]; exact getD_lt hall _
          have hfz := hrow.frozen ii
          have hck := hrow.cell ii (by rw [HI.out]; simp; omega)
          generalize (schedTo bs k ++ List.replicate (48 - k) 0).getD ii 0 = old at hck
          have hi64 : ii < 64 := by rw [HI.out]; omega
          obtain ⟨m1, hm1⟩ : ∃ m, m = k + 1 := ⟨_, rfl⟩
          obtain ⟨m9, hm9⟩ : ∃ m, m = k + 9 := ⟨_, rfl⟩
          obtain ⟨m14, hm14⟩ : ∃ m, m = k + 14 := ⟨_, rfl⟩
          rw [← hm1] at cx
          rw [← hm9] at cq
          rw [← hm14] at cy
          have s16 : IntKind.i64.wrap ((ii : Int) - 16) = (k : Int) := by rw [IntKind.wrap_i64, HI.out]; omega
          have s15 : IntKind.i64.wrap ((ii : Int) - 15) = (m1 : Int) := by rw [IntKind.wrap_i64, HI.out, hm1]; omega
          have s7 : IntKind.i64.wrap ((ii : Int) - 7) = (m9 : Int) := by rw [IntKind.wrap_i64, HI.out, hm9]; omega
          have s2 : IntKind.i64.wrap ((ii : Int) - 2) = (m14 : Int) := by rw [IntKind.wrap_i64, HI.out, hm14]; omega
          have lk : (k : Int) < 64 := by omega
          have l1 : (m1 : Int) < 64 := by omega
          have l9 : (m9 : Int) < 64 := by omega
          have l14 : (m14 : Int) < 64 := by omega
          have li : (ii : Int) < 64 := by omega
          have n0 : ¬ ii = k := by rw [HI.out]; omega
          have n1 : ¬ ii = m1 := by rw [HI.out, hm1]; omega
          have n9 : ¬ ii = m9 := by rw [HI.out, hm9]; omega
          have n14 : ¬ ii = m14 := by rw [HI.out, hm14]; omega
          have n0' : ¬ k = ii := by rw [HI.out]; omega
          have n1' : ¬ m1 = ii := by rw [HI.out, hm1]; omega
          have n9' : ¬ m9 = ii := by rw [HI.out, hm9]; omega
          have n14' : ¬ m14 = ii := by rw [HI.out, hm14]; omega
          obtain ⟨v, hv⟩ : ∃ v : Nat, v = (p + sig0 x + q + sig1 y) % 4294967296 := ⟨_, rfl⟩
          have HV : Hid ((schedTo bs k ++ List.replicate (48 - k) 0).set ii v = schedTo bs (k + 1) ++ List.replicate (48 - (k + 1)) 0) := by
            show _ = _
            rw [HI.out]
            refine sched_set bs k hklt v ?_
            rw [hv, hp, hx, hq, hy]
          have HROW : Hid (RowU 124 wr (w.heap.size + 1) (schedTo bs k ++ List.replicate (48 - k) 0)) := hrow
          have H0 : Hid (RowU 124 wr w.heap.size (List.replicate 64 0)) := hr0
          have HB : Hid (Below w.heap.size w wr) := hbw
          have rsum : IntKind.u32.wrap (IntKind.u32.wrap (IntKind.u32.wrap ((p : Int) + ((sig0 x : Nat) : Int)) + (q : Int)) + ((sig1 y : Nat) : Int)) = (v : Int) := by
            rw [hv]
            simp only [IntKind.wrap_u32]
            omega
          clear hm1 hm9 hm14 hp hx hq hy hrow hr0 hbw hlen hall hv hlt
          go_wp2_with fail
          go_region_held2 (fun W => W.cell? ⟨w.heap.size + 1, k, none⟩ = some (.int .u32 (p : Int)) ∧ W.cell? ⟨w.heap.size + 1, m1, none⟩ = some (.int .u32 (x : Int)) ∧ W.cell? ⟨w.heap.size + 1, m9, none⟩ = some (.int .u32 (q : Int)) ∧ W.cell? ⟨w.heap.size + 1, m14, none⟩ = some (.int .u32 (y : Int))) (first | exact ⟨cp, cx, cq, cy⟩ | exact ⟨keepO cp n0, keepO cx n1, keepO cq n9, keepO cy n14⟩) (first | (go_at_call 107; refine (nearI _ _ lx).mono ?_; rintro e w1 ⟨rfl, rfl⟩) | (go_at_call 108; refine (farI _ _ ly).mono ?_; rintro e w1 ⟨rfl, rfl⟩))
          go_wp2
          go_roundw
          case rel =>
            refine ⟨k + 1, ii + 1, by omega, by omega, by show ii + 1 = 16 + (k + 1); have := HI.out; omega, by go_num, ?_, ?_, (HB.out.setCell (p := ⟨w.heap.size + 1, ii, none⟩) (by show w.heap.size ≤ w.heap.size + 1; omega) _).drew⟩
            · exact (H0.out.keep (Below.heap_setCell wr ⟨w.heap.size + 1, ii, none⟩ (.int .u32 (v : Int)) w.heap.size (by show w.heap.size ≠ w.heap.size + 1; omega))).drew
            · have := (HROW.out.set ii v).drew
              rw [HV.out] at this
              exact this
          case measure => simp [intOf]; omega
        · have hi64 : ¬ ii < 64 := by rw [HI.out]; omega
          have hfin : RowU 124 wr (w.heap.size + 1) (schedTo bs 48) := by
            have h48 : k = 48 := by omega
            rw [h48] at hrow
            simpa using hrow
          have hlen := schedTo_length bs 48
          clear hrow
          obtain ⟨L, hL⟩ : ∃ L, L = schedTo bs 48 := ⟨_, rfl⟩
          rw [← hL] at hfin hlen
          have HL : Hid (L = schedTo bs 48) := hL
          clear hL
          have hlen : L.length = 64 := hlen
          have hld := run_loadAt_mid (P := Tryz.prog) wr (w.heap.size + 1) 0 124 (uCells L).toList _ hfin.range Tryz.underlying124 rfl (by rw [size64, Array.length_toList, uCells_size, hlen])
          have hst := run_storeAt_mid (P := Tryz.prog) wr w.heap.size 0 124 (uCells L) (hr0.there _ (by rw [uCells_size, hlen]; simp)) (by rw [size64, uCells_size, hlen]) (uCells_one _)
          rw [Array.toArray_toList] at hld
          have hout : RowU 124 (wr.setCells w.heap.size 0 (uCells L).toList) w.heap.size L := hr0.over (by rw [hlen]; simp)
          have hbo : Below w.heap.size w (wr.setCells w.heap.size 0 (uCells L).toList) := Below.setCells hbw (Nat.le_refl _) _ 0
          have hlv := run_loadVar_mid (P := Tryz.prog) (wr.setCells w.heap.size 0 (uCells L).toList) w.heap.size 0 124 (uCells L).toList _ hout.range Tryz.underlying124 rfl (by rw [size64, Array.length_toList, uCells_size, hlen])
          rw [Array.toArray_toList] at hlv
          clear hout hld hst
          go_upto_region 11 with fail
          refine wp_region_list ?_
          refine wpList_load_mid rfl 124 _ rfl (w.heap.size + 1) 0 rfl (uCells L).toList _ hfin.range Tryz.underlying124 rfl (by rw [size64, Array.length_toList, uCells_size, hlen]) ?_
          rw [Array.toArray_toList]
          refine wpList_store_mid rfl 124 _ _ rfl w.heap.size 0 (uCells L) rfl rfl (hr0.there _ (by rw [uCells_size, hlen]; simp)) (by rw [size64, uCells_size, hlen]) (uCells_one _) ?_
          go_wp2
          rw [← HL.out]
          exact bodyPost_ret (v := .agg (uCells L)) (results_cell1 (p := 2) (b := w.heap.size) rfl _ _ _ rfl hlv) rfl ⟨rfl, hbo⟩

end Go.Proofs.YtjeldedjhlicmaaGreatDoor


set_option linter.unusedVariables false
namespace Go.Proofs.YtjeldedjhlicmaaGreatDoor
open Go.RowKit

theorem size8 : (Tryz.prog.info? 121).map (·.size) = some 8 := by kernel_rfl
theorem run_storeCellsU {P : Program} {T : TypeId} {w : World} {g : Nat} {m : List Nat} (h : RowU T w g m) (l : List Nat) (hl : l.length = m.length) :
    (storeCells ⟨g, 0, none⟩ (uCells l).toList).run P w = .ok () (w.setCells g 0 (uCells l).toList) := by
  have ht := h.there _ hl
  have := run_storeCells_cells (P := P) g 0 (uCells l).toList 0 w (fun j hj => by simpa using (ht j (by simpa [uCells_size] using hj)).1) (fun j hj => by simpa using (ht j (by simpa [uCells_size] using hj)).2)
    (fun v hv => (Array.all_eq_true_iff_forall_mem.1 (uCells_one l)) v (by simpa using hv))
  simpa using this
theorem zerosU8 : #[Value.int .u32 0, Value.int .u32 0, Value.int .u32 0, Value.int .u32 0, Value.int .u32 0, Value.int .u32 0, Value.int .u32 0, Value.int .u32 0] = uCells (List.replicate 8 0) := rfl
theorem sizeW : (Tryz.prog.info? 120).map (·.size) = some 1 := by kernel_rfl
theorem indexU (ws : List Nat) (hl : ws.length = 64) (k : Nat) (hk : k < 64) (w : World) : (Instr.index 124 (.agg (uCells ws)) (.int .i64 (k : Int))).run Tryz.prog w = .ok (.int .u32 ((ws.getD k 0 : Nat) : Int)) w := by
  have hat := uCells_at ws k (by omega)
  cases hq : Tryz.prog.info? 120 with
  | none => have := sizeW; simp [hq] at this
  | some i =>
    have hs : i.size = 1 := by have := sizeW; simpa [hq] using this
    simp [Instr.index, asIntOf, Sem.run_bind, run_underlying Tryz.underlying124, part, isAgg, run_underlying Tryz.underlying120, sizeOf, typeInfo, hq, hs, hat]
    intro h64; omega
/-- The four blocks that the call lays: the state, the words, the answer's place, the state at work. -/
def Laid4 (T8 T64 : TypeId) (n : Nat) (s : St) (ws : List Nat) (t : St) (w w' : World) : Prop :=
  RowU T8 w' n s.toL ∧ RowU T8 w' (n + 1 + 1) (List.replicate 8 0) ∧ RowU T8 w' (n + 1 + 1 + 1) t.toL ∧ Below n w w'
theorem laid4 (T8 T64 : TypeId) (s : St) (ws : List Nat) (w : World) :
    RowU T8 ((((w.alloc (.cells (uCells s.toL) T8)).alloc (.cells (uCells ws) T64)).alloc (.cells (uCells (List.replicate 8 0)) T8)).alloc (.cells (uCells (List.replicate 8 0)) T8)) (w.heap.size + 1 + 1 + 1) (List.replicate 8 0) ∧
    Laid4 T8 T64 w.heap.size s ws s w (((((w.alloc (.cells (uCells s.toL) T8)).alloc (.cells (uCells ws) T64)).alloc (.cells (uCells (List.replicate 8 0)) T8)).alloc (.cells (uCells (List.replicate 8 0)) T8)).setCells (w.heap.size + 1 + 1 + 1) 0 (uCells s.toL).toList) ∧
    RowU T64 (((((w.alloc (.cells (uCells s.toL) T8)).alloc (.cells (uCells ws) T64)).alloc (.cells (uCells (List.replicate 8 0)) T8)).alloc (.cells (uCells (List.replicate 8 0)) T8)).setCells (w.heap.size + 1 + 1 + 1) 0 (uCells s.toL).toList) (w.heap.size + 1) ws ∧
    RowU T8 (((w.alloc (.cells (uCells s.toL) T8)).alloc (.cells (uCells ws) T64)).alloc (.cells (uCells (List.replicate 8 0)) T8)) w.heap.size s.toL := by
  obtain ⟨w1, h1⟩ : ∃ x, x = w.alloc (.cells (uCells s.toL) T8) := ⟨_, rfl⟩
  have s1 : w1.heap.size = w.heap.size + 1 := by rw [h1]; simp
  have r1 : RowU T8 w1 w.heap.size s.toL := by rw [h1]; exact heap_alloc_new w _
  have b1 : Below w.heap.size w w1 := by rw [h1]; exact (Below.refl _ w).alloc (Nat.le_refl _) _
  rw [← h1]
  obtain ⟨w2, h2⟩ : ∃ x, x = w1.alloc (.cells (uCells ws) T64) := ⟨_, rfl⟩
  have s2 : w2.heap.size = w.heap.size + 1 + 1 := by rw [h2]; simp [s1]
  have r2 : RowU T64 w2 (w.heap.size + 1) ws := by rw [h2, ← s1]; exact heap_alloc_new w1 _
  have r21 : RowU T8 w2 w.heap.size s.toL := by rw [h2]; exact r1.keep (Below.heap_alloc _ _ _ (by omega))
  have b2 : Below w.heap.size w w2 := by rw [h2]; exact b1.alloc (by omega) _
  rw [← h2]
  obtain ⟨w3, h3⟩ : ∃ x, x = w2.alloc (.cells (uCells (List.replicate 8 0)) T8) := ⟨_, rfl⟩
  have s3 : w3.heap.size = w.heap.size + 1 + 1 + 1 := by rw [h3]; simp [s2]
  have r3 : RowU T8 w3 (w.heap.size + 1 + 1) (List.replicate 8 0) := by rw [h3, ← s2]; exact heap_alloc_new w2 _
  have r32 : RowU T64 w3 (w.heap.size + 1) ws := by rw [h3]; exact r2.keep (Below.heap_alloc _ _ _ (by omega))
  have r31 : RowU T8 w3 w.heap.size s.toL := by rw [h3]; exact r21.keep (Below.heap_alloc _ _ _ (by omega))
  have b3 : Below w.heap.size w w3 := by rw [h3]; exact b2.alloc (by omega) _
  rw [← h3]
  obtain ⟨w4, h4⟩ : ∃ x, x = w3.alloc (.cells (uCells (List.replicate 8 0)) T8) := ⟨_, rfl⟩
  have r4 : RowU T8 w4 (w.heap.size + 1 + 1 + 1) (List.replicate 8 0) := by rw [h4, ← s3]; exact heap_alloc_new w3 _
  have r43 : RowU T8 w4 (w.heap.size + 1 + 1) (List.replicate 8 0) := by rw [h4]; exact r3.keep (Below.heap_alloc _ _ _ (by omega))
  have r42 : RowU T64 w4 (w.heap.size + 1) ws := by rw [h4]; exact r32.keep (Below.heap_alloc _ _ _ (by omega))
  have r41 : RowU T8 w4 w.heap.size s.toL := by rw [h4]; exact r31.keep (Below.heap_alloc _ _ _ (by omega))
  have b4 : Below w.heap.size w w4 := by rw [h4]; exact b3.alloc (by omega) _
  rw [← h4]
  refine ⟨r4, ⟨r41.keep (heap_setCells_other _ _ _ _ _ (by omega)), r43.keep (heap_setCells_other _ _ _ _ _ (by omega)), r4.over (by simp [St.toL]), Below.setCells b4 (by omega) _ _⟩, r42.keep (heap_setCells_other _ _ _ _ _ (by omega)), r31⟩

theorem Rows3.set {T8 : TypeId} {n : Nat} {ls l lz : List Nat} {w wr : World} (h : RowU T8 wr n ls ∧ RowU T8 wr (n + 1 + 1) lz ∧ RowU T8 wr (n + 1 + 1 + 1) l ∧ Below n w wr) (i v : Nat) :
    RowU T8 (wr.setCell ⟨n + 1 + 1 + 1, i, none⟩ (.int .u32 (v : Int))) n ls ∧ RowU T8 (wr.setCell ⟨n + 1 + 1 + 1, i, none⟩ (.int .u32 (v : Int))) (n + 1 + 1) lz ∧ RowU T8 (wr.setCell ⟨n + 1 + 1 + 1, i, none⟩ (.int .u32 (v : Int))) (n + 1 + 1 + 1) (l.set i v) ∧ Below n w (wr.setCell ⟨n + 1 + 1 + 1, i, none⟩ (.int .u32 (v : Int))) :=
  ⟨h.1.keep (Below.heap_setCell _ _ _ _ (by show _ ≠ n + 1 + 1 + 1; omega)), h.2.1.keep (Below.heap_setCell _ _ _ _ (by show _ ≠ n + 1 + 1 + 1; omega)), h.2.2.1.set i v, h.2.2.2.setCell (p := ⟨n + 1 + 1 + 1, i, none⟩) (by show n ≤ n + 1 + 1 + 1; omega) _⟩
theorem Laid4.over {T8 T64 : TypeId} {n : Nat} {s t : St} {ws : List Nat} {w wr : World} (h : Laid4 T8 T64 n s ws t w wr) (v0 v1 v2 v3 v4 v5 v6 v7 : Nat) :
    Laid4 T8 T64 n s ws ⟨v0, v1, v2, v3, v4, v5, v6, v7⟩ w ((((((((wr.setCell ⟨n + 1 + 1 + 1, 0, none⟩ (.int .u32 (v0 : Int))).setCell ⟨n + 1 + 1 + 1, 1, none⟩ (.int .u32 (v1 : Int))).setCell ⟨n + 1 + 1 + 1, 2, none⟩ (.int .u32 (v2 : Int))).setCell ⟨n + 1 + 1 + 1, 3, none⟩ (.int .u32 (v3 : Int))).setCell ⟨n + 1 + 1 + 1, 4, none⟩ (.int .u32 (v4 : Int))).setCell ⟨n + 1 + 1 + 1, 5, none⟩ (.int .u32 (v5 : Int))).setCell ⟨n + 1 + 1 + 1, 6, none⟩ (.int .u32 (v6 : Int))).setCell ⟨n + 1 + 1 + 1, 7, none⟩ (.int .u32 (v7 : Int))).drew.drew := by
  have := Rows3.set (Rows3.set (Rows3.set (Rows3.set (Rows3.set (Rows3.set (Rows3.set (Rows3.set h 0 v0) 1 v1) 2 v2) 3 v3) 4 v4) 5 v5) 6 v6) 7 v7
  exact ⟨this.1.drew.drew, this.2.1.drew.drew, this.2.2.1.drew.drew, this.2.2.2.drew.drew⟩

def plusTo (s t : St) (k : Nat) : List Nat := (s.plus t).toL.take k ++ s.toL.drop k
theorem plusTo_length (s t : St) (k : Nat) (h : k ≤ 8) : (plusTo s t k).length = 8 := by
  simp [plusTo, St.toL]; omega
theorem plusTo_at (s t : St) (k : Nat) (h : k < 8) : (plusTo s t k).getD k 0 = s.toL.getD k 0 := by
  match k, h with
  | 0, _ | 1, _ | 2, _ | 3, _ | 4, _ | 5, _ | 6, _ | 7, _ => rfl
theorem plusTo_set (s t : St) (k : Nat) (h : k < 8) (v : Nat) (hv : v = (s.toL.getD k 0 + t.toL.getD k 0) % 4294967296) : (plusTo s t k).set k v = plusTo s t (k + 1) := by
  subst hv
  match k, h with
  | 0, _ | 1, _ | 2, _ | 3, _ | 4, _ | 5, _ | 6, _ | 7, _ => rfl

set_option maxHeartbeats 1000000 in
set_option maxRecDepth 100000 in
theorem nextI (ms ws : List Nat) (s : St) (hs : s.ok) (w : World) (hms : RowG w ms) (hml : ms.length = 64) (hmm : ∀ x ∈ ms, x < 4294967296) (hwl : ws.length = 64) (hww : ∀ x ∈ ws, x < 4294967296) :
    Calls Tryz.prog 93 #[.agg (uCells s.toL), .agg (uCells ws)] w fun e w' => e = .returned (.agg (uCells (s.plus (rounds ms ws s 64)).toL)) ∧ Below w.heap.size w w' := by
  have Z : Hid (_ ∧ _ ∧ _ ∧ _) := laid4 121 124 s ws w
  go_enter Tryz.func93, Tryz.ntmps93
  go_upto_region 1 with fail
  refine wp_region_list ?_
  refine wpList_load_mid rfl 121 _ rfl w.heap.size 0 rfl (uCells s.toL).toList _ ?_ Tryz.underlying121 rfl (by rw [size8, Array.length_toList, uCells_size]; rfl) ?_
  · exact Z.out.2.2.2.range
  rw [Array.toArray_toList]
  go_wp2
  obtain ⟨z1, z2, z3, z4⟩ := Z.out
  rw [zerosU8, run_storeCellsU z1 s.toL rfl]
  obtain ⟨W, hW⟩ : ∃ W, W = (((((w.alloc (.cells (uCells s.toL) 121)).alloc (.cells (uCells ws) 124)).alloc (.cells (uCells (List.replicate 8 0)) 121)).alloc (.cells (uCells (List.replicate 8 0)) 121)).setCells (w.heap.size + 1 + 1 + 1) 0 (uCells s.toL).toList) := ⟨_, rfl⟩
  rw [← hW] at z2 z3 ⊢
  clear hW z1 z4 Z
  have Hmm : Hid (∀ x ∈ ms, x < 4294967296) := hmm
  have Hww : Hid (∀ x ∈ ws, x < 4294967296) := hww
  have HZ : Hid (Laid4 121 124 w.heap.size s ws s w W) := z2
  clear hmm hww z2
  go_upto_region 2 with fail
  refine wp_region_list ?_
  refine wpList_load_mid rfl 124 _ rfl (w.heap.size + 1) 0 rfl (uCells ws).toList _ z3.range Tryz.underlying124 rfl (by rw [size64, Array.length_toList, uCells_size, hwl]) ?_
  rw [Array.toArray_toList]
  clear z3
  go_wp2
  go_loopw [13] (fun i wr => ∃ k : Nat, k ≤ 64 ∧ i = .int .i64 (k : Int) ∧ Hid (Laid4 121 124 w.heap.size s ws (rounds ms ws s k) w wr)) (fun i _ => 64 - (intOf i).toNat)
  case atStart => exact ⟨0, by omega, rfl, HZ⟩
  case round =>
    clear HZ
    obtain ⟨k, hk, rfl, HR⟩ := hrel
    by_cases hlt : k < 64
    · have hok := rounds_ok ms ws s hs k
      obtain ⟨t, ht⟩ : ∃ t, t = rounds ms ws s k := ⟨_, rfl⟩
      rw [← ht] at HR hok
      have HT : Hid (t = rounds ms ws s k) := ht
      clear ht
      obtain ⟨a, b, c, d, e, f, g, h⟩ := t
      obtain ⟨la, lb, lc, ld, le, lf, lg, lh⟩ := hok
      simp only at la lb lc ld le lf lg lh
      have hr := HR.out.2.2.1
      have c0 : wr.cell? ⟨w.heap.size + 1 + 1 + 1, 0, none⟩ = some (.int .u32 (a : Int)) := hr.cell 0 (by show _ < 8; decide)
      have c1 : wr.cell? ⟨w.heap.size + 1 + 1 + 1, 1, none⟩ = some (.int .u32 (b : Int)) := hr.cell 1 (by show _ < 8; decide)
      have c2 : wr.cell? ⟨w.heap.size + 1 + 1 + 1, 2, none⟩ = some (.int .u32 (c : Int)) := hr.cell 2 (by show _ < 8; decide)
      have c3 : wr.cell? ⟨w.heap.size + 1 + 1 + 1, 3, none⟩ = some (.int .u32 (d : Int)) := hr.cell 3 (by show _ < 8; decide)
      have c4 : wr.cell? ⟨w.heap.size + 1 + 1 + 1, 4, none⟩ = some (.int .u32 (e : Int)) := hr.cell 4 (by show _ < 8; decide)
      have c5 : wr.cell? ⟨w.heap.size + 1 + 1 + 1, 5, none⟩ = some (.int .u32 (f : Int)) := hr.cell 5 (by show _ < 8; decide)
      have c6 : wr.cell? ⟨w.heap.size + 1 + 1 + 1, 6, none⟩ = some (.int .u32 (g : Int)) := hr.cell 6 (by show _ < 8; decide)
      have c7 : wr.cell? ⟨w.heap.size + 1 + 1 + 1, 7, none⟩ = some (.int .u32 (h : Int)) := hr.cell 7 (by show _ < 8; decide)
      have f0 := hr.frozen 0
      have f1 := hr.frozen 1
      have f2 := hr.frozen 2
      have f3 := hr.frozen 3
      have f4 := hr.frozen 4
      have f5 := hr.frozen 5
      have f6 := hr.frozen 6
      have f7 := hr.frozen 7
      clear hr
      obtain ⟨m, hm⟩ : ∃ m, m = ms.getD k 0 := ⟨_, rfl⟩
      obtain ⟨x, hx⟩ : ∃ x, x = ws.getD k 0 := ⟨_, rfl⟩
      have lm : m < 4294967296 := by rw [hm]; exact getD_lt Hmm.out _
      have lx : x < 4294967296 := by rw [hx]; exact getD_lt Hww.out _
      have cm : wr.cell? ⟨0, k, none⟩ = some (.int .u32 (m : Int)) := by
        rw [HR.out.2.2.2.cell (p := ⟨0, k, none⟩) hms.lt, hm]
        exact hms.cell k (by omega)
      have cx : ∀ w : World, (Instr.index 124 (.agg (uCells ws)) (.int .i64 (k : Int))).run Tryz.prog w = .ok (.int .u32 (x : Int)) w := by intro w; rw [hx]; exact indexU ws hwl k hlt w
      have lk : (k : Int) < 64 := by omega
      obtain ⟨v1, hv1⟩ : ∃ v : Nat, v = (h + big1 e + chs e f g + m + x) % 4294967296 := ⟨_, rfl⟩
      obtain ⟨v2, hv2⟩ : ∃ v : Nat, v = (big0 a + maj a b c) % 4294967296 := ⟨_, rfl⟩
      obtain ⟨v3, hv3⟩ : ∃ v : Nat, v = (v1 + v2) % 4294967296 := ⟨_, rfl⟩
      obtain ⟨v4, hv4⟩ : ∃ v : Nat, v = (d + v1) % 4294967296 := ⟨_, rfl⟩
      have r1 : IntKind.u32.wrap (IntKind.u32.wrap (IntKind.u32.wrap (IntKind.u32.wrap ((h : Int) + ((big1 e : Nat) : Int)) + ((chs e f g : Nat) : Int)) + (m : Int)) + (x : Int)) = (v1 : Int) := by
        rw [hv1]; simp only [IntKind.wrap_u32]; omega
      have r2 : IntKind.u32.wrap (((big0 a : Nat) : Int) + ((maj a b c : Nat) : Int)) = (v2 : Int) := by
        rw [hv2]; simp only [IntKind.wrap_u32]; omega
      have r3 : IntKind.u32.wrap ((v1 : Int) + (v2 : Int)) = (v3 : Int) := by
        rw [hv3]; simp only [IntKind.wrap_u32]; omega
      have r4 : IntKind.u32.wrap ((d : Int) + (v1 : Int)) = (v4 : Int) := by
        rw [hv4]; simp only [IntKind.wrap_u32]; omega
      have HN : Hid ((⟨v3, a, b, c, v4, e, f, g⟩ : St) = rounds ms ws s (k + 1)) := by
        show _ = _
        rw [rounds, ← HT.out, St.step, ← hm, ← hx, hv3, hv4, hv1, hv2]
        simp only [St.mk.injEq, true_and, and_true]
        omega
      clear hv1 hv2 hv3 hv4 hm hx hms HT
      go_wp2_with fail
      go_region_held2 (fun W => W.cell? ⟨w.heap.size + 1 + 1 + 1, 7, none⟩ = some (.int .u32 (h : Int)) ∧ W.cell? ⟨w.heap.size + 1 + 1 + 1, 4, none⟩ = some (.int .u32 (e : Int)) ∧ W.cell? ⟨w.heap.size + 1 + 1 + 1, 5, none⟩ = some (.int .u32 (f : Int)) ∧ W.cell? ⟨w.heap.size + 1 + 1 + 1, 6, none⟩ = some (.int .u32 (g : Int)) ∧ W.cell? ⟨0, k, none⟩ = some (.int .u32 (m : Int))) (exact ⟨c7, c4, c5, c6, cm⟩) (first | (go_at_call 103; refine (fifthI _ _ le).mono ?_; rintro e w1 ⟨rfl, rfl⟩) | (go_at_call 104; refine (chooseI _ _ _ _ le lf lg).mono ?_; rintro e w1 ⟨rfl, rfl⟩))
      go_wp2_with fail
      go_region_held2 (fun W => W.cell? ⟨w.heap.size + 1 + 1 + 1, 0, none⟩ = some (.int .u32 (a : Int)) ∧ W.cell? ⟨w.heap.size + 1 + 1 + 1, 1, none⟩ = some (.int .u32 (b : Int)) ∧ W.cell? ⟨w.heap.size + 1 + 1 + 1, 2, none⟩ = some (.int .u32 (c : Int))) (exact ⟨c0, c1, c2⟩) (first | (go_at_call 105; refine (firstI _ _ la).mono ?_; rintro e w1 ⟨rfl, rfl⟩) | (go_at_call 106; refine (mostI _ _ _ _ la lb lc).mono ?_; rintro e w1 ⟨rfl, rfl⟩))
      go_wp2
      go_roundw
      case rel =>
        refine ⟨k + 1, by omega, by go_num, ?_⟩
        have := HR.out.over v3 a b c v4 e f g
        rw [HN.out] at this
        exact this
      case measure => simp [intOf]; omega
    · obtain ⟨t, ht⟩ : ∃ t, t = rounds ms ws s 64 := ⟨_, rfl⟩
      have hk64 : k = 64 := by omega
      rw [hk64, ← ht] at HR
      have HT : Hid (t = rounds ms ws s 64) := ht
      obtain ⟨k0, hk0⟩ : ∃ k0 : Nat, k0 = k := ⟨_, rfl⟩
      rw [← hk0] at hlt ⊢
      clear ht hk0 hk64 hk
      go_wp2
      go_loopw [69] (fun i wr => ∃ k : Nat, k ≤ 8 ∧ i = .int .i64 (k : Int) ∧ Hid (RowU 121 wr w.heap.size (plusTo s t k) ∧ RowU 121 wr (w.heap.size + 1 + 1) (List.replicate 8 0) ∧ RowU 121 wr (w.heap.size + 1 + 1 + 1) t.toL ∧ Below w.heap.size w wr)) (fun i _ => 8 - (intOf i).toNat)
      case atStart => exact ⟨0, by omega, rfl, HR.out⟩
      case round =>
        clear HR
        obtain ⟨k, hk, rfl, HR⟩ := hrel
        by_cases hk8 : k < 8
        · obtain ⟨x, hx⟩ : ∃ x, x = s.toL.getD k 0 := ⟨_, rfl⟩
          obtain ⟨y, hy⟩ : ∃ y, y = t.toL.getD k 0 := ⟨_, rfl⟩
          have cx : wr.cell? ⟨w.heap.size, k, none⟩ = some (.int .u32 (x : Int)) := by
            rw [hx, ← plusTo_at s t k hk8]; exact HR.out.1.cell k (by rw [plusTo_length _ _ _ hk]; exact hk8)
          have cy : wr.cell? ⟨w.heap.size + 1 + 1 + 1, k, none⟩ = some (.int .u32 (y : Int)) := by
            rw [hy]; exact HR.out.2.2.1.cell k (by show k < 8; exact hk8)
          have hfz := HR.out.1.frozen k
          obtain ⟨v, hv⟩ : ∃ v : Nat, v = (x + y) % 4294967296 := ⟨_, rfl⟩
          have rv : IntKind.u32.wrap ((x : Int) + (y : Int)) = (v : Int) := by
            rw [hv]; simp only [IntKind.wrap_u32]; omega
          have HV : Hid ((plusTo s t k).set k v = plusTo s t (k + 1)) := by
            show _ = _
            refine plusTo_set s t k hk8 v ?_
            rw [hv, hx, hy]
          have lk : (k : Int) < 8 := by omega
          clear hx hy hv hlt hk
          go_wp2
          go_region
          go_wp2
          go_roundw
          case rel =>
            refine ⟨k + 1, by omega, by go_num, ?_⟩
            have h1 := HR.out.1.set k v
            rw [HV.out] at h1
            exact ⟨h1, HR.out.2.1.keep (Below.heap_setCell _ _ _ _ (by show _ ≠ w.heap.size; omega)), HR.out.2.2.1.keep (Below.heap_setCell _ _ _ _ (by show _ ≠ w.heap.size; omega)), (HR.out.2.2.2.setCell (p := ⟨w.heap.size, k, none⟩) (Nat.le_refl _) _).drew⟩
          case measure => simp [intOf]; omega
        · have HF : Hid (RowU 121 wr w.heap.size (s.plus t).toL) := by
            show RowU _ _ _ _
            have := HR.out.1
            rw [show k = 8 from by omega] at this
            exact this
          obtain ⟨L, hL⟩ : ∃ L, L = (s.plus t).toL := ⟨_, rfl⟩
          have hlen : L.length = 8 := by rw [hL]; rfl
          rw [← hL] at HF
          have HL : Hid (L = (s.plus (rounds ms ws s 64)).toL) := by show _ = _; rw [← HT.out]; exact hL
          have hout : RowU 121 (wr.setCells (w.heap.size + 1 + 1) 0 (uCells L).toList) (w.heap.size + 1 + 1) L := HR.out.2.1.over (by rw [hlen]; rfl)
          have hbo : Below w.heap.size w (wr.setCells (w.heap.size + 1 + 1) 0 (uCells L).toList) := Below.setCells HR.out.2.2.2 (by omega) _ 0
          have hlv := run_loadVar_mid (P := Tryz.prog) (wr.setCells (w.heap.size + 1 + 1) 0 (uCells L).toList) (w.heap.size + 1 + 1) 0 121 (uCells L).toList _ hout.range Tryz.underlying121 rfl (by rw [size8, Array.length_toList, uCells_size, hlen])
          rw [Array.toArray_toList] at hlv
          have Hlv : Hid (_ = _) := hlv
          have Hbo : Hid (Below w.heap.size w (wr.setCells (w.heap.size + 1 + 1) 0 (uCells L).toList)) := hbo
          clear hL hlv hout hbo
          go_upto_region 14 with fail
          refine wp_region_list ?_
          refine wpList_load_mid rfl 121 _ rfl w.heap.size 0 rfl (uCells L).toList _ HF.out.range Tryz.underlying121 rfl (by rw [size8, Array.length_toList, uCells_size, hlen]) ?_
          rw [Array.toArray_toList]
          refine wpList_store_mid rfl 121 _ _ rfl (w.heap.size + 1 + 1) 0 (uCells L) rfl rfl (HR.out.2.1.there _ (by rw [uCells_size, hlen]; simp)) (by rw [size8, uCells_size, hlen]) (uCells_one _) ?_
          go_wp2
          rw [← HL.out]
          exact bodyPost_ret (v := .agg (uCells L)) (results_cell1 (p := 4) (b := w.heap.size + 1 + 1) rfl _ _ _ rfl Hlv) rfl ⟨rfl, Hbo.out⟩

end Go.Proofs.YtjeldedjhlicmaaGreatDoor

set_option linter.unusedVariables false
namespace Go.Proofs.YtjeldedjhlicmaaGreatDoor
open Go.RowKit

theorem fig_digit (x j : Nat) (hx : x < 4294967296) (hj : j < 8) : x * 16 ^ j % 4294967296 / 268435456 = x / 2 ^ (4 * (7 - j)) % 16 := by
  match j, hj with
  | 0, _ => simp; omega
  | 1, _ => simp; omega
  | 2, _ => simp; omega
  | 3, _ => simp; omega
  | 4, _ => simp; omega
  | 5, _ => simp; omega
  | 6, _ => simp; omega
  | 7, _ => simp; omega

set_option maxHeartbeats 1000000 in
set_option maxRecDepth 100000 in
theorem figuresI (x : Nat) (w : World) (hx : x < 4294967296) :
    Calls Tryz.prog 95 #[.int .u32 x] w fun e w' => e = .returned (.string ⟨(hexOf x).toArray⟩) ∧ Below w.heap.size w w' := by
  go_enter Tryz.func95, Tryz.ntmps95
  go_wp2
  go_loopw [0, 4] (fun v i wr => ∃ j y : Nat, j ≤ 8 ∧ i = .int .i64 j ∧ v = .int .u32 y ∧ Hid (y = x * 16 ^ j % 4294967296) ∧ Lib.IsBuilderF 113 5 w.heap.size w.heap.size (Lib.byteCells ((hexOf x).take j)) wr ∧ Below w.heap.size w wr) (fun _ i _ => 8 - (intOf i).toNat)
  case atStart =>
    exact ⟨0, x, by omega, rfl, rfl, by show x = _; simp; omega, Lib.IsBuilderF.of (Lib.fresh_isBuilder 113 5 w), (Below.refl _ w).alloc (Nat.le_refl _) _⟩
  case round =>
    obtain ⟨j, y, hj, rfl, rfl, hy, hI, hbw⟩ := hrel
    have hsz := hbw.size
    have hyl : y < 4294967296 := by rw [hy.out]; exact Nat.mod_lt _ (by decide)
    by_cases hlt : j < 8
    · obtain ⟨d, hd⟩ : ∃ d : Nat, d = y / 268435456 := ⟨_, rfl⟩
      have rd : (y : Int) / 268435456 = (d : Int) := by rw [hd]; simp
      have hd16 : d < 16 := by rw [hd]; omega
      have HD : Hid (d = x / 2 ^ (4 * (7 - j)) % 16) := by show d = _; rw [hd, hy.out]; exact fig_digit x j hx hlt
      have HY : Hid (y * 16 % 4294967296 = x * 16 ^ (j + 1) % 4294967296) := by
        show _ = _
        rw [hy.out, Nat.pow_succ, ← Nat.mul_assoc, Nat.mod_mul_mod]
      clear hd
      go_wp2_with fail
      refine (writeByte _ _ _ _ _ hI (by rw [Lib.byteCells_length]; simp; omega) hsz).mono ?_
      rintro e w1 ⟨rfl, h1, b1, k1⟩
      have h2 : Lib.IsBuilderF 113 5 w.heap.size w.heap.size (Lib.byteCells ((hexOf x).take (j + 1))) w1 := by
        rw [hexOf_take x j hlt, ← HD.out, ← figs_at d hd16 (by show d < 16; exact hd16), Lib.byteCells_append]
        exact h1
      clear h1
      go_wp2
      go_roundw
      case rel => exact ⟨j + 1, y * 16 % 4294967296, by omega, by go_num, by go_num, HY, h2, hbw.trans b1⟩
      case measure => simp [intOf]; omega
    · have hl8 : (hexOf x).take j = hexOf x := List.take_of_length_le (by simp [hexOf]; omega)
      rw [hl8] at hI
      clear hl8
      go_wp2_with fail
      refine (Tryz.Builder_String_any_k _ _ _ _ hI hsz).mono ?_
      rintro e w2 ⟨rfl, _, b2, _⟩
      go_wp2
      go_ret
      exact ⟨rfl, hbw.trans b2⟩

end Go.Proofs.YtjeldedjhlicmaaGreatDoor

namespace Go.Proofs.YtjeldedjhlicmaaGreatDoor
open Go.RowKit

theorem endB8 (A : List Nat) (n : Nat) : endB (A ++ [0, 0, 0, 0, 0, 0, 0, 0]) n 8 = A ++ [n / 2 ^ 56 % 256, n / 2 ^ 48 % 256, n / 2 ^ 40 % 256, n / 2 ^ 32 % 256, n / 2 ^ 24 % 256, n / 2 ^ 16 % 256, n / 2 ^ 8 % 256, n / 2 ^ 0 % 256] := by
  have hl : (A ++ [0, 0, 0, 0, 0, 0, 0, 0]).length = A.length + 8 := by simp
  simp only [endB, hl]
  rw [show A.length + 8 - 1 - 0 = A.length + 7 from by omega, show A.length + 8 - 1 - 1 = A.length + 6 from by omega, show A.length + 8 - 1 - 2 = A.length + 5 from by omega, show A.length + 8 - 1 - 3 = A.length + 4 from by omega,
    show A.length + 8 - 1 - 4 = A.length + 3 from by omega, show A.length + 8 - 1 - 5 = A.length + 2 from by omega, show A.length + 8 - 1 - 6 = A.length + 1 from by omega, show A.length + 8 - 1 - 7 = A.length + 0 from by omega]
  repeat rw [List.set_append_right _ _ (by omega)]
  simp only [Nat.add_sub_cancel_left]
  rfl
theorem ofNat_mod (x : Nat) : (UInt8.ofNat (x % 256)).toNat = x % 256 := by
  simp
theorem padN_padB (t : List UInt8) : padN t = (padB t).map (·.toNat) := by
  have hz : padLen t.length - t.length - 1 = padZ t.length + 8 := by simp only [padZ, padLen]; omega
  have hr : List.replicate (padZ t.length + 8) (0 : Nat) = List.replicate (padZ t.length) 0 ++ [0, 0, 0, 0, 0, 0, 0, 0] := by
    rw [← List.replicate_append_replicate]; rfl
  rw [padN, hz, hr, show t.map (·.toNat) ++ 128 :: (List.replicate (padZ t.length) 0 ++ [0, 0, 0, 0, 0, 0, 0, 0]) = (t.map (·.toNat) ++ 128 :: List.replicate (padZ t.length) 0) ++ [0, 0, 0, 0, 0, 0, 0, 0] from by simp, endB8]
  simp only [padB, List.map_append, List.map_cons, List.map_replicate, lenB]
  congr 1
  simp only [List.map_map]
  show _ = List.map _ [0, 1, 2, 3, 4, 5, 6, 7]
  simp only [List.map_cons, List.map_nil, Function.comp, ofNat_mod]

end Go.Proofs.YtjeldedjhlicmaaGreatDoor

set_option linter.unusedVariables false
namespace Go.Proofs.YtjeldedjhlicmaaGreatDoor
open Go.RowKit

theorem padLen_mod (n : Nat) : padLen n % 64 = 0 := by unfold padLen; omega
theorem RowN.nums {T : TypeId} {w : World} {g m : Nat} {l : List Nat} (h : RowN T w g l) (hm : m + 64 ≤ l.length) : Nums w g m ((l.drop m).take 64) := by
  intro i hi
  have hi64 : i < 64 := by simp at hi; omega
  rw [h.cell (m + i) (by omega)]
  have e : ((l.drop m).take 64).getD i 0 = l.getD (m + i) 0 := by
    simp [hi64]
  rw [e]

set_option maxHeartbeats 1000000 in
set_option maxRecDepth 100000 in
theorem specSha (s : ByteArray) (w : World) (hs : s.size ≤ 1073741824) :
    Calls Tryz.prog 50 #[.string s] w fun e w' => ∃ g, e = .returned (.slice (some ⟨g, 0, none⟩) 8 8) ∧ RowN 3 w' g (sha s.data.toList).toL ∧ Below w.heap.size w w' := by
  go_enter Tryz.func50, Tryz.ntmps50
  go_wp2_with fail
  refine (specConsts _).mono ?_
  rintro e w1 ⟨rfl, hh1, hk1, b1⟩
  have hlt1 := hk1.lt
  go_wp2_with fail
  refine (specPad s _ hs).mono ?_
  rintro e w2 ⟨rfl, hp2, b2⟩
  have b12 := b1.trans (b2.mono b1.size)
  have hh2 := hh1.below b2 (by omega)
  have hk2 := hk1.below b2 hlt1
  obtain ⟨gb, hgb⟩ : ∃ gb, gb = w1.heap.size := ⟨_, rfl⟩
  rw [← hgb] at hp2 ⊢
  obtain ⟨gk, hgk⟩ : ∃ gk, gk = w.heap.size + 1 := ⟨_, rfl⟩
  rw [← hgk] at hk2 ⊢
  have hlen := padN_length s.data.toList
  rw [show s.data.toList.length = s.size from by simp] at hlen
  have hpl := padN_lt s.data.toList
  have HSH : Hid (sha s.data.toList = mixTo (padN s.data.toList) (padLen s.size / 64)) := by
    show _ = _
    rw [sha, show s.data.toList.length = s.size from by simp]
  generalize padN s.data.toList = P at hp2 hlen hpl HSH
  obtain ⟨L, hL⟩ : ∃ L, L = padLen s.size := ⟨_, rfl⟩
  have hL2 : L ≤ s.size + 72 := by rw [hL]; unfold padLen; omega
  have HLm : Hid (L % 64 = 0) := by show _ = _; rw [hL]; exact padLen_mod _
  rw [← hL] at hlen HSH ⊢
  have HL : Hid (P.length = L) := hlen
  clear hlen hL hgb hgk hh1 hk1 b1 b2 hlt1
  go_wp2
  go_loopw [3, 6] (fun h i wr => ∃ (j m gh : Nat), m ≤ L ∧ i = .int .i64 m ∧ Hid (m = 64 * j) ∧ h = .slice (some ⟨gh, 0, none⟩) 8 8 ∧ RowN 3 wr gh (mixTo P j).toL ∧ RowN 3 wr gk shaK ∧ RowN 3 wr gb P ∧ Below w.heap.size w wr) (fun _ i _ => L - (intOf i).toNat)
  case atStart => exact ⟨0, 0, w.heap.size, by omega, rfl, rfl, rfl, hh2, hk2, hp2, b12⟩
  case round =>
    clear hh2 hk2 hp2 b12
    obtain ⟨j, m, gh, hm, rfl, HM, rfl, hh, hk, hp, hbw⟩ := hrel
    have hm64 : m < L → m + 64 ≤ L := by have h1 := HLm.out; have h2 := HM.out; omega
    by_cases hlt : m < L
    · have hm2 := hm64 hlt
      have hnum := hp.nums (m := m) (by rw [HL.out]; exact hm2)
      have hgb := hp.lt
      have hgh := hh.lt
      have hgk := hk.lt
      have hsl : ((P.drop m).take 64).length = 64 := by simp [HL.out]; omega
      have hsb : ∀ x ∈ (P.drop m).take 64, x < 256 := fun x hx => hpl x (List.mem_of_mem_drop (List.mem_of_mem_take hx))
      have HNX : Hid (mixTo P (j + 1) = mix shaK (mixTo P j) ((P.drop m).take 64)) := by show _ = _; rw [mixTo, ← HM.out]
      have HB : Hid (Below w.heap.size w wr) := hbw
      have hwsz := hbw.size
      generalize (P.drop m).take 64 = bs at hnum hsl hsb HNX
      clear hm64 hbw
      go_wp2_with fail
      refine (specWords bs gb m (L - m) _ hnum hsl hsb hgb).mono ?_
      rintro e w3 ⟨rfl, hw3, b3⟩
      have hh3 := hh.below b3 hgh
      have hk3 := hk.below b3 hgk
      have hp3 := hp.below b3 hgb
      have hwl := schedTo_length bs 48
      have hwo := schedTo_lt bs hsb 48
      have hsz3 := b3.size
      have hlt3 := hw3.lt
      have HW : Hid (mix shaK (mixTo P j) bs = (mixTo P j).plus (rounds shaK (schedTo bs 48) (mixTo P j) 64)) := rfl
      generalize schedTo bs 48 = ws at hw3 hwl hwo HW
      clear hh hk hp hnum hsl hsb
      go_wp2_with fail
      refine (specMix (mixTo P j) (mixTo_ok P j) shaK ws gh wr.heap.size gk _ hh3 hw3 hk3 hwl rfl hwo shaK_ok).mono ?_
      rintro e w4 ⟨rfl, hr4, b4⟩
      have hk4 := hk3.below b4 hk3.lt
      have hp4 := hp3.below b4 hp3.lt
      rw [← HW.out, ← HNX.out] at hr4
      clear hh3 hk3 hp3 hw3 hwl hwo
      go_wp2
      go_roundw
      case rel =>
        refine ⟨j + 1, m + 64, w3.heap.size + 1, by omega, by go_num, ?_, rfl, hr4, hk4, hp4, (HB.out.trans (b3.mono (by omega))).trans (b4.mono (by omega))⟩
        show m + 64 = 64 * (j + 1)
        have := HM.out
        omega
      case measure => simp [intOf]; omega
    · have HJ : Hid (j = L / 64) := by show j = L / 64; have h1 := HLm.out; have h2 := HM.out; omega
      clear hm64
      go_wp2
      go_ret
      rw [HSH.out, ← HJ.out]
      exact ⟨gh, rfl, hh, hbw⟩

set_option maxHeartbeats 1000000 in
set_option maxRecDepth 100000 in
theorem specSum (s : ByteArray) (w : World) (hs : s.size ≤ 1073741824) :
    Calls Tryz.prog 34 #[.string s] w fun e w' => e = .returned (.string ⟨(sumB s.data.toList).toArray⟩) ∧ Below w.heap.size w w' := by
  go_enter Tryz.func34, Tryz.ntmps34
  go_wp2_with fail
  refine (specSha s _ hs).mono ?_
  rintro e w1 ⟨g, rfl, hr, b1⟩
  have hok : (sha s.data.toList).ok := mixTo_ok _ _
  have HS : Hid (sumB s.data.toList = hexOf (sha s.data.toList).a ++ hexOf (sha s.data.toList).b) := rfl
  generalize sha s.data.toList = t at hr hok HS
  have c0 : w1.cell? ⟨g, 0, none⟩ = some (.int .i64 (t.a : Int)) := hr.cell 0 (by simp [St.toL])
  have c1 : w1.cell? ⟨g, 1, none⟩ = some (.int .i64 (t.b : Int)) := hr.cell 1 (by simp [St.toL])
  have hg := hr.lt
  have la := hok.1
  have lb := hok.2.1
  have hl8 : ∀ x, (hexOf x).length = 8 := fun x => by simp [hexOf]
  go_wp2_with fail
  go_region_with (first | (go_at_call_of 51 (Value.int .i64 (t.a : Int)); refine (specHex _ _ la).mono ?_; rintro e w2 ⟨rfl, b2⟩; have d1 : w2.cell? ⟨g, 1, none⟩ = some (.int .i64 (t.b : Int)) := (b2.cell (p := ⟨g, 1, none⟩) hg).trans c1) | (go_at_call_of 51 (Value.int .i64 (t.b : Int)); refine (specHex _ _ lb).mono ?_; rintro e w3 ⟨rfl, b3⟩))
  all_goals
    go_wp2
    go_ret
    rw [HS.out]
    have hcat : (⟨(hexOf t.a).toArray⟩ : ByteArray) ++ ⟨(hexOf t.b).toArray⟩ = ⟨(hexOf t.a ++ hexOf t.b).toArray⟩ := by
      apply ByteArray.ext; simp
    rw [← hcat]
    have b12 := b1.trans (((Below.drew (Below.refl _ w1)).trans b2).mono b1.size)
    exact ⟨rfl, b12.trans (b3.mono b12.size)⟩

end Go.Proofs.YtjeldedjhlicmaaGreatDoor

set_option linter.unusedVariables false
namespace Go.Proofs.YtjeldedjhlicmaaGreatDoor
open Go.RowKit

theorem sha0_cells : uCells sha0.toL = #[Value.int .u32 1779033703, Value.int .u32 3144134277, Value.int .u32 1013904242, Value.int .u32 2773480762, Value.int .u32 1359893119, Value.int .u32 2600822924, Value.int .u32 528734635, Value.int .u32 1541459225] := rfl
theorem shaK_len : shaK.length = 64 := rfl
theorem loadU8 (l : List Nat) (hl : l.length = 8) (g : Nat) (w : World) (h : RowU 121 w g l) : (Instr.loadAt 121 (.pointer (some ⟨g, 0, none⟩))).run Tryz.prog w = .ok (.agg (uCells l)) w := by
  have := run_loadAt_mid (P := Tryz.prog) w g 0 121 (uCells l).toList _ h.range Tryz.underlying121 rfl (by rw [size8, Array.length_toList, uCells_size, hl])
  rw [Array.toArray_toList] at this
  exact this
theorem storeU8 (l m : List Nat) (hl : l.length = 8) (hm : m.length = 8) (g : Nat) (w : World) (h : RowU 121 w g m) : (Instr.storeAt 121 (.pointer (some ⟨g, 0, none⟩)) (.agg (uCells l))).run Tryz.prog w = .ok () (w.setCells g 0 (uCells l).toList) :=
  run_storeAt_mid (P := Tryz.prog) w g 0 121 (uCells l) (h.there _ (by rw [uCells_size, hl, hm])) (by rw [size8, uCells_size, hl]) (uCells_one _)

theorem scheduleI2 (bs : List Nat) (g o cap : Nat) (w : World) (hn : ∀ i, i < bs.length → w.cell? ⟨g, o + i, none⟩ = some (.int .u8 ((bs.getD i 0 : Nat) : Int))) (hl : bs.length = 64) (hbb : ∀ x ∈ bs, x < 256) (hg : g < w.heap.size) :
    Calls Tryz.prog 94 #[.slice (some ⟨g, o, none⟩) 64 cap] w fun e w' => ∃ ws, e = .returned (.agg (uCells ws)) ∧ Hid (ws = schedTo bs 48) ∧ Hid (Below w.heap.size w w') :=
  (scheduleI bs g o cap w hn hl hbb hg).mono fun e w' h => ⟨_, h.1, rfl, h.2⟩
theorem nextI2 (bs : List Nat) (hbb : ∀ x ∈ bs, x < 256) (ws : List Nat) (hws : ws = schedTo bs 48) (s : St) (hs : s.ok) (w : World) (hms : RowG w shaK) :
    Calls Tryz.prog 93 #[.agg (uCells s.toL), .agg (uCells ws)] w fun e w' => ∃ l, e = .returned (.agg (uCells l)) ∧ Hid (l = (mix shaK s bs).toL) ∧ Hid (Below w.heap.size w w') := by
  have h1 := schedTo_length bs 48
  have h2 := schedTo_lt bs hbb 48
  have h3 : mix shaK s bs = s.plus (rounds shaK (schedTo bs 48) s 64) := rfl
  rw [← hws] at h1 h2 h3
  exact (nextI shaK ws s hs w hms shaK_len shaK_ok h1 h2).mono fun e w' h => ⟨_, h.1, by rw [h3]; rfl, h.2⟩

theorem toL_len (s : St) : s.toL.length = 8 := rfl
theorem cells8 {T : TypeId} {w : World} {G a b c d e f g h : Nat} (H : RowU T w G (St.toL ⟨a, b, c, d, e, f, g, h⟩)) : w.cell? ⟨G, 0, none⟩ = some (.int .u32 (a : Int)) ∧ w.cell? ⟨G, 1, none⟩ = some (.int .u32 (b : Int)) ∧ w.cell? ⟨G, 2, none⟩ = some (.int .u32 (c : Int)) ∧ w.cell? ⟨G, 3, none⟩ = some (.int .u32 (d : Int)) ∧ w.cell? ⟨G, 4, none⟩ = some (.int .u32 (e : Int)) ∧ w.cell? ⟨G, 5, none⟩ = some (.int .u32 (f : Int)) ∧ w.cell? ⟨G, 6, none⟩ = some (.int .u32 (g : Int)) ∧ w.cell? ⟨G, 7, none⟩ = some (.int .u32 (h : Int)) :=
  ⟨H.cell 0 (by show _ < 8; decide), H.cell 1 (by show _ < 8; decide), H.cell 2 (by show _ < 8; decide), H.cell 3 (by show _ < 8; decide), H.cell 4 (by show _ < 8; decide), H.cell 5 (by show _ < 8; decide), H.cell 6 (by show _ < 8; decide), H.cell 7 (by show _ < 8; decide)⟩
theorem nextI3 (bs : List Nat) (hbb : ∀ x ∈ bs, x < 256) (ws : List Nat) (hws : ws = schedTo bs 48) (a b c d e f g h : Nat) (hs : (⟨a, b, c, d, e, f, g, h⟩ : St).ok) (w : World) (hms : RowG w shaK) :
    Calls Tryz.prog 93 #[.agg #[.int .u32 (a : Int), .int .u32 (b : Int), .int .u32 (c : Int), .int .u32 (d : Int), .int .u32 (e : Int), .int .u32 (f : Int), .int .u32 (g : Int), .int .u32 (h : Int)], .agg (uCells ws)] w fun e' w' => ∃ l, e' = .returned (.agg (uCells l)) ∧ Hid (l = (mix shaK ⟨a, b, c, d, e, f, g, h⟩ bs).toL) ∧ Hid (Below w.heap.size w w') :=
  nextI2 bs hbb ws hws ⟨a, b, c, d, e, f, g, h⟩ hs w hms

set_option maxHeartbeats 1000000 in
set_option maxRecDepth 100000 in
theorem implSum (s : ByteArray) (w : World) (hs : s.size ≤ 1073741824) (hK : RowG w shaK) :
    Calls Tryz.prog 78 #[.string s] w fun e w' => e = .returned (.string ⟨(sumB s.data.toList).toArray⟩) ∧ Below w.heap.size w w' := by
  obtain ⟨W, hW⟩ : ∃ W, W = w.alloc (.cells (uCells sha0.toL) 121) := ⟨_, rfl⟩
  have HZ : Hid (RowU 121 W w.heap.size sha0.toL ∧ W.heap.size = w.heap.size + 1 ∧ Below w.heap.size w W) := by
    refine ⟨?_, ?_, ?_⟩
    · rw [hW]; exact heap_alloc_new w _
    · rw [hW]; simp
    · rw [hW]; exact (Below.refl _ w).alloc (Nat.le_refl _) _
  have HW : Hid (W = w.alloc (.cells (uCells sha0.toL) 121)) := hW
  have HK : Hid (RowG w shaK) := hK
  clear hW hK
  go_enter Tryz.func78, Tryz.ntmps78
  go_wp2_with fail
  rw [← sha0_cells, ← HW.out]
  refine (paddedI s _ hs).mono ?_
  rintro e w1 ⟨g, cap, rfl, hrow, b1⟩
  have hg := hrow.lt
  have hcells : ∀ i, i < padLen s.size → w1.cell? ⟨g, i, none⟩ = some (.int .u8 (((padN s.data.toList).getD i 0 : Nat) : Int)) := by
    intro i hi
    have hlB : i < (padB s.data.toList).length := by rw [padB_length]; simpa using hi
    rw [hrow.cells i hlB, padN_padB]
    simp [List.getElem?_eq_getElem hlB]
  have hcap : padLen s.size ≤ cap ∧ cap ≤ maxLen := by
    obtain ⟨g', cap', cur, fz, hv, _, _, _, h1, h2, _⟩ := hrow
    simp only [Value.slice.injEq, Option.some.injEq, Addr.mk.injEq, and_true] at hv
    obtain ⟨_, _, rfl⟩ := hv
    rw [padB_length] at h1
    exact ⟨by simpa using h1, h2⟩
  have hlen := padN_length s.data.toList
  rw [show s.data.toList.length = s.size from by simp] at hlen
  have hpl := padN_lt s.data.toList
  have HSH : Hid (sha s.data.toList = mixTo (padN s.data.toList) (padLen s.size / 64)) := by
    show _ = _
    rw [sha, show s.data.toList.length = s.size from by simp]
  generalize padN s.data.toList = P at hcells hlen hpl HSH
  obtain ⟨L, hL⟩ : ∃ L, L = padLen s.size := ⟨_, rfl⟩
  have hL2 : L ≤ s.size + 72 := by rw [hL]; unfold padLen; omega
  have HLm : Hid (L % 64 = 0) := by show _ = _; rw [hL]; exact padLen_mod _
  rw [← hL] at hcells hcap hlen HSH ⊢
  have HL : Hid (P.length = L) := hlen
  have HC : Hid (∀ i, i < L → w1.cell? ⟨g, i, none⟩ = some (.int .u8 ((P.getD i 0 : Nat) : Int))) := hcells
  have HG : Hid (w.heap.size + 1 ≤ g ∧ g < w1.heap.size) := by
    refine ⟨?_, hg.2⟩
    have := hg.1
    rw [HZ.out.2.1] at this
    exact this
  have hw0 : 0 < w.heap.size := HK.out.lt
  have HB : Hid (RowU 121 w1 w.heap.size sha0.toL ∧ RowG w1 shaK ∧ Below w.heap.size w w1) := by
    have hb := HZ.out.2.2.trans (b1.mono (by rw [HZ.out.2.1]; omega))
    exact ⟨HZ.out.1.below b1 (by rw [HZ.out.2.1]; omega), HK.out.below hb hw0, hb⟩
  have hc2 := hcap.1
  have hc3 : cap ≤ 9223372036854775807 := by have := hcap.2; simp only [maxLen] at this; omega
  clear hlen hL hg hcells hrow b1 HZ HW hcap
  go_wp2
  go_loopw [5] (fun i wr => ∃ (j m : Nat), m ≤ L ∧ i = .int .i64 (m : Int) ∧ Hid (m = 64 * j) ∧ Hid (RowU 121 wr w.heap.size (mixTo P j).toL) ∧ Hid (RowG wr shaK) ∧ Hid (∀ i, i < L → wr.cell? ⟨g, i, none⟩ = some (.int .u8 ((P.getD i 0 : Nat) : Int))) ∧ Hid (g < wr.heap.size) ∧ Hid (Below w.heap.size w wr)) (fun i _ => L - (intOf i).toNat)
  case atStart => exact ⟨0, 0, by omega, rfl, rfl, HB.out.1, HB.out.2.1, HC, HG.out.2, HB.out.2.2⟩
  case round =>
    obtain ⟨j, m, hm, rfl, HM, HR, HK1, HC1, HG1, HB1⟩ := hrel
    have hm64 : m < L → m + 64 ≤ L := by have h1 := HLm.out; have h2 := HM.out; omega
    by_cases hlt : m < L
    · have hm2 := hm64 hlt
      have hsl : ((P.drop m).take 64).length = 64 := by simp [HL.out]; omega
      have hsb : ∀ x ∈ (P.drop m).take 64, x < 256 := fun x hx => hpl x (List.mem_of_mem_drop (List.mem_of_mem_take hx))
      have HNX : Hid (mixTo P (j + 1) = mix shaK (mixTo P j) ((P.drop m).take 64)) := by show _ = _; rw [mixTo, ← HM.out]
      have HN : Hid (∀ i, i < ((P.drop m).take 64).length → wr.cell? ⟨g, m + i, none⟩ = some (.int .u8 ((((P.drop m).take 64).getD i 0 : Nat) : Int))) := by
        intro i hi
        rw [hsl] at hi
        rw [HC1.out (m + i) (by omega)]
        simp [hi]
      generalize (P.drop m).take 64 = bs at HN hsl hsb HNX
      have Hsb : Hid (∀ x ∈ bs, x < 256) := hsb
      obtain ⟨m2, hm2e⟩ : ∃ m2 : Nat, m2 = m + 64 := ⟨_, rfl⟩
      have lw : IntKind.i64.wrap ((m : Int) + 64) = (m2 : Int) := by rw [IntKind.wrap_i64, hm2e]; omega
      have lm0 : (0 : Int) ≤ (m : Int) := by omega
      have lm1 : (m : Int) ≤ (m2 : Int) := by omega
      have lm2 : (m2 : Int) ≤ (cap : Int) := by omega
      have lm3 : (0 : Int) ≤ (m2 : Int) := by omega
      have ld1 : m2 - m = 64 := by omega
      have lne : ¬ cap = m := by omega
      have ld2 : ((m2 : Int) - (m : Int)).toNat = 64 := by omega
      have ld3 : (m2 : Int) - (m : Int) = 64 := by omega
      have HM2 : Hid (m2 = m + 64) := hm2e
      clear hm2e
      clear hm64 hsb
      have hmo := mixTo_ok P j
      generalize mixTo P j = st at HR HNX hmo
      have hwlt : w.heap.size < wr.heap.size := HR.out.lt
      have hw0lt : 0 < wr.heap.size := by omega
      obtain ⟨a, b, c, d, e, f, gg, h⟩ := st
      have Hok : Hid ((⟨a, b, c, d, e, f, gg, h⟩ : St).ok) := hmo
      obtain ⟨c0, c1, c2, c3, c4, c5, c6, c7⟩ := cells8 HR.out
      clear hmo
      go_wp2_with fail
      go_region_with (first | (go_at_call 94; refine (scheduleI2 bs g m _ _ ?_ hsl Hsb.out ?_).mono ?_; exact HN.out; exact HG1.out; rintro e w2 ⟨ws, rfl, HWS, b2⟩; have hr2 : Hid (RowU 121 w2 w.heap.size (St.toL ⟨a, b, c, d, e, f, gg, h⟩)) := HR.out.drew.below b2.out hwlt; have hk2 : Hid (RowG w2 shaK) := HK1.out.drew.below b2.out hw0lt; obtain ⟨d0, d1, d2, d3, d4, d5, d6, d7⟩ := cells8 hr2.out) | (go_at_call 93; refine (nextI3 bs Hsb.out ws HWS.out a b c d e f gg h Hok.out _ ?_).mono ?_; exact hk2.out; rintro e w3 ⟨l3, rfl, HL3, b3⟩; have hr3 : Hid (RowU 121 w3 w.heap.size (St.toL ⟨a, b, c, d, e, f, gg, h⟩)) := hr2.out.below b3.out hr2.out.lt; have hk3 : Hid (RowG w3 shaK) := hk2.out.below b3.out hk2.out.lt; have hsz : (uCells l3).size = 8 := (by rw [uCells_size, HL3.out]; exact toL_len _); have hst := run_storeCellsU (P := Tryz.prog) hr3.out l3 (by rw [HL3.out, toL_len, toL_len])))
      all_goals
        go_wp2
        go_roundw
        case rel =>
          have hbb : Below w.heap.size w w3 := (HB1.out.drew.trans (b2.out.mono (Nat.le_of_lt hwlt))).trans (b3.out.mono (Nat.le_of_lt hr2.out.lt))
          have hg3 : g < w3.heap.size := Nat.lt_of_lt_of_le HG1.out (Nat.le_trans b2.out.size b3.out.size)
          have hg2 : g < w2.heap.size := Nat.lt_of_lt_of_le HG1.out b2.out.size
          refine ⟨j + 1, m + 64, by omega, by go_num, ?_, ?_, ?_, ?_, ?_, ?_⟩
          · show m + 64 = 64 * (j + 1)
            have := HM.out
            omega
          · show RowU _ _ _ _
            rw [HNX.out, ← HL3.out]
            exact hr3.out.over (by rw [HL3.out, toL_len, toL_len])
          · exact hk3.out.keep (heap_setCells_other _ _ _ _ _ (by omega))
          · intro i hi
            rw [World.cell?_setCells_out _ _ _ _ _ (fun h1 _ => absurd h1 (by have := HG.out.1; show ¬ g = w.heap.size; omega))]
            rw [b3.out.cell (p := ⟨g, i, none⟩) hg2, b2.out.cell (p := ⟨g, i, none⟩) HG1.out]
            exact HC1.out i hi
          · exact Nat.lt_of_lt_of_le hg3 (Below.setCells (Below.refl w.heap.size w3) (Nat.le_refl _) _ _).size
          · exact Below.setCells hbb (Nat.le_refl _) _ _
        case measure => simp [intOf]; omega
    · have HJ : Hid (j = L / 64) := by show j = L / 64; have h1 := HLm.out; have h2 := HM.out; omega
      have HSB : Hid (sumB s.data.toList = hexOf (mixTo P j).a ++ hexOf (mixTo P j).b) := by
        show _ = _
        rw [sumB, HSH.out, ← HJ.out]
      have hok := mixTo_ok P j
      generalize mixTo P j = t at HR hok HSB
      have c0 : wr.cell? ⟨w.heap.size, 0, none⟩ = some (.int .u32 (t.a : Int)) := HR.out.cell 0 (by simp [St.toL])
      have c1 : wr.cell? ⟨w.heap.size, 1, none⟩ = some (.int .u32 (t.b : Int)) := HR.out.cell 1 (by simp [St.toL])
      have hg := HR.out.lt
      have la := hok.1
      have lb := hok.2.1
      have hl8 : ∀ x, (hexOf x).length = 8 := fun x => by simp [hexOf]
      clear hm64 hok
      go_wp2_with fail
      go_region_with (first | (go_at_call_of 95 (Value.int .u32 (t.a : Int)); refine (figuresI _ _ la).mono ?_; rintro e w2 ⟨rfl, b2⟩; have d1 : w2.cell? ⟨w.heap.size, 1, none⟩ = some (.int .u32 (t.b : Int)) := (b2.cell (p := ⟨w.heap.size, 1, none⟩) hg).trans c1) | (go_at_call_of 95 (Value.int .u32 (t.b : Int)); refine (figuresI _ _ lb).mono ?_; rintro e w3 ⟨rfl, b3⟩))
      all_goals
        go_wp2
        go_ret
        rw [HSB.out]
        have hcat : (⟨(hexOf t.a).toArray⟩ : ByteArray) ++ ⟨(hexOf t.b).toArray⟩ = ⟨(hexOf t.a ++ hexOf t.b).toArray⟩ := by
          apply ByteArray.ext; simp
        rw [← hcat]
        have b12 := HB1.out.trans (((Below.drew (Below.refl _ wr)).trans b2).mono HB1.out.size)
        exact ⟨rfl, b12.trans (b3.mono b12.size)⟩

end Go.Proofs.YtjeldedjhlicmaaGreatDoor

set_option linter.unusedVariables false
namespace Go.Proofs.YtjeldedjhlicmaaGreatDoor
open Go.RowKit

theorem headT_len {h : HeadV} (hok : headOkB h = true) : (headT h).length ≤ 200 := by
  obtain ⟨h1, h2, h3, h4, h5⟩ := headOk_in hok
  have hps := sum_size h1
  have hrs := sum_size h2
  have htl : (Lib.decDigits h.time.toNat).length ≤ 19 := decLen (by omega)
  have hdl : (Lib.decDigits h.diff.toNat).length ≤ 19 := decLen (by omega)
  have hnl : (Lib.decDigits h.nonce.toNat).length ≤ 19 := decLen (by omega)
  have e1 : h.prev.data.toList.length = 16 := by simpa using hps
  have e2 : h.root.data.toList.length = 16 := by simpa using hrs
  have e1' : h.prev.data.size = 16 := by simpa using hps
  have e2' : h.root.data.size = 16 := by simpa using hrs
  simp [headT, joinTo, headL, e1', e2']
  omega
/-- The text of which a head's sum is the sum. -/
def headX (h : HeadV) : List UInt8 := [104, 101, 97, 100, 32] ++ headT h
def headSum (h : HeadV) : List UInt8 := if headOkB h = true then sumB (headX h) else []
def headMeets (h : HeadV) : Bool := headOkB h && decide ((headOf (headX h) : Int) / 65536 * h.diff < 32768)
theorem headSum_no {h : HeadV} (hok : headOkB h = false) : headSum h = [] := by rw [headSum, hok]; rfl
theorem headSum_yes {h : HeadV} (hok : headOkB h = true) : headSum h = sumB (headX h) := by rw [headSum, if_pos hok]
theorem headXs (h : HeadV) : ((⟨#[104, 101, 97, 100, 32]⟩ : ByteArray) ++ ⟨(headT h).toArray⟩).data.toList = headX h := by simp [headX]
theorem headXz {h : HeadV} (hok : headOkB h = true) : ((⟨#[104, 101, 97, 100, 32]⟩ : ByteArray) ++ ⟨(headT h).toArray⟩).size ≤ 1073741824 := by
  have := headT_len hok
  have e1 : (⟨#[104, 101, 97, 100, 32]⟩ : ByteArray).size = 5 := rfl
  have e3 : (⟨(headT h).toArray⟩ : ByteArray).size = (headT h).length := by simp [ByteArray.size]
  rw [ByteArray.size_append, e1, e3]
  omega

set_option maxHeartbeats 1000000 in
set_option maxRecDepth 100000 in
theorem implHeadSum (h : HeadV) (w : World) (hK : RowG w shaK) (hP : TabP w) :
    Calls Tryz.prog 71 #[headVal h] w fun e w' => e = .returned (.string ⟨(headSum h).toArray⟩) ∧ Below w.heap.size w w' := by
  have HK : Hid (RowG w shaK) := hK
  have HP : Hid (∀ w', Below w.heap.size w w' → TabP w') := fun w' hb => TabP.below hP hb (Nat.le_refl _)
  clear hK hP
  have hck := fun w' => implHeadOk h w'
  unfold headVal
  cases hok : headOkB h with
  | false =>
    rw [headSum_no hok]
    simp only [hok] at hck
    go_enter Tryz.func71, Tryz.ntmps71
    go_wp2_with (go_at_call 69; refine (hck _).mono ?_; rintro e w1 ⟨rfl, b1⟩)
    go_ret
    exact ⟨rfl, ((Below.refl _ w).alloc (Nat.le_refl _) _).trans (b1.mono (by simp))⟩
  | true =>
    rw [headSum_yes hok]
    have e : headPut h = headT h := by rw [headPut, if_pos hok]
    have hpt := fun w' hp => implHeadPut h w' hp
    rw [e] at hpt
    have hsz := headXz hok
    have HX : Hid (_ = headX h) := headXs h
    have htl := headT_len hok
    simp only [hok] at hck
    generalize headT h = ht at hpt hsz HX htl
    generalize headX h = hx at HX
    have S0 : HSt w _ w.heap.size h.prev h.root h.time h.diff h.nonce := HSt.new w 32 h.prev h.root h.time h.diff h.nonce
    clear e hok
    go_enter Tryz.func71, Tryz.ntmps71
    go_wp2_with fail
    refine (hck _).mono ?_
    rintro e w1 ⟨rfl, b1⟩
    have S1 := S0.call b1
    obtain ⟨c0, c1, c2, c3, c4⟩ := S1.out
    go_wp2_with fail
    refine (hpt _ (HP.out _ S1.2.1)).mono ?_
    rintro e w2 ⟨rfl, b2⟩
    have S2 := S1.call b2
    clear c0 c1 c2 c3 c4 hpt hck
    go_wp2_with fail
    refine (implSum _ _ hsz (HK.out.below S2.2.1 HK.out.lt)).mono ?_
    rintro e w3 ⟨rfl, b3⟩
    rw [HX.out]
    go_wp2_with fail
    go_ret
    exact ⟨rfl, (S2.call b3).2.1⟩

set_option maxHeartbeats 1000000 in
set_option maxRecDepth 100000 in
theorem specL3Sum (h : HeadV) (w : World) (hok : headOkB h = true) :
    Calls Tryz.prog 30 #[headVal h] w fun e w' => e = .returned (.string ⟨(sumB (headX h)).toArray⟩) ∧ Below w.heap.size w w' := by
  unfold headVal
  have hpt := fun w' => specL3Put h w' hok
  have hsz := headXz hok
  have HX : Hid (_ = headX h) := headXs h
  have htl := headT_len hok
  generalize headT h = ht at hpt hsz HX htl
  generalize headX h = hx at HX
  have S0 : HSt w _ w.heap.size h.prev h.root h.time h.diff h.nonce := HSt.new w 32 h.prev h.root h.time h.diff h.nonce
  clear hok
  go_enter Tryz.func30, Tryz.ntmps30
  go_wp2_with fail
  refine (hpt _).mono ?_
  rintro e w2 ⟨rfl, b2⟩
  have S2 := S0.call b2
  clear hpt
  go_wp2_with fail
  refine (specSum _ _ hsz).mono ?_
  rintro e w3 ⟨rfl, b3⟩
  rw [HX.out]
  go_wp2_with fail
  go_ret
  exact ⟨rfl, (S2.call b3).2.1⟩

end Go.Proofs.YtjeldedjhlicmaaGreatDoor

set_option linter.unusedVariables false
namespace Go.Proofs.YtjeldedjhlicmaaGreatDoor
open Go.RowKit Go.Deep

def peakB (p : PeakV) : ByteArray := p.sum ++ ⟨#[32]⟩ ++ ⟨(Lib.decDigits p.work.toNat).toArray⟩ ++ ⟨#[32]⟩ ++ ⟨(Lib.decDigits p.count.toNat).toArray⟩
def rrT (ps : List PeakV) : Nat → List UInt8
  | 0 => [114, 97, 110, 103, 101]
  | k + 1 => rrT ps k ++ ([32] ++ (peakB (ps.getD k default)).data.toList)
def rangeRoot (ps : List PeakV) : List UInt8 := if rangeOkB ps = true then sumB (rrT ps ps.length) else []
theorem rr_no {ps : List PeakV} (h : rangeOkB ps = false) : rangeRoot ps = [] := by rw [rangeRoot, h]; rfl
theorem rr_yes {ps : List PeakV} (h : rangeOkB ps = true) : rangeRoot ps = sumB (rrT ps ps.length) := by rw [rangeRoot, if_pos h]
theorem rangeOk_peak {ps : List PeakV} (h : rangeOkB ps = true) (i : Nat) (hi : i < ps.length) : peakOkB (ps.getD i default) = true := by
  rw [rangeOkB, Bool.and_eq_true, List.all_eq_true] at h
  have := h.1 i (List.mem_range.2 hi)
  rw [stepOk, Bool.and_eq_true] at this
  exact this.1
theorem cnt_ge {ps : List PeakV} (h : rangeOkB ps = true) : ∀ k, k ≤ ps.length → (k : Int) ≤ cntTo ps k
  | 0, _ => by simp [cntTo]
  | k + 1, hk => by
    have ih := cnt_ge h k (by omega)
    have := (rangeOk_at h k (by omega)).1
    rw [cntTo]
    omega
theorem range_len {ps : List PeakV} (h : rangeOkB ps = true) : ps.length ≤ 20 := by
  have h1 := cnt_ge h ps.length (Nat.le_refl _)
  rw [rangeOkB, Bool.and_eq_true, decide_eq_true_eq] at h
  omega
theorem peakOk_sum {p : PeakV} (h : peakOkB p = true) : isSum p.sum.data.toList = true := by
  simp only [peakOkB, Bool.and_eq_true] at h
  exact h.1
theorem peakB_size {p : PeakV} (h : peakOkB p = true) : (peakB p).size ≤ 100 := by
  have h1 := sum_size (peakOk_sum h)
  have h2 := peakOk_in h
  have hw : (Lib.decDigits p.work.toNat).length ≤ 19 := decLen (by omega)
  have hc : (Lib.decDigits p.count.toNat).length ≤ 19 := decLen (by omega)
  have e1 : (⟨(Lib.decDigits p.work.toNat).toArray⟩ : ByteArray).size = (Lib.decDigits p.work.toNat).length := by show (Lib.decDigits p.work.toNat).toArray.size = _; simp
  have e2 : (⟨(Lib.decDigits p.count.toNat).toArray⟩ : ByteArray).size = (Lib.decDigits p.count.toNat).length := by show (Lib.decDigits p.count.toNat).toArray.size = _; simp
  have e32 : (⟨#[32]⟩ : ByteArray).size = 1 := rfl
  unfold peakB
  rw [ByteArray.size_append, ByteArray.size_append, ByteArray.size_append, ByteArray.size_append, h1, e1, e2, e32]
  omega
theorem rrT_len {ps : List PeakV} (h : rangeOkB ps = true) : ∀ k, k ≤ ps.length → (rrT ps k).length ≤ 5 + 101 * k
  | 0, _ => by simp [rrT]
  | k + 1, hk => by
    have ih := rrT_len h k (by omega)
    have h1 := peakB_size (rangeOk_peak h k (by omega))
    have e : (peakB (ps.getD k default)).data.toList.length = (peakB (ps.getD k default)).size := by simp
    rw [rrT, List.length_append, List.length_append, e, show ([32] : List UInt8).length = 1 from rfl]
    omega
/-- A peak's block. -/
def PSt (w w' : World) (g : Nat) (s : ByteArray) (a b : Int) : Prop := (w'.cell? ⟨g, 0, none⟩ = some (.string s) ∧ w'.cell? ⟨g, 1, none⟩ = some (.int .i64 a) ∧ w'.cell? ⟨g, 2, none⟩ = some (.int .i64 b)) ∧ Below w.heap.size w w' ∧ g < w'.heap.size
theorem PSt.out {w w' : World} {g : Nat} {s : ByteArray} {a b : Int} (h : PSt w w' g s a b) : w'.cell? ⟨g, 0, none⟩ = some (.string s) ∧ w'.cell? ⟨g, 1, none⟩ = some (.int .i64 a) ∧ w'.cell? ⟨g, 2, none⟩ = some (.int .i64 b) := h.1
theorem PSt.drew {w w' : World} {g : Nat} {s : ByteArray} {a b : Int} (h : PSt w w' g s a b) : PSt w w'.drew g s a b := ⟨h.1, h.2.1.drew, h.2.2⟩
theorem PSt.call {w w' w'' : World} {g : Nat} {s : ByteArray} {a b : Int} (h : PSt w w' g s a b) (hb : Below w'.heap.size w' w'') : PSt w w'' g s a b :=
  ⟨⟨(hb.cell (p := ⟨g, 0, none⟩) h.2.2).trans h.1.1, (hb.cell (p := ⟨g, 1, none⟩) h.2.2).trans h.1.2.1, (hb.cell (p := ⟨g, 2, none⟩) h.2.2).trans h.1.2.2⟩, h.2.1.trans (hb.mono h.2.1.size), Nat.lt_of_lt_of_le h.2.2 hb.size⟩
theorem PSt.new (w : World) (T : TypeId) (s : ByteArray) (a b : Int) : PSt w (w.alloc (.cells #[.string s, .int .i64 a, .int .i64 b] T)) w.heap.size s a b := by
  refine ⟨⟨?_, ?_, ?_⟩, (Below.refl _ w).alloc (Nat.le_refl _) _, by simp⟩ <;> (rw [Lib.cell_of_heap (heap_alloc_new w _)]; rfl)

set_option maxHeartbeats 1000000 in
set_option maxRecDepth 100000 in
theorem implPeakPut (p : PeakV) (w : World) (hok : peakOkB p = true) (hP : TabP w) :
    Calls Tryz.prog 87 #[.agg #[.string p.sum, .int .i64 p.work, .int .i64 p.count], .string ⟨#[32]⟩] w fun e w' => e = .returned (.string (peakB p)) ∧ Below w.heap.size w w' := by
  have h2 := peakOk_in hok
  obtain ⟨s, wk, ct⟩ := p
  dsimp only at h2 ⊢
  obtain ⟨a, rfl⟩ : ∃ a : Nat, wk = (a : Int) := ⟨wk.toNat, by omega⟩
  obtain ⟨b, rfl⟩ : ∃ b : Nat, ct = (b : Int) := ⟨ct.toNat, by omega⟩
  have HV : Hid (peakB ⟨s, (a : Int), (b : Int)⟩ = s ++ ⟨#[32]⟩ ++ ⟨(Lib.decDigits a).toArray⟩ ++ ⟨#[32]⟩ ++ ⟨(Lib.decDigits b).toArray⟩) := rfl
  have HP : Hid (∀ w', Below w.heap.size w w' → TabP w') := fun w' hb => TabP.below hP hb (Nat.le_refl _)
  have hia := fun w' hp => implItoa a w' (by omega) hp
  have hib := fun w' hp => implItoa b w' (by omega) hp
  have hps := sum_size (peakOk_sum hok)
  dsimp only at hps
  have hal : (Lib.decDigits a).length ≤ 19 := decLen (by omega)
  have hbl : (Lib.decDigits b).length ≤ 19 := decLen (by omega)
  generalize peakB ⟨s, (a : Int), (b : Int)⟩ = R at HV ⊢
  generalize Lib.decDigits a = da at hia HV hal
  generalize Lib.decDigits b = db at hib HV hbl
  have q1 : ¬ 9223372036854775807 < 17 + da.length := by omega
  have q2 : ¬ 9223372036854775807 < 17 + da.length + 1 := by omega
  have q3 : ¬ 9223372036854775807 < 17 + da.length + 1 + db.length := by omega
  have S0 : PSt w _ w.heap.size s (a : Int) (b : Int) := PSt.new w 80 s (a : Int) (b : Int)
  clear hP hok h2
  go_enter Tryz.func87, Tryz.ntmps87
  go_wp2_with fail
  go_region_held3 (fun w' => w'.cell? ⟨w.heap.size, 0, none⟩ = some (.string s) ∧ w'.cell? ⟨w.heap.size, 1, none⟩ = some (.int .i64 (a : Int)) ∧ w'.cell? ⟨w.heap.size, 2, none⟩ = some (.int .i64 (b : Int)))
    (first | (with_reducible first | exact S2.out | exact S1.out | exact S0.out | exact S0.drew.out) | go_keep)
    (first
      | (go_at_call 97; refine (hib _ (HP.out _ S1.2.1)).mono ?_; rintro e w2 ⟨rfl, b2⟩; have S2 : PSt w w2 w.heap.size s (a : Int) (b : Int) := S1.call b2)
      | (go_at_call 97; refine (hia _ (HP.out _ S0.drew.2.1)).mono ?_; rintro e w1 ⟨rfl, b1⟩; have S1 : PSt w w1 w.heap.size s (a : Int) (b : Int) := S0.drew.call b1))
  go_wp2_with fail
  go_ret
  exact ⟨by rw [HV.out]; rfl, S2.2.1⟩

set_option maxHeartbeats 1000000 in
set_option maxRecDepth 100000 in
theorem specPeakText (p : PeakV) (w : World) (hok : peakOkB p = true) :
    Calls Tryz.prog 62 #[.agg #[.string p.sum, .int .i64 p.work, .int .i64 p.count]] w fun e w' => e = .returned (.string (peakB p)) ∧ Below w.heap.size w w' := by
  have h2 := peakOk_in hok
  obtain ⟨s, wk, ct⟩ := p
  dsimp only at h2 ⊢
  obtain ⟨a, rfl⟩ : ∃ a : Nat, wk = (a : Int) := ⟨wk.toNat, by omega⟩
  obtain ⟨b, rfl⟩ : ∃ b : Nat, ct = (b : Int) := ⟨ct.toNat, by omega⟩
  have HV : Hid (peakB ⟨s, (a : Int), (b : Int)⟩ = s ++ ⟨#[32]⟩ ++ ⟨(Lib.decDigits a).toArray⟩ ++ ⟨#[32]⟩ ++ ⟨(Lib.decDigits b).toArray⟩) := rfl
  have hia := fun w' => specDec a w' (by omega)
  have hib := fun w' => specDec b w' (by omega)
  have hps := sum_size (peakOk_sum hok)
  dsimp only at hps
  have hal : (Lib.decDigits a).length ≤ 19 := decLen (by omega)
  have hbl : (Lib.decDigits b).length ≤ 19 := decLen (by omega)
  generalize peakB ⟨s, (a : Int), (b : Int)⟩ = R at HV ⊢
  generalize Lib.decDigits a = da at hia HV hal
  generalize Lib.decDigits b = db at hib HV hbl
  have q1 : ¬ 9223372036854775807 < 17 + da.length := by omega
  have q2 : ¬ 9223372036854775807 < 17 + da.length + 1 := by omega
  have q3 : ¬ 9223372036854775807 < 17 + da.length + 1 + db.length := by omega
  have S0 : PSt w _ w.heap.size s (a : Int) (b : Int) := PSt.new w 80 s (a : Int) (b : Int)
  clear hok h2
  go_enter Tryz.func62, Tryz.ntmps62
  go_wp2_with fail
  go_region_held3 (fun w' => w'.cell? ⟨w.heap.size, 0, none⟩ = some (.string s) ∧ w'.cell? ⟨w.heap.size, 1, none⟩ = some (.int .i64 (a : Int)) ∧ w'.cell? ⟨w.heap.size, 2, none⟩ = some (.int .i64 (b : Int)))
    (first | (with_reducible first | exact S2.out | exact S1.out | exact S0.out | exact S0.drew.out) | go_keep)
    (first
      | (go_at_call 61; have q9 := S1.out; refine (hib _).mono ?_; rintro e w2 ⟨rfl, b2⟩; have S2 : PSt w w2 w.heap.size s (a : Int) (b : Int) := S1.call b2)
      | (go_at_call 61; refine (hia _).mono ?_; rintro e w1 ⟨rfl, b1⟩; have S1 : PSt w w1 w.heap.size s (a : Int) (b : Int) := S0.drew.call b1))
  go_wp2_with fail
  go_ret
  exact ⟨by rw [HV.out]; rfl, S2.2.1⟩

set_option maxHeartbeats 1000000 in
set_option maxRecDepth 100000 in
theorem implRangeRoot (g n cap : Nat) (ps : List PeakV) (w : World) (h : AtP w g ps) (hn : n = ps.length) (hm : n ≤ 1048576) (hK : RowG w shaK) (hP : TabP w) :
    Calls Tryz.prog 74 #[.slice (some ⟨g, 0, none⟩) n cap] w fun e w' => e = .returned (.string ⟨(rangeRoot ps).toArray⟩) ∧ Below w.heap.size w w' := by
  have hok := implRangeOk g n cap ps w h hn (by omega)
  have HA : Hid (AtP w g ps) := h
  have HN : Hid (n = ps.length) := hn
  have HK : Hid (RowG w shaK) := hK
  have HP : Hid (TabP w) := hP
  clear h hn hK hP
  cases hr : rangeOkB ps with
  | false =>
    have HV : Hid (rangeRoot ps = []) := rr_no hr
    rw [hr] at hok
    go_enter Tryz.func74, Tryz.ntmps74
    go_wp2_with fail
    refine hok.mono ?_
    rintro e w1 ⟨rfl, b1⟩
    go_wp2_with fail
    go_ret
    exact ⟨by rw [HV.out]; rfl, b1⟩
  | true =>
    have HV : Hid (rangeRoot ps = sumB (rrT ps n)) := by show _ = _; rw [rr_yes hr, HN.out]
    have HPK : Hid (∀ i, i < ps.length → peakOkB (ps.getD i default) = true) := fun i hi => rangeOk_peak hr i hi
    have HRL : Hid (∀ k, k ≤ n → (rrT ps k).length ≤ 5 + 101 * k) := fun k hk => rrT_len hr k (by rw [← HN.out]; exact hk)
    have hn20 : n ≤ 20 := by rw [HN.out]; exact range_len hr
    rw [hr] at hok
    clear hr
    go_enter Tryz.func74, Tryz.ntmps74
    go_wp2_with fail
    refine hok.mono ?_
    rintro e w1 ⟨rfl, b1⟩
    have B1 : Hid (Below w.heap.size w w1) := b1
    clear b1 hok
    have hwl0 : ([] : List Value).length + (⟨#[114, 97, 110, 103, 101]⟩ : ByteArray).size ≤ 140737488355328 := by
      have e5 : (⟨#[114, 97, 110, 103, 101]⟩ : ByteArray).size = 5 := rfl
      rw [e5]
      decide
    have hD0 := Lib.IsBuilderF.of (Lib.fresh_isBuilder 113 5 w1)
    have B2 : Hid (Below w1.heap.size w1 (w1.alloc (.cells #[.pointer none, .slice none 0 0] 113))) := (Below.refl _ w1).alloc (Nat.le_refl _) _
    have hsz2 := B2.out.size
    go_wp2_with fail
    refine (writeString w1.heap.size w1.heap.size [] ⟨#[114, 97, 110, 103, 101]⟩ _ hD0 hwl0 hsz2).mono ?_
    rintro e w3 ⟨rfl, hbd3, b3, _⟩
    have D3 : Hid (Lib.IsBuilderF 113 5 w1.heap.size w1.heap.size (Lib.byteCells (rrT ps 0)) w3) := .inr hbd3
    have B3 : Hid (Below w1.heap.size w1 w3) := B2.out.trans b3
    clear hbd3 b3 hD0 B2 hsz2
    go_wp2_with fail
    go_loopw [12] (fun i wr => ∃ k : Nat, k ≤ n ∧ i = .int .i64 (k : Int) ∧ Hid (Lib.IsBuilderF 113 5 w1.heap.size w1.heap.size (Lib.byteCells (rrT ps k)) wr) ∧ Hid (Below w1.heap.size w1 wr)) (fun i _ => n - (intOf i).toNat)
    case atStart => exact ⟨0, by omega, rfl, D3, B3⟩
    case round =>
      clear D3 B3
      obtain ⟨k, hk, rfl, D, HB⟩ := hrel
      have HBW : Hid (Below w.heap.size w wr) := B1.out.trans (HB.out.mono B1.out.size)
      by_cases hlt : k < n
      · have hkl : k < ps.length := by rw [← HN.out]; exact hlt
        have HAr : Hid (AtP wr g ps) := HA.out.below HBW.out HA.out.1
        have c0 := AtP.c0 HAr.out k hkl
        have c1 := AtP.c1 HAr.out k hkl
        have c2 := AtP.c2 HAr.out k hkl
        have lk : (k : Int) < (n : Int) := by omega
        have lk0 : (0 : Int) ≤ (k : Int) := by omega
        have HK1 : Hid (k + 1 ≤ n) := hlt
        have HT : Hid (rrT ps (k + 1) = rrT ps k ++ ([32] ++ (peakB (ps.getD k default)).data.toList)) := rfl
        have hpp := fun w' (hp : TabP w') => implPeakPut (ps.getD k default) w' (HPK.out k hkl) hp
        have hpz := peakB_size (HPK.out k hkl)
        have hrl := HRL.out k hk
        generalize peakB (ps.getD k default) = pb at hpp hpz HT
        generalize ps.getD k default = p at c0 c1 c2 hpp
        generalize rrT ps k = rt at D HT hrl
        have S0 : PSt wr _ wr.heap.size p.sum p.work p.count := PSt.new wr 80 p.sum p.work p.count
        have B4 : Hid (Below w.heap.size w (wr.alloc (.cells #[.string p.sum, .int .i64 p.work, .int .i64 p.count] 80))) := HBW.out.alloc HBW.out.size _
        have q1 : ¬ 9223372036854775807 < 1 + pb.size := by omega
        have hwl : (Lib.byteCells rt).length + ((⟨#[32]⟩ : ByteArray) ++ pb).size ≤ 140737488355328 := by
          have e32 : (⟨#[32]⟩ : ByteArray).size = 1 := rfl
          rw [Lib.byteCells_length, ByteArray.size_append, e32]
          omega
        clear hkl
        go_wp2_with fail
        refine (hpp _ (TabP.below HP.out B4.out (Nat.le_refl _))).mono ?_
        rintro e w5 ⟨rfl, b5⟩
        have S5 := S0.call b5
        have D5 : Hid (Lib.IsBuilderF 113 5 w1.heap.size w1.heap.size (Lib.byteCells rt) w5) := D.out.below S5.2.1
        have B5 : Hid (Below w1.heap.size w1 w5) := HB.out.trans (S5.2.1.mono HB.out.size)
        have hsz5 := B5.out.size
        clear D S0 b5 hpp c0 c1 c2
        go_wp2_with fail
        refine (writeString w1.heap.size w1.heap.size (Lib.byteCells rt) ((⟨#[32]⟩ : ByteArray) ++ pb) w5 D5.out hwl hsz5).mono ?_
        rintro e w6 ⟨rfl, hbd6, b6, _⟩
        have D6 : Hid (Lib.IsBuilderF 113 5 w1.heap.size w1.heap.size (Lib.byteCells (rrT ps (k + 1))) w6) := by
          refine .inr ?_
          have e1 : Lib.strCells ((⟨#[32]⟩ : ByteArray) ++ pb) = Lib.byteCells ([32] ++ pb.data.toList) := by simp [Lib.strCells, Lib.byteCells]
          rw [HT.out, Lib.byteCells_append, ← e1]
          exact hbd6
        have B6 : Hid (Below w1.heap.size w1 w6) := B5.out.trans b6
        clear hbd6 b6 D5 B5 S5
        go_wp2_with fail
        go_roundw
        case rel => exact ⟨k + 1, HK1.out, by go_num, D6, B6⟩
        case measure => have := HK1.out; simp [intOf]; omega
      · obtain rfl : k = n := by omega
        have hszx := HB.out.size
        have hrl := HRL.out k hk
        have hsm := fun w' hk' => implSum ⟨(rrT ps k).toArray⟩ w' (by show (rrT ps k).toArray.size ≤ _; simp; omega) hk'
        have e1 : (⟨(rrT ps k).toArray⟩ : ByteArray).data.toList = rrT ps k := rfl
        rw [e1] at hsm
        clear e1
        go_wp2_with fail
        refine (Tryz.Builder_String_any_f w1.heap.size w1.heap.size (rrT ps k) wr D.out hszx).mono ?_
        rintro e w5 ⟨rfl, _, b5⟩
        have B5 : Hid (Below w.heap.size w w5) := B1.out.trans ((HB.out.trans b5).mono B1.out.size)
        go_wp2_with fail
        refine (hsm _ (HK.out.below B5.out HK.out.lt)).mono ?_
        rintro e w6 ⟨rfl, b6⟩
        go_wp2_with fail
        go_ret
        exact ⟨by rw [HV.out]; rfl, B5.out.trans (b6.mono B5.out.size)⟩

set_option maxHeartbeats 1000000 in
set_option maxRecDepth 100000 in
theorem specL5Root (g n cap : Nat) (ps : List PeakV) (w : World) (h : AtP w g ps) (hn : n = ps.length) (hr : rangeOkB ps = true) :
    Calls Tryz.prog 46 #[.slice (some ⟨g, 0, none⟩) n cap] w fun e w' => e = .returned (.string ⟨(sumB (rrT ps n)).toArray⟩) ∧ Below w.heap.size w w' := by
  have HA : Hid (AtP w g ps) := h
  have HN : Hid (n = ps.length) := hn
  have HPK : Hid (∀ i, i < ps.length → peakOkB (ps.getD i default) = true) := fun i hi => rangeOk_peak hr i hi
  have HRL : Hid (∀ k, k ≤ n → (rrT ps k).length ≤ 5 + 101 * k) := fun k hk => rrT_len hr k (by rw [← hn]; exact hk)
  have hn20 : n ≤ 20 := by rw [hn]; exact range_len hr
  clear h hn hr
  go_enter Tryz.func46, Tryz.ntmps46
  go_wp2_with fail
  go_loopw [3, 4] (fun v i wr => ∃ (k : Nat) (s : ByteArray), k ≤ n ∧ i = .int .i64 (k : Int) ∧ v = .string s ∧ s.size ≤ 5 + 101 * k ∧ Hid (s.data.toList = rrT ps k) ∧ Hid (Below w.heap.size w wr)) (fun _ i _ => n - (intOf i).toNat)
  case atStart => exact ⟨0, ⟨#[114, 97, 110, 103, 101]⟩, by omega, rfl, rfl, (by show (#[114, 97, 110, 103, 101] : Array UInt8).size ≤ _; simp), rfl, Below.refl _ _⟩
  case round =>
    obtain ⟨k, s, hk, rfl, rfl, hs, HS, HB⟩ := hrel
    by_cases hlt : k < n
    · have hkl : k < ps.length := by rw [← HN.out]; exact hlt
      have HAr : Hid (AtP wr g ps) := HA.out.below HB.out HA.out.1
      have c0 := AtP.c0 HAr.out k hkl
      have c1 := AtP.c1 HAr.out k hkl
      have c2 := AtP.c2 HAr.out k hkl
      have lk : (k : Int) < (n : Int) := by omega
      have lk0 : (0 : Int) ≤ (k : Int) := by omega
      have wk : IntKind.i64.wrap ((k : Int) + 1) = (k : Int) + 1 := by rw [IntKind.wrap_i64]; omega
      have HK1 : Hid (k + 1 ≤ n) := hlt
      have HT : Hid (rrT ps (k + 1) = rrT ps k ++ ([32] ++ (peakB (ps.getD k default)).data.toList)) := rfl
      have hpp := fun w' => specPeakText (ps.getD k default) w' (HPK.out k hkl)
      have hpz := peakB_size (HPK.out k hkl)
      generalize peakB (ps.getD k default) = pb at hpp hpz HT
      generalize ps.getD k default = p at c0 c1 c2 hpp
      have q1 : ¬ 9223372036854775807 < s.size + 1 := by omega
      have q2 : ¬ 9223372036854775807 < s.size + 1 + pb.size := by omega
      have HZ : Hid ((s ++ ⟨#[32]⟩ ++ pb).size ≤ 5 + 101 * (k + 1)) := by
        have e32 : (⟨#[32]⟩ : ByteArray).size = 1 := rfl
        show _ ≤ _
        rw [ByteArray.size_append, ByteArray.size_append, e32]
        omega
      have HS2 : Hid ((s ++ ⟨#[32]⟩ ++ pb).data.toList = rrT ps (k + 1)) := by
        show _ = _
        rw [HT.out, ← HS.out]
        simp
      clear hkl
      go_wp2_with fail
      refine (hpp _).mono ?_
      rintro e w5 ⟨rfl, b5⟩
      have B5 : Hid (Below w.heap.size w w5) := HB.out.trans (b5.mono HB.out.size)
      clear b5 c0 c1 c2 hpp
      go_wp2_with fail
      go_roundw
      case rel => exact ⟨k + 1, s ++ ⟨#[32]⟩ ++ pb, HK1.out, by go_num, rfl, HZ.out, HS2, B5⟩
      case measure => have := HK1.out; simp [intOf]; omega
    · obtain rfl : k = n := by omega
      have hsm := fun w' => specSum s w' (by omega)
      rw [HS.out] at hsm
      go_wp2_with fail
      refine (hsm _).mono ?_
      rintro e w6 ⟨rfl, b6⟩
      go_wp2_with fail
      go_ret
      exact ⟨rfl, HB.out.trans (b6.mono HB.out.size)⟩

end Go.Proofs.YtjeldedjhlicmaaGreatDoor

set_option linter.unusedVariables false
namespace Go.Proofs.YtjeldedjhlicmaaGreatDoor
open Go.RowKit Go.Deep

def leafX (h : HeadV) : List UInt8 := [108, 101, 97, 102, 32] ++ headT h
def leafP (h : HeadV) : PeakV := ⟨⟨(sumB (leafX h)).toArray⟩, h.diff, 1⟩
def bothX (a b : PeakV) : ByteArray := ((⟨#[112, 101, 97, 107, 32]⟩ : ByteArray) ++ peakB a) ++ (⟨#[32]⟩ : ByteArray) ++ peakB b
def bothP (a b : PeakV) : PeakV := ⟨⟨(sumB (bothX a b).data.toList).toArray⟩, a.work + b.work, a.count + b.count⟩
theorem leafXs (h : HeadV) : ((⟨#[108, 101, 97, 102, 32]⟩ : ByteArray) ++ ⟨(headT h).toArray⟩).data.toList = leafX h := by simp [leafX]
theorem leafXz {h : HeadV} (hok : headOkB h = true) : ((⟨#[108, 101, 97, 102, 32]⟩ : ByteArray) ++ ⟨(headT h).toArray⟩).size ≤ 1073741824 := by
  have := headT_len hok
  have e1 : (⟨#[108, 101, 97, 102, 32]⟩ : ByteArray).size = 5 := rfl
  have e3 : (⟨(headT h).toArray⟩ : ByteArray).size = (headT h).length := by simp [ByteArray.size]
  rw [ByteArray.size_append, e1, e3]
  omega
theorem bothX_size {a b : PeakV} (ha : peakOkB a = true) (hb : peakOkB b = true) : (bothX a b).size ≤ 1073741824 := by
  have h1 := peakB_size ha
  have h2 := peakB_size hb
  have e1 : (⟨#[112, 101, 97, 107, 32]⟩ : ByteArray).size = 5 := rfl
  have e2 : (⟨#[32]⟩ : ByteArray).size = 1 := rfl
  unfold bothX
  rw [ByteArray.size_append, ByteArray.size_append, ByteArray.size_append, e1, e2]
  omega
/-- The peak and the work on the left of it, so many steps up. -/
def walkTo (p : PeakV) (at_ : Nat) (ss : List PeakV) : Nat → Option (PeakV × Int)
  | 0 => some (p, 0)
  | i + 1 => match walkTo p at_ ss i with
    | none => none
    | some (q, l) => if (peakOkB (ss.getD i default) && decide ((ss.getD i default).count = q.count)) = true then (if at_ / 2 ^ i % 2 = 1 then some (bothP (ss.getD i default) q, l + (ss.getD i default).work) else some (bothP q (ss.getD i default), l)) else none
theorem walk_none {p : PeakV} {a : Nat} {ss : List PeakV} {i : Nat} (h : walkTo p a ss i = none) : ∀ j, walkTo p a ss (i + j) = none
  | 0 => h
  | j + 1 => by rw [← Nat.add_assoc, walkTo, walk_none h j]
theorem walk_bad {p : PeakV} {a : Nat} {ss : List PeakV} {i : Nat} {q : PeakV} {l : Int} (h : walkTo p a ss i = some (q, l)) (hb : (peakOkB (ss.getD i default) && decide ((ss.getD i default).count = q.count)) = false) (hi : i < ss.length) : walkTo p a ss ss.length = none := by
  have h1 : walkTo p a ss (i + 1) = none := by rw [walkTo, h]; simp only [hb]; rfl
  have := walk_none h1 (ss.length - (i + 1))
  rwa [show i + 1 + (ss.length - (i + 1)) = ss.length from by omega] at this
theorem walk_notok {p : PeakV} {a : Nat} {ss : List PeakV} {i : Nat} (hi : i < ss.length) (hb : peakOkB (ss.getD i default) = false) : walkTo p a ss ss.length = none := by
  cases h : walkTo p a ss i with
  | none =>
    have := walk_none h (ss.length - i)
    rwa [show i + (ss.length - i) = ss.length from by omega] at this
  | some y =>
    obtain ⟨q, l⟩ := y
    exact walk_bad h (by rw [hb]; rfl) hi
theorem walk_left {p : PeakV} {a : Nat} {ss : List PeakV} {i : Nat} {q : PeakV} {l : Int} (h : walkTo p a ss i = some (q, l)) (hb : (peakOkB (ss.getD i default) && decide ((ss.getD i default).count = q.count)) = true) (hm : a / 2 ^ i % 2 = 1) : walkTo p a ss (i + 1) = some (bothP (ss.getD i default) q, l + (ss.getD i default).work) := by
  rw [walkTo, h]; simp only [hb, if_pos hm]; rfl
theorem walk_right {p : PeakV} {a : Nat} {ss : List PeakV} {i : Nat} {q : PeakV} {l : Int} (h : walkTo p a ss i = some (q, l)) (hb : (peakOkB (ss.getD i default) && decide ((ss.getD i default).count = q.count)) = true) (hm : ¬ a / 2 ^ i % 2 = 1) : walkTo p a ss (i + 1) = some (bothP q (ss.getD i default), l) := by
  rw [walkTo, h]; simp only [hb, if_neg hm]; rfl
/-- A peak that stands so many steps up. -/
structure Fine (q : PeakV) (l : Int) (i : Nat) : Prop where
  cnt : q.count = ((2 ^ i : Nat) : Int)
  hi : i ≤ 5
  sum : isSum q.sum.data.toList = true
  wk : q.count ≤ q.work ∧ q.work ≤ q.count * 8
  l0 : 0 ≤ l
  l1 : l ≤ q.work
theorem fine_leaf {h : HeadV} (hok : headOkB h = true) : Fine (leafP h) 0 0 := by
  have h1 := headOk_in hok
  refine ⟨rfl, by omega, by show isSum (sumB (leafX h)).toArray.toList = true; rw [List.toList_toArray]; exact isSum_sumB _, ?_, by omega, ?_⟩
  · show (1 : Int) ≤ h.diff ∧ h.diff ≤ 1 * 8
    omega
  · show (0 : Int) ≤ h.diff
    omega
theorem fine_ok {q : PeakV} {l : Int} {i : Nat} (h : Fine q l i) (h5 : q.count ≤ 20) : peakOkB q = true := by
  have := h.wk
  have hp : (0 : Int) < ((2 ^ i : Nat) : Int) := by exact_mod_cast Nat.two_pow_pos i
  have hc := h.cnt
  simp only [peakOkB, h.sum, Bool.true_and, Bool.and_eq_true, decide_eq_true_eq]
  omega
theorem fine_lt {q s : PeakV} {l : Int} {i : Nat} (h : Fine q l i) (hb : (peakOkB s && decide (s.count = q.count)) = true) : peakOkB s = true ∧ s.count = q.count ∧ peakOkB q = true ∧ i ≤ 4 := by
  rw [Bool.and_eq_true, decide_eq_true_eq] at hb
  have h1 := peakOk_in hb.1
  refine ⟨hb.1, hb.2, fine_ok h (by omega), ?_⟩
  rcases Nat.lt_or_ge 4 i with h' | h'
  · obtain rfl : i = 5 := by have := h.hi; omega
    have := h.cnt
    have e : ((2 ^ 5 : Nat) : Int) = 32 := rfl
    omega
  · exact h'
theorem isSum_both (a b : PeakV) : isSum (bothP a b).sum.data.toList = true := by
  show isSum (sumB _).toArray.toList = true
  rw [List.toList_toArray]
  exact isSum_sumB _
theorem fine_left {q s : PeakV} {l : Int} {i : Nat} (h : Fine q l i) (hb : (peakOkB s && decide (s.count = q.count)) = true) : Fine (bothP s q) (l + s.work) (i + 1) := by
  obtain ⟨h1, h2, _, h4⟩ := fine_lt h hb
  have h5 := peakOk_in h1
  have hw := h.wk
  have e : ((2 ^ (i + 1) : Nat) : Int) = 2 * ((2 ^ i : Nat) : Int) := by rw [Nat.pow_succ]; push_cast; omega
  have hc := h.cnt
  have h0 := h.l0
  have hl := h.l1
  refine ⟨?_, by omega, isSum_both _ _, ?_, by omega, ?_⟩
  · show s.count + q.count = _
    omega
  · show s.count + q.count ≤ s.work + q.work ∧ s.work + q.work ≤ (s.count + q.count) * 8
    omega
  · show l + s.work ≤ s.work + q.work
    omega
theorem fine_right {q s : PeakV} {l : Int} {i : Nat} (h : Fine q l i) (hb : (peakOkB s && decide (s.count = q.count)) = true) : Fine (bothP q s) l (i + 1) := by
  obtain ⟨h1, h2, _, h4⟩ := fine_lt h hb
  have h5 := peakOk_in h1
  have hw := h.wk
  have e : ((2 ^ (i + 1) : Nat) : Int) = 2 * ((2 ^ i : Nat) : Int) := by rw [Nat.pow_succ]; push_cast; omega
  have hc := h.cnt
  have h0 := h.l0
  have hl := h.l1
  refine ⟨?_, by omega, isSum_both _ _, ?_, by omega, ?_⟩
  · show q.count + s.count = _
    omega
  · show q.count + s.count ≤ q.work + s.work ∧ q.work + s.work ≤ (q.count + s.count) * 8
    omega
  · show l ≤ q.work + s.work
    omega
/-- The bit of a place that tells in which half it is. -/
theorem bit_half : ∀ (a : Fin 21) (i : Fin 5), (bits .and .i64 ((a.val : Nat) : Int) ((2 ^ i.val : Nat) : Int) != 0) = decide (a.val / 2 ^ i.val % 2 = 1) := by decide +kernel
def samePB (p q : PeakV) : Bool := p.sum.toList == q.sum.toList && (p.work == q.work && p.count == q.count)
/-- What a head's way to a peak tells: the work on the left of it, or nothing. -/
def climbV (top : PeakV) (h : HeadV) (a : Nat) (ss : List PeakV) : Int := match walkTo (leafP h) a ss ss.length with
  | none => -1
  | some (q, l) => if samePB q top = true then l else -1
theorem climb_none {top : PeakV} {h : HeadV} {a : Nat} {ss : List PeakV} (hw : walkTo (leafP h) a ss ss.length = none) : climbV top h a ss = -1 := by rw [climbV, hw]
theorem climb_some {top : PeakV} {h : HeadV} {a : Nat} {ss : List PeakV} {q : PeakV} {l : Int} (hw : walkTo (leafP h) a ss ss.length = some (q, l)) : climbV top h a ss = if samePB q top = true then l else -1 := by rw [climbV, hw]
/-- The peak in which a place is. -/
def placeP (ps : List PeakV) (a : Int) : Option Nat := (List.range ps.length).find? fun k => decide (a < cntTo ps (k + 1))
theorem place_at {ps : List PeakV} {a : Int} {k : Nat} (hk : k < ps.length) (h : a < cntTo ps (k + 1)) (hj : ∀ j, j < k → ¬ a < cntTo ps (j + 1)) : placeP ps a = some k := by
  rw [placeP, List.find?_range_eq_some]
  exact ⟨decide_eq_true h, List.mem_range.2 hk, fun j hjk => by rw [decide_eq_false (hj j hjk)]; rfl⟩
theorem place_no {ps : List PeakV} {a : Int} (hj : ∀ j, j < ps.length → ¬ a < cntTo ps (j + 1)) : placeP ps a = none := by
  rw [placeP, List.find?_eq_none]
  intro j hj2
  simpa using hj j (List.mem_range.1 hj2)
/-- What a proof tells of a head at a place: the work ahead of it, or nothing. -/
def checkV (root : ByteArray) (h : HeadV) (a : Int) (ps ss : List PeakV) : Int :=
  if headOkB h = true ∧ 0 ≤ a ∧ ss.length ≤ 8 ∧ rangeOkB ps = true ∧ (⟨(rangeRoot ps).toArray⟩ : ByteArray) = root then
    match placeP ps a with
    | none => -1
    | some k => if climbV (ps.getD k default) h (a - cntTo ps k).toNat ss < 0 then -1 else wrkTo ps k + climbV (ps.getD k default) h (a - cntTo ps k).toNat ss
  else -1
theorem check_no {root : ByteArray} {h : HeadV} {a : Int} {ps ss : List PeakV} (hn : ¬ (headOkB h = true ∧ 0 ≤ a ∧ ss.length ≤ 8 ∧ rangeOkB ps = true ∧ (⟨(rangeRoot ps).toArray⟩ : ByteArray) = root)) : checkV root h a ps ss = -1 := by rw [checkV, if_neg hn]
theorem check_none {root : ByteArray} {h : HeadV} {a : Int} {ps ss : List PeakV} (hp : placeP ps a = none) : checkV root h a ps ss = -1 := by
  unfold checkV
  split
  · rw [hp]
  · rfl
theorem check_some {root : ByteArray} {h : HeadV} {a : Int} {ps ss : List PeakV} {k : Nat} (hy : headOkB h = true ∧ 0 ≤ a ∧ ss.length ≤ 8 ∧ rangeOkB ps = true ∧ (⟨(rangeRoot ps).toArray⟩ : ByteArray) = root) (hp : placeP ps a = some k) : checkV root h a ps ss = if climbV (ps.getD k default) h (a - cntTo ps k).toNat ss < 0 then -1 else wrkTo ps k + climbV (ps.getD k default) h (a - cntTo ps k).toNat ss := by
  rw [checkV, if_pos hy, hp]

/-- Whether peaks can stand beside a way. -/
def stepsB (ss : List PeakV) : Bool := decide (ss.length ≤ 8) && ss.all peakOkB
theorem steps_at {ss : List PeakV} (h : stepsB ss = true) (i : Nat) (hi : i < ss.length) : peakOkB (ss.getD i default) = true := by
  rw [stepsB, Bool.and_eq_true, List.all_eq_true] at h
  rw [List.getD_eq_getElem?_getD, List.getElem?_eq_getElem hi]
  exact h.2 _ (List.getElem_mem hi)
theorem steps_len {ss : List PeakV} (h : stepsB ss = true) : ss.length ≤ 8 := by
  rw [stepsB, Bool.and_eq_true, decide_eq_true_eq] at h
  exact h.1
theorem steps_long {ss : List PeakV} (h : ¬ ss.length ≤ 8) : stepsB ss = false := by rw [stepsB, decide_eq_false h]; rfl
theorem steps_bad {ss : List PeakV} {i : Nat} (hi : i < ss.length) (h : peakOkB (ss.getD i default) = false) : stepsB ss = false := by
  cases hs : stepsB ss with
  | false => rfl
  | true => rw [steps_at hs i hi] at h; cases h
theorem steps_good {ss : List PeakV} (h8 : ss.length ≤ 8) (h : ∀ i, i < ss.length → peakOkB (ss.getD i default) = true) : stepsB ss = true := by
  rw [stepsB, decide_eq_true h8, Bool.true_and, List.all_eq_true]
  intro q hq
  obtain ⟨j, hj, rfl⟩ := List.mem_iff_getElem.1 hq
  have := h j hj
  rwa [List.getD_eq_getElem?_getD, List.getElem?_eq_getElem hj] at this
theorem check_steps {root : ByteArray} {h : HeadV} {a : Int} {ps ss : List PeakV} (hs : stepsB ss = false) : checkV root h a ps ss = -1 := by
  by_cases h8 : ss.length ≤ 8
  · have hex : ∃ i, i < ss.length ∧ peakOkB (ss.getD i default) = false := by
      refine Classical.byContradiction fun hn => ?_
      have := steps_good h8 (fun i hi => by
        cases hp : peakOkB (ss.getD i default) with
        | true => rfl
        | false => exact absurd ⟨i, hi, hp⟩ hn)
      rw [this] at hs
      cases hs
    obtain ⟨i, hi, hb⟩ := hex
    unfold checkV
    split
    · split
      · rfl
      · rw [climb_none (walk_notok hi hb)]
        rfl
    · rfl
  · exact check_no (fun hh => h8 hh.2.2.1)

end Go.Proofs.YtjeldedjhlicmaaGreatDoor

