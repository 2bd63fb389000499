/-
  Texts that the last part needs, joined.
-/
import Derived.Test.YtifpidhoeikdjaaGreatDoorPart1
import Derived.Test.YtifpidhoeikdjaaGreatDoorPart2
import Derived.Test.YtifpidhoeikdjaaGreatDoorPart3
import Derived.Lib.FrozenHead2
import Derived.Lib.OthersKept
import Derived.WalkKit
import Derived.Laws.Externs
import Derived.Lib.UnsafeStr
import Derived.BigRegion
import Derived.Deep.MidRow
import Derived.Deep.RegionWith
import Derived.RegionTactic
import Derived.Lib.BufferRead

set_option linter.unusedVariables false
namespace Go.Proofs.YtifpidhoeikdjaaGreatDoor
open Go.RowKit

theorem size8 : (Tryz.prog.info? 95).map (·.size) = some 8 := by kernel_rfl
theorem run_storeCellsU {P : Program} {T : TypeId} {w : World} {g : Nat} {m : List Nat} (h : RowU T w g m) (l : List Nat) (hl : l.length = m.length) :
    (storeCells ⟨g, 0, none⟩ (uCells l).toList).run P w = .ok () (w.setCells g 0 (uCells l).toList) := by
  have ht := h.there _ hl
  have := run_storeCells_cells (P := P) g 0 (uCells l).toList 0 w (fun j hj => by simpa using (ht j (by simpa [uCells_size] using hj)).1) (fun j hj => by simpa using (ht j (by simpa [uCells_size] using hj)).2)
    (fun v hv => (Array.all_eq_true_iff_forall_mem.1 (uCells_one l)) v (by simpa using hv))
  simpa using this
theorem zerosU8 : #[Value.int .u32 0, Value.int .u32 0, Value.int .u32 0, Value.int .u32 0, Value.int .u32 0, Value.int .u32 0, Value.int .u32 0, Value.int .u32 0] = uCells (List.replicate 8 0) := rfl
theorem sizeW : (Tryz.prog.info? 94).map (·.size) = some 1 := by kernel_rfl
theorem indexU (ws : List Nat) (hl : ws.length = 64) (k : Nat) (hk : k < 64) (w : World) : (Instr.index 98 (.agg (uCells ws)) (.int .i64 (k : Int))).run Tryz.prog w = .ok (.int .u32 ((ws.getD k 0 : Nat) : Int)) w := by
  have hat := uCells_at ws k (by omega)
  cases hq : Tryz.prog.info? 94 with
  | none => have := sizeW; simp [hq] at this
  | some i =>
    have hs : i.size = 1 := by have := sizeW; simpa [hq] using this
    simp [Instr.index, asIntOf, Sem.run_bind, run_underlying Tryz.underlying98, part, isAgg, run_underlying Tryz.underlying94, sizeOf, typeInfo, hq, hs, hat]
    intro h64; omega
/-- The four blocks that the call lays: the state, the words, the answer's place, the state at work. -/
def Laid4 (T8 T64 : TypeId) (n : Nat) (s : St) (ws : List Nat) (t : St) (w w' : World) : Prop :=
  RowU T8 w' n s.toL ∧ RowU T8 w' (n + 1 + 1) (List.replicate 8 0) ∧ RowU T8 w' (n + 1 + 1 + 1) t.toL ∧ Below n w w'
theorem laid4 (T8 T64 : TypeId) (s : St) (ws : List Nat) (w : World) :
    RowU T8 ((((w.alloc (.cells (uCells s.toL) T8)).alloc (.cells (uCells ws) T64)).alloc (.cells (uCells (List.replicate 8 0)) T8)).alloc (.cells (uCells (List.replicate 8 0)) T8)) (w.heap.size + 1 + 1 + 1) (List.replicate 8 0) ∧
    Laid4 T8 T64 w.heap.size s ws s w (((((w.alloc (.cells (uCells s.toL) T8)).alloc (.cells (uCells ws) T64)).alloc (.cells (uCells (List.replicate 8 0)) T8)).alloc (.cells (uCells (List.replicate 8 0)) T8)).setCells (w.heap.size + 1 + 1 + 1) 0 (uCells s.toL).toList) ∧
    RowU T64 (((((w.alloc (.cells (uCells s.toL) T8)).alloc (.cells (uCells ws) T64)).alloc (.cells (uCells (List.replicate 8 0)) T8)).alloc (.cells (uCells (List.replicate 8 0)) T8)).setCells (w.heap.size + 1 + 1 + 1) 0 (uCells s.toL).toList) (w.heap.size + 1) ws ∧
    RowU T8 (((w.alloc (.cells (uCells s.toL) T8)).alloc (.cells (uCells ws) T64)).alloc (.cells (uCells (List.replicate 8 0)) T8)) w.heap.size s.toL := by
  obtain ⟨w1, h1⟩ : ∃ x, x = w.alloc (.cells (uCells s.toL) T8) := ⟨_, rfl⟩
  have s1 : w1.heap.size = w.heap.size + 1 := by rw [h1]; simp
  have r1 : RowU T8 w1 w.heap.size s.toL := by rw [h1]; exact heap_alloc_new w _
  have b1 : Below w.heap.size w w1 := by rw [h1]; exact (Below.refl _ w).alloc (Nat.le_refl _) _
  rw [← h1]
  obtain ⟨w2, h2⟩ : ∃ x, x = w1.alloc (.cells (uCells ws) T64) := ⟨_, rfl⟩
  have s2 : w2.heap.size = w.heap.size + 1 + 1 := by rw [h2]; simp [s1]
  have r2 : RowU T64 w2 (w.heap.size + 1) ws := by rw [h2, ← s1]; exact heap_alloc_new w1 _
  have r21 : RowU T8 w2 w.heap.size s.toL := by rw [h2]; exact r1.keep (Below.heap_alloc _ _ _ (by omega))
  have b2 : Below w.heap.size w w2 := by rw [h2]; exact b1.alloc (by omega) _
  rw [← h2]
  obtain ⟨w3, h3⟩ : ∃ x, x = w2.alloc (.cells (uCells (List.replicate 8 0)) T8) := ⟨_, rfl⟩
  have s3 : w3.heap.size = w.heap.size + 1 + 1 + 1 := by rw [h3]; simp [s2]
  have r3 : RowU T8 w3 (w.heap.size + 1 + 1) (List.replicate 8 0) := by rw [h3, ← s2]; exact heap_alloc_new w2 _
  have r32 : RowU T64 w3 (w.heap.size + 1) ws := by rw [h3]; exact r2.keep (Below.heap_alloc _ _ _ (by omega))
  have r31 : RowU T8 w3 w.heap.size s.toL := by rw [h3]; exact r21.keep (Below.heap_alloc _ _ _ (by omega))
  have b3 : Below w.heap.size w w3 := by rw [h3]; exact b2.alloc (by omega) _
  rw [← h3]
  obtain ⟨w4, h4⟩ : ∃ x, x = w3.alloc (.cells (uCells (List.replicate 8 0)) T8) := ⟨_, rfl⟩
  have r4 : RowU T8 w4 (w.heap.size + 1 + 1 + 1) (List.replicate 8 0) := by rw [h4, ← s3]; exact heap_alloc_new w3 _
  have r43 : RowU T8 w4 (w.heap.size + 1 + 1) (List.replicate 8 0) := by rw [h4]; exact r3.keep (Below.heap_alloc _ _ _ (by omega))
  have r42 : RowU T64 w4 (w.heap.size + 1) ws := by rw [h4]; exact r32.keep (Below.heap_alloc _ _ _ (by omega))
  have r41 : RowU T8 w4 w.heap.size s.toL := by rw [h4]; exact r31.keep (Below.heap_alloc _ _ _ (by omega))
  have b4 : Below w.heap.size w w4 := by rw [h4]; exact b3.alloc (by omega) _
  rw [← h4]
  refine ⟨r4, ⟨r41.keep (heap_setCells_other _ _ _ _ _ (by omega)), r43.keep (heap_setCells_other _ _ _ _ _ (by omega)), r4.over (by simp [St.toL]), Below.setCells b4 (by omega) _ _⟩, r42.keep (heap_setCells_other _ _ _ _ _ (by omega)), r31⟩

theorem Rows3.set {T8 : TypeId} {n : Nat} {ls l lz : List Nat} {w wr : World} (h : RowU T8 wr n ls ∧ RowU T8 wr (n + 1 + 1) lz ∧ RowU T8 wr (n + 1 + 1 + 1) l ∧ Below n w wr) (i v : Nat) :
    RowU T8 (wr.setCell ⟨n + 1 + 1 + 1, i, none⟩ (.int .u32 (v : Int))) n ls ∧ RowU T8 (wr.setCell ⟨n + 1 + 1 + 1, i, none⟩ (.int .u32 (v : Int))) (n + 1 + 1) lz ∧ RowU T8 (wr.setCell ⟨n + 1 + 1 + 1, i, none⟩ (.int .u32 (v : Int))) (n + 1 + 1 + 1) (l.set i v) ∧ Below n w (wr.setCell ⟨n + 1 + 1 + 1, i, none⟩ (.int .u32 (v : Int))) :=
  ⟨h.1.keep (Below.heap_setCell _ _ _ _ (by show _ ≠ n + 1 + 1 + 1; omega)), h.2.1.keep (Below.heap_setCell _ _ _ _ (by show _ ≠ n + 1 + 1 + 1; omega)), h.2.2.1.set i v, h.2.2.2.setCell (p := ⟨n + 1 + 1 + 1, i, none⟩) (by show n ≤ n + 1 + 1 + 1; omega) _⟩
theorem Laid4.over {T8 T64 : TypeId} {n : Nat} {s t : St} {ws : List Nat} {w wr : World} (h : Laid4 T8 T64 n s ws t w wr) (v0 v1 v2 v3 v4 v5 v6 v7 : Nat) :
    Laid4 T8 T64 n s ws ⟨v0, v1, v2, v3, v4, v5, v6, v7⟩ w ((((((((wr.setCell ⟨n + 1 + 1 + 1, 0, none⟩ (.int .u32 (v0 : Int))).setCell ⟨n + 1 + 1 + 1, 1, none⟩ (.int .u32 (v1 : Int))).setCell ⟨n + 1 + 1 + 1, 2, none⟩ (.int .u32 (v2 : Int))).setCell ⟨n + 1 + 1 + 1, 3, none⟩ (.int .u32 (v3 : Int))).setCell ⟨n + 1 + 1 + 1, 4, none⟩ (.int .u32 (v4 : Int))).setCell ⟨n + 1 + 1 + 1, 5, none⟩ (.int .u32 (v5 : Int))).setCell ⟨n + 1 + 1 + 1, 6, none⟩ (.int .u32 (v6 : Int))).setCell ⟨n + 1 + 1 + 1, 7, none⟩ (.int .u32 (v7 : Int))).drew.drew := by
  have := Rows3.set (Rows3.set (Rows3.set (Rows3.set (Rows3.set (Rows3.set (Rows3.set (Rows3.set h 0 v0) 1 v1) 2 v2) 3 v3) 4 v4) 5 v5) 6 v6) 7 v7
  exact ⟨this.1.drew.drew, this.2.1.drew.drew, this.2.2.1.drew.drew, this.2.2.2.drew.drew⟩

def plusTo (s t : St) (k : Nat) : List Nat := (s.plus t).toL.take k ++ s.toL.drop k
theorem plusTo_length (s t : St) (k : Nat) (h : k ≤ 8) : (plusTo s t k).length = 8 := by
  simp [plusTo, St.toL]; omega
theorem plusTo_at (s t : St) (k : Nat) (h : k < 8) : (plusTo s t k).getD k 0 = s.toL.getD k 0 := by
  match k, h with
  | 0, _ | 1, _ | 2, _ | 3, _ | 4, _ | 5, _ | 6, _ | 7, _ => rfl
theorem plusTo_set (s t : St) (k : Nat) (h : k < 8) (v : Nat) (hv : v = (s.toL.getD k 0 + t.toL.getD k 0) % 4294967296) : (plusTo s t k).set k v = plusTo s t (k + 1) := by
  subst hv
  match k, h with
  | 0, _ | 1, _ | 2, _ | 3, _ | 4, _ | 5, _ | 6, _ | 7, _ => rfl

set_option maxHeartbeats 1000000 in
set_option maxRecDepth 100000 in
theorem nextI (ms ws : List Nat) (s : St) (hs : s.ok) (w : World) (hms : RowG w ms) (hml : ms.length = 64) (hmm : ∀ x ∈ ms, x < 4294967296) (hwl : ws.length = 64) (hww : ∀ x ∈ ws, x < 4294967296) :
    Calls Tryz.prog 76 #[.agg (uCells s.toL), .agg (uCells ws)] w fun e w' => e = .returned (.agg (uCells (s.plus (rounds ms ws s 64)).toL)) ∧ Below w.heap.size w w' := by
  have Z : Hid (_ ∧ _ ∧ _ ∧ _) := laid4 95 98 s ws w
  go_enter Tryz.func76, Tryz.ntmps76
  go_upto_region 1 with fail
  refine wp_region_list ?_
  refine wpList_load_mid rfl 95 _ rfl w.heap.size 0 rfl (uCells s.toL).toList _ ?_ Tryz.underlying95 rfl (by rw [size8, Array.length_toList, uCells_size]; rfl) ?_
  · exact Z.out.2.2.2.range
  rw [Array.toArray_toList]
  go_wp2
  obtain ⟨z1, z2, z3, z4⟩ := Z.out
  rw [zerosU8, run_storeCellsU z1 s.toL rfl]
  obtain ⟨W, hW⟩ : ∃ W, W = (((((w.alloc (.cells (uCells s.toL) 95)).alloc (.cells (uCells ws) 98)).alloc (.cells (uCells (List.replicate 8 0)) 95)).alloc (.cells (uCells (List.replicate 8 0)) 95)).setCells (w.heap.size + 1 + 1 + 1) 0 (uCells s.toL).toList) := ⟨_, rfl⟩
  rw [← hW] at z2 z3 ⊢
  clear hW z1 z4 Z
  have Hmm : Hid (∀ x ∈ ms, x < 4294967296) := hmm
  have Hww : Hid (∀ x ∈ ws, x < 4294967296) := hww
  have HZ : Hid (Laid4 95 98 w.heap.size s ws s w W) := z2
  clear hmm hww z2
  go_upto_region 2 with fail
  refine wp_region_list ?_
  refine wpList_load_mid rfl 98 _ rfl (w.heap.size + 1) 0 rfl (uCells ws).toList _ z3.range Tryz.underlying98 rfl (by rw [size64, Array.length_toList, uCells_size, hwl]) ?_
  rw [Array.toArray_toList]
  clear z3
  go_wp2
  go_loopw [13] (fun i wr => ∃ k : Nat, k ≤ 64 ∧ i = .int .i64 (k : Int) ∧ Hid (Laid4 95 98 w.heap.size s ws (rounds ms ws s k) w wr)) (fun i _ => 64 - (intOf i).toNat)
  case atStart => exact ⟨0, by omega, rfl, HZ⟩
  case round =>
    clear HZ
    obtain ⟨k, hk, rfl, HR⟩ := hrel
    by_cases hlt : k < 64
    · have hok := rounds_ok ms ws s hs k
      obtain ⟨t, ht⟩ : ∃ t, t = rounds ms ws s k := ⟨_, rfl⟩
      rw [← ht] at HR hok
      have HT : Hid (t = rounds ms ws s k) := ht
      clear ht
      obtain ⟨a, b, c, d, e, f, g, h⟩ := t
      obtain ⟨la, lb, lc, ld, le, lf, lg, lh⟩ := hok
      simp only at la lb lc ld le lf lg lh
      have hr := HR.out.2.2.1
      have c0 : wr.cell? ⟨w.heap.size + 1 + 1 + 1, 0, none⟩ = some (.int .u32 (a : Int)) := hr.cell 0 (by show _ < 8; decide)
      have c1 : wr.cell? ⟨w.heap.size + 1 + 1 + 1, 1, none⟩ = some (.int .u32 (b : Int)) := hr.cell 1 (by show _ < 8; decide)
      have c2 : wr.cell? ⟨w.heap.size + 1 + 1 + 1, 2, none⟩ = some (.int .u32 (c : Int)) := hr.cell 2 (by show _ < 8; decide)
      have c3 : wr.cell? ⟨w.heap.size + 1 + 1 + 1, 3, none⟩ = some (.int .u32 (d : Int)) := hr.cell 3 (by show _ < 8; decide)
      have c4 : wr.cell? ⟨w.heap.size + 1 + 1 + 1, 4, none⟩ = some (.int .u32 (e : Int)) := hr.cell 4 (by show _ < 8; decide)
      have c5 : wr.cell? ⟨w.heap.size + 1 + 1 + 1, 5, none⟩ = some (.int .u32 (f : Int)) := hr.cell 5 (by show _ < 8; decide)
      have c6 : wr.cell? ⟨w.heap.size + 1 + 1 + 1, 6, none⟩ = some (.int .u32 (g : Int)) := hr.cell 6 (by show _ < 8; decide)
      have c7 : wr.cell? ⟨w.heap.size + 1 + 1 + 1, 7, none⟩ = some (.int .u32 (h : Int)) := hr.cell 7 (by show _ < 8; decide)
      have f0 := hr.frozen 0
      have f1 := hr.frozen 1
      have f2 := hr.frozen 2
      have f3 := hr.frozen 3
      have f4 := hr.frozen 4
      have f5 := hr.frozen 5
      have f6 := hr.frozen 6
      have f7 := hr.frozen 7
      clear hr
      obtain ⟨m, hm⟩ : ∃ m, m = ms.getD k 0 := ⟨_, rfl⟩
      obtain ⟨x, hx⟩ : ∃ x, x = ws.getD k 0 := ⟨_, rfl⟩
      have lm : m < 4294967296 := by rw [hm]; exact getD_lt Hmm.out _
      have lx : x < 4294967296 := by rw [hx]; exact getD_lt Hww.out _
      have cm : wr.cell? ⟨0, k, none⟩ = some (.int .u32 (m : Int)) := by
        rw [HR.out.2.2.2.cell (p := ⟨0, k, none⟩) hms.lt, hm]
        exact hms.cell k (by omega)
      have cx : ∀ w : World, (Instr.index 98 (.agg (uCells ws)) (.int .i64 (k : Int))).run Tryz.prog w = .ok (.int .u32 (x : Int)) w := by intro w; rw [hx]; exact indexU ws hwl k hlt w
      have lk : (k : Int) < 64 := by omega
      obtain ⟨v1, hv1⟩ : ∃ v : Nat, v = (h + big1 e + chs e f g + m + x) % 4294967296 := ⟨_, rfl⟩
      obtain ⟨v2, hv2⟩ : ∃ v : Nat, v = (big0 a + maj a b c) % 4294967296 := ⟨_, rfl⟩
      obtain ⟨v3, hv3⟩ : ∃ v : Nat, v = (v1 + v2) % 4294967296 := ⟨_, rfl⟩
      obtain ⟨v4, hv4⟩ : ∃ v : Nat, v = (d + v1) % 4294967296 := ⟨_, rfl⟩
      have r1 : IntKind.u32.wrap (IntKind.u32.wrap (IntKind.u32.wrap (IntKind.u32.wrap ((h : Int) + ((big1 e : Nat) : Int)) + ((chs e f g : Nat) : Int)) + (m : Int)) + (x : Int)) = (v1 : Int) := by
        rw [hv1]; simp only [IntKind.wrap_u32]; omega
      have r2 : IntKind.u32.wrap (((big0 a : Nat) : Int) + ((maj a b c : Nat) : Int)) = (v2 : Int) := by
        rw [hv2]; simp only [IntKind.wrap_u32]; omega
      have r3 : IntKind.u32.wrap ((v1 : Int) + (v2 : Int)) = (v3 : Int) := by
        rw [hv3]; simp only [IntKind.wrap_u32]; omega
      have r4 : IntKind.u32.wrap ((d : Int) + (v1 : Int)) = (v4 : Int) := by
        rw [hv4]; simp only [IntKind.wrap_u32]; omega
      have HN : Hid ((⟨v3, a, b, c, v4, e, f, g⟩ : St) = rounds ms ws s (k + 1)) := by
        show _ = _
        rw [rounds, ← HT.out, St.step, ← hm, ← hx, hv3, hv4, hv1, hv2]
        simp only [St.mk.injEq, true_and, and_true]
        omega
      clear hv1 hv2 hv3 hv4 hm hx hms HT
      go_wp2_with fail
      go_region_held2 (fun W => W.cell? ⟨w.heap.size + 1 + 1 + 1, 7, none⟩ = some (.int .u32 (h : Int)) ∧ W.cell? ⟨w.heap.size + 1 + 1 + 1, 4, none⟩ = some (.int .u32 (e : Int)) ∧ W.cell? ⟨w.heap.size + 1 + 1 + 1, 5, none⟩ = some (.int .u32 (f : Int)) ∧ W.cell? ⟨w.heap.size + 1 + 1 + 1, 6, none⟩ = some (.int .u32 (g : Int)) ∧ W.cell? ⟨0, k, none⟩ = some (.int .u32 (m : Int))) (exact ⟨c7, c4, c5, c6, cm⟩) (first | (go_at_call 101; refine (fifthI _ _ le).mono ?_; rintro e w1 ⟨rfl, rfl⟩) | (go_at_call 102; refine (chooseI _ _ _ _ le lf lg).mono ?_; rintro e w1 ⟨rfl, rfl⟩))
      go_wp2_with fail
      go_region_held2 (fun W => W.cell? ⟨w.heap.size + 1 + 1 + 1, 0, none⟩ = some (.int .u32 (a : Int)) ∧ W.cell? ⟨w.heap.size + 1 + 1 + 1, 1, none⟩ = some (.int .u32 (b : Int)) ∧ W.cell? ⟨w.heap.size + 1 + 1 + 1, 2, none⟩ = some (.int .u32 (c : Int))) (exact ⟨c0, c1, c2⟩) (first | (go_at_call 103; refine (firstI _ _ la).mono ?_; rintro e w1 ⟨rfl, rfl⟩) | (go_at_call 104; refine (mostI _ _ _ _ la lb lc).mono ?_; rintro e w1 ⟨rfl, rfl⟩))
      go_wp2
      go_roundw
      case rel =>
        refine ⟨k + 1, by omega, by go_num, ?_⟩
        have := HR.out.over v3 a b c v4 e f g
        rw [HN.out] at this
        exact this
      case measure => simp [intOf]; omega
    · obtain ⟨t, ht⟩ : ∃ t, t = rounds ms ws s 64 := ⟨_, rfl⟩
      have hk64 : k = 64 := by omega
      rw [hk64, ← ht] at HR
      have HT : Hid (t = rounds ms ws s 64) := ht
      obtain ⟨k0, hk0⟩ : ∃ k0 : Nat, k0 = k := ⟨_, rfl⟩
      rw [← hk0] at hlt ⊢
      clear ht hk0 hk64 hk
      go_wp2
      go_loopw [69] (fun i wr => ∃ k : Nat, k ≤ 8 ∧ i = .int .i64 (k : Int) ∧ Hid (RowU 95 wr w.heap.size (plusTo s t k) ∧ RowU 95 wr (w.heap.size + 1 + 1) (List.replicate 8 0) ∧ RowU 95 wr (w.heap.size + 1 + 1 + 1) t.toL ∧ Below w.heap.size w wr)) (fun i _ => 8 - (intOf i).toNat)
      case atStart => exact ⟨0, by omega, rfl, HR.out⟩
      case round =>
        clear HR
        obtain ⟨k, hk, rfl, HR⟩ := hrel
        by_cases hk8 : k < 8
        · obtain ⟨x, hx⟩ : ∃ x, x = s.toL.getD k 0 := ⟨_, rfl⟩
          obtain ⟨y, hy⟩ : ∃ y, y = t.toL.getD k 0 := ⟨_, rfl⟩
          have cx : wr.cell? ⟨w.heap.size, k, none⟩ = some (.int .u32 (x : Int)) := by
            rw [hx, ← plusTo_at s t k hk8]; exact HR.out.1.cell k (by rw [plusTo_length _ _ _ hk]; exact hk8)
          have cy : wr.cell? ⟨w.heap.size + 1 + 1 + 1, k, none⟩ = some (.int .u32 (y : Int)) := by
            rw [hy]; exact HR.out.2.2.1.cell k (by show k < 8; exact hk8)
          have hfz := HR.out.1.frozen k
          obtain ⟨v, hv⟩ : ∃ v : Nat, v = (x + y) % 4294967296 := ⟨_, rfl⟩
          have rv : IntKind.u32.wrap ((x : Int) + (y : Int)) = (v : Int) := by
            rw [hv]; simp only [IntKind.wrap_u32]; omega
          have HV : Hid ((plusTo s t k).set k v = plusTo s t (k + 1)) := by
            show _ = _
            refine plusTo_set s t k hk8 v ?_
            rw [hv, hx, hy]
          have lk : (k : Int) < 8 := by omega
          clear hx hy hv hlt hk
          go_wp2
          go_region
          go_wp2
          go_roundw
          case rel =>
            refine ⟨k + 1, by omega, by go_num, ?_⟩
            have h1 := HR.out.1.set k v
            rw [HV.out] at h1
            exact ⟨h1, HR.out.2.1.keep (Below.heap_setCell _ _ _ _ (by show _ ≠ w.heap.size; omega)), HR.out.2.2.1.keep (Below.heap_setCell _ _ _ _ (by show _ ≠ w.heap.size; omega)), (HR.out.2.2.2.setCell (p := ⟨w.heap.size, k, none⟩) (Nat.le_refl _) _).drew⟩
          case measure => simp [intOf]; omega
        · have HF : Hid (RowU 95 wr w.heap.size (s.plus t).toL) := by
            show RowU _ _ _ _
            have := HR.out.1
            rw [show k = 8 from by omega] at this
            exact this
          obtain ⟨L, hL⟩ : ∃ L, L = (s.plus t).toL := ⟨_, rfl⟩
          have hlen : L.length = 8 := by rw [hL]; rfl
          rw [← hL] at HF
          have HL : Hid (L = (s.plus (rounds ms ws s 64)).toL) := by show _ = _; rw [← HT.out]; exact hL
          have hout : RowU 95 (wr.setCells (w.heap.size + 1 + 1) 0 (uCells L).toList) (w.heap.size + 1 + 1) L := HR.out.2.1.over (by rw [hlen]; rfl)
          have hbo : Below w.heap.size w (wr.setCells (w.heap.size + 1 + 1) 0 (uCells L).toList) := Below.setCells HR.out.2.2.2 (by omega) _ 0
          have hlv := run_loadVar_mid (P := Tryz.prog) (wr.setCells (w.heap.size + 1 + 1) 0 (uCells L).toList) (w.heap.size + 1 + 1) 0 95 (uCells L).toList _ hout.range Tryz.underlying95 rfl (by rw [size8, Array.length_toList, uCells_size, hlen])
          rw [Array.toArray_toList] at hlv
          have Hlv : Hid (_ = _) := hlv
          have Hbo : Hid (Below w.heap.size w (wr.setCells (w.heap.size + 1 + 1) 0 (uCells L).toList)) := hbo
          clear hL hlv hout hbo
          go_upto_region 14 with fail
          refine wp_region_list ?_
          refine wpList_load_mid rfl 95 _ rfl w.heap.size 0 rfl (uCells L).toList _ HF.out.range Tryz.underlying95 rfl (by rw [size8, Array.length_toList, uCells_size, hlen]) ?_
          rw [Array.toArray_toList]
          refine wpList_store_mid rfl 95 _ _ rfl (w.heap.size + 1 + 1) 0 (uCells L) rfl rfl (HR.out.2.1.there _ (by rw [uCells_size, hlen]; simp)) (by rw [size8, uCells_size, hlen]) (uCells_one _) ?_
          go_wp2
          rw [← HL.out]
          exact bodyPost_ret (v := .agg (uCells L)) (results_cell1 (p := 4) (b := w.heap.size + 1 + 1) rfl _ _ _ rfl Hlv) rfl ⟨rfl, Hbo.out⟩

end Go.Proofs.YtifpidhoeikdjaaGreatDoor

set_option linter.unusedVariables false
namespace Go.Proofs.YtifpidhoeikdjaaGreatDoor
open Go.Shelf Go.RowKit

theorem sizeBuilder : (Tryz.prog.info? 61).map (fun i => i.size) = some 2 := by kernel_rfl
theorem liesBuilder : liesAt Tryz.prog Tryz.prog.depth 61 (2 / Tryz.prog.cellsOf 61) 0 61 1 = true := by kernel_rfl
theorem infoByte : (Tryz.prog.info? 5).map (fun i => (i.zero, i.size, i.bytes)) = some (some (.int .u8 0), 1, 1) := by kernel_rfl

set_option maxHeartbeats 1000000 in
set_option maxRecDepth 100000 in
theorem copyCheck_used (b : Nat) (w : World) (h0 : w.cell? ⟨b, 0, none⟩ = some (.pointer (some ⟨b, 0, none⟩))) :
    Calls Tryz.prog 88 #[.pointer (some ⟨b, 0, none⟩)] w fun e w' => e = .returned (.tuple #[]) ∧ w' = w := by
  obtain ⟨j, hj, _⟩ := Option.map_eq_some_iff.1 sizeBuilder
  go_enter Tryz.func88, Tryz.ntmps88
  go_wp2
  rw [Lib.run_neq_ptr_same w _ Tryz.underlying59 hj]
  go_wp2
  go_end0
  exact ⟨rfl, rfl⟩

set_option maxHeartbeats 1000000 in
set_option maxRecDepth 100000 in
theorem copyCheck_fresh (b : Nat) (w : World) (h0 : w.cell? ⟨b, 0, none⟩ = some (.pointer none)) (hsh : w.shape? b = some (61, 2)) (hfz : w.frozen? ⟨b, 0, none⟩ = false) :
    Calls Tryz.prog 88 #[.pointer (some ⟨b, 0, none⟩)] w fun e w' => e = .returned (.tuple #[]) ∧ w' = w.setCell ⟨b, 0, none⟩ (.pointer (some ⟨b, 0, none⟩)) := by
  obtain ⟨j, hj, hjs⟩ := Option.map_eq_some_iff.1 sizeBuilder
  go_enter Tryz.func88, Tryz.ntmps88
  go_wp2
  rw [Lib.run_to_unsafe w ⟨b, 0, none⟩ Tryz.underlying59 Tryz.underlying121 hj (by rw [hjs]; decide) hsh (Nat.zero_lt_succ 1)]
  simp only [Result.andThen]
  rw [Oper.upon_value]
  go_wp2
  rw [run_callFunc_extern Tryz.func111 (by kernel_rfl) (by kernel_rfl) (by kernel_rfl) (e := Extern.AbiNoEscape.same) (by kernel_rfl)]
  rw [Lib.run_noEscape]
  simp only [Result.andThen]
  rw [Oper.upon_value]
  go_wp2
  rw [Lib.run_from_unsafe w ⟨b, 0, none⟩ Tryz.underlying121 Tryz.underlying59 hj hsh liesBuilder]
  simp only [Result.andThen]
  rw [Oper.upon_value]
  go_wp2
  go_end0
  exact ⟨rfl, rfl⟩

theorem copyCheck_any (B b : Nat) (bs : List Value) (w : World) (h : Lib.IsBuilderF 61 5 B b bs w) :
    Calls Tryz.prog 88 #[.pointer (some ⟨b, 0, none⟩)] w fun e w' => e = .returned (.tuple #[]) ∧ (Lib.BuilderAtF 61 5 B b (.pointer (some ⟨b, 0, none⟩)) bs w' ∧ Below B w w' ∧ Lib.OthersKept 5 (some b) w w') := by
  rcases h with h | h
  · refine (copyCheck_fresh b w h.cell0 h.shape h.frozen0).mono ?_
    rintro e w' ⟨rfl, rfl⟩
    exact ⟨rfl, h.used _, (Below.refl B w).setCell (p := ⟨b, 0, none⟩) h.1 _, (Lib.OthersKept.refl _ _ w).setCell ⟨b, 0, none⟩ rfl _⟩
  · refine (copyCheck_used b w h.cell0).mono ?_
    rintro e w' ⟨rfl, rfl⟩
    exact ⟨rfl, h, Below.refl B _, Lib.OthersKept.refl _ _ _⟩

set_option maxHeartbeats 2000000 in
set_option maxRecDepth 100000 in
theorem writeByte (B b : Nat) (bs : List Value) (c : Int) (w : World) (h : Lib.IsBuilderF 61 5 B b bs w) (hlen : bs.length + 1 ≤ 140737488355328) (hBw : B ≤ w.heap.size) :
    Calls Tryz.prog 47 #[.pointer (some ⟨b, 0, none⟩), .int .u8 c] w fun e w' => e = .returned .nilIface ∧ (Lib.IsBuilderF 61 5 B b (bs ++ [.int .u8 c]) w' ∧ Below B w w' ∧ Lib.OthersKept 5 (some b) w w') := by
  obtain ⟨i0, hi, hz0, hz1, hz2⟩ := info_parts infoByte
  go_enter Tryz.func47, Tryz.ntmps47
  go_wp2_with (go_at_call 88; refine (copyCheck_any B b bs _ h).mono ?_)
  rintro e w1 ⟨rfl, h1, hb1, hk1⟩
  obtain ⟨hB, v, hbk, hown, hne⟩ := h1
  have c0 : w1.cell? ⟨b, 0, none⟩ = some (.pointer (some ⟨b, 0, none⟩)) := by rw [Lib.cell_of_heap hbk]; rfl
  have c1 : w1.cell? ⟨b, 1, none⟩ = some v := by rw [Lib.cell_of_heap hbk]; rfl
  go_wp2_with (at_builtin; refine wpList_append_ownF _ rfl _ _ 28 rfl B 5 i0 (.int .u8 0) 1 1 Tryz.underlying28 hi hz0 hz1 hz2 rfl (by decide) _ _ _ rfl (hown.alloc _) ⟨w1.heap.size, 0, none⟩ 1 1 [.int .u8 c] rfl rfl ?c1 ?c2 ?c3 ?c4 ?c5 ?_)
  case c1 =>
    intro j u hj
    match j, hj with
    | 0, hj => simp at hj; subst hj; simp [Addr.add]
  case c2 => intro u hu; simp at hu; subst hu; rfl
  case c3 => unfold maxLen; omega
  case c4 => omega
  case c5 => have := hb1.size; simp; omega
  intro v' w2 hown' hgrow _
  have hlt : b < w1.heap.size := by
    rcases Nat.lt_or_ge b w1.heap.size with h' | h'
    · exact h'
    · simp [Array.getElem?_eq_none h'] at hbk
  have hb2 : w2.heap[b]? = some (.cells #[.pointer (some ⟨b, 0, none⟩), v] 61 (0, 0)) := by
    rw [hgrow.block b (by simp; omega) (fun e => hne e.symm), Lib.alloc_old w1 _ b hlt]
    exact hbk
  have d0 : w2.cell? ⟨b, 0, none⟩ = some (.pointer (some ⟨b, 0, none⟩)) := by rw [Lib.cell_of_heap hb2]; rfl
  have d1 : w2.cell? ⟨b, 1, none⟩ = some v := by rw [Lib.cell_of_heap hb2]; rfl
  have f1 : w2.frozen? ⟨b, 1, none⟩ = false := Lib.frozen_of_heap hb2 1
  obtain ⟨g, cap, rfl⟩ : ∃ g cap, v' = .slice (some ⟨g, 0, none⟩) (bs.length + 1) cap := by
    rcases hown'.2 with ⟨_, h0⟩ | ⟨g, cap, cur, fz, hv, _⟩
    · omega
    · exact ⟨g, cap, hv⟩
  go_wp2
  go_ret
  refine ⟨rfl, Or.inr ?_, ?_, ((hk1.alloc _).grown hgrow (Lib.ownsRowF_kind (hown.alloc _))).setCell ⟨b, 1, none⟩ rfl _⟩
  · exact Lib.BuilderAtF.put (T := 61) (e := 5) hB hb2 (bs' := bs ++ [.int .u8 c]) (by simpa using hown') (by decide)
  · exact ((hb1.alloc (by have := hb1.size; omega) _).grown hgrow (by have := hb1.size; simp; omega) (fun k hk => (hown.lt k hk).1)).setCell (p := ⟨b, 1, none⟩) hB _

end Go.Proofs.YtifpidhoeikdjaaGreatDoor

set_option linter.unusedVariables false
namespace Go.Proofs.YtifpidhoeikdjaaGreatDoor
open Go.RowKit

theorem fig_digit (x j : Nat) (hx : x < 4294967296) (hj : j < 8) : x * 16 ^ j % 4294967296 / 268435456 = x / 2 ^ (4 * (7 - j)) % 16 := by
  match j, hj with
  | 0, _ => simp; omega
  | 1, _ => simp; omega
  | 2, _ => simp; omega
  | 3, _ => simp; omega
  | 4, _ => simp; omega
  | 5, _ => simp; omega
  | 6, _ => simp; omega
  | 7, _ => simp; omega

set_option maxHeartbeats 1000000 in
set_option maxRecDepth 100000 in
theorem figuresI (x : Nat) (w : World) (hx : x < 4294967296) :
    Calls Tryz.prog 78 #[.int .u32 x] w fun e w' => e = .returned (.string ⟨(hexOf x).toArray⟩) ∧ Below w.heap.size w w' := by
  go_enter Tryz.func78, Tryz.ntmps78
  go_wp2
  go_loopw [0, 4] (fun v i wr => ∃ j y : Nat, j ≤ 8 ∧ i = .int .i64 j ∧ v = .int .u32 y ∧ Hid (y = x * 16 ^ j % 4294967296) ∧ Lib.IsBuilderF 61 5 w.heap.size w.heap.size (Lib.byteCells ((hexOf x).take j)) wr ∧ Below w.heap.size w wr) (fun _ i _ => 8 - (intOf i).toNat)
  case atStart =>
    exact ⟨0, x, by omega, rfl, rfl, by show x = _; simp; omega, Lib.IsBuilderF.of (Lib.fresh_isBuilder 61 5 w), (Below.refl _ w).alloc (Nat.le_refl _) _⟩
  case round =>
    obtain ⟨j, y, hj, rfl, rfl, hy, hI, hbw⟩ := hrel
    have hsz := hbw.size
    have hyl : y < 4294967296 := by rw [hy.out]; exact Nat.mod_lt _ (by decide)
    by_cases hlt : j < 8
    · obtain ⟨d, hd⟩ : ∃ d : Nat, d = y / 268435456 := ⟨_, rfl⟩
      have rd : (y : Int) / 268435456 = (d : Int) := by rw [hd]; simp
      have hd16 : d < 16 := by rw [hd]; omega
      have HD : Hid (d = x / 2 ^ (4 * (7 - j)) % 16) := by show d = _; rw [hd, hy.out]; exact fig_digit x j hx hlt
      have HY : Hid (y * 16 % 4294967296 = x * 16 ^ (j + 1) % 4294967296) := by
        show _ = _
        rw [hy.out, Nat.pow_succ, ← Nat.mul_assoc, Nat.mod_mul_mod]
      clear hd
      go_wp2_with fail
      refine (writeByte _ _ _ _ _ hI (by rw [Lib.byteCells_length]; simp; omega) hsz).mono ?_
      rintro e w1 ⟨rfl, h1, b1, k1⟩
      have h2 : Lib.IsBuilderF 61 5 w.heap.size w.heap.size (Lib.byteCells ((hexOf x).take (j + 1))) w1 := by
        rw [hexOf_take x j hlt, ← HD.out, ← figs_at d hd16 (by show d < 16; exact hd16), Lib.byteCells_append]
        exact h1
      clear h1
      go_wp2
      go_roundw
      case rel => exact ⟨j + 1, y * 16 % 4294967296, by omega, by go_num, by go_num, HY, h2, hbw.trans b1⟩
      case measure => simp [intOf]; omega
    · have hl8 : (hexOf x).take j = hexOf x := List.take_of_length_le (by simp [hexOf]; omega)
      rw [hl8] at hI
      clear hl8
      go_wp2_with fail
      refine (Tryz.Builder_String_any_k _ _ _ _ hI hsz).mono ?_
      rintro e w2 ⟨rfl, _, b2, _⟩
      go_wp2
      go_ret
      exact ⟨rfl, hbw.trans b2⟩

end Go.Proofs.YtifpidhoeikdjaaGreatDoor

namespace Go.Proofs.YtifpidhoeikdjaaGreatDoor
open Go.RowKit

theorem endB8 (A : List Nat) (n : Nat) : endB (A ++ [0, 0, 0, 0, 0, 0, 0, 0]) n 8 = A ++ [n / 2 ^ 56 % 256, n / 2 ^ 48 % 256, n / 2 ^ 40 % 256, n / 2 ^ 32 % 256, n / 2 ^ 24 % 256, n / 2 ^ 16 % 256, n / 2 ^ 8 % 256, n / 2 ^ 0 % 256] := by
  have hl : (A ++ [0, 0, 0, 0, 0, 0, 0, 0]).length = A.length + 8 := by simp
  simp only [endB, hl]
  rw [show A.length + 8 - 1 - 0 = A.length + 7 from by omega, show A.length + 8 - 1 - 1 = A.length + 6 from by omega, show A.length + 8 - 1 - 2 = A.length + 5 from by omega, show A.length + 8 - 1 - 3 = A.length + 4 from by omega,
    show A.length + 8 - 1 - 4 = A.length + 3 from by omega, show A.length + 8 - 1 - 5 = A.length + 2 from by omega, show A.length + 8 - 1 - 6 = A.length + 1 from by omega, show A.length + 8 - 1 - 7 = A.length + 0 from by omega]
  repeat rw [List.set_append_right _ _ (by omega)]
  simp only [Nat.add_sub_cancel_left]
  rfl
theorem ofNat_mod (x : Nat) : (UInt8.ofNat (x % 256)).toNat = x % 256 := by
  simp
theorem padN_padB (t : List UInt8) : padN t = (padB t).map (·.toNat) := by
  have hz : padLen t.length - t.length - 1 = padZ t.length + 8 := by simp only [padZ, padLen]; omega
  have hr : List.replicate (padZ t.length + 8) (0 : Nat) = List.replicate (padZ t.length) 0 ++ [0, 0, 0, 0, 0, 0, 0, 0] := by
    rw [← List.replicate_append_replicate]; rfl
  rw [padN, hz, hr, show t.map (·.toNat) ++ 128 :: (List.replicate (padZ t.length) 0 ++ [0, 0, 0, 0, 0, 0, 0, 0]) = (t.map (·.toNat) ++ 128 :: List.replicate (padZ t.length) 0) ++ [0, 0, 0, 0, 0, 0, 0, 0] from by simp, endB8]
  simp only [padB, List.map_append, List.map_cons, List.map_replicate, lenB]
  congr 1
  simp only [List.map_map]
  show _ = List.map _ [0, 1, 2, 3, 4, 5, 6, 7]
  simp only [List.map_cons, List.map_nil, Function.comp, ofNat_mod]

end Go.Proofs.YtifpidhoeikdjaaGreatDoor

set_option linter.unusedVariables false
namespace Go.Proofs.YtifpidhoeikdjaaGreatDoor
open Go.RowKit

theorem padLen_mod (n : Nat) : padLen n % 64 = 0 := by unfold padLen; omega
theorem RowN.nums {T : TypeId} {w : World} {g m : Nat} {l : List Nat} (h : RowN T w g l) (hm : m + 64 ≤ l.length) : Nums w g m ((l.drop m).take 64) := by
  intro i hi
  have hi64 : i < 64 := by simp at hi; omega
  rw [h.cell (m + i) (by omega)]
  have e : ((l.drop m).take 64).getD i 0 = l.getD (m + i) 0 := by
    simp [hi64]
  rw [e]

set_option maxHeartbeats 1000000 in
set_option maxRecDepth 100000 in
theorem specSha (s : ByteArray) (w : World) (hs : s.size ≤ 1073741824) :
    Calls Tryz.prog 91 #[.string s] w fun e w' => ∃ g, e = .returned (.slice (some ⟨g, 0, none⟩) 8 8) ∧ RowN 3 w' g (sha s.data.toList).toL ∧ Below w.heap.size w w' := by
  go_enter Tryz.func91, Tryz.ntmps91
  go_wp2_with fail
  refine (specConsts _).mono ?_
  rintro e w1 ⟨rfl, hh1, hk1, b1⟩
  have hlt1 := hk1.lt
  go_wp2_with fail
  refine (specPad s _ hs).mono ?_
  rintro e w2 ⟨rfl, hp2, b2⟩
  have b12 := b1.trans (b2.mono b1.size)
  have hh2 := hh1.below b2 (by omega)
  have hk2 := hk1.below b2 hlt1
  obtain ⟨gb, hgb⟩ : ∃ gb, gb = w1.heap.size := ⟨_, rfl⟩
  rw [← hgb] at hp2 ⊢
  obtain ⟨gk, hgk⟩ : ∃ gk, gk = w.heap.size + 1 := ⟨_, rfl⟩
  rw [← hgk] at hk2 ⊢
  have hlen := padN_length s.data.toList
  rw [show s.data.toList.length = s.size from by simp] at hlen
  have hpl := padN_lt s.data.toList
  have HSH : Hid (sha s.data.toList = mixTo (padN s.data.toList) (padLen s.size / 64)) := by
    show _ = _
    rw [sha, show s.data.toList.length = s.size from by simp]
  generalize padN s.data.toList = P at hp2 hlen hpl HSH
  obtain ⟨L, hL⟩ : ∃ L, L = padLen s.size := ⟨_, rfl⟩
  have hL2 : L ≤ s.size + 72 := by rw [hL]; unfold padLen; omega
  have HLm : Hid (L % 64 = 0) := by show _ = _; rw [hL]; exact padLen_mod _
  rw [← hL] at hlen HSH ⊢
  have HL : Hid (P.length = L) := hlen
  clear hlen hL hgb hgk hh1 hk1 b1 b2 hlt1
  go_wp2
  go_loopw [3, 6] (fun h i wr => ∃ (j m gh : Nat), m ≤ L ∧ i = .int .i64 m ∧ Hid (m = 64 * j) ∧ h = .slice (some ⟨gh, 0, none⟩) 8 8 ∧ RowN 3 wr gh (mixTo P j).toL ∧ RowN 3 wr gk shaK ∧ RowN 3 wr gb P ∧ Below w.heap.size w wr) (fun _ i _ => L - (intOf i).toNat)
  case atStart => exact ⟨0, 0, w.heap.size, by omega, rfl, rfl, rfl, hh2, hk2, hp2, b12⟩
  case round =>
    clear hh2 hk2 hp2 b12
    obtain ⟨j, m, gh, hm, rfl, HM, rfl, hh, hk, hp, hbw⟩ := hrel
    have hm64 : m < L → m + 64 ≤ L := by have h1 := HLm.out; have h2 := HM.out; omega
    by_cases hlt : m < L
    · have hm2 := hm64 hlt
      have hnum := hp.nums (m := m) (by rw [HL.out]; exact hm2)
      have hgb := hp.lt
      have hgh := hh.lt
      have hgk := hk.lt
      have hsl : ((P.drop m).take 64).length = 64 := by simp [HL.out]; omega
      have hsb : ∀ x ∈ (P.drop m).take 64, x < 256 := fun x hx => hpl x (List.mem_of_mem_drop (List.mem_of_mem_take hx))
      have HNX : Hid (mixTo P (j + 1) = mix shaK (mixTo P j) ((P.drop m).take 64)) := by show _ = _; rw [mixTo, ← HM.out]
      have HB : Hid (Below w.heap.size w wr) := hbw
      have hwsz := hbw.size
      generalize (P.drop m).take 64 = bs at hnum hsl hsb HNX
      clear hm64 hbw
      go_wp2_with fail
      refine (specWords bs gb m (L - m) _ hnum hsl hsb hgb).mono ?_
      rintro e w3 ⟨rfl, hw3, b3⟩
      have hh3 := hh.below b3 hgh
      have hk3 := hk.below b3 hgk
      have hp3 := hp.below b3 hgb
      have hwl := schedTo_length bs 48
      have hwo := schedTo_lt bs hsb 48
      have hsz3 := b3.size
      have hlt3 := hw3.lt
      have HW : Hid (mix shaK (mixTo P j) bs = (mixTo P j).plus (rounds shaK (schedTo bs 48) (mixTo P j) 64)) := rfl
      generalize schedTo bs 48 = ws at hw3 hwl hwo HW
      clear hh hk hp hnum hsl hsb
      go_wp2_with fail
      refine (specMix (mixTo P j) (mixTo_ok P j) shaK ws gh wr.heap.size gk _ hh3 hw3 hk3 hwl rfl hwo shaK_ok).mono ?_
      rintro e w4 ⟨rfl, hr4, b4⟩
      have hk4 := hk3.below b4 hk3.lt
      have hp4 := hp3.below b4 hp3.lt
      rw [← HW.out, ← HNX.out] at hr4
      clear hh3 hk3 hp3 hw3 hwl hwo
      go_wp2
      go_roundw
      case rel =>
        refine ⟨j + 1, m + 64, w3.heap.size + 1, by omega, by go_num, ?_, rfl, hr4, hk4, hp4, (HB.out.trans (b3.mono (by omega))).trans (b4.mono (by omega))⟩
        show m + 64 = 64 * (j + 1)
        have := HM.out
        omega
      case measure => simp [intOf]; omega
    · have HJ : Hid (j = L / 64) := by show j = L / 64; have h1 := HLm.out; have h2 := HM.out; omega
      clear hm64
      go_wp2
      go_ret
      rw [HSH.out, ← HJ.out]
      exact ⟨gh, rfl, hh, hbw⟩

set_option maxHeartbeats 1000000 in
set_option maxRecDepth 100000 in
theorem specSum (s : ByteArray) (w : World) (hs : s.size ≤ 1073741824) :
    Calls Tryz.prog 54 #[.string s] w fun e w' => e = .returned (.string ⟨(sumB s.data.toList).toArray⟩) ∧ Below w.heap.size w w' := by
  go_enter Tryz.func54, Tryz.ntmps54
  go_wp2_with fail
  refine (specSha s _ hs).mono ?_
  rintro e w1 ⟨g, rfl, hr, b1⟩
  have hok : (sha s.data.toList).ok := mixTo_ok _ _
  have HS : Hid (sumB s.data.toList = hexOf (sha s.data.toList).a ++ hexOf (sha s.data.toList).b) := rfl
  generalize sha s.data.toList = t at hr hok HS
  have c0 : w1.cell? ⟨g, 0, none⟩ = some (.int .i64 (t.a : Int)) := hr.cell 0 (by simp [St.toL])
  have c1 : w1.cell? ⟨g, 1, none⟩ = some (.int .i64 (t.b : Int)) := hr.cell 1 (by simp [St.toL])
  have hg := hr.lt
  have la := hok.1
  have lb := hok.2.1
  have hl8 : ∀ x, (hexOf x).length = 8 := fun x => by simp [hexOf]
  go_wp2_with fail
  go_region_with (first | (go_at_call_of 92 (Value.int .i64 (t.a : Int)); refine (specHex _ _ la).mono ?_; rintro e w2 ⟨rfl, b2⟩; have d1 : w2.cell? ⟨g, 1, none⟩ = some (.int .i64 (t.b : Int)) := (b2.cell (p := ⟨g, 1, none⟩) hg).trans c1) | (go_at_call_of 92 (Value.int .i64 (t.b : Int)); refine (specHex _ _ lb).mono ?_; rintro e w3 ⟨rfl, b3⟩))
  all_goals
    go_wp2
    go_ret
    rw [HS.out]
    have hcat : (⟨(hexOf t.a).toArray⟩ : ByteArray) ++ ⟨(hexOf t.b).toArray⟩ = ⟨(hexOf t.a ++ hexOf t.b).toArray⟩ := by
      apply ByteArray.ext; simp
    rw [← hcat]
    have b12 := b1.trans (((Below.drew (Below.refl _ w1)).trans b2).mono b1.size)
    exact ⟨rfl, b12.trans (b3.mono b12.size)⟩

end Go.Proofs.YtifpidhoeikdjaaGreatDoor

set_option linter.unusedVariables false
namespace Go.Proofs.YtifpidhoeikdjaaGreatDoor
open Go.RowKit

theorem sha0_cells : uCells sha0.toL = #[Value.int .u32 1779033703, Value.int .u32 3144134277, Value.int .u32 1013904242, Value.int .u32 2773480762, Value.int .u32 1359893119, Value.int .u32 2600822924, Value.int .u32 528734635, Value.int .u32 1541459225] := rfl
theorem shaK_len : shaK.length = 64 := rfl
theorem loadU8 (l : List Nat) (hl : l.length = 8) (g : Nat) (w : World) (h : RowU 95 w g l) : (Instr.loadAt 95 (.pointer (some ⟨g, 0, none⟩))).run Tryz.prog w = .ok (.agg (uCells l)) w := by
  have := run_loadAt_mid (P := Tryz.prog) w g 0 95 (uCells l).toList _ h.range Tryz.underlying95 rfl (by rw [size8, Array.length_toList, uCells_size, hl])
  rw [Array.toArray_toList] at this
  exact this
theorem storeU8 (l m : List Nat) (hl : l.length = 8) (hm : m.length = 8) (g : Nat) (w : World) (h : RowU 95 w g m) : (Instr.storeAt 95 (.pointer (some ⟨g, 0, none⟩)) (.agg (uCells l))).run Tryz.prog w = .ok () (w.setCells g 0 (uCells l).toList) :=
  run_storeAt_mid (P := Tryz.prog) w g 0 95 (uCells l) (h.there _ (by rw [uCells_size, hl, hm])) (by rw [size8, uCells_size, hl]) (uCells_one _)

theorem scheduleI2 (bs : List Nat) (g o cap : Nat) (w : World) (hn : ∀ i, i < bs.length → w.cell? ⟨g, o + i, none⟩ = some (.int .u8 ((bs.getD i 0 : Nat) : Int))) (hl : bs.length = 64) (hbb : ∀ x ∈ bs, x < 256) (hg : g < w.heap.size) :
    Calls Tryz.prog 77 #[.slice (some ⟨g, o, none⟩) 64 cap] w fun e w' => ∃ ws, e = .returned (.agg (uCells ws)) ∧ Hid (ws = schedTo bs 48) ∧ Hid (Below w.heap.size w w') :=
  (scheduleI bs g o cap w hn hl hbb hg).mono fun e w' h => ⟨_, h.1, rfl, h.2⟩
theorem nextI2 (bs : List Nat) (hbb : ∀ x ∈ bs, x < 256) (ws : List Nat) (hws : ws = schedTo bs 48) (s : St) (hs : s.ok) (w : World) (hms : RowG w shaK) :
    Calls Tryz.prog 76 #[.agg (uCells s.toL), .agg (uCells ws)] w fun e w' => ∃ l, e = .returned (.agg (uCells l)) ∧ Hid (l = (mix shaK s bs).toL) ∧ Hid (Below w.heap.size w w') := by
  have h1 := schedTo_length bs 48
  have h2 := schedTo_lt bs hbb 48
  have h3 : mix shaK s bs = s.plus (rounds shaK (schedTo bs 48) s 64) := rfl
  rw [← hws] at h1 h2 h3
  exact (nextI shaK ws s hs w hms shaK_len shaK_ok h1 h2).mono fun e w' h => ⟨_, h.1, by rw [h3]; rfl, h.2⟩

theorem toL_len (s : St) : s.toL.length = 8 := rfl
theorem cells8 {T : TypeId} {w : World} {G a b c d e f g h : Nat} (H : RowU T w G (St.toL ⟨a, b, c, d, e, f, g, h⟩)) : w.cell? ⟨G, 0, none⟩ = some (.int .u32 (a : Int)) ∧ w.cell? ⟨G, 1, none⟩ = some (.int .u32 (b : Int)) ∧ w.cell? ⟨G, 2, none⟩ = some (.int .u32 (c : Int)) ∧ w.cell? ⟨G, 3, none⟩ = some (.int .u32 (d : Int)) ∧ w.cell? ⟨G, 4, none⟩ = some (.int .u32 (e : Int)) ∧ w.cell? ⟨G, 5, none⟩ = some (.int .u32 (f : Int)) ∧ w.cell? ⟨G, 6, none⟩ = some (.int .u32 (g : Int)) ∧ w.cell? ⟨G, 7, none⟩ = some (.int .u32 (h : Int)) :=
  ⟨H.cell 0 (by show _ < 8; decide), H.cell 1 (by show _ < 8; decide), H.cell 2 (by show _ < 8; decide), H.cell 3 (by show _ < 8; decide), H.cell 4 (by show _ < 8; decide), H.cell 5 (by show _ < 8; decide), H.cell 6 (by show _ < 8; decide), H.cell 7 (by show _ < 8; decide)⟩
theorem nextI3 (bs : List Nat) (hbb : ∀ x ∈ bs, x < 256) (ws : List Nat) (hws : ws = schedTo bs 48) (a b c d e f g h : Nat) (hs : (⟨a, b, c, d, e, f, g, h⟩ : St).ok) (w : World) (hms : RowG w shaK) :
    Calls Tryz.prog 76 #[.agg #[.int .u32 (a : Int), .int .u32 (b : Int), .int .u32 (c : Int), .int .u32 (d : Int), .int .u32 (e : Int), .int .u32 (f : Int), .int .u32 (g : Int), .int .u32 (h : Int)], .agg (uCells ws)] w fun e' w' => ∃ l, e' = .returned (.agg (uCells l)) ∧ Hid (l = (mix shaK ⟨a, b, c, d, e, f, g, h⟩ bs).toL) ∧ Hid (Below w.heap.size w w') :=
  nextI2 bs hbb ws hws ⟨a, b, c, d, e, f, g, h⟩ hs w hms

set_option maxHeartbeats 1000000 in
set_option maxRecDepth 100000 in
theorem implSum (s : ByteArray) (w : World) (hs : s.size ≤ 1073741824) (hK : RowG w shaK) :
    Calls Tryz.prog 45 #[.string s] w fun e w' => e = .returned (.string ⟨(sumB s.data.toList).toArray⟩) ∧ Below w.heap.size w w' := by
  obtain ⟨W, hW⟩ : ∃ W, W = w.alloc (.cells (uCells sha0.toL) 95) := ⟨_, rfl⟩
  have HZ : Hid (RowU 95 W w.heap.size sha0.toL ∧ W.heap.size = w.heap.size + 1 ∧ Below w.heap.size w W) := by
    refine ⟨?_, ?_, ?_⟩
    · rw [hW]; exact heap_alloc_new w _
    · rw [hW]; simp
    · rw [hW]; exact (Below.refl _ w).alloc (Nat.le_refl _) _
  have HW : Hid (W = w.alloc (.cells (uCells sha0.toL) 95)) := hW
  have HK : Hid (RowG w shaK) := hK
  clear hW hK
  go_enter Tryz.func45, Tryz.ntmps45
  go_wp2_with fail
  rw [← sha0_cells, ← HW.out]
  refine (paddedI s _ hs).mono ?_
  rintro e w1 ⟨g, cap, rfl, hrow, b1⟩
  have hg := hrow.lt
  have hcells : ∀ i, i < padLen s.size → w1.cell? ⟨g, i, none⟩ = some (.int .u8 (((padN s.data.toList).getD i 0 : Nat) : Int)) := by
    intro i hi
    have hlB : i < (padB s.data.toList).length := by rw [padB_length]; simpa using hi
    rw [hrow.cells i hlB, padN_padB]
    simp [List.getElem?_eq_getElem hlB]
  have hcap : padLen s.size ≤ cap ∧ cap ≤ maxLen := by
    obtain ⟨g', cap', cur, fz, hv, _, _, _, h1, h2, _⟩ := hrow
    simp only [Value.slice.injEq, Option.some.injEq, Addr.mk.injEq, and_true] at hv
    obtain ⟨_, _, rfl⟩ := hv
    rw [padB_length] at h1
    exact ⟨by simpa using h1, h2⟩
  have hlen := padN_length s.data.toList
  rw [show s.data.toList.length = s.size from by simp] at hlen
  have hpl := padN_lt s.data.toList
  have HSH : Hid (sha s.data.toList = mixTo (padN s.data.toList) (padLen s.size / 64)) := by
    show _ = _
    rw [sha, show s.data.toList.length = s.size from by simp]
  generalize padN s.data.toList = P at hcells hlen hpl HSH
  obtain ⟨L, hL⟩ : ∃ L, L = padLen s.size := ⟨_, rfl⟩
  have hL2 : L ≤ s.size + 72 := by rw [hL]; unfold padLen; omega
  have HLm : Hid (L % 64 = 0) := by show _ = _; rw [hL]; exact padLen_mod _
  rw [← hL] at hcells hcap hlen HSH ⊢
  have HL : Hid (P.length = L) := hlen
  have HC : Hid (∀ i, i < L → w1.cell? ⟨g, i, none⟩ = some (.int .u8 ((P.getD i 0 : Nat) : Int))) := hcells
  have HG : Hid (w.heap.size + 1 ≤ g ∧ g < w1.heap.size) := by
    refine ⟨?_, hg.2⟩
    have := hg.1
    rw [HZ.out.2.1] at this
    exact this
  have hw0 : 0 < w.heap.size := HK.out.lt
  have HB : Hid (RowU 95 w1 w.heap.size sha0.toL ∧ RowG w1 shaK ∧ Below w.heap.size w w1) := by
    have hb := HZ.out.2.2.trans (b1.mono (by rw [HZ.out.2.1]; omega))
    exact ⟨HZ.out.1.below b1 (by rw [HZ.out.2.1]; omega), HK.out.below hb hw0, hb⟩
  have hc2 := hcap.1
  have hc3 : cap ≤ 9223372036854775807 := by have := hcap.2; simp only [maxLen] at this; omega
  clear hlen hL hg hcells hrow b1 HZ HW hcap
  go_wp2
  go_loopw [5] (fun i wr => ∃ (j m : Nat), m ≤ L ∧ i = .int .i64 (m : Int) ∧ Hid (m = 64 * j) ∧ Hid (RowU 95 wr w.heap.size (mixTo P j).toL) ∧ Hid (RowG wr shaK) ∧ Hid (∀ i, i < L → wr.cell? ⟨g, i, none⟩ = some (.int .u8 ((P.getD i 0 : Nat) : Int))) ∧ Hid (g < wr.heap.size) ∧ Hid (Below w.heap.size w wr)) (fun i _ => L - (intOf i).toNat)
  case atStart => exact ⟨0, 0, by omega, rfl, rfl, HB.out.1, HB.out.2.1, HC, HG.out.2, HB.out.2.2⟩
  case round =>
    obtain ⟨j, m, hm, rfl, HM, HR, HK1, HC1, HG1, HB1⟩ := hrel
    have hm64 : m < L → m + 64 ≤ L := by have h1 := HLm.out; have h2 := HM.out; omega
    by_cases hlt : m < L
    · have hm2 := hm64 hlt
      have hsl : ((P.drop m).take 64).length = 64 := by simp [HL.out]; omega
      have hsb : ∀ x ∈ (P.drop m).take 64, x < 256 := fun x hx => hpl x (List.mem_of_mem_drop (List.mem_of_mem_take hx))
      have HNX : Hid (mixTo P (j + 1) = mix shaK (mixTo P j) ((P.drop m).take 64)) := by show _ = _; rw [mixTo, ← HM.out]
      have HN : Hid (∀ i, i < ((P.drop m).take 64).length → wr.cell? ⟨g, m + i, none⟩ = some (.int .u8 ((((P.drop m).take 64).getD i 0 : Nat) : Int))) := by
        intro i hi
        rw [hsl] at hi
        rw [HC1.out (m + i) (by omega)]
        simp [hi]
      generalize (P.drop m).take 64 = bs at HN hsl hsb HNX
      have Hsb : Hid (∀ x ∈ bs, x < 256) := hsb
      obtain ⟨m2, hm2e⟩ : ∃ m2 : Nat, m2 = m + 64 := ⟨_, rfl⟩
      have lw : IntKind.i64.wrap ((m : Int) + 64) = (m2 : Int) := by rw [IntKind.wrap_i64, hm2e]; omega
      have lm0 : (0 : Int) ≤ (m : Int) := by omega
      have lm1 : (m : Int) ≤ (m2 : Int) := by omega
      have lm2 : (m2 : Int) ≤ (cap : Int) := by omega
      have lm3 : (0 : Int) ≤ (m2 : Int) := by omega
      have ld1 : m2 - m = 64 := by omega
      have lne : ¬ cap = m := by omega
      have ld2 : ((m2 : Int) - (m : Int)).toNat = 64 := by omega
      have ld3 : (m2 : Int) - (m : Int) = 64 := by omega
      have HM2 : Hid (m2 = m + 64) := hm2e
      clear hm2e
      clear hm64 hsb
      have hmo := mixTo_ok P j
      generalize mixTo P j = st at HR HNX hmo
      have hwlt : w.heap.size < wr.heap.size := HR.out.lt
      have hw0lt : 0 < wr.heap.size := by omega
      obtain ⟨a, b, c, d, e, f, gg, h⟩ := st
      have Hok : Hid ((⟨a, b, c, d, e, f, gg, h⟩ : St).ok) := hmo
      obtain ⟨c0, c1, c2, c3, c4, c5, c6, c7⟩ := cells8 HR.out
      clear hmo
      go_wp2_with fail
      go_region_with (first | (go_at_call 77; refine (scheduleI2 bs g m _ _ ?_ hsl Hsb.out ?_).mono ?_; exact HN.out; exact HG1.out; rintro e w2 ⟨ws, rfl, HWS, b2⟩; have hr2 : Hid (RowU 95 w2 w.heap.size (St.toL ⟨a, b, c, d, e, f, gg, h⟩)) := HR.out.drew.below b2.out hwlt; have hk2 : Hid (RowG w2 shaK) := HK1.out.drew.below b2.out hw0lt; obtain ⟨d0, d1, d2, d3, d4, d5, d6, d7⟩ := cells8 hr2.out) | (go_at_call 76; refine (nextI3 bs Hsb.out ws HWS.out a b c d e f gg h Hok.out _ ?_).mono ?_; exact hk2.out; rintro e w3 ⟨l3, rfl, HL3, b3⟩; have hr3 : Hid (RowU 95 w3 w.heap.size (St.toL ⟨a, b, c, d, e, f, gg, h⟩)) := hr2.out.below b3.out hr2.out.lt; have hk3 : Hid (RowG w3 shaK) := hk2.out.below b3.out hk2.out.lt; have hsz : (uCells l3).size = 8 := (by rw [uCells_size, HL3.out]; exact toL_len _); have hst := run_storeCellsU (P := Tryz.prog) hr3.out l3 (by rw [HL3.out, toL_len, toL_len])))
      all_goals
        go_wp2
        go_roundw
        case rel =>
          have hbb : Below w.heap.size w w3 := (HB1.out.drew.trans (b2.out.mono (Nat.le_of_lt hwlt))).trans (b3.out.mono (Nat.le_of_lt hr2.out.lt))
          have hg3 : g < w3.heap.size := Nat.lt_of_lt_of_le HG1.out (Nat.le_trans b2.out.size b3.out.size)
          have hg2 : g < w2.heap.size := Nat.lt_of_lt_of_le HG1.out b2.out.size
          refine ⟨j + 1, m + 64, by omega, by go_num, ?_, ?_, ?_, ?_, ?_, ?_⟩
          · show m + 64 = 64 * (j + 1)
            have := HM.out
            omega
          · show RowU _ _ _ _
            rw [HNX.out, ← HL3.out]
            exact hr3.out.over (by rw [HL3.out, toL_len, toL_len])
          · exact hk3.out.keep (heap_setCells_other _ _ _ _ _ (by omega))
          · intro i hi
            rw [World.cell?_setCells_out _ _ _ _ _ (fun h1 _ => absurd h1 (by have := HG.out.1; show ¬ g = w.heap.size; omega))]
            rw [b3.out.cell (p := ⟨g, i, none⟩) hg2, b2.out.cell (p := ⟨g, i, none⟩) HG1.out]
            exact HC1.out i hi
          · exact Nat.lt_of_lt_of_le hg3 (Below.setCells (Below.refl w.heap.size w3) (Nat.le_refl _) _ _).size
          · exact Below.setCells hbb (Nat.le_refl _) _ _
        case measure => simp [intOf]; omega
    · have HJ : Hid (j = L / 64) := by show j = L / 64; have h1 := HLm.out; have h2 := HM.out; omega
      have HSB : Hid (sumB s.data.toList = hexOf (mixTo P j).a ++ hexOf (mixTo P j).b) := by
        show _ = _
        rw [sumB, HSH.out, ← HJ.out]
      have hok := mixTo_ok P j
      generalize mixTo P j = t at HR hok HSB
      have c0 : wr.cell? ⟨w.heap.size, 0, none⟩ = some (.int .u32 (t.a : Int)) := HR.out.cell 0 (by simp [St.toL])
      have c1 : wr.cell? ⟨w.heap.size, 1, none⟩ = some (.int .u32 (t.b : Int)) := HR.out.cell 1 (by simp [St.toL])
      have hg := HR.out.lt
      have la := hok.1
      have lb := hok.2.1
      have hl8 : ∀ x, (hexOf x).length = 8 := fun x => by simp [hexOf]
      clear hm64 hok
      go_wp2_with fail
      go_region_with (first | (go_at_call_of 78 (Value.int .u32 (t.a : Int)); refine (figuresI _ _ la).mono ?_; rintro e w2 ⟨rfl, b2⟩; have d1 : w2.cell? ⟨w.heap.size, 1, none⟩ = some (.int .u32 (t.b : Int)) := (b2.cell (p := ⟨w.heap.size, 1, none⟩) hg).trans c1) | (go_at_call_of 78 (Value.int .u32 (t.b : Int)); refine (figuresI _ _ lb).mono ?_; rintro e w3 ⟨rfl, b3⟩))
      all_goals
        go_wp2
        go_ret
        rw [HSB.out]
        have hcat : (⟨(hexOf t.a).toArray⟩ : ByteArray) ++ ⟨(hexOf t.b).toArray⟩ = ⟨(hexOf t.a ++ hexOf t.b).toArray⟩ := by
          apply ByteArray.ext; simp
        rw [← hcat]
        have b12 := HB1.out.trans (((Below.drew (Below.refl _ wr)).trans b2).mono HB1.out.size)
        exact ⟨rfl, b12.trans (b3.mono b12.size)⟩

end Go.Proofs.YtifpidhoeikdjaaGreatDoor

set_option linter.unusedVariables false
namespace Go.Proofs.YtifpidhoeikdjaaGreatDoor
open Go.RowKit

set_option maxHeartbeats 2000000 in
set_option maxRecDepth 100000 in
theorem implFilterTo (k it : ByteArray) (below : Int) (w : World) (hK : RowG w shaK) :
    Calls Tryz.prog 20 #[.string k, .string it, .int .i64 below] w fun e w' => e = .returned (.int .i64 (filterTo k.data.toList it.data.toList below)) ∧ Below w.heap.size w w' := by
  have HK : Hid (RowG w shaK) := hK
  clear hK
  cases h1 : isSum k.data.toList with
  | false =>
    rw [filterTo_no1 h1]
    go_enter Tryz.func20, Tryz.ntmps20
    go_wp2_with (go_at_call 15; refine (implSumOk _ _).mono ?_; rintro e w1 ⟨rfl, rfl⟩)
    go_ret
    exact ⟨rfl, Below.refl _ _⟩
  | true =>
    cases h2 : isItem it.data.toList with
    | false =>
      rw [filterTo_no2 h2]
      go_enter Tryz.func20, Tryz.ntmps20
      go_wp2_with (first | (go_at_call 15; refine (implSumOk _ _).mono ?_; rintro e w1 ⟨rfl, rfl⟩) | (go_at_call 32; refine (implItemOk _ _).mono ?_; rintro e w1 ⟨rfl, rfl⟩))
      go_ret
      exact ⟨rfl, Below.refl _ _⟩
    | true =>
      by_cases h3 : below < 1
      · rw [filterTo_no3 (by omega)]
        go_enter Tryz.func20, Tryz.ntmps20
        go_wp2_with (first | (go_at_call 15; refine (implSumOk _ _).mono ?_; rintro e w1 ⟨rfl, rfl⟩) | (go_at_call 32; refine (implItemOk _ _).mono ?_; rintro e w1 ⟨rfl, rfl⟩))
        go_ret
        exact ⟨rfl, Below.refl _ _⟩
      · by_cases h4 : 60000 < below
        · rw [filterTo_no3 (by omega)]
          go_enter Tryz.func20, Tryz.ntmps20
          go_wp2_with (first | (go_at_call 15; refine (implSumOk _ _).mono ?_; rintro e w1 ⟨rfl, rfl⟩) | (go_at_call 32; refine (implItemOk _ _).mono ?_; rintro e w1 ⟨rfl, rfl⟩))
          go_ret
          exact ⟨rfl, Below.refl _ _⟩
        · have hks : k.size = 16 := by have := isSum_len h1; simpa using this
          have his := isItem_size h2
          have hsz : (k ++ (⟨#[32]⟩ : ByteArray) ++ it).size ≤ 1073741824 := by
            simp only [ByteArray.size_append, hks]
            have : (⟨#[32]⟩ : ByteArray).size = 1 := rfl
            omega
          have HF : Hid (filterTo k.data.toList it.data.toList below = (headOf (k ++ (⟨#[32]⟩ : ByteArray) ++ it).data.toList : Int) * below / 2147483648) := by
            show _ = _
            rw [filterTo_yes h1 h2 (by omega), keyItem_bytes]
          have Hk : Hid (isSum k.data.toList = true) := h1
          have Hi : Hid (isItem it.data.toList = true) := h2
          go_enter Tryz.func20, Tryz.ntmps20
          go_wp2_with (first | (go_at_call 15; refine (implSumOk _ _).mono ?_; rintro e w1 ⟨rfl, rfl⟩) | (go_at_call 32; refine (implItemOk _ _).mono ?_; rintro e w1 ⟨rfl, rfl⟩))
          refine (implSum _ _ hsz HK.out).mono ?_
          rintro e w1 ⟨rfl, b1⟩
          have HH := sumHead_sumB (k ++ (⟨#[32]⟩ : ByteArray) ++ it).data.toList
          have hlt := headOf_lt (k ++ (⟨#[32]⟩ : ByteArray) ++ it).data.toList
          generalize (k ++ (⟨#[32]⟩ : ByteArray) ++ it).data.toList = t at HF HH hlt ⊢
          have Hhd : Hid (sumHead (sumB t) = (headOf t : Int)) := HH
          clear HH hsz
          have hpl := place_lt (headOf t) below hlt (by omega)
          generalize headOf t = h at HF hlt Hhd hpl
          go_wp2_with fail
          refine (implSumHead _ _).mono ?_
          rintro e w2 ⟨rfl, rfl⟩
          rw [show (⟨(sumB t).toArray⟩ : ByteArray).data.toList = sumB t from rfl, Hhd.out]
          go_wp2
          go_ret
          rw [HF.out]
          exact ⟨rfl, b1⟩

end Go.Proofs.YtifpidhoeikdjaaGreatDoor

set_option linter.unusedVariables false
namespace Go.Proofs.YtifpidhoeikdjaaGreatDoor
open Go.Shelf Go.RowKit

set_option maxHeartbeats 1000000 in
set_option maxRecDepth 100000 in
theorem implVarPut_no (n : Int) (w : World) (h : n < 0 ∨ 2147483647 < n) :
    Calls Tryz.prog 22 #[.int .i64 n] w fun e w' => e = .returned (.string ⟨#[]⟩) ∧ Below w.heap.size w w' := by
  rcases h with h | h
  · go_enter Tryz.func22, Tryz.ntmps22
    go_wp2
    go_ret
    exact ⟨rfl, Below.refl _ _⟩
  · have h' : ¬ n < 0 := by omega
    go_enter Tryz.func22, Tryz.ntmps22
    go_wp2
    go_ret
    exact ⟨rfl, Below.refl _ _⟩

set_option maxHeartbeats 2000000 in
set_option maxRecDepth 100000 in
theorem implVarPut_yes (n : Nat) (w : World) (h : n ≤ 2147483647) :
    Calls Tryz.prog 22 #[.int .i64 n] w fun e w' => e = .returned (.string ⟨(varB 4 n).toArray⟩) ∧ Below w.heap.size w w' := by
  have h0 : ¬ (n : Int) < 0 := by omega
  have h1 : ¬ (2147483647 : Int) < n := by omega
  go_enter Tryz.func22, Tryz.ntmps22
  go_wp2
  go_loopw [0] (fun v wr => ∃ (m f : Nat) (acc : List UInt8), v = .int .i64 m ∧ m ≤ n ∧ m < 128 ^ (f + 1) ∧ f ≤ 4 ∧ acc.length + f = 4 ∧ acc ++ varB f m = varB 4 n ∧ Lib.IsBuilderF 61 5 w.heap.size w.heap.size (Lib.byteCells acc) wr ∧ Below w.heap.size w wr) (fun v _ => (intOf v).toNat)
  case atStart =>
    exact ⟨n, 4, [], rfl, Nat.le_refl _, by omega, by omega, rfl, rfl, Lib.IsBuilderF.of (Lib.fresh_isBuilder 61 5 w), (Below.refl _ w).alloc (Nat.le_refl _) _⟩
  case round =>
    obtain ⟨m, f, acc, rfl, hm, hf, hf4, hacc, heq, hI, hbw⟩ := hrel
    have hsz := hbw.size
    by_cases hlt : m < 128
    · have h2 : (m : Int) < 128 := by omega
      go_wp2_with fail
      refine (writeByte _ _ _ _ _ hI (by rw [Lib.byteCells_length]; omega) hsz).mono ?_
      rintro e w1 ⟨rfl, h1, b1, k1⟩
      rw [byteCells_snoc acc _ m (by omega) (by omega)] at h1
      go_wp2_with fail
      refine (Tryz.Builder_String_any_k _ _ _ _ h1 (by have := b1.size; omega)).mono ?_
      rintro e w2 ⟨rfl, _, b2, _⟩
      go_wp2
      go_ret
      rw [varB_small f m hlt] at heq
      rw [heq]
      exact ⟨rfl, (hbw.trans b1).trans b2⟩
    · have h2 : ¬ (m : Int) < 128 := by omega
      obtain ⟨g, rfl⟩ : ∃ g, f = g + 1 := by
        cases f with
        | zero => omega
        | succ g => exact ⟨g, rfl⟩
      go_wp2_with fail
      refine (writeByte _ _ _ _ _ hI (by rw [Lib.byteCells_length]; omega) hsz).mono ?_
      rintro e w1 ⟨rfl, h1, b1, k1⟩
      rw [byteCells_snoc acc _ (128 + m % 128) (by omega) (by omega)] at h1
      go_wp2
      go_roundw
      case rel =>
        refine ⟨m / 128, g, acc ++ [UInt8.ofNat (128 + m % 128)], by go_num, by omega, ?_, by omega, by simp; omega, ?_, h1, hbw.trans b1⟩
        · have : 128 ^ (g + 1 + 1) = 128 ^ (g + 1) * 128 := Nat.pow_succ ..
          omega
        · rw [← heq, varB_step g m hlt]; simp
      case measure => simp [intOf]; omega

end Go.Proofs.YtifpidhoeikdjaaGreatDoor

set_option linter.unusedVariables false
namespace Go.Proofs.YtifpidhoeikdjaaGreatDoor
open Go.RowKit

theorem implVarPut (n : Int) (w : World) :
    Calls Tryz.prog 22 #[.int .i64 n] w fun e w' => e = .returned (.string ⟨(varPut n).toArray⟩) ∧ Below w.heap.size w w' := by
  by_cases h : 0 ≤ n ∧ n ≤ 2147483647
  · obtain ⟨m, rfl⟩ := Int.eq_ofNat_of_zero_le h.1
    rw [varPut, if_pos h]
    exact implVarPut_yes m w (by omega)
  · rw [varPut, if_neg h]
    exact implVarPut_no n w (by omega)

end Go.Proofs.YtifpidhoeikdjaaGreatDoor

set_option linter.unusedVariables false
namespace Go.Proofs.YtifpidhoeikdjaaGreatDoor
open Go.Shelf Go.RowKit

theorem sizeBuilderR : (Tryz.prog.info? 61).map (fun i => i.size) = some 2 := by kernel_rfl
theorem liesWriter : liesAt Tryz.prog Tryz.prog.depth 67 (4 / Tryz.prog.cellsOf 67) 0 61 1 = true := by kernel_rfl
theorem infoByteR : (Tryz.prog.info? 5).map (fun i => (i.zero, i.size, i.bytes)) = some (some (.int .u8 0), 1, 1) := by kernel_rfl

/-- The writer's block. -/
def WAt (b : Nat) (p v x y : Value) (w : World) : Prop := w.heap[b]? = some (.cells #[p, v, x, y] 67 (0, 0))
theorem WAt.c0 {b : Nat} {p v x y : Value} {w : World} (h : WAt b p v x y w) : w.cell? ⟨b, 0, none⟩ = some p := by rw [Lib.cell_of_heap h]; rfl
theorem WAt.c1 {b : Nat} {p v x y : Value} {w : World} (h : WAt b p v x y w) : w.cell? ⟨b, 1, none⟩ = some v := by rw [Lib.cell_of_heap h]; rfl
theorem WAt.c2 {b : Nat} {p v x y : Value} {w : World} (h : WAt b p v x y w) : w.cell? ⟨b, 2, none⟩ = some x := by rw [Lib.cell_of_heap h]; rfl
theorem WAt.c3 {b : Nat} {p v x y : Value} {w : World} (h : WAt b p v x y w) : w.cell? ⟨b, 3, none⟩ = some y := by rw [Lib.cell_of_heap h]; rfl
theorem WAt.fz {b : Nat} {p v x y : Value} {w : World} (h : WAt b p v x y w) (i : Nat) : w.frozen? ⟨b, i, none⟩ = false := Lib.frozen_of_heap h i
theorem WAt.lt {b : Nat} {p v x y : Value} {w : World} (h : WAt b p v x y w) : b < w.heap.size := by
  rcases Nat.lt_or_ge b w.heap.size with h' | h'
  · exact h'
  · simp [WAt, Array.getElem?_eq_none h'] at h
theorem WAt.set0 {b : Nat} {p v x y : Value} {w : World} (h : WAt b p v x y w) (u : Value) : WAt b u v x y (w.setCell ⟨b, 0, none⟩ u) := by
  unfold WAt at h ⊢
  simp only [World.setCell, Array.getElem?_modify, h]
  simp
theorem WAt.set1 {b : Nat} {p v x y : Value} {w : World} (h : WAt b p v x y w) (u : Value) : WAt b p u x y (w.setCell ⟨b, 1, none⟩ u) := by
  unfold WAt at h ⊢
  simp only [World.setCell, Array.getElem?_modify, h]
  simp
theorem WAt.set2 {b : Nat} {p v x y : Value} {w : World} (h : WAt b p v x y w) (u : Value) : WAt b p v u y (w.setCell ⟨b, 2, none⟩ u) := by
  unfold WAt at h ⊢
  simp only [World.setCell, Array.getElem?_modify, h]
  simp
theorem WAt.set3 {b : Nat} {p v x y : Value} {w : World} (h : WAt b p v x y w) (u : Value) : WAt b p v x u (w.setCell ⟨b, 3, none⟩ u) := by
  unfold WAt at h ⊢
  simp only [World.setCell, Array.getElem?_modify, h]
  simp
theorem WAt.drew {b : Nat} {p v x y : Value} {w : World} (h : WAt b p v x y w) : WAt b p v x y w.drew := h

/-- A row of bytes that the call has made stands, whatever is written into another block. -/
theorem ownsRow_setCell {base : Nat} {e : TypeId} {v : Value} {n : Nat} {xs : List Value} {w : World} (h : w.ownsRow base e 1 v n xs) (b i : Nat) (u : Value) (hne : v.ownBlock ≠ some b) : (w.setCell ⟨b, i, none⟩ u).ownsRow base e 1 v n xs := by
  refine ⟨h.1, ?_⟩
  rcases h.2 with h2 | ⟨g, cap, cur, hv, h2⟩
  · exact .inl h2
  · refine .inr ⟨g, cap, cur, hv, h2.1, ?_, h2.2.2⟩
    have : g ≠ b := by
      intro he
      rw [hv] at hne
      exact hne (by simp [Value.ownBlock, he])
    rw [Below.heap_setCell w ⟨b, i, none⟩ u g this]
    exact h2.2.1

/-- The writer: its bytes so far, and the two cells behind the builder. -/
def WB (B b : Nat) (o : List UInt8) (x y : Value) (w : World) : Prop :=
  B ≤ b ∧ ∃ p v, (p = .pointer none ∨ p = .pointer (some ⟨b, 0, none⟩)) ∧ WAt b p v x y w ∧ w.ownsRow B 5 1 v o.length (Lib.byteCells o) ∧ v.ownBlock ≠ some b ∧ (o = [] → v = .slice none 0 0)
theorem WB.lt {B b : Nat} {o : List UInt8} {x y : Value} {w : World} (h : WB B b o x y w) : b < w.heap.size := by
  obtain ⟨_, p, v, _, h, _⟩ := h; exact h.lt
theorem WB.set2 {B b : Nat} {o : List UInt8} {x y : Value} {w : World} (h : WB B b o x y w) (u : Value) : WB B b o u y (w.setCell ⟨b, 2, none⟩ u) := by
  obtain ⟨hB, p, v, hp, hw, ho, hne, h0⟩ := h
  exact ⟨hB, p, v, hp, hw.set2 u, ownsRow_setCell ho b 2 u hne, hne, h0⟩
theorem WB.set3 {B b : Nat} {o : List UInt8} {x y : Value} {w : World} (h : WB B b o x y w) (u : Value) : WB B b o x u (w.setCell ⟨b, 3, none⟩ u) := by
  obtain ⟨hB, p, v, hp, hw, ho, hne, h0⟩ := h
  exact ⟨hB, p, v, hp, hw.set3 u, ownsRow_setCell ho b 3 u hne, hne, h0⟩
theorem WB.drew {B b : Nat} {o : List UInt8} {x y : Value} {w : World} (h : WB B b o x y w) : WB B b o x y w.drew := h

set_option maxHeartbeats 1000000 in
set_option maxRecDepth 100000 in
theorem copyCheck_usedW (b : Nat) (w : World) (h0 : w.cell? ⟨b, 0, none⟩ = some (.pointer (some ⟨b, 0, none⟩))) :
    Calls Tryz.prog 88 #[.pointer (some ⟨b, 0, none⟩)] w fun e w' => e = .returned (.tuple #[]) ∧ w' = w := by
  obtain ⟨j, hj, _⟩ := Option.map_eq_some_iff.1 sizeBuilderR
  go_enter Tryz.func88, Tryz.ntmps88
  go_wp2
  rw [Lib.run_neq_ptr_same w _ Tryz.underlying59 hj]
  go_wp2
  go_end0
  exact ⟨rfl, rfl⟩

set_option maxHeartbeats 1000000 in
set_option maxRecDepth 100000 in
theorem copyCheck_freshW (b : Nat) (w : World) (h0 : w.cell? ⟨b, 0, none⟩ = some (.pointer none)) (hsh : w.shape? b = some (67, 4)) (hfz : w.frozen? ⟨b, 0, none⟩ = false) :
    Calls Tryz.prog 88 #[.pointer (some ⟨b, 0, none⟩)] w fun e w' => e = .returned (.tuple #[]) ∧ w' = w.setCell ⟨b, 0, none⟩ (.pointer (some ⟨b, 0, none⟩)) := by
  obtain ⟨j, hj, hjs⟩ := Option.map_eq_some_iff.1 sizeBuilderR
  go_enter Tryz.func88, Tryz.ntmps88
  go_wp2
  rw [Lib.run_to_unsafe w ⟨b, 0, none⟩ Tryz.underlying59 Tryz.underlying121 hj (by rw [hjs]; decide) hsh (Nat.zero_lt_succ 3)]
  simp only [Result.andThen]
  rw [Oper.upon_value]
  go_wp2
  rw [run_callFunc_extern Tryz.func111 (by kernel_rfl) (by kernel_rfl) (by kernel_rfl) (e := Extern.AbiNoEscape.same) (by kernel_rfl)]
  rw [Lib.run_noEscape]
  simp only [Result.andThen]
  rw [Oper.upon_value]
  go_wp2
  rw [Lib.run_from_unsafe w ⟨b, 0, none⟩ Tryz.underlying121 Tryz.underlying59 hj hsh liesWriter]
  simp only [Result.andThen]
  rw [Oper.upon_value]
  go_wp2
  go_end0
  exact ⟨rfl, rfl⟩

theorem copyCheckW (B b : Nat) (p v x y : Value) (n : Nat) (xs : List Value) (w : World) (hB : B ≤ b) (hp : p = .pointer none ∨ p = .pointer (some ⟨b, 0, none⟩)) (h : WAt b p v x y w) (ho : w.ownsRow B 5 1 v n xs) (hne : v.ownBlock ≠ some b) :
    Calls Tryz.prog 88 #[.pointer (some ⟨b, 0, none⟩)] w fun e w' => e = .returned (.tuple #[]) ∧ WAt b (.pointer (some ⟨b, 0, none⟩)) v x y w' ∧ w'.ownsRow B 5 1 v n xs ∧ Below B w w' ∧ w'.heap.size = w.heap.size := by
  rcases hp with rfl | rfl
  · refine (copyCheck_freshW b w h.c0 (by unfold WAt at h; simp [World.shape?, h]) (h.fz 0)).mono ?_
    rintro e w' ⟨rfl, rfl⟩
    exact ⟨rfl, h.set0 _, ownsRow_setCell ho b 0 _ hne, (Below.refl B w).setCell (p := ⟨b, 0, none⟩) hB _, by simp [World.setCell]⟩
  · refine (copyCheck_usedW b w h.c0).mono ?_
    rintro e w' ⟨rfl, rfl⟩
    exact ⟨rfl, h, ho, Below.refl B _, rfl⟩

set_option maxHeartbeats 2000000 in
set_option maxRecDepth 100000 in
theorem writeByteW (B b : Nat) (o : List UInt8) (c : UInt8) (x y : Value) (w : World) (h : WB B b o x y w) (hlen : o.length + 1 ≤ 140737488355328) :
    Calls Tryz.prog 47 #[.pointer (some ⟨b, 0, none⟩), .int .u8 (c.toNat : Int)] w fun e w' => e = .returned .nilIface ∧ WB B b (o ++ [c]) x y w' ∧ Below B w w' := by
  obtain ⟨i0, hi, hz0, hz1, hz2⟩ := info_parts infoByteR
  obtain ⟨hB, p, v, hp, hw, ho, hne, _⟩ := h
  have hlt := hw.lt
  go_enter Tryz.func47, Tryz.ntmps47
  go_wp2_with (go_at_call 88; refine (copyCheckW B b p v x y o.length (Lib.byteCells o) _ hB hp hw ho hne).mono ?_)
  rintro e w1 ⟨rfl, hw1, ho1, hb1, hs1⟩
  have Hs1 : Hid (w1.heap.size = w.heap.size) := hs1
  have Hw1 : Hid (WAt b (.pointer (some ⟨b, 0, none⟩)) v x y w1) := hw1
  have c0 := hw1.c0
  have c1 := hw1.c1
  clear hs1 hw hw1 ho
  go_wp2_with (at_builtin; refine wp_app1 rfl _ _ 28 rfl B 5 i0 (.int .u8 0) 1 Tryz.underlying28 hi hz0 hz1 hz2 rfl _ o.length (Lib.byteCells o) rfl ho1 (.int .u8 (c.toNat : Int)) rfl rfl ?c3 ?c4 ?c5 ?_)
  case c3 => unfold maxLen; omega
  case c4 => omega
  case c5 => rw [Hs1.out]; omega
  intro g cap w2 hown hb2 hoth
  have hw2 : WAt b (.pointer (some ⟨b, 0, none⟩)) v x y w2 := by
    unfold WAt
    rw [hoth b (by rw [Hs1.out]; exact hlt) hne]
    exact Hw1.out
  have d0 := hw2.c0
  have d1 := hw2.c1
  have f1 := hw2.fz 1
  have HW2 : Hid (WAt b (.pointer (some ⟨b, 0, none⟩)) v x y w2) := hw2
  have hgb : g ≠ b := by
    intro he
    rcases hown.2 with ⟨h1, _⟩ | ⟨g', cap', cur, hv, _, hc, _⟩
    · cases h1
    · simp only [Value.slice.injEq, Option.some.injEq, Addr.mk.injEq, and_true, true_and] at hv
      obtain ⟨rfl, _⟩ := hv
      rw [he] at hc
      rw [HW2.out] at hc
      simp only [Option.some.injEq, Obj.cells.injEq] at hc
      exact absurd hc.2.1 (by decide)
  have HO : Hid (w2.ownsRow B 5 1 (.slice (some ⟨g, 0, none⟩) (o.length + 1) cap) (o.length + 1) (Lib.byteCells o ++ [.int .u8 (c.toNat : Int)])) := hown
  have HB2 : Hid (Below B w1 w2) := hb2
  clear hw2 hown hoth hb2
  go_wp2
  go_ret
  have hne2 : (Value.slice (some ⟨g, 0, none⟩) (o.length + 1) cap).ownBlock ≠ some b := by simp [Value.ownBlock, hgb]
  refine ⟨rfl, ⟨hB, _, _, .inr rfl, HW2.out.set1 _, ?_, hne2, fun h => by simp at h⟩, (hb1.trans HB2.out).setCell (p := ⟨b, 1, none⟩) hB _⟩
  have := ownsRow_setCell HO.out b 1 (.slice (some ⟨g, 0, none⟩) (o.length + 1) cap) hne2
  simpa [Lib.byteCells] using this

theorem cellsByte : Tryz.prog.cellsOf 5 = 1 := by kernel_rfl

set_option maxHeartbeats 2000000 in
set_option maxRecDepth 100000 in
theorem stringW (B b : Nat) (o : List UInt8) (x y : Value) (w : World) (h : WB B b o x y w) :
    Calls Tryz.prog 48 #[.pointer (some ⟨b, 0, none⟩)] w fun e w' => e = .returned (.string ⟨o.toArray⟩) ∧ Below B w w' := by
  obtain ⟨hB, p, v, hp, hw, ho, hne, h0⟩ := h
  by_cases he : o = []
  · have hv := h0 he
    subst hv
    subst he
    have hUS : ∀ (W : World) (q : Option Addr), (Builtin.unsafeString_ #[106, 3] 9 #[.pointer q, .int .i64 0]).run Tryz.prog W = .ok (.string .empty) W := fun W q => Lib.run_unsafeString_none W _ _ _ q
    have c1 : w.drew.cell? ⟨b, 1, none⟩ = some (.slice none 0 0) := hw.c1
    have hSD : (Builtin.unsafeSliceData_ #[28] 106 #[.slice none 0 0]).run Tryz.prog w.drew = .ok (.pointer none) w.drew := rfl
    go_enter Tryz.func48, Tryz.ntmps48
    go_wp2
    go_region
    all_goals (go_wp2; go_ret; exact ⟨rfl, Below.drew (Below.refl B w)⟩)
  · have hl0 : o.length ≠ 0 := by simpa using he
    obtain ⟨g, cap, cur, rfl, hbg, hg, hnc, hcm, hcs, htake⟩ : ∃ g cap cur, v = .slice (some ⟨g, 0, none⟩) o.length cap ∧ B ≤ g ∧ w.heap[g]? = some (.cells cur 5 (0, 0)) ∧ o.length ≤ cap ∧ cap ≤ maxLen ∧ cur.size = cap * 1 ∧ cur.toList.take (o.length * 1) = Lib.byteCells o := by
      rcases ho.2 with ⟨_, hz⟩ | ⟨g, cap, cur, hv, r⟩
      · exact absurd hz hl0
      · exact ⟨g, cap, cur, hv, r⟩
    have c1 : w.drew.cell? ⟨b, 1, none⟩ = some (.slice (some ⟨g, 0, none⟩) o.length cap) := hw.c1
    have hSD : (Builtin.unsafeSliceData_ #[28] 106 #[.slice (some ⟨g, 0, none⟩) o.length cap]).run Tryz.prog w.drew = .ok (.pointer (some ⟨g, 0, none⟩)) w.drew :=
      Lib.run_unsafeSliceData_row _ _ _ _ _ _ (by omega)
    have hUS : (Builtin.unsafeString_ #[106, 3] 9 #[.pointer (some ⟨g, 0, none⟩), .int .i64 o.length]).run Tryz.prog w.drew = .ok (.string ⟨o.toArray⟩) (w.drew.freeze ⟨g, 0, none⟩ o.length) := by
      refine Lib.run_unsafeString_row w.drew 106 3 9 5 Tryz.underlying106 cellsByte g cur.size (by have hg' : w.drew.heap[g]? = some (.cells cur 5 (0, 0)) := hg; simp [World.shape?, hg']) o he (by omega) (by unfold maxLen at hcm; omega) ?_
      intro j z hz
      have hj : j < o.length := by
        rcases Nat.lt_or_ge j o.length with h' | h'
        · exact h'
        · simp [List.getElem?_eq_none h'] at hz
      have hg' : w.drew.heap[g]? = some (.cells cur 5 (0, 0)) := hg
      have hcell : w.drew.cell? ⟨g, j, none⟩ = cur[j]? := Lib.cell_of_heap hg' j
      have h3 : cur.toList[j]? = (Lib.byteCells o)[j]? := by rw [← htake, List.getElem?_take]; simp [hj]
      have : w.drew.cell? ⟨g, j, none⟩ = some (.int .u8 z.toNat) := by
        rw [hcell, ← Array.getElem?_toList, h3]
        simp [Lib.byteCells, hz]
      rw [Addr.add_mid, Nat.zero_add]
      exact this
    have HB : Hid (Below B w (w.drew.freeze ⟨g, 0, none⟩ o.length)) := Lib.below_freeze (Below.drew (Below.refl B w)) (p := ⟨g, 0, none⟩) hbg _
    clear hw ho htake hcs hg
    go_enter Tryz.func48, Tryz.ntmps48
    go_wp2
    go_region
    all_goals (go_wp2; go_ret; exact ⟨rfl, HB.out⟩)

end Go.Proofs.YtifpidhoeikdjaaGreatDoor

set_option linter.unusedVariables false
namespace Go.Proofs.YtifpidhoeikdjaaGreatDoor
open Go.RowKit

def WR (B b : Nat) (s : List UInt8 × List Nat) (w : World) : Prop := WB B b s.1 (.int .u8 (valB s.2 : Int)) (.int .i64 (s.2.length : Int)) w

theorem or8 (q b : Nat) (hq : q < 128) (hb : b ≤ 1) : bits .or .u8 ((q : Int) * 2 % 256) (b : Int) = ((q * 2 + b : Nat) : Int) := by
  have e : (q : Int) * 2 % 256 = ((q * 2 : Nat) : Int) := by omega
  rw [e, (bits_nat .u8 8 (by decide) (fun m h0 h1 => by rw [IntKind.wrap_u8]; omega) (q * 2) b (by omega) (by omega)).2]
  have := (Nat.two_pow_add_eq_or_of_lt (i := 1) (by omega : b < 2 ^ 1) q).symm
  rw [show (2 : Nat) ^ 1 * q = q * 2 from by omega] at this
  rw [this]
theorem writeByteN (B b : Nat) (o : List UInt8) (v : Nat) (hv : v < 256) (x y : Value) (w : World) (h : WB B b o x y w) (hlen : o.length + 1 ≤ 140737488355328) :
    Calls Tryz.prog 47 #[.pointer (some ⟨b, 0, none⟩), .int .u8 (v : Int)] w fun e w' => e = .returned .nilIface ∧ WB B b (o ++ [UInt8.ofNat v]) x y w' ∧ Below B w w' := by
  have := writeByteW B b o (UInt8.ofNat v) x y w h hlen
  rw [show ((UInt8.ofNat v).toNat : Int) = (v : Int) from by simp; omega] at this
  exact this

set_option maxHeartbeats 1000000 in
set_option maxRecDepth 100000 in
theorem bitI (B b : Nat) (s : List UInt8 × List Nat) (bit : Nat) (w : World) (h : WR B b s w) (hok : okB s) (hb : bit ≤ 1) (hlen : s.1.length + 1 ≤ 140737488355328) :
    Calls Tryz.prog 90 #[.pointer (some ⟨b, 0, none⟩), .int .i64 (bit : Int)] w fun e w' => e = .returned (.tuple #[]) ∧ WR B b (stepB s bit) w' ∧ Below B w w' := by
  obtain ⟨o, l⟩ := s
  have hv := valB_lt l hok.2
  have hl8 : l.length < 8 := hok.1
  have HWB : Hid (WB B b o (.int .u8 (valB l : Int)) (.int .i64 (l.length : Int)) w) := h
  have hB := h.1
  obtain ⟨_, p, v, hp, hw, ho, hne⟩ := h
  have c2 := hw.c2
  have c3 := hw.c3
  have f2 := hw.fz 2
  have f3 := hw.fz 3
  clear hw ho hne hp
  have hsn := valB_snoc l bit
  have hq : valB l < 128 := by
    have : 2 ^ l.length ≤ 2 ^ 7 := Nat.pow_le_pow_right (by decide) (by omega)
    omega
  have ror := or8 (valB l) bit hq hb
  rw [← hsn] at ror
  have HV : Hid (valB (l ++ [bit]) < 256) := by show _ < _; rw [hsn]; omega
  generalize hqv : valB l = q at c2 ror HWB
  have HVV : Hid (∃ u, u = valB (l ++ [bit])) := ⟨_, rfl⟩
  obtain ⟨u, hu⟩ := HVV.out
  rw [← hu] at ror HV
  have HU : Hid (u = valB (l ++ [bit])) := hu
  clear hsn hu HVV hqv hv
  by_cases h7 : l.length = 7
  · have HS : Hid (stepB (o, l) bit = (o ++ [UInt8.ofNat u], [])) := by
      show _ = _
      rw [HU.out]
      simp [stepB, h7]
    have c3' : w.cell? ⟨b, 3, none⟩ = some (.int .i64 7) := by rw [c3, h7]; rfl
    rw [h7] at HWB
    clear c3 h7
    go_enter Tryz.func90, Tryz.ntmps90
    go_wp2_with fail
    have HW1 : Hid (WB B b o (.int .u8 (u : Int)) (.int .i64 8) ((w.setCell ⟨b, 2, none⟩ (.int .u8 (u : Int))).setCell ⟨b, 3, none⟩ (.int .i64 8))) := (HWB.out.set2 _).set3 _
    have HB1 : Hid (Below B w ((w.setCell ⟨b, 2, none⟩ (.int .u8 (u : Int))).setCell ⟨b, 3, none⟩ (.int .i64 8))) := ((Below.refl B w).setCell (p := ⟨b, 2, none⟩) hB _).setCell (p := ⟨b, 3, none⟩) hB _
    go_region_with (go_at_call 47; refine (writeByteN B b o u HV.out (.int .u8 (u : Int)) (.int .i64 8) _ ?_ hlen).mono ?_; exact HW1.out.drew; rintro e w2 ⟨rfl, hw2, hb2⟩)
    all_goals
      obtain ⟨_, p2, v2, hp2, hwa2, ho2, hne2⟩ := id hw2
      have d2 := hwa2.fz 2
      have d3 := hwa2.fz 3
      have e2 := hwa2.c2
      have e3 := hwa2.c3
      have HW2 : Hid (WB B b (o ++ [UInt8.ofNat u]) (.int .u8 (u : Int)) (.int .i64 8) w2) := hw2
      have HB2 : Hid (Below B w w2) := HB1.out.drew.trans hb2
      clear hwa2 ho2 hne2 hp2 hw2 hb2 HB1 HW1
      go_wp2_with fail
      go_end0
      refine ⟨rfl, ?_, (HB2.out.setCell (p := ⟨b, 2, none⟩) hB _).setCell (p := ⟨b, 3, none⟩) hB _⟩
      rw [HS.out]
      exact (HW2.out.set2 _).set3 _
  · have HS : Hid (stepB (o, l) bit = (o, l ++ [bit])) := by
      show _ = _
      simp [stepB, h7]
    obtain ⟨m, hm⟩ : ∃ m : Nat, m = l.length := ⟨_, rfl⟩
    rw [← hm] at c3 HWB h7
    have HM : Hid (m = l.length) := hm
    have hm7 : m < 7 := by omega
    clear hm hl8 h7
    go_enter Tryz.func90, Tryz.ntmps90
    go_wp2_with fail
    go_end0
    refine ⟨rfl, ?_, ((Below.refl B w).setCell (p := ⟨b, 2, none⟩) hB _).setCell (p := ⟨b, 3, none⟩) hB _⟩
    rw [HS.out]
    show WB B b o (.int .u8 ((valB (l ++ [bit]) : Nat) : Int)) (.int .i64 (((l ++ [bit]).length : Nat) : Int)) _
    rw [← HU.out, List.length_append, ← HM.out]
    exact (HWB.out.set2 _).set3 _

end Go.Proofs.YtifpidhoeikdjaaGreatDoor

set_option linter.unusedVariables false
namespace Go.Proofs.YtifpidhoeikdjaaGreatDoor
open Go.RowKit

set_option maxHeartbeats 1000000 in
set_option maxRecDepth 100000 in
theorem numberI (B b : Nat) (s : List UInt8 × List Nat) (n k : Nat) (w : World) (h : WR B b s w) (hok : okB s) (hn : n ≤ 60000) (hk : k ≤ 8) (hlen : s.1.length ≤ 1000000000) :
    Calls Tryz.prog 50 #[.pointer (some ⟨b, 0, none⟩), .int .i64 (n : Int), .int .i64 (k : Int)] w fun e w' => e = .returned (.tuple #[]) ∧ WR B b (runB s (numB k n)) w' ∧ Below B w w' := by
  obtain ⟨N, hN⟩ : ∃ N : Nat, N = n / 2 ^ k := ⟨_, rfl⟩
  have hNn : N ≤ 60000 := by rw [hN]; exact Nat.le_trans (Nat.div_le_self _ _) hn
  have HF : Hid (runB s (List.replicate N 1 ++ 0 :: lowB n k) = runB s (numB k n)) := by show _ = _; rw [hN]; rfl
  obtain ⟨F, hF⟩ : ∃ F, F = runB s (numB k n) := ⟨_, rfl⟩
  rw [← hF] at HF ⊢
  have rsh : (n : Int) / 2 ^ k = (N : Int) := by rw [hN]; simp
  clear hF hN
  go_enter Tryz.func50, Tryz.ntmps50
  have HS : Hid (WR B b s w ∧ okB s ∧ s.1.length ≤ 1000000000) := ⟨h, hok, hlen⟩
  clear h hok hlen
  go_wp2_with fail
  go_loopw [10] (fun i wr => ∃ (j : Nat) (c : List UInt8 × List Nat), j ≤ N ∧ i = .int .i64 (j : Int) ∧ Hid (runB c (List.replicate (N - j) 1 ++ 0 :: lowB n k) = F) ∧ Hid (okB c) ∧ Hid (c.1.length ≤ 1000000000 + j) ∧ Hid (WR B b c wr) ∧ Hid (Below B w wr)) (fun i _ => N - (intOf i).toNat)
  case atStart => exact ⟨0, s, by omega, rfl, HF, HS.out.2.1, HS.out.2.2, HS.out.1, Below.refl B w⟩
  case round =>
    obtain ⟨j, c, hj, rfl, HF, HO, HL, HW, HB⟩ := hrel
    by_cases hlt : j < N
    · go_wp2_with fail
      refine (bitI B b c 1 _ HW.out HO.out (by omega) (by have := HL.out; omega)).mono ?_
      rintro e w1 ⟨rfl, hw1, hb1⟩
      have HW1 : Hid (WR B b (stepB c 1) w1) := hw1
      have HB1 : Hid (Below B w w1) := HB.out.trans hb1
      clear hw1 hb1
      go_wp2_with fail
      go_roundw
      case rel =>
        refine ⟨j + 1, stepB c 1, by omega, by go_num, ?_, stepB_ok HO.out (by omega), ?_, HW1, HB1⟩
        · show _ = _
          rw [← HF.out, show N - j = (N - (j + 1)) + 1 from by omega, List.replicate_succ]
          rfl
        · have h1 := stepB_len c 1
          have h2 := HL.out
          show _ ≤ _
          omega
      case measure => simp [intOf]; omega
    · have HF1 : Hid (runB (stepB c 0) (lowB n k) = F) := by
        show _ = _
        rw [← HF.out, show N - j = 0 from by omega]
        rfl
      go_wp2_with fail
      refine (bitI B b c 0 _ HW.out HO.out (by omega) (by have := HL.out; omega)).mono ?_
      rintro e w1 ⟨rfl, hw1, hb1⟩
      have HW1 : Hid (WR B b (stepB c 0) w1) := hw1
      have HB1 : Hid (Below B w w1) := HB.out.trans hb1
      have HO1 : Hid (okB (stepB c 0)) := stepB_ok HO.out (by omega)
      have HL1 : Hid ((stepB c 0).1.length ≤ 1000000000 + 60001) := by
        have h1 := stepB_len c 0
        have h2 := HL.out
        show _ ≤ _
        omega
      clear hw1 hb1 HF HW HB HO HL
      obtain ⟨c1, hc1⟩ : ∃ c1, c1 = stepB c 0 := ⟨_, rfl⟩
      rw [← hc1] at HF1 HW1 HO1 HL1
      clear hc1 rsh hj hlt
      go_wp2_with fail
      go_loopw [6] (fun i wr => ∃ (r : Nat) (x : Int) (c : List UInt8 × List Nat), r ≤ k ∧ i = .int .i64 x ∧ Hid (x = (r : Int) - 1) ∧ Hid (runB c (lowB n r) = F) ∧ Hid (okB c) ∧ Hid (c.1.length ≤ 1000070001 - r) ∧ Hid (WR B b c wr) ∧ Hid (Below B w wr)) (fun i _ => (intOf i + 1).toNat)
      case atStart => exact ⟨k, _, c1, by omega, rfl, rfl, HF1, HO1, by have := HL1.out; show _ ≤ _; omega, HW1, HB1⟩
      case round =>
        clear HF1 HO1 HL1 HW1 HB1
        obtain ⟨r, x, c, hr, rfl, HX, HF, HO, HL, HW, HB⟩ := hrel
        rcases r with _ | m
        · have hx : ¬ (0 : Int) ≤ x := by have := HX.out; omega
          have HE : Hid (c = F) := HF.out
          go_wp2_with fail
          go_end0
          rw [← HE.out]
          exact ⟨rfl, HW.out, HB.out⟩
        · obtain rfl : x = (m : Int) := by have := HX.out; omega
          obtain ⟨q, hq⟩ : ∃ q : Nat, q = n / 2 ^ m := ⟨_, rfl⟩
          have rq : (n : Int) / 2 ^ m = (q : Int) := by rw [hq]; simp
          have hqn : q ≤ 60000 := by rw [hq]; exact Nat.le_trans (Nat.div_le_self _ _) hn
          obtain ⟨bt, hbt⟩ : ∃ bt : Nat, bt = q % 2 := ⟨_, rfl⟩
          have hb1 : bt ≤ 1 := by omega
          have rb : bits .and .i64 (q : Int) 1 = (bt : Int) := by
            have := (bits_nat .i64 63 (by decide) (fun m h0 h1 => by rw [IntKind.wrap_i64]; omega) q 1 (by omega) (by omega)).1
            rw [Nat.and_one_is_mod, ← hbt] at this
            exact this
          have rb2 : (q : Int) % 2 = (bt : Int) := by omega
          have HF2 : Hid (runB (stepB c bt) (lowB n m) = F) := by
            show _ = _
            rw [← HF.out, hbt, hq]
            rfl
          have hm0 : (0 : Int) ≤ (m : Int) := by omega
          clear hq hbt HX
          go_wp2_with fail
          refine (bitI B b c bt _ HW.out HO.out hb1 (by have := HL.out; omega)).mono ?_
          rintro e w2 ⟨rfl, hw2, hb2⟩
          have HW2 : Hid (WR B b (stepB c bt) w2) := hw2
          have HB2 : Hid (Below B w w2) := HB.out.trans hb2
          clear hw2 hb2
          go_wp2_with fail
          go_roundw
          case rel =>
            refine ⟨m, _, stepB c bt, by omega, rfl, ?_, HF2, stepB_ok HO.out hb1, ?_, HW2, HB2⟩
            · show _ = _
              first | rfl | omega
            · have h1 := stepB_len c bt
              have h2 := HL.out
              show _ ≤ _
              omega
          case measure => simp [intOf]

end Go.Proofs.YtifpidhoeikdjaaGreatDoor

set_option linter.unusedVariables false
namespace Go.Proofs.YtifpidhoeikdjaaGreatDoor
open Go.RowKit

def manyOf (b : Nat) (w : World) : Nat := match w.cell? ⟨b, 3, none⟩ with
  | some (.int _ z) => if z = 0 then 0 else (8 - z).toNat
  | _ => 0
theorem manyOf_eq {b : Nat} {w : World} {m : Nat} (h : w.cell? ⟨b, 3, none⟩ = some (.int .i64 (m : Int))) : manyOf b w = if m = 0 then 0 else 8 - m := by
  simp only [manyOf, h]
  by_cases h0 : m = 0
  · simp [h0]
  · rw [if_neg (by omega), if_neg h0]; omega
theorem WR.c3 {B b : Nat} {s : List UInt8 × List Nat} {w : World} (h : WR B b s w) : w.cell? ⟨b, 3, none⟩ = some (.int .i64 (s.2.length : Int)) := by
  obtain ⟨_, p, v, _, hw, _⟩ := h
  exact hw.c3

set_option maxHeartbeats 1000000 in
set_option maxRecDepth 100000 in
theorem fillI (B b : Nat) (s : List UInt8 × List Nat) (w : World) (h : WR B b s w) (hok : okB s) (hlen : s.1.length ≤ 1000000000) :
    Calls Tryz.prog 51 #[.pointer (some ⟨b, 0, none⟩)] w fun e w' => e = .returned (.tuple #[]) ∧ WR B b (fillB s, []) w' ∧ Below B w w' := by
  have HS : Hid (WR B b s w ∧ okB s ∧ s.1.length ≤ 1000000000) := ⟨h, hok, hlen⟩
  clear h hok hlen
  go_enter Tryz.func51, Tryz.ntmps51
  go_wp2_with fail
  go_loopw [] (fun wr => ∃ c : List UInt8 × List Nat, Hid (fillB c = fillB s) ∧ Hid (okB c) ∧ Hid (c.1.length ≤ 1000000009 - manyOf b wr) ∧ Hid (WR B b c wr) ∧ Hid (Below B w wr)) (fun wr => manyOf b wr)
  case atStart =>
    refine ⟨s, rfl, HS.out.2.1, ?_, HS.out.1, Below.refl B w⟩
    have h1 := manyOf_eq HS.out.1.c3
    have h2 := HS.out.2.2
    show _ ≤ _
    split at h1 <;> omega
  case round =>
    obtain ⟨c, HF, HO, HL, HW, HB⟩ := hrel
    have c3 := HW.out.c3
    have Hm := manyOf_eq c3
    by_cases h0 : c.2.length = 0
    · have hx : ¬ (0 : Int) < (c.2.length : Int) := by omega
      have HE : Hid (c = (fillB s, [])) := by
        show _ = _
        have h1 : c.2 = [] := List.length_eq_zero_iff.1 h0
        rw [← HF.out, fillB_end h1, ← h1]
      clear h0 Hm
      go_wp2_with fail
      go_end0
      rw [← HE.out]
      exact ⟨rfl, HW.out, HB.out⟩
    · have hx : (0 : Int) < (c.2.length : Int) := by omega
      have HM : Hid (manyOf b wr = 8 - c.2.length) := by show _ = _; rw [Hm, if_neg h0]
      have HN : Hid (¬ c.2.length = 0) := h0
      clear h0 Hm
      go_wp2_with fail
      refine (bitI B b c 0 _ HW.out HO.out (by omega) (by have := HL.out; omega)).mono ?_
      rintro e w1 ⟨rfl, hw1, hb1⟩
      have HW1 : Hid (WR B b (stepB c 0) w1) := hw1
      have HB1 : Hid (Below B w w1) := HB.out.trans hb1
      have HM1 : Hid (manyOf b w1 < 8 - c.2.length) := by
        show _ < _
        have h8 := HO.out.1
        have hn := HN.out
        rw [manyOf_eq hw1.c3]
        unfold stepB
        split
        · simp; omega
        · simp; omega
      have HL1 : Hid ((stepB c 0).1.length ≤ 1000000009 - manyOf b w1) := by
        have h1 := stepB_len c 0
        have h2 := HL.out
        have h3 := HM.out
        have h4 := HM1.out
        show _ ≤ _
        omega
      clear hw1 hb1 c3 hx
      go_wp2_with fail
      go_roundw
      case rel =>
        refine ⟨stepB c 0, ?_, stepB_ok HO.out (by omega), HL1, HW1, HB1⟩
        show _ = _
        rw [← HF.out]
        exact fillB_step HO.out.1 (fun e => HN.out (by rw [e]; rfl))
      case measure => rw [HM.out]; exact HM1.out

end Go.Proofs.YtifpidhoeikdjaaGreatDoor

set_option linter.unusedVariables false
namespace Go.Proofs.YtifpidhoeikdjaaGreatDoor
open Go.RowKit

set_option maxHeartbeats 1000000 in
set_option maxRecDepth 100000 in
theorem bitsOkI (k : Int) (w : World) :
    Calls Tryz.prog 89 #[.int .i64 k] w fun e w' => e = .returned (.bool (bitsOk k)) ∧ w = w' := by
  by_cases h1 : (0 : Int) ≤ k
  · by_cases h2 : k ≤ 8
    · have h3 : bitsOk k = true := decide_eq_true ⟨h1, h2⟩
      rw [h3]
      go_enter Tryz.func89, Tryz.ntmps89
      go_wp2
      go_ret
      exact ⟨rfl, rfl⟩
    · have h3 : bitsOk k = false := decide_eq_false (fun h => h2 h.2)
      have h4 : decide (k ≤ 8) = false := decide_eq_false h2
      rw [h3]
      go_enter Tryz.func89, Tryz.ntmps89
      go_wp2
      go_ret
      exact ⟨rfl, rfl⟩
  · have h3 : bitsOk k = false := decide_eq_false (fun h => h1 h.1)
    have h4 : decide ((0 : Int) ≤ k) = false := decide_eq_false h1
    rw [h3]
    go_enter Tryz.func89, Tryz.ntmps89
    go_wp2
    go_ret
    exact ⟨rfl, rfl⟩

set_option maxHeartbeats 1000000 in
set_option maxRecDepth 100000 in
theorem riceOkI (g n cap : Nat) (zs : List Int) (k : Int) (w : World) (h : At w g zs) (hn : n = zs.length) :
    Calls Tryz.prog 49 #[.slice (some ⟨g, 0, none⟩) n cap, .int .i64 k] w fun e w' => e = .returned (.bool (riceOkB zs k)) ∧ w = w' := by
  have HA : Hid (At w g zs) := h
  have HN : Hid (n = zs.length) := hn
  clear h hn
  by_cases h40 : (40 : Int) < (n : Int)
  · have HF : Hid (riceOkB zs k = false) := by
      show _ = _
      cases hh : riceOkB zs k with
      | false => rfl
      | true => have := riceOk_len hh; have := HN.out; omega
    rw [HF.out]
    go_enter Tryz.func49, Tryz.ntmps49
    go_wp2
    go_ret
    exact ⟨rfl, rfl⟩
  · cases hb : bitsOk k with
    | false =>
      have HF : Hid (riceOkB zs k = false) := by show _ = _; simp [riceOkB, hb]
      rw [HF.out]
      go_enter Tryz.func49, Tryz.ntmps49
      go_wp2_with (go_at_call 89; refine (bitsOkI _ _).mono ?_; rintro e w1 ⟨rfl, rfl⟩)
      go_ret
      exact ⟨rfl, rfl⟩
    | true =>
      have hk := of_decide_eq_true hb
      go_enter Tryz.func49, Tryz.ntmps49
      go_wp2_with (go_at_call 89; refine (bitsOkI _ _).mono ?_; rintro e w1 ⟨rfl, rfl⟩)
      go_loop [17] (fun i => ∃ j : Nat, j ≤ n ∧ i = .int .i64 (j : Int) ∧ Hid (∀ m, m < zs.length → m < j → 0 ≤ zs.getD m 0 ∧ zs.getD m 0 ≤ 60000)) (fun i => n - (intOf i).toNat)
      case atStart => exact ⟨0, by omega, rfl, fun m _ h => by omega⟩
      case round =>
        obtain ⟨j, hj, rfl, HALL⟩ := hrel
        by_cases hlt : j < n
        · have hjz : j < zs.length := by rw [← HN.out]; exact hlt
          have cj := HA.out.2 j hjz
          by_cases hz : 0 ≤ zs.getD j 0 ∧ zs.getD j 0 ≤ 60000
          · have HZ2 : Hid (0 ≤ zs.getD j 0 ∧ zs.getD j 0 ≤ 60000) := hz
            generalize zs.getD j 0 = z at cj hz
            have hz0 : ¬ z < 0 := by omega
            have hz1 : ¬ 60000 < z := by omega
            clear hz hjz
            go_wp2
            go_round
            case rel =>
              refine ⟨j + 1, by omega, by go_num, ?_⟩
              intro m hm hmj
              rcases Nat.lt_or_ge m j with h | h
              · exact HALL.out m hm h
              · obtain rfl : m = j := by omega
                exact HZ2.out
            case measure => simp [intOf]; omega
          · have HNO : Hid (riceOkB zs k = false) := riceOk_no j hjz hz
            generalize zs.getD j 0 = z at cj hz
            by_cases hz0 : z < 0
            · go_wp2
              go_ret
              rw [HNO.out]
              exact ⟨rfl, rfl⟩
            · have hz1 : 60000 < z := by omega
              go_wp2
              go_ret
              rw [HNO.out]
              exact ⟨rfl, rfl⟩
        · have HY : Hid (riceOkB zs k = true) := riceOk_yes (by rw [← HN.out]; omega) hk (fun m hm => HALL.out m hm (by have := HN.out; omega))
          go_wp2
          go_ret
          rw [HY.out]
          exact ⟨rfl, rfl⟩

theorem writerNew (w : World) : WR w.heap.size w.heap.size ([], []) (w.alloc (.cells #[.pointer none, .slice none 0 0, .int .u8 0, .int .i64 0] 67)) :=
  ⟨Nat.le_refl _, _, _, .inl rfl, heap_alloc_new w _, ⟨rfl, .inl ⟨rfl, rfl⟩⟩, by simp [Value.ownBlock], fun _ => rfl⟩

set_option maxHeartbeats 1000000 in
set_option maxRecDepth 100000 in
theorem implRicePut (g n cap : Nat) (zs : List Int) (k : Int) (w : World) (h : At w g zs) (hn : n = zs.length) :
    Calls Tryz.prog 23 #[.slice (some ⟨g, 0, none⟩) n cap, .int .i64 k] w fun e w' => e = .returned (.string ⟨(ricePut zs k).toArray⟩) ∧ Below w.heap.size w w' := by
  have HA : Hid (At w g zs) := h
  have HN : Hid (n = zs.length) := hn
  have hgs := h.1
  clear h hn
  cases hr : riceOkB zs k with
  | false =>
    rw [ricePut_no hr]
    go_enter Tryz.func23, Tryz.ntmps23
    go_wp2_with (go_at_call 49; refine (riceOkI g n cap zs k _ HA.out HN.out).mono ?_; rintro e w1 ⟨rfl, rfl⟩)
    go_ret
    exact ⟨rfl, Below.refl _ _⟩
  | true =>
    rw [ricePut_yes hr]
    have hb := riceOk_bits hr
    obtain ⟨kn, rfl⟩ := Int.eq_ofNat_of_zero_le hb.1
    have hk8 : kn ≤ 8 := by omega
    have hl40 := riceOk_len hr
    have HZ : Hid (∀ i, i < zs.length → 0 ≤ zs.getD i 0 ∧ zs.getD i 0 ≤ 60000) := fun i hi => riceOk_at hr i hi
    have HE : Hid (fillB (upTo kn zs zs.length) = riceB ((kn : Int)).toNat (zs.map Int.toNat)) := by show _ = _; rw [upTo_end, Int.toNat_natCast]
    obtain ⟨R, hR⟩ : ∃ R, R = riceB ((kn : Int)).toNat (zs.map Int.toNat) := ⟨_, rfl⟩
    rw [← hR] at HE ⊢
    have HW0 : Hid (WR w.heap.size w.heap.size (upTo kn zs 0) (w.alloc (.cells #[.pointer none, .slice none 0 0, .int .u8 0, .int .i64 0] 67))) := by rw [upTo_zero]; exact writerNew w
    have HB0 : Hid (Below w.heap.size w (w.alloc (.cells #[.pointer none, .slice none 0 0, .int .u8 0, .int .i64 0] 67))) := (Below.refl _ w).alloc (Nat.le_refl _) _
    clear hR hb
    go_enter Tryz.func23, Tryz.ntmps23
    go_wp2_with (go_at_call 49; refine (riceOkI g n cap zs _ _ HA.out HN.out).mono ?_; rintro e w1 ⟨rfl, rfl⟩)
    clear hr
    have hn40 : n ≤ 40 := by rw [HN.out]; exact hl40
    have HL : Hid (∀ i, (upTo kn zs i).1.length ≤ 10000000) := fun i => upTo_len hk8 hl40 HZ.out i
    go_loopw [14] (fun i wr => ∃ j : Nat, j ≤ n ∧ i = .int .i64 (j : Int) ∧ Hid (WR w.heap.size w.heap.size (upTo kn zs j) wr) ∧ Hid (Below w.heap.size w wr)) (fun i _ => n - (intOf i).toNat)
    case atStart => exact ⟨0, by omega, rfl, HW0, HB0⟩
    case round =>
      clear HW0 HB0
      obtain ⟨j, hj, rfl, HW, HB⟩ := hrel
      by_cases hlt : j < n
      · have hjz : j < zs.length := by rw [← HN.out]; exact hlt
        have HJN : Hid (j + 1 ≤ n) := hlt
        have cj := (HA.out.below HB.out hgs).2 j hjz
        have hz := HZ.out j hjz
        have HS : Hid (upTo kn zs (j + 1) = runB (upTo kn zs j) (numB kn (zs.getD j 0).toNat)) := upTo_succ kn zs j hjz
        generalize zs.getD j 0 = z at cj hz HS
        obtain ⟨zn, rfl⟩ := Int.eq_ofNat_of_zero_le hz.1
        rw [Int.toNat_natCast] at HS
        have hzn : zn ≤ 60000 := by omega
        clear hz hjz
        go_wp2_with fail
        refine (numberI w.heap.size w.heap.size (upTo kn zs j) zn kn _ HW.out (upTo_ok _ _ _) hzn hk8 (by have := HL.out j; omega)).mono ?_
        rintro e w2 ⟨rfl, hw2, hb2⟩
        have HW2 : Hid (WR w.heap.size w.heap.size (upTo kn zs (j + 1)) w2) := by rw [HS.out]; exact hw2
        have HB2 : Hid (Below w.heap.size w w2) := HB.out.trans hb2
        clear hw2 hb2 cj
        go_wp2_with fail
        go_roundw
        case rel => exact ⟨j + 1, HJN.out, by go_num, HW2, HB2⟩
        case measure => have := HJN.out; simp [intOf]; omega
      · have HJ : Hid (upTo kn zs j = upTo kn zs zs.length) := by
          show _ = _
          rw [show j = zs.length from by rw [← HN.out]; omega]
        go_wp2_with fail
        refine (fillI w.heap.size w.heap.size (upTo kn zs j) _ HW.out (upTo_ok _ _ _) (by have := HL.out j; omega)).mono ?_
        rintro e w2 ⟨rfl, hw2, hb2⟩
        rw [HJ.out, HE.out] at hw2
        have HW2 : Hid (WR w.heap.size w.heap.size (R, []) w2) := hw2
        have HB2 : Hid (Below w.heap.size w w2) := HB.out.trans hb2
        clear hw2 hb2
        go_wp2_with fail
        refine (stringW w.heap.size w.heap.size R _ _ _ HW2.out).mono ?_
        rintro e w3 ⟨rfl, hb3⟩
        go_wp2_with fail
        go_ret
        exact ⟨rfl, HB2.out.trans hb3⟩

end Go.Proofs.YtifpidhoeikdjaaGreatDoor

set_option linter.unusedVariables false
namespace Go.Proofs.YtifpidhoeikdjaaGreatDoor
open Go.RowKit

theorem SB.lt {B b : Nat} {s : List UInt8 × List Nat} {w : World} (h : SB B b s w) : b < w.heap.size := by
  obtain ⟨_, v, u, h, _⟩ := h; exact h.lt

set_option maxHeartbeats 1000000 in
set_option maxRecDepth 100000 in
theorem numberS (B b : Nat) (s : List UInt8 × List Nat) (n k : Nat) (w : World) (h : SB B b s w) (hok : okB s) (hn : n ≤ 60000) (hk : k ≤ 8) (hlen : s.1.length ≤ 100000000) :
    Calls Tryz.prog 61 #[.pointer (some ⟨b, 0, none⟩), .int .i64 (n : Int), .int .i64 (k : Int)] w fun e w' => e = .returned (.tuple #[]) ∧ SB B b (runB s (lowB n k)) w' ∧ Below B w w' := by
  obtain ⟨F, hF⟩ : ∃ F, F = runB s (lowB n k) := ⟨_, rfl⟩
  rw [← hF]
  have HF1 : Hid (runB s (lowB n k) = F) := hF.symm
  have HS : Hid (SB B b s w ∧ okB s ∧ s.1.length ≤ 100000000) := ⟨h, hok, hlen⟩
  clear hF h hok hlen
  go_enter Tryz.func61, Tryz.ntmps61
  go_wp2_with fail
  go_loopw [6] (fun i wr => ∃ (r : Nat) (x : Int) (c : List UInt8 × List Nat), r ≤ k ∧ i = .int .i64 x ∧ Hid (x = (r : Int) - 1) ∧ Hid (runB c (lowB n r) = F) ∧ Hid (okB c) ∧ Hid (c.1.length ≤ 100000010 - r) ∧ Hid (SB B b c wr) ∧ Hid (Below B w wr)) (fun i _ => (intOf i + 1).toNat)
  case atStart => exact ⟨k, _, s, by omega, rfl, rfl, HF1, HS.out.2.1, by have := HS.out.2.2; show _ ≤ _; omega, HS.out.1, Below.refl B w⟩
  case round =>
    clear HF1 HS
    obtain ⟨r, x, c, hr, rfl, HX, HF, HO, HL, HW, HB⟩ := hrel
    rcases r with _ | m
    · have hx : ¬ (0 : Int) ≤ x := by have := HX.out; omega
      have HE : Hid (c = F) := HF.out
      go_wp2_with fail
      go_end0
      rw [← HE.out]
      exact ⟨rfl, HW.out, HB.out⟩
    · obtain rfl : x = (m : Int) := by have := HX.out; omega
      obtain ⟨q, hq⟩ : ∃ q : Nat, q = n / 2 ^ m := ⟨_, rfl⟩
      have rq : (n : Int) / 2 ^ m = (q : Int) := by rw [hq]; simp
      have hqn : q ≤ 60000 := by rw [hq]; exact Nat.le_trans (Nat.div_le_self _ _) hn
      obtain ⟨bt, hbt⟩ : ∃ bt : Nat, bt = q % 2 := ⟨_, rfl⟩
      have hb1 : bt ≤ 1 := by omega
      have rb2 : (q : Int) % 2 = (bt : Int) := by omega
      have HF2 : Hid (runB (stepB c bt) (lowB n m) = F) := by
        show _ = _
        rw [← HF.out, hbt, hq]
        rfl
      have hm0 : (0 : Int) ≤ (m : Int) := by omega
      clear hq hbt HX
      go_wp2_with fail
      refine (putS B b c bt _ HW.out HO.out hb1 (by have := HL.out; omega)).mono ?_
      rintro e w2 ⟨rfl, hw2, hb2⟩
      have HW2 : Hid (SB B b (stepB c bt) w2) := hw2
      have HB2 : Hid (Below B w w2) := HB.out.trans hb2
      clear hw2 hb2
      go_wp2_with fail
      go_roundw
      case rel =>
        refine ⟨m, _, stepB c bt, by omega, rfl, ?_, HF2, stepB_ok HO.out hb1, ?_, HW2, HB2⟩
        · show _ = _
          first | rfl | omega
        · have h1 := stepB_len c bt
          have h2 := HL.out
          show _ ≤ _
          omega
      case measure => simp [intOf]

theorem convBack {B : Nat} {v : Value} {l : List UInt8} {w : World} (h : w.ownsRow B 5 1 v l.length (Lib.byteCells l)) : (convert 28 9 v).run Tryz.prog w = .ok (.string ⟨l.toArray⟩) w := by
  rcases h.2 with ⟨h1, h2⟩ | ⟨g, cap, cur, hv, _, hc, _, _, _, ht⟩
  · obtain rfl : l = [] := List.length_eq_zero_iff.1 h2
    rw [h1]
    exact Lib.run_convert_nil_bytes w 28 9 5 0 Tryz.underlying28 Tryz.underlying5 Tryz.underlying9
  · rw [hv]
    refine run_convert_bytes_back (P := Tryz.prog) w 28 9 5 ⟨g, 0, none⟩ cap l Tryz.underlying28 Tryz.underlying5 Tryz.underlying9 ?_
    intro j hj
    rw [Addr.add_mid, Nat.zero_add, Lib.cell_of_heap hc, ← Array.getElem?_toList]
    have h3 : cur.toList[j]? = (Lib.byteCells l)[j]? := by rw [← ht, List.getElem?_take]; simp [hj]
    rw [h3]
    simp [Lib.byteCells, List.getElem?_eq_getElem hj]
/-- How many bits wait, out of the block. -/
def waits (b : Nat) (w : World) : Nat := match w.cell? ⟨b, 1, none⟩ with
  | some (.slice _ n _) => if n = 0 then 0 else 8 - n
  | _ => 0
theorem SB.c1 {B b : Nat} {s : List UInt8 × List Nat} {w : World} (h : SB B b s w) : ∃ a cap, w.cell? ⟨b, 1, none⟩ = some (.slice a s.2.length cap) := by
  obtain ⟨_, v, u, hs, _, hl⟩ := h
  rcases hl.2 with ⟨h1, h2⟩ | ⟨g, cap, cur, hv, _⟩
  · exact ⟨none, 0, by rw [hs.c1, h1, h2]⟩
  · exact ⟨_, cap, by rw [hs.c1, hv]⟩
theorem waits_eq {B b : Nat} {s : List UInt8 × List Nat} {w : World} (h : SB B b s w) : waits b w = if s.2.length = 0 then 0 else 8 - s.2.length := by
  obtain ⟨a, cap, hc⟩ := h.c1
  simp only [waits, hc]

set_option maxHeartbeats 1000000 in
set_option maxRecDepth 100000 in
theorem endS (B b : Nat) (s : List UInt8 × List Nat) (w : World) (h : SB B b s w) (hok : okB s) (hlen : s.1.length ≤ 100000000) :
    Calls Tryz.prog 62 #[.pointer (some ⟨b, 0, none⟩)] w fun e w' => e = .returned (.string ⟨(fillB s).toArray⟩) ∧ Below B w w' := by
  have HS : Hid (SB B b s w ∧ okB s ∧ s.1.length ≤ 100000000) := ⟨h, hok, hlen⟩
  clear h hok hlen
  go_enter Tryz.func62, Tryz.ntmps62
  go_wp2_with fail
  go_loopw [] (fun wr => ∃ c : List UInt8 × List Nat, Hid (fillB c = fillB s) ∧ Hid (okB c) ∧ Hid (c.1.length ≤ 100000009 - waits b wr) ∧ Hid (SB B b c wr) ∧ Hid (Below B w wr)) (fun wr => waits b wr)
  case atStart =>
    refine ⟨s, rfl, HS.out.2.1, ?_, HS.out.1, Below.refl B w⟩
    have h1 := waits_eq HS.out.1
    have h2 := HS.out.2.2
    show _ ≤ _
    split at h1 <;> omega
  case round =>
    obtain ⟨c, HF, HO, HL, HW, HB⟩ := hrel
    obtain ⟨a1, cap1, c1⟩ := HW.out.c1
    have Hm := waits_eq HW.out
    by_cases h0 : c.2.length = 0
    · have hx : ¬ (0 : Int) < (c.2.length : Int) := by omega
      have HE : Hid (fillB s = c.1) := by
        show _ = _
        rw [← HF.out, fillB_end (List.length_eq_zero_iff.1 h0)]
      clear h0 Hm
      obtain ⟨hB, v, u, hs, ho, hl⟩ := HW.out
      have c0 := hs.c0
      have HO2 : Hid (wr.ownsRow B 5 1 v c.1.length (Lib.byteCells c.1)) := ho
      have hcv := convBack ho
      clear hs ho hl
      go_wp2_with fail
      go_ret
      rw [HE.out]
      exact ⟨rfl, HB.out⟩
    · have hx : (0 : Int) < (c.2.length : Int) := by omega
      have HM : Hid (waits b wr = 8 - c.2.length) := by show _ = _; rw [Hm, if_neg h0]
      have HN : Hid (¬ c.2.length = 0) := h0
      clear h0 Hm
      go_wp2_with fail
      refine (putS B b c 0 _ HW.out HO.out (by omega) (by have := HL.out; omega)).mono ?_
      rintro e w1 ⟨rfl, hw1, hb1⟩
      have HW1 : Hid (SB B b (stepB c 0) w1) := hw1
      have HB1 : Hid (Below B w w1) := HB.out.trans hb1
      have HM1 : Hid (waits b w1 < 8 - c.2.length) := by
        show _ < _
        have h8 := HO.out.1
        have hn := HN.out
        rw [waits_eq hw1]
        unfold stepB
        split
        · simp; omega
        · simp; omega
      have HL1 : Hid ((stepB c 0).1.length ≤ 100000009 - waits b w1) := by
        have h1 := stepB_len c 0
        have h2 := HL.out
        have h3 := HM.out
        have h4 := HM1.out
        show _ ≤ _
        omega
      clear hw1 hb1 c1 hx
      go_wp2_with fail
      go_roundw
      case rel =>
        refine ⟨stepB c 0, ?_, stepB_ok HO.out (by omega), HL1, HW1, HB1⟩
        show _ = _
        rw [← HF.out]
        exact fillB_step HO.out.1 (fun e => HN.out (by rw [e]; rfl))
      case measure => rw [HM.out]; exact HM1.out

end Go.Proofs.YtifpidhoeikdjaaGreatDoor

