/-
  Texts that the last part needs, joined.
-/
import Derived.Test.YtgnnfljobgbpbaaDoorPart1
import Derived.Test.YtgnnfljobgbpbaaDoorPart2
import Derived.Test.YtgnnfljobgbpbaaDoorPart3
import Derived.Deep.RegionHeld3
import Derived.Laws.ResultCell
import Derived.OwnWalk
import Derived.Test.YtgnnfljobgbpbaaDoorProg
import Derived.WalkKit
import Derived.Below
import Derived.Laws.Rows
import Derived.Lib.FrozenHead2
import Derived.Laws.MakeOwn
import Derived.ChangeArms
import Derived.WideShapes
import Derived.OpenShut
import Derived.Deep.Slices
import Derived.DataReads
import Derived.ProofKit
import Derived.ShutString
import Derived.ChangeOld
import Derived.BigRegion
import Derived.Deep.RegionWith
import Derived.Deep.OwnRows
import Derived.Laws.NewBlocks

set_option linter.unusedVariables false
namespace Go.Proofs.YtgnnfljobgbpbaaDoor
open Go.RowKit

theorem size8 : (Tryd.prog.info? 101).map (·.size) = some 8 := by kernel_rfl
theorem run_storeCellsU {P : Program} {T : TypeId} {w : World} {g : Nat} {m : List Nat} (h : RowU T w g m) (l : List Nat) (hl : l.length = m.length) :
    (storeCells ⟨g, 0, none⟩ (uCells l).toList).run P w = .ok () (w.setCells g 0 (uCells l).toList) := by
  have ht := h.there _ hl
  have := run_storeCells_cells (P := P) g 0 (uCells l).toList 0 w (fun j hj => by simpa using (ht j (by simpa [uCells_size] using hj)).1) (fun j hj => by simpa using (ht j (by simpa [uCells_size] using hj)).2)
    (fun v hv => (Array.all_eq_true_iff_forall_mem.1 (uCells_one l)) v (by simpa using hv))
  simpa using this
theorem zerosU8 : #[Value.int .u32 0, Value.int .u32 0, Value.int .u32 0, Value.int .u32 0, Value.int .u32 0, Value.int .u32 0, Value.int .u32 0, Value.int .u32 0] = uCells (List.replicate 8 0) := rfl
theorem sizeW : (Tryd.prog.info? 100).map (·.size) = some 1 := by kernel_rfl
theorem indexU (ws : List Nat) (hl : ws.length = 64) (k : Nat) (hk : k < 64) (w : World) : (Instr.index 104 (.agg (uCells ws)) (.int .i64 (k : Int))).run Tryd.prog w = .ok (.int .u32 ((ws.getD k 0 : Nat) : Int)) w := by
  have hat := uCells_at ws k (by omega)
  cases hq : Tryd.prog.info? 100 with
  | none => have := sizeW; simp [hq] at this
  | some i =>
    have hs : i.size = 1 := by have := sizeW; simpa [hq] using this
    simp [Instr.index, asIntOf, Sem.run_bind, run_underlying Tryd.underlying104, part, isAgg, run_underlying Tryd.underlying100, sizeOf, typeInfo, hq, hs, hat]
    intro h64; omega
/-- The four blocks that the call lays: the state, the words, the answer's place, the state at work. -/
def Laid4 (T8 T64 : TypeId) (n : Nat) (s : St) (ws : List Nat) (t : St) (w w' : World) : Prop :=
  RowU T8 w' n s.toL ∧ RowU T8 w' (n + 1 + 1) (List.replicate 8 0) ∧ RowU T8 w' (n + 1 + 1 + 1) t.toL ∧ Below n w w'
theorem laid4 (T8 T64 : TypeId) (s : St) (ws : List Nat) (w : World) :
    RowU T8 ((((w.alloc (.cells (uCells s.toL) T8)).alloc (.cells (uCells ws) T64)).alloc (.cells (uCells (List.replicate 8 0)) T8)).alloc (.cells (uCells (List.replicate 8 0)) T8)) (w.heap.size + 1 + 1 + 1) (List.replicate 8 0) ∧
    Laid4 T8 T64 w.heap.size s ws s w (((((w.alloc (.cells (uCells s.toL) T8)).alloc (.cells (uCells ws) T64)).alloc (.cells (uCells (List.replicate 8 0)) T8)).alloc (.cells (uCells (List.replicate 8 0)) T8)).setCells (w.heap.size + 1 + 1 + 1) 0 (uCells s.toL).toList) ∧
    RowU T64 (((((w.alloc (.cells (uCells s.toL) T8)).alloc (.cells (uCells ws) T64)).alloc (.cells (uCells (List.replicate 8 0)) T8)).alloc (.cells (uCells (List.replicate 8 0)) T8)).setCells (w.heap.size + 1 + 1 + 1) 0 (uCells s.toL).toList) (w.heap.size + 1) ws ∧
    RowU T8 (((w.alloc (.cells (uCells s.toL) T8)).alloc (.cells (uCells ws) T64)).alloc (.cells (uCells (List.replicate 8 0)) T8)) w.heap.size s.toL := by
  obtain ⟨w1, h1⟩ : ∃ x, x = w.alloc (.cells (uCells s.toL) T8) := ⟨_, rfl⟩
  have s1 : w1.heap.size = w.heap.size + 1 := by rw [h1]; simp
  have r1 : RowU T8 w1 w.heap.size s.toL := by rw [h1]; exact heap_alloc_new w _
  have b1 : Below w.heap.size w w1 := by rw [h1]; exact (Below.refl _ w).alloc (Nat.le_refl _) _
  rw [← h1]
  obtain ⟨w2, h2⟩ : ∃ x, x = w1.alloc (.cells (uCells ws) T64) := ⟨_, rfl⟩
  have s2 : w2.heap.size = w.heap.size + 1 + 1 := by rw [h2]; simp [s1]
  have r2 : RowU T64 w2 (w.heap.size + 1) ws := by rw [h2, ← s1]; exact heap_alloc_new w1 _
  have r21 : RowU T8 w2 w.heap.size s.toL := by rw [h2]; exact r1.keep (Below.heap_alloc _ _ _ (by omega))
  have b2 : Below w.heap.size w w2 := by rw [h2]; exact b1.alloc (by omega) _
  rw [← h2]
  obtain ⟨w3, h3⟩ : ∃ x, x = w2.alloc (.cells (uCells (List.replicate 8 0)) T8) := ⟨_, rfl⟩
  have s3 : w3.heap.size = w.heap.size + 1 + 1 + 1 := by rw [h3]; simp [s2]
  have r3 : RowU T8 w3 (w.heap.size + 1 + 1) (List.replicate 8 0) := by rw [h3, ← s2]; exact heap_alloc_new w2 _
  have r32 : RowU T64 w3 (w.heap.size + 1) ws := by rw [h3]; exact r2.keep (Below.heap_alloc _ _ _ (by omega))
  have r31 : RowU T8 w3 w.heap.size s.toL := by rw [h3]; exact r21.keep (Below.heap_alloc _ _ _ (by omega))
  have b3 : Below w.heap.size w w3 := by rw [h3]; exact b2.alloc (by omega) _
  rw [← h3]
  obtain ⟨w4, h4⟩ : ∃ x, x = w3.alloc (.cells (uCells (List.replicate 8 0)) T8) := ⟨_, rfl⟩
  have r4 : RowU T8 w4 (w.heap.size + 1 + 1 + 1) (List.replicate 8 0) := by rw [h4, ← s3]; exact heap_alloc_new w3 _
  have r43 : RowU T8 w4 (w.heap.size + 1 + 1) (List.replicate 8 0) := by rw [h4]; exact r3.keep (Below.heap_alloc _ _ _ (by omega))
  have r42 : RowU T64 w4 (w.heap.size + 1) ws := by rw [h4]; exact r32.keep (Below.heap_alloc _ _ _ (by omega))
  have r41 : RowU T8 w4 w.heap.size s.toL := by rw [h4]; exact r31.keep (Below.heap_alloc _ _ _ (by omega))
  have b4 : Below w.heap.size w w4 := by rw [h4]; exact b3.alloc (by omega) _
  rw [← h4]
  refine ⟨r4, ⟨r41.keep (heap_setCells_other _ _ _ _ _ (by omega)), r43.keep (heap_setCells_other _ _ _ _ _ (by omega)), r4.over (by simp [St.toL]), Below.setCells b4 (by omega) _ _⟩, r42.keep (heap_setCells_other _ _ _ _ _ (by omega)), r31⟩

theorem Rows3.set {T8 : TypeId} {n : Nat} {ls l lz : List Nat} {w wr : World} (h : RowU T8 wr n ls ∧ RowU T8 wr (n + 1 + 1) lz ∧ RowU T8 wr (n + 1 + 1 + 1) l ∧ Below n w wr) (i v : Nat) :
    RowU T8 (wr.setCell ⟨n + 1 + 1 + 1, i, none⟩ (.int .u32 (v : Int))) n ls ∧ RowU T8 (wr.setCell ⟨n + 1 + 1 + 1, i, none⟩ (.int .u32 (v : Int))) (n + 1 + 1) lz ∧ RowU T8 (wr.setCell ⟨n + 1 + 1 + 1, i, none⟩ (.int .u32 (v : Int))) (n + 1 + 1 + 1) (l.set i v) ∧ Below n w (wr.setCell ⟨n + 1 + 1 + 1, i, none⟩ (.int .u32 (v : Int))) :=
  ⟨h.1.keep (Below.heap_setCell _ _ _ _ (by show _ ≠ n + 1 + 1 + 1; omega)), h.2.1.keep (Below.heap_setCell _ _ _ _ (by show _ ≠ n + 1 + 1 + 1; omega)), h.2.2.1.set i v, h.2.2.2.setCell (p := ⟨n + 1 + 1 + 1, i, none⟩) (by show n ≤ n + 1 + 1 + 1; omega) _⟩
theorem Laid4.over {T8 T64 : TypeId} {n : Nat} {s t : St} {ws : List Nat} {w wr : World} (h : Laid4 T8 T64 n s ws t w wr) (v0 v1 v2 v3 v4 v5 v6 v7 : Nat) :
    Laid4 T8 T64 n s ws ⟨v0, v1, v2, v3, v4, v5, v6, v7⟩ w ((((((((wr.setCell ⟨n + 1 + 1 + 1, 0, none⟩ (.int .u32 (v0 : Int))).setCell ⟨n + 1 + 1 + 1, 1, none⟩ (.int .u32 (v1 : Int))).setCell ⟨n + 1 + 1 + 1, 2, none⟩ (.int .u32 (v2 : Int))).setCell ⟨n + 1 + 1 + 1, 3, none⟩ (.int .u32 (v3 : Int))).setCell ⟨n + 1 + 1 + 1, 4, none⟩ (.int .u32 (v4 : Int))).setCell ⟨n + 1 + 1 + 1, 5, none⟩ (.int .u32 (v5 : Int))).setCell ⟨n + 1 + 1 + 1, 6, none⟩ (.int .u32 (v6 : Int))).setCell ⟨n + 1 + 1 + 1, 7, none⟩ (.int .u32 (v7 : Int))).drew.drew := by
  have := Rows3.set (Rows3.set (Rows3.set (Rows3.set (Rows3.set (Rows3.set (Rows3.set (Rows3.set h 0 v0) 1 v1) 2 v2) 3 v3) 4 v4) 5 v5) 6 v6) 7 v7
  exact ⟨this.1.drew.drew, this.2.1.drew.drew, this.2.2.1.drew.drew, this.2.2.2.drew.drew⟩

def plusTo (s t : St) (k : Nat) : List Nat := (s.plus t).toL.take k ++ s.toL.drop k
theorem plusTo_length (s t : St) (k : Nat) (h : k ≤ 8) : (plusTo s t k).length = 8 := by
  simp [plusTo, St.toL]; omega
theorem plusTo_at (s t : St) (k : Nat) (h : k < 8) : (plusTo s t k).getD k 0 = s.toL.getD k 0 := by
  match k, h with
  | 0, _ | 1, _ | 2, _ | 3, _ | 4, _ | 5, _ | 6, _ | 7, _ => rfl
theorem plusTo_set (s t : St) (k : Nat) (h : k < 8) (v : Nat) (hv : v = (s.toL.getD k 0 + t.toL.getD k 0) % 4294967296) : (plusTo s t k).set k v = plusTo s t (k + 1) := by
  subst hv
  match k, h with
  | 0, _ | 1, _ | 2, _ | 3, _ | 4, _ | 5, _ | 6, _ | 7, _ => rfl

set_option maxHeartbeats 1000000 in
set_option maxRecDepth 100000 in
theorem nextI (ms ws : List Nat) (s : St) (hs : s.ok) (w : World) (hms : RowG w ms) (hml : ms.length = 64) (hmm : ∀ x ∈ ms, x < 4294967296) (hwl : ws.length = 64) (hww : ∀ x ∈ ws, x < 4294967296) :
    Calls Tryd.prog 84 #[.agg (uCells s.toL), .agg (uCells ws)] w fun e w' => e = .returned (.agg (uCells (s.plus (rounds ms ws s 64)).toL)) ∧ Below w.heap.size w w' := by
  have Z : Hid (_ ∧ _ ∧ _ ∧ _) := laid4 101 104 s ws w
  go_enter Tryd.func84, Tryd.ntmps84
  go_upto_region 1 with fail
  refine wp_region_list ?_
  refine wpList_load_mid rfl 101 _ rfl w.heap.size 0 rfl (uCells s.toL).toList _ ?_ Tryd.underlying101 rfl (by rw [size8, Array.length_toList, uCells_size]; rfl) ?_
  · exact Z.out.2.2.2.range
  rw [Array.toArray_toList]
  go_wp2
  obtain ⟨z1, z2, z3, z4⟩ := Z.out
  rw [zerosU8, run_storeCellsU z1 s.toL rfl]
  obtain ⟨W, hW⟩ : ∃ W, W = (((((w.alloc (.cells (uCells s.toL) 101)).alloc (.cells (uCells ws) 104)).alloc (.cells (uCells (List.replicate 8 0)) 101)).alloc (.cells (uCells (List.replicate 8 0)) 101)).setCells (w.heap.size + 1 + 1 + 1) 0 (uCells s.toL).toList) := ⟨_, rfl⟩
  rw [← hW] at z2 z3 ⊢
  clear hW z1 z4 Z
  have Hmm : Hid (∀ x ∈ ms, x < 4294967296) := hmm
  have Hww : Hid (∀ x ∈ ws, x < 4294967296) := hww
  have HZ : Hid (Laid4 101 104 w.heap.size s ws s w W) := z2
  clear hmm hww z2
  go_upto_region 2 with fail
  refine wp_region_list ?_
  refine wpList_load_mid rfl 104 _ rfl (w.heap.size + 1) 0 rfl (uCells ws).toList _ z3.range Tryd.underlying104 rfl (by rw [size64, Array.length_toList, uCells_size, hwl]) ?_
  rw [Array.toArray_toList]
  clear z3
  go_wp2
  go_loopw [13] (fun i wr => ∃ k : Nat, k ≤ 64 ∧ i = .int .i64 (k : Int) ∧ Hid (Laid4 101 104 w.heap.size s ws (rounds ms ws s k) w wr)) (fun i _ => 64 - (intOf i).toNat)
  case atStart => exact ⟨0, by omega, rfl, HZ⟩
  case round =>
    clear HZ
    obtain ⟨k, hk, rfl, HR⟩ := hrel
    by_cases hlt : k < 64
    · have hok := rounds_ok ms ws s hs k
      obtain ⟨t, ht⟩ : ∃ t, t = rounds ms ws s k := ⟨_, rfl⟩
      rw [← ht] at HR hok
      have HT : Hid (t = rounds ms ws s k) := ht
      clear ht
      obtain ⟨a, b, c, d, e, f, g, h⟩ := t
      obtain ⟨la, lb, lc, ld, le, lf, lg, lh⟩ := hok
      simp only at la lb lc ld le lf lg lh
      have hr := HR.out.2.2.1
      have c0 : wr.cell? ⟨w.heap.size + 1 + 1 + 1, 0, none⟩ = some (.int .u32 (a : Int)) := hr.cell 0 (by show _ < 8; decide)
      have c1 : wr.cell? ⟨w.heap.size + 1 + 1 + 1, 1, none⟩ = some (.int .u32 (b : Int)) := hr.cell 1 (by show _ < 8; decide)
      have c2 : wr.cell? ⟨w.heap.size + 1 + 1 + 1, 2, none⟩ = some (.int .u32 (c : Int)) := hr.cell 2 (by show _ < 8; decide)
      have c3 : wr.cell? ⟨w.heap.size + 1 + 1 + 1, 3, none⟩ = some (.int .u32 (d : Int)) := hr.cell 3 (by show _ < 8; decide)
      have c4 : wr.cell? ⟨w.heap.size + 1 + 1 + 1, 4, none⟩ = some (.int .u32 (e : Int)) := hr.cell 4 (by show _ < 8; decide)
      have c5 : wr.cell? ⟨w.heap.size + 1 + 1 + 1, 5, none⟩ = some (.int .u32 (f : Int)) := hr.cell 5 (by show _ < 8; decide)
      have c6 : wr.cell? ⟨w.heap.size + 1 + 1 + 1, 6, none⟩ = some (.int .u32 (g : Int)) := hr.cell 6 (by show _ < 8; decide)
      have c7 : wr.cell? ⟨w.heap.size + 1 + 1 + 1, 7, none⟩ = some (.int .u32 (h : Int)) := hr.cell 7 (by show _ < 8; decide)
      have f0 := hr.frozen 0
      have f1 := hr.frozen 1
      have f2 := hr.frozen 2
      have f3 := hr.frozen 3
      have f4 := hr.frozen 4
      have f5 := hr.frozen 5
      have f6 := hr.frozen 6
      have f7 := hr.frozen 7
      clear hr
      obtain ⟨m, hm⟩ : ∃ m, m = ms.getD k 0 := ⟨_, rfl⟩
      obtain ⟨x, hx⟩ : ∃ x, x = ws.getD k 0 := ⟨_, rfl⟩
      have lm : m < 4294967296 := by rw [hm]; exact getD_lt Hmm.out _
      have lx : x < 4294967296 := by rw [hx]; exact getD_lt Hww.out _
      have cm : wr.cell? ⟨0, k, none⟩ = some (.int .u32 (m : Int)) := by
        rw [HR.out.2.2.2.cell (p := ⟨0, k, none⟩) hms.lt, hm]
        exact hms.cell k (by omega)
      have cx : ∀ w : World, (Instr.index 104 (.agg (uCells ws)) (.int .i64 (k : Int))).run Tryd.prog w = .ok (.int .u32 (x : Int)) w := by intro w; rw [hx]; exact indexU ws hwl k hlt w
      have lk : (k : Int) < 64 := by omega
      obtain ⟨v1, hv1⟩ : ∃ v : Nat, v = (h + big1 e + chs e f g + m + x) % 4294967296 := ⟨_, rfl⟩
      obtain ⟨v2, hv2⟩ : ∃ v : Nat, v = (big0 a + maj a b c) % 4294967296 := ⟨_, rfl⟩
      obtain ⟨v3, hv3⟩ : ∃ v : Nat, v = (v1 + v2) % 4294967296 := ⟨_, rfl⟩
      obtain ⟨v4, hv4⟩ : ∃ v : Nat, v = (d + v1) % 4294967296 := ⟨_, rfl⟩
      have r1 : IntKind.u32.wrap (IntKind.u32.wrap (IntKind.u32.wrap (IntKind.u32.wrap ((h : Int) + ((big1 e : Nat) : Int)) + ((chs e f g : Nat) : Int)) + (m : Int)) + (x : Int)) = (v1 : Int) := by
        rw [hv1]; simp only [IntKind.wrap_u32]; omega
      have r2 : IntKind.u32.wrap (((big0 a : Nat) : Int) + ((maj a b c : Nat) : Int)) = (v2 : Int) := by
        rw [hv2]; simp only [IntKind.wrap_u32]; omega
      have r3 : IntKind.u32.wrap ((v1 : Int) + (v2 : Int)) = (v3 : Int) := by
        rw [hv3]; simp only [IntKind.wrap_u32]; omega
      have r4 : IntKind.u32.wrap ((d : Int) + (v1 : Int)) = (v4 : Int) := by
        rw [hv4]; simp only [IntKind.wrap_u32]; omega
      have HN : Hid ((⟨v3, a, b, c, v4, e, f, g⟩ : St) = rounds ms ws s (k + 1)) := by
        show _ = _
        rw [rounds, ← HT.out, St.step, ← hm, ← hx, hv3, hv4, hv1, hv2]
        simp only [St.mk.injEq, true_and, and_true]
        omega
      clear hv1 hv2 hv3 hv4 hm hx hms HT
      go_wp2_with fail
      go_region_held2 (fun W => W.cell? ⟨w.heap.size + 1 + 1 + 1, 7, none⟩ = some (.int .u32 (h : Int)) ∧ W.cell? ⟨w.heap.size + 1 + 1 + 1, 4, none⟩ = some (.int .u32 (e : Int)) ∧ W.cell? ⟨w.heap.size + 1 + 1 + 1, 5, none⟩ = some (.int .u32 (f : Int)) ∧ W.cell? ⟨w.heap.size + 1 + 1 + 1, 6, none⟩ = some (.int .u32 (g : Int)) ∧ W.cell? ⟨0, k, none⟩ = some (.int .u32 (m : Int))) (exact ⟨c7, c4, c5, c6, cm⟩) (first | (go_at_call 110; refine (fifthI _ _ le).mono ?_; rintro e w1 ⟨rfl, rfl⟩) | (go_at_call 111; refine (chooseI _ _ _ _ le lf lg).mono ?_; rintro e w1 ⟨rfl, rfl⟩))
      go_wp2_with fail
      go_region_held2 (fun W => W.cell? ⟨w.heap.size + 1 + 1 + 1, 0, none⟩ = some (.int .u32 (a : Int)) ∧ W.cell? ⟨w.heap.size + 1 + 1 + 1, 1, none⟩ = some (.int .u32 (b : Int)) ∧ W.cell? ⟨w.heap.size + 1 + 1 + 1, 2, none⟩ = some (.int .u32 (c : Int))) (exact ⟨c0, c1, c2⟩) (first | (go_at_call 112; refine (firstI _ _ la).mono ?_; rintro e w1 ⟨rfl, rfl⟩) | (go_at_call 113; refine (mostI _ _ _ _ la lb lc).mono ?_; rintro e w1 ⟨rfl, rfl⟩))
      go_wp2
      go_roundw
      case rel =>
        refine ⟨k + 1, by omega, by go_num, ?_⟩
        have := HR.out.over v3 a b c v4 e f g
        rw [HN.out] at this
        exact this
      case measure => simp [intOf]; omega
    · obtain ⟨t, ht⟩ : ∃ t, t = rounds ms ws s 64 := ⟨_, rfl⟩
      have hk64 : k = 64 := by omega
      rw [hk64, ← ht] at HR
      have HT : Hid (t = rounds ms ws s 64) := ht
      obtain ⟨k0, hk0⟩ : ∃ k0 : Nat, k0 = k := ⟨_, rfl⟩
      rw [← hk0] at hlt ⊢
      clear ht hk0 hk64 hk
      go_wp2
      go_loopw [69] (fun i wr => ∃ k : Nat, k ≤ 8 ∧ i = .int .i64 (k : Int) ∧ Hid (RowU 101 wr w.heap.size (plusTo s t k) ∧ RowU 101 wr (w.heap.size + 1 + 1) (List.replicate 8 0) ∧ RowU 101 wr (w.heap.size + 1 + 1 + 1) t.toL ∧ Below w.heap.size w wr)) (fun i _ => 8 - (intOf i).toNat)
      case atStart => exact ⟨0, by omega, rfl, HR.out⟩
      case round =>
        clear HR
        obtain ⟨k, hk, rfl, HR⟩ := hrel
        by_cases hk8 : k < 8
        · obtain ⟨x, hx⟩ : ∃ x, x = s.toL.getD k 0 := ⟨_, rfl⟩
          obtain ⟨y, hy⟩ : ∃ y, y = t.toL.getD k 0 := ⟨_, rfl⟩
          have cx : wr.cell? ⟨w.heap.size, k, none⟩ = some (.int .u32 (x : Int)) := by
            rw [hx, ← plusTo_at s t k hk8]; exact HR.out.1.cell k (by rw [plusTo_length _ _ _ hk]; exact hk8)
          have cy : wr.cell? ⟨w.heap.size + 1 + 1 + 1, k, none⟩ = some (.int .u32 (y : Int)) := by
            rw [hy]; exact HR.out.2.2.1.cell k (by show k < 8; exact hk8)
          have hfz := HR.out.1.frozen k
          obtain ⟨v, hv⟩ : ∃ v : Nat, v = (x + y) % 4294967296 := ⟨_, rfl⟩
          have rv : IntKind.u32.wrap ((x : Int) + (y : Int)) = (v : Int) := by
            rw [hv]; simp only [IntKind.wrap_u32]; omega
          have HV : Hid ((plusTo s t k).set k v = plusTo s t (k + 1)) := by
            show _ = _
            refine plusTo_set s t k hk8 v ?_
            rw [hv, hx, hy]
          have lk : (k : Int) < 8 := by omega
          clear hx hy hv hlt hk
          go_wp2
          go_region
          go_wp2
          go_roundw
          case rel =>
            refine ⟨k + 1, by omega, by go_num, ?_⟩
            have h1 := HR.out.1.set k v
            rw [HV.out] at h1
            exact ⟨h1, HR.out.2.1.keep (Below.heap_setCell _ _ _ _ (by show _ ≠ w.heap.size; omega)), HR.out.2.2.1.keep (Below.heap_setCell _ _ _ _ (by show _ ≠ w.heap.size; omega)), (HR.out.2.2.2.setCell (p := ⟨w.heap.size, k, none⟩) (Nat.le_refl _) _).drew⟩
          case measure => simp [intOf]; omega
        · have HF : Hid (RowU 101 wr w.heap.size (s.plus t).toL) := by
            show RowU _ _ _ _
            have := HR.out.1
            rw [show k = 8 from by omega] at this
            exact this
          obtain ⟨L, hL⟩ : ∃ L, L = (s.plus t).toL := ⟨_, rfl⟩
          have hlen : L.length = 8 := by rw [hL]; rfl
          rw [← hL] at HF
          have HL : Hid (L = (s.plus (rounds ms ws s 64)).toL) := by show _ = _; rw [← HT.out]; exact hL
          have hout : RowU 101 (wr.setCells (w.heap.size + 1 + 1) 0 (uCells L).toList) (w.heap.size + 1 + 1) L := HR.out.2.1.over (by rw [hlen]; rfl)
          have hbo : Below w.heap.size w (wr.setCells (w.heap.size + 1 + 1) 0 (uCells L).toList) := Below.setCells HR.out.2.2.2 (by omega) _ 0
          have hlv := run_loadVar_mid (P := Tryd.prog) (wr.setCells (w.heap.size + 1 + 1) 0 (uCells L).toList) (w.heap.size + 1 + 1) 0 101 (uCells L).toList _ hout.range Tryd.underlying101 rfl (by rw [size8, Array.length_toList, uCells_size, hlen])
          rw [Array.toArray_toList] at hlv
          have Hlv : Hid (_ = _) := hlv
          have Hbo : Hid (Below w.heap.size w (wr.setCells (w.heap.size + 1 + 1) 0 (uCells L).toList)) := hbo
          clear hL hlv hout hbo
          go_upto_region 14 with fail
          refine wp_region_list ?_
          refine wpList_load_mid rfl 101 _ rfl w.heap.size 0 rfl (uCells L).toList _ HF.out.range Tryd.underlying101 rfl (by rw [size8, Array.length_toList, uCells_size, hlen]) ?_
          rw [Array.toArray_toList]
          refine wpList_store_mid rfl 101 _ _ rfl (w.heap.size + 1 + 1) 0 (uCells L) rfl rfl (HR.out.2.1.there _ (by rw [uCells_size, hlen]; simp)) (by rw [size8, uCells_size, hlen]) (uCells_one _) ?_
          go_wp2
          rw [← HL.out]
          exact bodyPost_ret (v := .agg (uCells L)) (results_cell1 (p := 4) (b := w.heap.size + 1 + 1) rfl _ _ _ rfl Hlv) rfl ⟨rfl, Hbo.out⟩

end Go.Proofs.YtgnnfljobgbpbaaDoor

set_option linter.unusedVariables false
namespace Go.Proofs.YtgnnfljobgbpbaaDoor
open Go.RowKit

theorem fig_digit (x j : Nat) (hx : x < 4294967296) (hj : j < 8) : x * 16 ^ j % 4294967296 / 268435456 = x / 2 ^ (4 * (7 - j)) % 16 := by
  match j, hj with
  | 0, _ => simp; omega
  | 1, _ => simp; omega
  | 2, _ => simp; omega
  | 3, _ => simp; omega
  | 4, _ => simp; omega
  | 5, _ => simp; omega
  | 6, _ => simp; omega
  | 7, _ => simp; omega

set_option maxHeartbeats 1000000 in
set_option maxRecDepth 100000 in
theorem figuresI (x : Nat) (w : World) (hx : x < 4294967296) :
    Calls Tryd.prog 86 #[.int .u32 x] w fun e w' => e = .returned (.string ⟨(hexOf x).toArray⟩) ∧ Below w.heap.size w w' := by
  go_enter Tryd.func86, Tryd.ntmps86
  go_wp2
  go_loopw [0, 4] (fun v i wr => ∃ j y : Nat, j ≤ 8 ∧ i = .int .i64 j ∧ v = .int .u32 y ∧ Hid (y = x * 16 ^ j % 4294967296) ∧ Lib.IsBuilderF 117 5 w.heap.size w.heap.size (Lib.byteCells ((hexOf x).take j)) wr ∧ Below w.heap.size w wr) (fun _ i _ => 8 - (intOf i).toNat)
  case atStart =>
    exact ⟨0, x, by omega, rfl, rfl, by show x = _; simp; omega, Lib.IsBuilderF.of (Lib.fresh_isBuilder 117 5 w), (Below.refl _ w).alloc (Nat.le_refl _) _⟩
  case round =>
    obtain ⟨j, y, hj, rfl, rfl, hy, hI, hbw⟩ := hrel
    have hsz := hbw.size
    have hyl : y < 4294967296 := by rw [hy.out]; exact Nat.mod_lt _ (by decide)
    by_cases hlt : j < 8
    · obtain ⟨d, hd⟩ : ∃ d : Nat, d = y / 268435456 := ⟨_, rfl⟩
      have rd : (y : Int) / 268435456 = (d : Int) := by rw [hd]; simp
      have hd16 : d < 16 := by rw [hd]; omega
      have HD : Hid (d = x / 2 ^ (4 * (7 - j)) % 16) := by show d = _; rw [hd, hy.out]; exact fig_digit x j hx hlt
      have HY : Hid (y * 16 % 4294967296 = x * 16 ^ (j + 1) % 4294967296) := by
        show _ = _
        rw [hy.out, Nat.pow_succ, ← Nat.mul_assoc, Nat.mod_mul_mod]
      clear hd
      go_wp2_with fail
      refine (writeByte _ _ _ _ _ hI (by rw [Lib.byteCells_length]; simp; omega) hsz).mono ?_
      rintro e w1 ⟨rfl, h1, b1, k1⟩
      have h2 : Lib.IsBuilderF 117 5 w.heap.size w.heap.size (Lib.byteCells ((hexOf x).take (j + 1))) w1 := by
        rw [hexOf_take x j hlt, ← HD.out, ← figs_at d hd16 (by show d < 16; exact hd16), Lib.byteCells_append]
        exact h1
      clear h1
      go_wp2
      go_roundw
      case rel => exact ⟨j + 1, y * 16 % 4294967296, by omega, by go_num, by go_num, HY, h2, hbw.trans b1⟩
      case measure => simp [intOf]; omega
    · have hl8 : (hexOf x).take j = hexOf x := List.take_of_length_le (by simp [hexOf]; omega)
      rw [hl8] at hI
      clear hl8
      go_wp2_with fail
      refine (Tryd.Builder_String_any_k _ _ _ _ hI hsz).mono ?_
      rintro e w2 ⟨rfl, _, b2, _⟩
      go_wp2
      go_ret
      exact ⟨rfl, hbw.trans b2⟩

end Go.Proofs.YtgnnfljobgbpbaaDoor

namespace Go.Proofs.YtgnnfljobgbpbaaDoor
open Go.RowKit

theorem endB8 (A : List Nat) (n : Nat) : endB (A ++ [0, 0, 0, 0, 0, 0, 0, 0]) n 8 = A ++ [n / 2 ^ 56 % 256, n / 2 ^ 48 % 256, n / 2 ^ 40 % 256, n / 2 ^ 32 % 256, n / 2 ^ 24 % 256, n / 2 ^ 16 % 256, n / 2 ^ 8 % 256, n / 2 ^ 0 % 256] := by
  have hl : (A ++ [0, 0, 0, 0, 0, 0, 0, 0]).length = A.length + 8 := by simp
  simp only [endB, hl]
  rw [show A.length + 8 - 1 - 0 = A.length + 7 from by omega, show A.length + 8 - 1 - 1 = A.length + 6 from by omega, show A.length + 8 - 1 - 2 = A.length + 5 from by omega, show A.length + 8 - 1 - 3 = A.length + 4 from by omega,
    show A.length + 8 - 1 - 4 = A.length + 3 from by omega, show A.length + 8 - 1 - 5 = A.length + 2 from by omega, show A.length + 8 - 1 - 6 = A.length + 1 from by omega, show A.length + 8 - 1 - 7 = A.length + 0 from by omega]
  repeat rw [List.set_append_right _ _ (by omega)]
  simp only [Nat.add_sub_cancel_left]
  rfl
theorem ofNat_mod (x : Nat) : (UInt8.ofNat (x % 256)).toNat = x % 256 := by
  simp
theorem padN_padB (t : List UInt8) : padN t = (padB t).map (·.toNat) := by
  have hz : padLen t.length - t.length - 1 = padZ t.length + 8 := by simp only [padZ, padLen]; omega
  have hr : List.replicate (padZ t.length + 8) (0 : Nat) = List.replicate (padZ t.length) 0 ++ [0, 0, 0, 0, 0, 0, 0, 0] := by
    rw [← List.replicate_append_replicate]; rfl
  rw [padN, hz, hr, show t.map (·.toNat) ++ 128 :: (List.replicate (padZ t.length) 0 ++ [0, 0, 0, 0, 0, 0, 0, 0]) = (t.map (·.toNat) ++ 128 :: List.replicate (padZ t.length) 0) ++ [0, 0, 0, 0, 0, 0, 0, 0] from by simp, endB8]
  simp only [padB, List.map_append, List.map_cons, List.map_replicate, lenB]
  congr 1
  simp only [List.map_map]
  show _ = List.map _ [0, 1, 2, 3, 4, 5, 6, 7]
  simp only [List.map_cons, List.map_nil, Function.comp, ofNat_mod]

end Go.Proofs.YtgnnfljobgbpbaaDoor

set_option linter.unusedVariables false
namespace Go.Proofs.YtgnnfljobgbpbaaDoor
open Go.RowKit

theorem padLen_mod (n : Nat) : padLen n % 64 = 0 := by unfold padLen; omega
theorem RowN.nums {T : TypeId} {w : World} {g m : Nat} {l : List Nat} (h : RowN T w g l) (hm : m + 64 ≤ l.length) : Nums w g m ((l.drop m).take 64) := by
  intro i hi
  have hi64 : i < 64 := by simp at hi; omega
  rw [h.cell (m + i) (by omega)]
  have e : ((l.drop m).take 64).getD i 0 = l.getD (m + i) 0 := by
    simp [hi64]
  rw [e]

set_option maxHeartbeats 1000000 in
set_option maxRecDepth 100000 in
theorem specSha (s : ByteArray) (w : World) (hs : s.size ≤ 1073741824) :
    Calls Tryd.prog 108 #[.string s] w fun e w' => ∃ g, e = .returned (.slice (some ⟨g, 0, none⟩) 8 8) ∧ RowN 3 w' g (sha s.data.toList).toL ∧ Below w.heap.size w w' := by
  go_enter Tryd.func108, Tryd.ntmps108
  go_wp2_with fail
  refine (specConsts _).mono ?_
  rintro e w1 ⟨rfl, hh1, hk1, b1⟩
  have hlt1 := hk1.lt
  go_wp2_with fail
  refine (specPad s _ hs).mono ?_
  rintro e w2 ⟨rfl, hp2, b2⟩
  have b12 := b1.trans (b2.mono b1.size)
  have hh2 := hh1.below b2 (by omega)
  have hk2 := hk1.below b2 hlt1
  obtain ⟨gb, hgb⟩ : ∃ gb, gb = w1.heap.size := ⟨_, rfl⟩
  rw [← hgb] at hp2 ⊢
  obtain ⟨gk, hgk⟩ : ∃ gk, gk = w.heap.size + 1 := ⟨_, rfl⟩
  rw [← hgk] at hk2 ⊢
  have hlen := padN_length s.data.toList
  rw [show s.data.toList.length = s.size from by simp] at hlen
  have hpl := padN_lt s.data.toList
  have HSH : Hid (sha s.data.toList = mixTo (padN s.data.toList) (padLen s.size / 64)) := by
    show _ = _
    rw [sha, show s.data.toList.length = s.size from by simp]
  generalize padN s.data.toList = P at hp2 hlen hpl HSH
  obtain ⟨L, hL⟩ : ∃ L, L = padLen s.size := ⟨_, rfl⟩
  have hL2 : L ≤ s.size + 72 := by rw [hL]; unfold padLen; omega
  have HLm : Hid (L % 64 = 0) := by show _ = _; rw [hL]; exact padLen_mod _
  rw [← hL] at hlen HSH ⊢
  have HL : Hid (P.length = L) := hlen
  clear hlen hL hgb hgk hh1 hk1 b1 b2 hlt1
  go_wp2
  go_loopw [3, 6] (fun h i wr => ∃ (j m gh : Nat), m ≤ L ∧ i = .int .i64 m ∧ Hid (m = 64 * j) ∧ h = .slice (some ⟨gh, 0, none⟩) 8 8 ∧ RowN 3 wr gh (mixTo P j).toL ∧ RowN 3 wr gk shaK ∧ RowN 3 wr gb P ∧ Below w.heap.size w wr) (fun _ i _ => L - (intOf i).toNat)
  case atStart => exact ⟨0, 0, w.heap.size, by omega, rfl, rfl, rfl, hh2, hk2, hp2, b12⟩
  case round =>
    clear hh2 hk2 hp2 b12
    obtain ⟨j, m, gh, hm, rfl, HM, rfl, hh, hk, hp, hbw⟩ := hrel
    have hm64 : m < L → m + 64 ≤ L := by have h1 := HLm.out; have h2 := HM.out; omega
    by_cases hlt : m < L
    · have hm2 := hm64 hlt
      have hnum := hp.nums (m := m) (by rw [HL.out]; exact hm2)
      have hgb := hp.lt
      have hgh := hh.lt
      have hgk := hk.lt
      have hsl : ((P.drop m).take 64).length = 64 := by simp [HL.out]; omega
      have hsb : ∀ x ∈ (P.drop m).take 64, x < 256 := fun x hx => hpl x (List.mem_of_mem_drop (List.mem_of_mem_take hx))
      have HNX : Hid (mixTo P (j + 1) = mix shaK (mixTo P j) ((P.drop m).take 64)) := by show _ = _; rw [mixTo, ← HM.out]
      have HB : Hid (Below w.heap.size w wr) := hbw
      have hwsz := hbw.size
      generalize (P.drop m).take 64 = bs at hnum hsl hsb HNX
      clear hm64 hbw
      go_wp2_with fail
      refine (specWords bs gb m (L - m) _ hnum hsl hsb hgb).mono ?_
      rintro e w3 ⟨rfl, hw3, b3⟩
      have hh3 := hh.below b3 hgh
      have hk3 := hk.below b3 hgk
      have hp3 := hp.below b3 hgb
      have hwl := schedTo_length bs 48
      have hwo := schedTo_lt bs hsb 48
      have hsz3 := b3.size
      have hlt3 := hw3.lt
      have HW : Hid (mix shaK (mixTo P j) bs = (mixTo P j).plus (rounds shaK (schedTo bs 48) (mixTo P j) 64)) := rfl
      generalize schedTo bs 48 = ws at hw3 hwl hwo HW
      clear hh hk hp hnum hsl hsb
      go_wp2_with fail
      refine (specMix (mixTo P j) (mixTo_ok P j) shaK ws gh wr.heap.size gk _ hh3 hw3 hk3 hwl rfl hwo shaK_ok).mono ?_
      rintro e w4 ⟨rfl, hr4, b4⟩
      have hk4 := hk3.below b4 hk3.lt
      have hp4 := hp3.below b4 hp3.lt
      rw [← HW.out, ← HNX.out] at hr4
      clear hh3 hk3 hp3 hw3 hwl hwo
      go_wp2
      go_roundw
      case rel =>
        refine ⟨j + 1, m + 64, w3.heap.size + 1, by omega, by go_num, ?_, rfl, hr4, hk4, hp4, (HB.out.trans (b3.mono (by omega))).trans (b4.mono (by omega))⟩
        show m + 64 = 64 * (j + 1)
        have := HM.out
        omega
      case measure => simp [intOf]; omega
    · have HJ : Hid (j = L / 64) := by show j = L / 64; have h1 := HLm.out; have h2 := HM.out; omega
      clear hm64
      go_wp2
      go_ret
      rw [HSH.out, ← HJ.out]
      exact ⟨gh, rfl, hh, hbw⟩

set_option maxHeartbeats 1000000 in
set_option maxRecDepth 100000 in
theorem specSum (s : ByteArray) (w : World) (hs : s.size ≤ 1073741824) :
    Calls Tryd.prog 82 #[.string s] w fun e w' => e = .returned (.string ⟨(sumB s.data.toList).toArray⟩) ∧ Below w.heap.size w w' := by
  go_enter Tryd.func82, Tryd.ntmps82
  go_wp2_with fail
  refine (specSha s _ hs).mono ?_
  rintro e w1 ⟨g, rfl, hr, b1⟩
  have hok : (sha s.data.toList).ok := mixTo_ok _ _
  have HS : Hid (sumB s.data.toList = hexOf (sha s.data.toList).a ++ hexOf (sha s.data.toList).b) := rfl
  generalize sha s.data.toList = t at hr hok HS
  have c0 : w1.cell? ⟨g, 0, none⟩ = some (.int .i64 (t.a : Int)) := hr.cell 0 (by simp [St.toL])
  have c1 : w1.cell? ⟨g, 1, none⟩ = some (.int .i64 (t.b : Int)) := hr.cell 1 (by simp [St.toL])
  have hg := hr.lt
  have la := hok.1
  have lb := hok.2.1
  have hl8 : ∀ x, (hexOf x).length = 8 := fun x => by simp [hexOf]
  go_wp2_with fail
  go_region_with (first | (go_at_call_of 109 (Value.int .i64 (t.a : Int)); refine (specHex _ _ la).mono ?_; rintro e w2 ⟨rfl, b2⟩; have d1 : w2.cell? ⟨g, 1, none⟩ = some (.int .i64 (t.b : Int)) := (b2.cell (p := ⟨g, 1, none⟩) hg).trans c1) | (go_at_call_of 109 (Value.int .i64 (t.b : Int)); refine (specHex _ _ lb).mono ?_; rintro e w3 ⟨rfl, b3⟩))
  all_goals
    go_wp2
    go_ret
    rw [HS.out]
    have hcat : (⟨(hexOf t.a).toArray⟩ : ByteArray) ++ ⟨(hexOf t.b).toArray⟩ = ⟨(hexOf t.a ++ hexOf t.b).toArray⟩ := by
      apply ByteArray.ext; simp
    rw [← hcat]
    have b12 := b1.trans (((Below.drew (Below.refl _ w1)).trans b2).mono b1.size)
    exact ⟨rfl, b12.trans (b3.mono b12.size)⟩

end Go.Proofs.YtgnnfljobgbpbaaDoor

set_option linter.unusedVariables false
namespace Go.Proofs.YtgnnfljobgbpbaaDoor
open Go.RowKit

theorem sha0_cells : uCells sha0.toL = #[Value.int .u32 1779033703, Value.int .u32 3144134277, Value.int .u32 1013904242, Value.int .u32 2773480762, Value.int .u32 1359893119, Value.int .u32 2600822924, Value.int .u32 528734635, Value.int .u32 1541459225] := rfl
theorem shaK_len : shaK.length = 64 := rfl
theorem loadU8 (l : List Nat) (hl : l.length = 8) (g : Nat) (w : World) (h : RowU 101 w g l) : (Instr.loadAt 101 (.pointer (some ⟨g, 0, none⟩))).run Tryd.prog w = .ok (.agg (uCells l)) w := by
  have := run_loadAt_mid (P := Tryd.prog) w g 0 101 (uCells l).toList _ h.range Tryd.underlying101 rfl (by rw [size8, Array.length_toList, uCells_size, hl])
  rw [Array.toArray_toList] at this
  exact this
theorem storeU8 (l m : List Nat) (hl : l.length = 8) (hm : m.length = 8) (g : Nat) (w : World) (h : RowU 101 w g m) : (Instr.storeAt 101 (.pointer (some ⟨g, 0, none⟩)) (.agg (uCells l))).run Tryd.prog w = .ok () (w.setCells g 0 (uCells l).toList) :=
  run_storeAt_mid (P := Tryd.prog) w g 0 101 (uCells l) (h.there _ (by rw [uCells_size, hl, hm])) (by rw [size8, uCells_size, hl]) (uCells_one _)

theorem scheduleI2 (bs : List Nat) (g o cap : Nat) (w : World) (hn : ∀ i, i < bs.length → w.cell? ⟨g, o + i, none⟩ = some (.int .u8 ((bs.getD i 0 : Nat) : Int))) (hl : bs.length = 64) (hbb : ∀ x ∈ bs, x < 256) (hg : g < w.heap.size) :
    Calls Tryd.prog 85 #[.slice (some ⟨g, o, none⟩) 64 cap] w fun e w' => ∃ ws, e = .returned (.agg (uCells ws)) ∧ Hid (ws = schedTo bs 48) ∧ Hid (Below w.heap.size w w') :=
  (scheduleI bs g o cap w hn hl hbb hg).mono fun e w' h => ⟨_, h.1, rfl, h.2⟩
theorem nextI2 (bs : List Nat) (hbb : ∀ x ∈ bs, x < 256) (ws : List Nat) (hws : ws = schedTo bs 48) (s : St) (hs : s.ok) (w : World) (hms : RowG w shaK) :
    Calls Tryd.prog 84 #[.agg (uCells s.toL), .agg (uCells ws)] w fun e w' => ∃ l, e = .returned (.agg (uCells l)) ∧ Hid (l = (mix shaK s bs).toL) ∧ Hid (Below w.heap.size w w') := by
  have h1 := schedTo_length bs 48
  have h2 := schedTo_lt bs hbb 48
  have h3 : mix shaK s bs = s.plus (rounds shaK (schedTo bs 48) s 64) := rfl
  rw [← hws] at h1 h2 h3
  exact (nextI shaK ws s hs w hms shaK_len shaK_ok h1 h2).mono fun e w' h => ⟨_, h.1, by rw [h3]; rfl, h.2⟩

theorem toL_len (s : St) : s.toL.length = 8 := rfl
theorem cells8 {T : TypeId} {w : World} {G a b c d e f g h : Nat} (H : RowU T w G (St.toL ⟨a, b, c, d, e, f, g, h⟩)) : w.cell? ⟨G, 0, none⟩ = some (.int .u32 (a : Int)) ∧ w.cell? ⟨G, 1, none⟩ = some (.int .u32 (b : Int)) ∧ w.cell? ⟨G, 2, none⟩ = some (.int .u32 (c : Int)) ∧ w.cell? ⟨G, 3, none⟩ = some (.int .u32 (d : Int)) ∧ w.cell? ⟨G, 4, none⟩ = some (.int .u32 (e : Int)) ∧ w.cell? ⟨G, 5, none⟩ = some (.int .u32 (f : Int)) ∧ w.cell? ⟨G, 6, none⟩ = some (.int .u32 (g : Int)) ∧ w.cell? ⟨G, 7, none⟩ = some (.int .u32 (h : Int)) :=
  ⟨H.cell 0 (by show _ < 8; decide), H.cell 1 (by show _ < 8; decide), H.cell 2 (by show _ < 8; decide), H.cell 3 (by show _ < 8; decide), H.cell 4 (by show _ < 8; decide), H.cell 5 (by show _ < 8; decide), H.cell 6 (by show _ < 8; decide), H.cell 7 (by show _ < 8; decide)⟩
theorem nextI3 (bs : List Nat) (hbb : ∀ x ∈ bs, x < 256) (ws : List Nat) (hws : ws = schedTo bs 48) (a b c d e f g h : Nat) (hs : (⟨a, b, c, d, e, f, g, h⟩ : St).ok) (w : World) (hms : RowG w shaK) :
    Calls Tryd.prog 84 #[.agg #[.int .u32 (a : Int), .int .u32 (b : Int), .int .u32 (c : Int), .int .u32 (d : Int), .int .u32 (e : Int), .int .u32 (f : Int), .int .u32 (g : Int), .int .u32 (h : Int)], .agg (uCells ws)] w fun e' w' => ∃ l, e' = .returned (.agg (uCells l)) ∧ Hid (l = (mix shaK ⟨a, b, c, d, e, f, g, h⟩ bs).toL) ∧ Hid (Below w.heap.size w w') :=
  nextI2 bs hbb ws hws ⟨a, b, c, d, e, f, g, h⟩ hs w hms

set_option maxHeartbeats 1000000 in
set_option maxRecDepth 100000 in
theorem implSum (s : ByteArray) (w : World) (hs : s.size ≤ 1073741824) (hK : RowG w shaK) :
    Calls Tryd.prog 62 #[.string s] w fun e w' => e = .returned (.string ⟨(sumB s.data.toList).toArray⟩) ∧ Below w.heap.size w w' := by
  obtain ⟨W, hW⟩ : ∃ W, W = w.alloc (.cells (uCells sha0.toL) 101) := ⟨_, rfl⟩
  have HZ : Hid (RowU 101 W w.heap.size sha0.toL ∧ W.heap.size = w.heap.size + 1 ∧ Below w.heap.size w W) := by
    refine ⟨?_, ?_, ?_⟩
    · rw [hW]; exact heap_alloc_new w _
    · rw [hW]; simp
    · rw [hW]; exact (Below.refl _ w).alloc (Nat.le_refl _) _
  have HW : Hid (W = w.alloc (.cells (uCells sha0.toL) 101)) := hW
  have HK : Hid (RowG w shaK) := hK
  clear hW hK
  go_enter Tryd.func62, Tryd.ntmps62
  go_wp2_with fail
  rw [← sha0_cells, ← HW.out]
  refine (paddedI s _ hs).mono ?_
  rintro e w1 ⟨g, cap, rfl, hrow, b1⟩
  have hg := hrow.lt
  have hcells : ∀ i, i < padLen s.size → w1.cell? ⟨g, i, none⟩ = some (.int .u8 (((padN s.data.toList).getD i 0 : Nat) : Int)) := by
    intro i hi
    have hlB : i < (padB s.data.toList).length := by rw [padB_length]; simpa using hi
    rw [hrow.cells i hlB, padN_padB]
    simp [List.getElem?_eq_getElem hlB]
  have hcap : padLen s.size ≤ cap ∧ cap ≤ maxLen := by
    obtain ⟨g', cap', cur, fz, hv, _, _, _, h1, h2, _⟩ := hrow
    simp only [Value.slice.injEq, Option.some.injEq, Addr.mk.injEq, and_true] at hv
    obtain ⟨_, _, rfl⟩ := hv
    rw [padB_length] at h1
    exact ⟨by simpa using h1, h2⟩
  have hlen := padN_length s.data.toList
  rw [show s.data.toList.length = s.size from by simp] at hlen
  have hpl := padN_lt s.data.toList
  have HSH : Hid (sha s.data.toList = mixTo (padN s.data.toList) (padLen s.size / 64)) := by
    show _ = _
    rw [sha, show s.data.toList.length = s.size from by simp]
  generalize padN s.data.toList = P at hcells hlen hpl HSH
  obtain ⟨L, hL⟩ : ∃ L, L = padLen s.size := ⟨_, rfl⟩
  have hL2 : L ≤ s.size + 72 := by rw [hL]; unfold padLen; omega
  have HLm : Hid (L % 64 = 0) := by show _ = _; rw [hL]; exact padLen_mod _
  rw [← hL] at hcells hcap hlen HSH ⊢
  have HL : Hid (P.length = L) := hlen
  have HC : Hid (∀ i, i < L → w1.cell? ⟨g, i, none⟩ = some (.int .u8 ((P.getD i 0 : Nat) : Int))) := hcells
  have HG : Hid (w.heap.size + 1 ≤ g ∧ g < w1.heap.size) := by
    refine ⟨?_, hg.2⟩
    have := hg.1
    rw [HZ.out.2.1] at this
    exact this
  have hw0 : 0 < w.heap.size := HK.out.lt
  have HB : Hid (RowU 101 w1 w.heap.size sha0.toL ∧ RowG w1 shaK ∧ Below w.heap.size w w1) := by
    have hb := HZ.out.2.2.trans (b1.mono (by rw [HZ.out.2.1]; omega))
    exact ⟨HZ.out.1.below b1 (by rw [HZ.out.2.1]; omega), HK.out.below hb hw0, hb⟩
  have hc2 := hcap.1
  have hc3 : cap ≤ 9223372036854775807 := by have := hcap.2; simp only [maxLen] at this; omega
  clear hlen hL hg hcells hrow b1 HZ HW hcap
  go_wp2
  go_loopw [5] (fun i wr => ∃ (j m : Nat), m ≤ L ∧ i = .int .i64 (m : Int) ∧ Hid (m = 64 * j) ∧ Hid (RowU 101 wr w.heap.size (mixTo P j).toL) ∧ Hid (RowG wr shaK) ∧ Hid (∀ i, i < L → wr.cell? ⟨g, i, none⟩ = some (.int .u8 ((P.getD i 0 : Nat) : Int))) ∧ Hid (g < wr.heap.size) ∧ Hid (Below w.heap.size w wr)) (fun i _ => L - (intOf i).toNat)
  case atStart => exact ⟨0, 0, by omega, rfl, rfl, HB.out.1, HB.out.2.1, HC, HG.out.2, HB.out.2.2⟩
  case round =>
    obtain ⟨j, m, hm, rfl, HM, HR, HK1, HC1, HG1, HB1⟩ := hrel
    have hm64 : m < L → m + 64 ≤ L := by have h1 := HLm.out; have h2 := HM.out; omega
    by_cases hlt : m < L
    · have hm2 := hm64 hlt
      have hsl : ((P.drop m).take 64).length = 64 := by simp [HL.out]; omega
      have hsb : ∀ x ∈ (P.drop m).take 64, x < 256 := fun x hx => hpl x (List.mem_of_mem_drop (List.mem_of_mem_take hx))
      have HNX : Hid (mixTo P (j + 1) = mix shaK (mixTo P j) ((P.drop m).take 64)) := by show _ = _; rw [mixTo, ← HM.out]
      have HN : Hid (∀ i, i < ((P.drop m).take 64).length → wr.cell? ⟨g, m + i, none⟩ = some (.int .u8 ((((P.drop m).take 64).getD i 0 : Nat) : Int))) := by
        intro i hi
        rw [hsl] at hi
        rw [HC1.out (m + i) (by omega)]
        simp [hi]
      generalize (P.drop m).take 64 = bs at HN hsl hsb HNX
      have Hsb : Hid (∀ x ∈ bs, x < 256) := hsb
      obtain ⟨m2, hm2e⟩ : ∃ m2 : Nat, m2 = m + 64 := ⟨_, rfl⟩
      have lw : IntKind.i64.wrap ((m : Int) + 64) = (m2 : Int) := by rw [IntKind.wrap_i64, hm2e]; omega
      have lm0 : (0 : Int) ≤ (m : Int) := by omega
      have lm1 : (m : Int) ≤ (m2 : Int) := by omega
      have lm2 : (m2 : Int) ≤ (cap : Int) := by omega
      have lm3 : (0 : Int) ≤ (m2 : Int) := by omega
      have ld1 : m2 - m = 64 := by omega
      have lne : ¬ cap = m := by omega
      have ld2 : ((m2 : Int) - (m : Int)).toNat = 64 := by omega
      have ld3 : (m2 : Int) - (m : Int) = 64 := by omega
      have HM2 : Hid (m2 = m + 64) := hm2e
      clear hm2e
      clear hm64 hsb
      have hmo := mixTo_ok P j
      generalize mixTo P j = st at HR HNX hmo
      have hwlt : w.heap.size < wr.heap.size := HR.out.lt
      have hw0lt : 0 < wr.heap.size := by omega
      obtain ⟨a, b, c, d, e, f, gg, h⟩ := st
      have Hok : Hid ((⟨a, b, c, d, e, f, gg, h⟩ : St).ok) := hmo
      obtain ⟨c0, c1, c2, c3, c4, c5, c6, c7⟩ := cells8 HR.out
      clear hmo
      go_wp2_with fail
      go_region_with (first | (go_at_call 85; refine (scheduleI2 bs g m _ _ ?_ hsl Hsb.out ?_).mono ?_; exact HN.out; exact HG1.out; rintro e w2 ⟨ws, rfl, HWS, b2⟩; have hr2 : Hid (RowU 101 w2 w.heap.size (St.toL ⟨a, b, c, d, e, f, gg, h⟩)) := HR.out.drew.below b2.out hwlt; have hk2 : Hid (RowG w2 shaK) := HK1.out.drew.below b2.out hw0lt; obtain ⟨d0, d1, d2, d3, d4, d5, d6, d7⟩ := cells8 hr2.out) | (go_at_call 84; refine (nextI3 bs Hsb.out ws HWS.out a b c d e f gg h Hok.out _ ?_).mono ?_; exact hk2.out; rintro e w3 ⟨l3, rfl, HL3, b3⟩; have hr3 : Hid (RowU 101 w3 w.heap.size (St.toL ⟨a, b, c, d, e, f, gg, h⟩)) := hr2.out.below b3.out hr2.out.lt; have hk3 : Hid (RowG w3 shaK) := hk2.out.below b3.out hk2.out.lt; have hsz : (uCells l3).size = 8 := (by rw [uCells_size, HL3.out]; exact toL_len _); have hst := run_storeCellsU (P := Tryd.prog) hr3.out l3 (by rw [HL3.out, toL_len, toL_len])))
      all_goals
        go_wp2
        go_roundw
        case rel =>
          have hbb : Below w.heap.size w w3 := (HB1.out.drew.trans (b2.out.mono (Nat.le_of_lt hwlt))).trans (b3.out.mono (Nat.le_of_lt hr2.out.lt))
          have hg3 : g < w3.heap.size := Nat.lt_of_lt_of_le HG1.out (Nat.le_trans b2.out.size b3.out.size)
          have hg2 : g < w2.heap.size := Nat.lt_of_lt_of_le HG1.out b2.out.size
          refine ⟨j + 1, m + 64, by omega, by go_num, ?_, ?_, ?_, ?_, ?_, ?_⟩
          · show m + 64 = 64 * (j + 1)
            have := HM.out
            omega
          · show RowU _ _ _ _
            rw [HNX.out, ← HL3.out]
            exact hr3.out.over (by rw [HL3.out, toL_len, toL_len])
          · exact hk3.out.keep (heap_setCells_other _ _ _ _ _ (by omega))
          · intro i hi
            rw [World.cell?_setCells_out _ _ _ _ _ (fun h1 _ => absurd h1 (by have := HG.out.1; show ¬ g = w.heap.size; omega))]
            rw [b3.out.cell (p := ⟨g, i, none⟩) hg2, b2.out.cell (p := ⟨g, i, none⟩) HG1.out]
            exact HC1.out i hi
          · exact Nat.lt_of_lt_of_le hg3 (Below.setCells (Below.refl w.heap.size w3) (Nat.le_refl _) _ _).size
          · exact Below.setCells hbb (Nat.le_refl _) _ _
        case measure => simp [intOf]; omega
    · have HJ : Hid (j = L / 64) := by show j = L / 64; have h1 := HLm.out; have h2 := HM.out; omega
      have HSB : Hid (sumB s.data.toList = hexOf (mixTo P j).a ++ hexOf (mixTo P j).b) := by
        show _ = _
        rw [sumB, HSH.out, ← HJ.out]
      have hok := mixTo_ok P j
      generalize mixTo P j = t at HR hok HSB
      have c0 : wr.cell? ⟨w.heap.size, 0, none⟩ = some (.int .u32 (t.a : Int)) := HR.out.cell 0 (by simp [St.toL])
      have c1 : wr.cell? ⟨w.heap.size, 1, none⟩ = some (.int .u32 (t.b : Int)) := HR.out.cell 1 (by simp [St.toL])
      have hg := HR.out.lt
      have la := hok.1
      have lb := hok.2.1
      have hl8 : ∀ x, (hexOf x).length = 8 := fun x => by simp [hexOf]
      clear hm64 hok
      go_wp2_with fail
      go_region_with (first | (go_at_call_of 86 (Value.int .u32 (t.a : Int)); refine (figuresI _ _ la).mono ?_; rintro e w2 ⟨rfl, b2⟩; have d1 : w2.cell? ⟨w.heap.size, 1, none⟩ = some (.int .u32 (t.b : Int)) := (b2.cell (p := ⟨w.heap.size, 1, none⟩) hg).trans c1) | (go_at_call_of 86 (Value.int .u32 (t.b : Int)); refine (figuresI _ _ lb).mono ?_; rintro e w3 ⟨rfl, b3⟩))
      all_goals
        go_wp2
        go_ret
        rw [HSB.out]
        have hcat : (⟨(hexOf t.a).toArray⟩ : ByteArray) ++ ⟨(hexOf t.b).toArray⟩ = ⟨(hexOf t.a ++ hexOf t.b).toArray⟩ := by
          apply ByteArray.ext; simp
        rw [← hcat]
        have b12 := HB1.out.trans (((Below.drew (Below.refl _ wr)).trans b2).mono HB1.out.size)
        exact ⟨rfl, b12.trans (b3.mono b12.size)⟩

end Go.Proofs.YtgnnfljobgbpbaaDoor

set_option linter.unusedVariables false
namespace Go.Proofs.YtgnnfljobgbpbaaDoor
open Go.RowKit

theorem headT_len {h : HeadV} (hok : headOkB h = true) : (headT h).length ≤ 200 := by
  obtain ⟨h1, h2, h3, h4, h5⟩ := headOk_in hok
  have hps := sum_size h1
  have hrs := sum_size h2
  have htl : (Lib.decDigits h.time.toNat).length ≤ 19 := decLen (by omega)
  have hdl : (Lib.decDigits h.diff.toNat).length ≤ 19 := decLen (by omega)
  have hnl : (Lib.decDigits h.nonce.toNat).length ≤ 19 := decLen (by omega)
  have e1 : h.prev.data.toList.length = 16 := by simpa using hps
  have e2 : h.root.data.toList.length = 16 := by simpa using hrs
  have e1' : h.prev.data.size = 16 := by simpa using hps
  have e2' : h.root.data.size = 16 := by simpa using hrs
  simp [headT, joinTo, headL, e1', e2']
  omega
/-- The text of which a head's sum is the sum. -/
def headX (h : HeadV) : List UInt8 := [104, 101, 97, 100, 32] ++ headT h
def headSum (h : HeadV) : List UInt8 := if headOkB h = true then sumB (headX h) else []
def headMeets (h : HeadV) : Bool := headOkB h && decide ((headOf (headX h) : Int) / 65536 * h.diff < 32768)
theorem headSum_no {h : HeadV} (hok : headOkB h = false) : headSum h = [] := by rw [headSum, hok]; rfl
theorem headSum_yes {h : HeadV} (hok : headOkB h = true) : headSum h = sumB (headX h) := by rw [headSum, if_pos hok]
theorem headXs (h : HeadV) : ((⟨#[104, 101, 97, 100, 32]⟩ : ByteArray) ++ ⟨(headT h).toArray⟩).data.toList = headX h := by simp [headX]
theorem headXz {h : HeadV} (hok : headOkB h = true) : ((⟨#[104, 101, 97, 100, 32]⟩ : ByteArray) ++ ⟨(headT h).toArray⟩).size ≤ 1073741824 := by
  have := headT_len hok
  have e1 : (⟨#[104, 101, 97, 100, 32]⟩ : ByteArray).size = 5 := rfl
  have e3 : (⟨(headT h).toArray⟩ : ByteArray).size = (headT h).length := by simp [ByteArray.size]
  rw [ByteArray.size_append, e1, e3]
  omega

set_option maxHeartbeats 1000000 in
set_option maxRecDepth 100000 in
theorem implHeadSum (h : HeadV) (w : World) (hK : RowG w shaK) (hP : TabP w) :
    Calls Tryd.prog 54 #[headVal h] w fun e w' => e = .returned (.string ⟨(headSum h).toArray⟩) ∧ Below w.heap.size w w' := by
  have HK : Hid (RowG w shaK) := hK
  have HP : Hid (∀ w', Below w.heap.size w w' → TabP w') := fun w' hb => TabP.below hP hb (Nat.le_refl _)
  clear hK hP
  have hck := fun w' => implHeadOk h w'
  unfold headVal
  cases hok : headOkB h with
  | false =>
    rw [headSum_no hok]
    simp only [hok] at hck
    go_enter Tryd.func54, Tryd.ntmps54
    go_wp2_with (go_at_call 52; refine (hck _).mono ?_; rintro e w1 ⟨rfl, b1⟩)
    go_ret
    exact ⟨rfl, ((Below.refl _ w).alloc (Nat.le_refl _) _).trans (b1.mono (by simp))⟩
  | true =>
    rw [headSum_yes hok]
    have e : headPut h = headT h := by rw [headPut, if_pos hok]
    have hpt := fun w' hp => implHeadPut h w' hp
    rw [e] at hpt
    have hsz := headXz hok
    have HX : Hid (_ = headX h) := headXs h
    have htl := headT_len hok
    simp only [hok] at hck
    generalize headT h = ht at hpt hsz HX htl
    generalize headX h = hx at HX
    have S0 : HSt w _ w.heap.size h.prev h.root h.time h.diff h.nonce := HSt.new w 32 h.prev h.root h.time h.diff h.nonce
    clear e hok
    go_enter Tryd.func54, Tryd.ntmps54
    go_wp2_with fail
    refine (hck _).mono ?_
    rintro e w1 ⟨rfl, b1⟩
    have S1 := S0.call b1
    obtain ⟨c0, c1, c2, c3, c4⟩ := S1.out
    go_wp2_with fail
    refine (hpt _ (HP.out _ S1.2.1)).mono ?_
    rintro e w2 ⟨rfl, b2⟩
    have S2 := S1.call b2
    clear c0 c1 c2 c3 c4 hpt hck
    go_wp2_with fail
    refine (implSum _ _ hsz (HK.out.below S2.2.1 HK.out.lt)).mono ?_
    rintro e w3 ⟨rfl, b3⟩
    rw [HX.out]
    go_wp2_with fail
    go_ret
    exact ⟨rfl, (S2.call b3).2.1⟩

set_option maxHeartbeats 1000000 in
set_option maxRecDepth 100000 in
theorem specL3Sum (h : HeadV) (w : World) (hok : headOkB h = true) :
    Calls Tryd.prog 101 #[headVal h] w fun e w' => e = .returned (.string ⟨(sumB (headX h)).toArray⟩) ∧ Below w.heap.size w w' := by
  unfold headVal
  have hpt := fun w' => specL3Put h w' hok
  have hsz := headXz hok
  have HX : Hid (_ = headX h) := headXs h
  have htl := headT_len hok
  generalize headT h = ht at hpt hsz HX htl
  generalize headX h = hx at HX
  have S0 : HSt w _ w.heap.size h.prev h.root h.time h.diff h.nonce := HSt.new w 32 h.prev h.root h.time h.diff h.nonce
  clear hok
  go_enter Tryd.func101, Tryd.ntmps101
  go_wp2_with fail
  refine (hpt _).mono ?_
  rintro e w2 ⟨rfl, b2⟩
  have S2 := S0.call b2
  clear hpt
  go_wp2_with fail
  refine (specSum _ _ hsz).mono ?_
  rintro e w3 ⟨rfl, b3⟩
  rw [HX.out]
  go_wp2_with fail
  go_ret
  exact ⟨rfl, (S2.call b3).2.1⟩

end Go.Proofs.YtgnnfljobgbpbaaDoor

set_option linter.unusedVariables false
namespace Go.Proofs.YtgnnfljobgbpbaaDoor
open Go.RowKit

theorem meets_yes {h : HeadV} (hok : headOkB h = true) : headMeets h = decide ((headOf (headX h) : Int) / 65536 * h.diff < 32768) := by rw [headMeets, hok, Bool.true_and]
theorem meets_no {h : HeadV} (hok : headOkB h = false) : headMeets h = false := by rw [headMeets, hok, Bool.false_and]

set_option maxHeartbeats 1000000 in
set_option maxRecDepth 100000 in
theorem implHeadMeets (h : HeadV) (w : World) (hK : RowG w shaK) (hP : TabP w) :
    Calls Tryd.prog 25 #[headVal h] w fun e w' => e = .returned (.bool (headMeets h)) ∧ Below w.heap.size w w' := by
  have HK : Hid (RowG w shaK) := hK
  have HP : Hid (∀ w', Below w.heap.size w w' → TabP w') := fun w' hb => TabP.below hP hb (Nat.le_refl _)
  clear hK hP
  have hck := fun w' => implHeadOk h w'
  cases hok : headOkB h with
  | false =>
    rw [meets_no hok]
    unfold headVal
    simp only [hok] at hck
    go_enter Tryd.func25, Tryd.ntmps25
    go_wp2_with (go_at_call 52; refine (hck _).mono ?_; rintro e w1 ⟨rfl, b1⟩)
    go_ret
    exact ⟨rfl, ((Below.refl _ w).alloc (Nat.le_refl _) _).trans (b1.mono (by simp))⟩
  | true =>
    rw [meets_yes hok]
    have hpt := fun w' hk hp => implHeadSum h w' hk hp
    rw [headSum_yes hok] at hpt
    have hsh := fun w' => implSumHead ⟨(sumB (headX h)).toArray⟩ w'
    have e1 : sumHead (⟨(sumB (headX h)).toArray⟩ : ByteArray).data.toList = (headOf (headX h) : Int) := sumHead_sumB _
    rw [e1] at hsh
    clear e1
    have hhl := headOf_lt (headX h)
    generalize sumB (headX h) = sb at hpt hsh
    generalize headOf (headX h) = hd at hsh hhl ⊢
    obtain ⟨_, _, h3, h4, h5⟩ := headOk_in hok
    simp only [hok] at hck
    unfold headVal at hpt ⊢
    clear hok
    obtain ⟨p, r, t, d, n⟩ := h
    dsimp only at h3 h4 h5 hpt hck ⊢
    have ed : (hd : Int).tdiv 65536 = (hd : Int) / 65536 := Int.tdiv_eq_ediv_of_nonneg (by omega)
    have hq0 : 0 ≤ (hd : Int) / 65536 := by omega
    have hq1 : (hd : Int) / 65536 ≤ 32767 := by omega
    generalize (hd : Int) / 65536 = q at ed hq0 hq1 ⊢
    have hm1 : q * d ≤ 32767 * 8 := Int.mul_le_mul hq1 h4.2 (by omega) (by omega)
    have hm0 : 0 ≤ q * d := Int.mul_nonneg hq0 (by omega)
    have wq : IntKind.i64.wrap q = q := by rw [IntKind.wrap_i64]; omega
    have wm : IntKind.i64.wrap (q * d) = q * d := by generalize q * d = x at hm0 hm1 ⊢; rw [IntKind.wrap_i64]; omega
    have S0 : HSt w _ w.heap.size p r t d n := HSt.new w 32 p r t d n
    go_enter Tryd.func25, Tryd.ntmps25
    go_wp2_with fail
    refine (hck _).mono ?_
    rintro e w1 ⟨rfl, b1⟩
    have S1 := S0.call b1
    obtain ⟨c0, c1, c2, c3, c4⟩ := S1.out
    go_wp2_with fail
    go_region_held3 (fun w' => w'.cell? ⟨w.heap.size, 0, none⟩ = some (.string p) ∧ w'.cell? ⟨w.heap.size, 1, none⟩ = some (.string r) ∧ w'.cell? ⟨w.heap.size, 2, none⟩ = some (.int .i64 t) ∧ w'.cell? ⟨w.heap.size, 3, none⟩ = some (.int .i64 d) ∧ w'.cell? ⟨w.heap.size, 4, none⟩ = some (.int .i64 n))
      (first | (with_reducible first | exact S2.out | exact S1.out | exact S1.drew.out) | go_keep)
      (first
        | (go_at_call 54; refine (hpt _ (HK.out.below S1.drew.2.1 HK.out.lt) (HP.out _ S1.drew.2.1)).mono ?_; rintro e w2 ⟨rfl, b2⟩; have S2 : HSt w w2 w.heap.size p r t d n := S1.drew.call b2)
        | (go_at_call 53; refine (hsh _).mono ?_; rintro e w3 ⟨rfl, rfl⟩))
    go_wp2_with fail
    go_ret
    exact ⟨rfl, S2.2.1⟩

set_option maxHeartbeats 1000000 in
set_option maxRecDepth 100000 in
theorem specL3Meets (h : HeadV) (w : World) (hok : headOkB h = true) :
    Calls Tryd.prog 73 #[headVal h] w fun e w' => e = .returned (.bool (headMeets h)) ∧ Below w.heap.size w w' := by
  rw [meets_yes hok]
  have hpt := fun w' => specL3Sum h w' hok
  have hsh := fun w' => specHead ⟨(sumB (headX h)).toArray⟩ w' (isSum_sumB _)
  have e1 : ((hexN ((⟨(sumB (headX h)).toArray⟩ : ByteArray).data.toList.take 8) / 2 : Nat) : Int) = (headOf (headX h) : Int) := rfl
  rw [e1] at hsh
  clear e1
  have hhl := headOf_lt (headX h)
  generalize sumB (headX h) = sb at hpt hsh
  generalize headOf (headX h) = hd at hsh hhl ⊢
  obtain ⟨_, _, h3, h4, h5⟩ := headOk_in hok
  unfold headVal at hpt ⊢
  clear hok
  obtain ⟨p, r, t, d, n⟩ := h
  dsimp only at h3 h4 h5 hpt ⊢
  have ed : (hd : Int).tdiv 65536 = (hd : Int) / 65536 := Int.tdiv_eq_ediv_of_nonneg (by omega)
  have hq0 : 0 ≤ (hd : Int) / 65536 := by omega
  have hq1 : (hd : Int) / 65536 ≤ 32767 := by omega
  generalize (hd : Int) / 65536 = q at ed hq0 hq1 ⊢
  have hm1 : q * d ≤ 32767 * 8 := Int.mul_le_mul hq1 h4.2 (by omega) (by omega)
  have hm0 : 0 ≤ q * d := Int.mul_nonneg hq0 (by omega)
  have wq : IntKind.i64.wrap q = q := by rw [IntKind.wrap_i64]; omega
  have wm : IntKind.i64.wrap (q * d) = q * d := by generalize q * d = x at hm0 hm1 ⊢; rw [IntKind.wrap_i64]; omega
  have S1 : HSt w _ w.heap.size p r t d n := HSt.new w 32 p r t d n
  go_enter Tryd.func73, Tryd.ntmps73
  go_wp2_with fail
  go_region_held3 (fun w' => w'.cell? ⟨w.heap.size, 0, none⟩ = some (.string p) ∧ w'.cell? ⟨w.heap.size, 1, none⟩ = some (.string r) ∧ w'.cell? ⟨w.heap.size, 2, none⟩ = some (.int .i64 t) ∧ w'.cell? ⟨w.heap.size, 3, none⟩ = some (.int .i64 d) ∧ w'.cell? ⟨w.heap.size, 4, none⟩ = some (.int .i64 n))
    (first | (with_reducible first | exact S2.out | exact S1.out | exact S1.drew.out) | go_keep)
    (first
      | (go_at_call 101; refine (hpt _).mono ?_; rintro e w2 ⟨rfl, b2⟩; have S2 : HSt w w2 w.heap.size p r t d n := S1.drew.call b2)
      | (go_at_call 100; refine (hsh _).mono ?_; rintro e w3 ⟨rfl, rfl⟩))
  go_wp2_with fail
  go_ret
  exact ⟨rfl, S2.2.1⟩

end Go.Proofs.YtgnnfljobgbpbaaDoor

set_option linter.unusedVariables false
namespace Go.Proofs.YtgnnfljobgbpbaaDoor
open Go.RowKit

theorem find_first {p : Nat → Bool} : ∀ (n k : Nat), k < n → p k = true → (∀ j, j < k → p j = false) → (List.range n).find? p = some k
  | 0, k, hk, _, _ => by omega
  | n + 1, k, hk, hp, hj => by
    rw [List.range_succ, List.find?_append]
    by_cases h : k < n
    · rw [find_first n k h hp hj]
      rfl
    · obtain rfl : k = n := by omega
      have : (List.range k).find? p = none := List.find?_eq_none.2 fun j hj' => by rw [hj j (List.mem_range.1 hj')]; decide
      rw [this]
      simp [hp]
theorem find_none {p : Nat → Bool} {n : Nat} (h : ∀ j, j < n → p j = false) : (List.range n).find? p = none := List.find?_eq_none.2 fun j hj' => by rw [h j (List.mem_range.1 hj')]; decide
/-- A head with another number. -/
def headNo (h : HeadV) (k : Nat) : HeadV := { h with nonce := (k : Int) }
def zeroH : HeadV := ⟨⟨#[]⟩, ⟨#[]⟩, 0, 0, 0⟩
def headMine (h : HeadV) : HeadV × Bool := match (List.range 401).find? fun k => headMeets (headNo h k) with
  | some k => (headNo h k, true)
  | none => (zeroH, false)
theorem headMine_yes {h : HeadV} {k : Nat} (hk : k ≤ 400) (hm : headMeets (headNo h k) = true) (hj : ∀ j, j < k → headMeets (headNo h j) = false) : headMine h = (headNo h k, true) := by
  unfold headMine
  rw [find_first 401 k (by omega) hm hj]
theorem headMine_no {h : HeadV} (hj : ∀ j, j < 401 → headMeets (headNo h j) = false) : headMine h = (zeroH, false) := by
  unfold headMine
  rw [find_none hj]

set_option maxHeartbeats 1000000 in
set_option maxRecDepth 100000 in
theorem implClone (s : ByteArray) (w : World) (hs : s.size ≤ 281474976710656) :
    Calls Tryd.prog 70 #[.string s] w fun e w' => e = .returned (.string s) ∧ Below w.heap.size w w' := by
  go_enter Tryd.func70, Tryd.ntmps70
  go_wp2_with fail
  refine (Tryd.stringslite_Clone s w hs).mono ?_
  rintro e w1 ⟨rfl, b1⟩
  go_wp2_with fail
  go_ret
  exact ⟨rfl, b1⟩

theorem results_row_tmp {P : Program} {fn : Func} {p u : Tmp} {ty : TypeId} (h : fn.results = #[.cell p ty, .tmp u]) (tmps : Array Value) (w : World) (g : Nat) (t : TypeId) (cs : Array Value) (fr : Nat × Nat) (d : TypeDesc)
    (hp : tmps.getD p undef = .pointer (some ⟨g, 0, none⟩)) (hg : w.heap[g]? = some (.cells cs t fr))
    (hu : P.underlying ty = some d) (hd : (match d with | .struct _ | .array _ _ => true | _ => false) = true) (hi : (P.info? ty).map (·.size) = some cs.size) :
    (results fn tmps).run P w = .ok (.tuple #[.agg cs, tmps.getD u undef]) w := by
  rw [results_cell_tmp h, hp]
  simp [asAddr, run_loadVar_row w g t ty cs fr d hg hu hd hi, Result.andThen]
/-- A head's block. -/
def HBk (w : World) (g : Nat) (p r : ByteArray) (t d n : Int) : Prop := w.heap[g]? = some (.cells #[.string p, .string r, .int .i64 t, .int .i64 d, .int .i64 n] 32 (0, 0))
theorem HBk.lt {w : World} {g : Nat} {p r : ByteArray} {t d n : Int} (h : HBk w g p r t d n) : g < w.heap.size := by
  rcases Nat.lt_or_ge g w.heap.size with h' | h'
  · exact h'
  · simp [HBk, Array.getElem?_eq_none h'] at h
theorem HBk.below {w w' : World} {g B : Nat} {p r : ByteArray} {t d n : Int} (h : HBk w g p r t d n) (hb : Below B w w') (hg : g < B) : HBk w' g p r t d n := by
  unfold HBk at h ⊢
  rw [hb.block g hg]
  exact h
theorem HBk.facts {w : World} {g : Nat} {p r : ByteArray} {t d n : Int} (h : HBk w g p r t d n) : w.cell? ⟨g, 0, none⟩ = some (.string p) ∧ w.cell? ⟨g, 1, none⟩ = some (.string r) ∧ w.cell? ⟨g, 2, none⟩ = some (.int .i64 t) ∧ w.cell? ⟨g, 3, none⟩ = some (.int .i64 d) ∧ w.cell? ⟨g, 4, none⟩ = some (.int .i64 n) ∧ w.frozen? ⟨g, 0, none⟩ = false ∧ w.frozen? ⟨g, 1, none⟩ = false ∧ w.frozen? ⟨g, 2, none⟩ = false ∧ w.frozen? ⟨g, 3, none⟩ = false ∧ w.frozen? ⟨g, 4, none⟩ = false := by
  refine ⟨?_, ?_, ?_, ?_, ?_, Lib.frozen_of_heap h 0, Lib.frozen_of_heap h 1, Lib.frozen_of_heap h 2, Lib.frozen_of_heap h 3, Lib.frozen_of_heap h 4⟩ <;> (rw [Lib.cell_of_heap h]; rfl)
theorem HBk.set0 {w : World} {g : Nat} {p r : ByteArray} {t d n : Int} (h : HBk w g p r t d n) (q : ByteArray) : HBk (w.setCell ⟨g, 0, none⟩ (.string q)) g q r t d n := by
  unfold HBk at h ⊢; simp [World.setCell, Array.getElem?_modify, h]
theorem HBk.set1 {w : World} {g : Nat} {p r : ByteArray} {t d n : Int} (h : HBk w g p r t d n) (q : ByteArray) : HBk (w.setCell ⟨g, 1, none⟩ (.string q)) g p q t d n := by
  unfold HBk at h ⊢; simp [World.setCell, Array.getElem?_modify, h]
theorem HBk.set2 {w : World} {g : Nat} {p r : ByteArray} {t d n : Int} (h : HBk w g p r t d n) (q : Int) : HBk (w.setCell ⟨g, 2, none⟩ (.int .i64 q)) g p r q d n := by
  unfold HBk at h ⊢; simp [World.setCell, Array.getElem?_modify, h]
theorem HBk.set3 {w : World} {g : Nat} {p r : ByteArray} {t d n : Int} (h : HBk w g p r t d n) (q : Int) : HBk (w.setCell ⟨g, 3, none⟩ (.int .i64 q)) g p r t q n := by
  unfold HBk at h ⊢; simp [World.setCell, Array.getElem?_modify, h]
theorem HBk.set4 {w : World} {g : Nat} {p r : ByteArray} {t d n : Int} (h : HBk w g p r t d n) (q : Int) : HBk (w.setCell ⟨g, 4, none⟩ (.int .i64 q)) g p r t d q := by
  unfold HBk at h ⊢; simp [World.setCell, Array.getElem?_modify, h]
theorem HBk.other {w : World} {g g' j : Nat} {p r : ByteArray} {t d n : Int} (h : HBk w g p r t d n) (hg : g' ≠ g) (v : Value) : HBk (w.setCell ⟨g', j, none⟩ v) g p r t d n := by
  unfold HBk at h ⊢; simp [World.setCell, Array.getElem?_modify, h, hg]
theorem HBk.new (w : World) (p r : ByteArray) (t d n : Int) : HBk (w.alloc (.cells #[.string p, .string r, .int .i64 t, .int .i64 d, .int .i64 n] 32)) w.heap.size p r t d n := heap_alloc_new w _
/-- A head handed in at block g, the head handed back at block g + 1, g being the first block behind w. -/
def HTwo (w w' : World) (p r : ByteArray) (t d n : Int) (p2 r2 : ByteArray) (t2 d2 n2 : Int) : Prop := HBk w' w.heap.size p r t d n ∧ HBk w' (w.heap.size + 1) p2 r2 t2 d2 n2 ∧ Below w.heap.size w w'
theorem HTwo.new (w : World) (p r : ByteArray) (t d n : Int) (p2 r2 : ByteArray) (t2 d2 n2 : Int) : HTwo w ((w.alloc (.cells #[.string p, .string r, .int .i64 t, .int .i64 d, .int .i64 n] 32)).alloc (.cells #[.string p2, .string r2, .int .i64 t2, .int .i64 d2, .int .i64 n2] 32)) p r t d n p2 r2 t2 d2 n2 := by
  refine ⟨?_, ?_, ((Below.refl _ w).alloc (Nat.le_refl _) _).alloc (by simp) _⟩
  · exact (HBk.new w p r t d n).below ((Below.refl _ _).alloc (Nat.le_refl _) _) (by simp)
  · have := HBk.new (w.alloc (.cells #[.string p, .string r, .int .i64 t, .int .i64 d, .int .i64 n] 32)) p2 r2 t2 d2 n2
    rwa [show (w.alloc (.cells #[.string p, .string r, .int .i64 t, .int .i64 d, .int .i64 n] 32)).heap.size = w.heap.size + 1 from by simp] at this
theorem HTwo.call {w w' w'' : World} {p r : ByteArray} {t d n : Int} {p2 r2 : ByteArray} {t2 d2 n2 : Int} (h : HTwo w w' p r t d n p2 r2 t2 d2 n2) (hb : Below w'.heap.size w' w'') : HTwo w w'' p r t d n p2 r2 t2 d2 n2 :=
  ⟨h.1.below hb h.1.lt, h.2.1.below hb h.2.1.lt, h.2.2.trans (hb.mono h.2.2.size)⟩
theorem HTwo.set0 {w w' : World} {p r : ByteArray} {t d n : Int} {p2 r2 : ByteArray} {t2 d2 n2 : Int} (h : HTwo w w' p r t d n p2 r2 t2 d2 n2) (q : ByteArray) : HTwo w (w'.setCell ⟨w.heap.size, 0, none⟩ (.string q)) q r t d n p2 r2 t2 d2 n2 :=
  ⟨h.1.set0 q, h.2.1.other (by omega) _, h.2.2.setCell (p := ⟨w.heap.size, 0, none⟩) (Nat.le_refl _) _⟩
theorem HTwo.set1 {w w' : World} {p r : ByteArray} {t d n : Int} {p2 r2 : ByteArray} {t2 d2 n2 : Int} (h : HTwo w w' p r t d n p2 r2 t2 d2 n2) (q : ByteArray) : HTwo w (w'.setCell ⟨w.heap.size, 1, none⟩ (.string q)) p q t d n p2 r2 t2 d2 n2 :=
  ⟨h.1.set1 q, h.2.1.other (by omega) _, h.2.2.setCell (p := ⟨w.heap.size, 1, none⟩) (Nat.le_refl _) _⟩
theorem HTwo.set4 {w w' : World} {p r : ByteArray} {t d n : Int} {p2 r2 : ByteArray} {t2 d2 n2 : Int} (h : HTwo w w' p r t d n p2 r2 t2 d2 n2) (q : Int) : HTwo w (w'.setCell ⟨w.heap.size, 4, none⟩ (.int .i64 q)) p r t d q p2 r2 t2 d2 n2 :=
  ⟨h.1.set4 q, h.2.1.other (by omega) _, h.2.2.setCell (p := ⟨w.heap.size, 4, none⟩) (Nat.le_refl _) _⟩
theorem HTwo.back {w w' : World} {p r : ByteArray} {t d n : Int} {p2 r2 : ByteArray} {t2 d2 n2 : Int} (h : HTwo w w' p r t d n p2 r2 t2 d2 n2) (p3 r3 : ByteArray) (t3 d3 n3 : Int) : HTwo w (((((w'.setCell ⟨w.heap.size + 1, 0, none⟩ (.string p3)).setCell ⟨w.heap.size + 1, 1, none⟩ (.string r3)).setCell ⟨w.heap.size + 1, 2, none⟩ (.int .i64 t3)).setCell ⟨w.heap.size + 1, 3, none⟩ (.int .i64 d3)).setCell ⟨w.heap.size + 1, 4, none⟩ (.int .i64 n3)) p r t d n p3 r3 t3 d3 n3 :=
  ⟨((((h.1.other (by omega) _).other (by omega) _).other (by omega) _).other (by omega) _).other (by omega) _, ((((h.2.1.set0 p3).set1 r3).set2 t3).set3 d3).set4 n3,
    ((((h.2.2.setCell (p := ⟨w.heap.size + 1, 0, none⟩) (Nat.le_succ _) _).setCell (p := ⟨w.heap.size + 1, 1, none⟩) (Nat.le_succ _) _).setCell (p := ⟨w.heap.size + 1, 2, none⟩) (Nat.le_succ _) _).setCell (p := ⟨w.heap.size + 1, 3, none⟩) (Nat.le_succ _) _).setCell (p := ⟨w.heap.size + 1, 4, none⟩) (Nat.le_succ _) _⟩

set_option maxHeartbeats 1000000 in
set_option maxRecDepth 100000 in
theorem implHeadCopy (h : HeadV) (w : World) (hp : h.prev.size ≤ 281474976710656) (hr : h.root.size ≤ 281474976710656) :
    Calls Tryd.prog 47 #[headVal h] w fun e w' => e = .returned (headVal h) ∧ Below w.heap.size w w' := by
  obtain ⟨p, r, t, d, n⟩ := h
  unfold headVal
  dsimp only at hp hr ⊢
  have S0 : Hid (HTwo w _ p r t d n ⟨#[]⟩ ⟨#[]⟩ 0 0 0) := HTwo.new w p r t d n ⟨#[]⟩ ⟨#[]⟩ 0 0 0
  have q1 := fun w' => implClone p w' hp
  have q2 := fun w' => implClone r w' hr
  clear hp hr
  go_enter Tryd.func47, Tryd.ntmps47
  go_wp2_with fail
  refine (q1 _).mono ?_
  rintro e w1 ⟨rfl, b1⟩
  have S1 : Hid (HTwo w w1 p r t d n ⟨#[]⟩ ⟨#[]⟩ 0 0 0) := S0.out.call b1
  obtain ⟨c0, c1, c2, c3, c4, z0, z1, z2, z3, z4⟩ := S1.out.1.facts
  clear S0 b1 q1
  have S2 : Hid (HTwo w (w1.setCell ⟨w.heap.size, 0, none⟩ (.string p)) p r t d n ⟨#[]⟩ ⟨#[]⟩ 0 0 0) := S1.out.set0 p
  go_wp2_with fail
  refine (q2 _).mono ?_
  rintro e w2 ⟨rfl, b2⟩
  have S3 : Hid (HTwo w w2 p r t d n ⟨#[]⟩ ⟨#[]⟩ 0 0 0) := S2.out.call b2
  clear c0 c1 c2 c3 c4 z0 z1 z2 z3 z4 S1 S2 b2 q2
  obtain ⟨c0, c1, c2, c3, c4, z0, z1, z2, z3, z4⟩ := S3.out.1.facts
  obtain ⟨d0, d1, d2, d3, d4, f0, f1, f2, f3, f4⟩ := S3.out.2.1.facts
  have S4 : Hid (HTwo w (((((((w2.setCell ⟨w.heap.size, 1, none⟩ (.string r))).setCell ⟨w.heap.size + 1, 0, none⟩ (.string p)).setCell ⟨w.heap.size + 1, 1, none⟩ (.string r)).setCell ⟨w.heap.size + 1, 2, none⟩ (.int .i64 t)).setCell ⟨w.heap.size + 1, 3, none⟩ (.int .i64 d)).setCell ⟨w.heap.size + 1, 4, none⟩ (.int .i64 n)) p r t d n p r t d n) := (S3.out.set1 r).back p r t d n
  go_wp2_with fail
  exact bodyPost_ret (results_cell_row (p := 2) rfl _ _ (w.heap.size + 1) 32 #[.string p, .string r, .int .i64 t, .int .i64 d, .int .i64 n] (0, 0) _ rfl S4.out.2.1 Tryd.underlying32 rfl (by kernel_rfl)) rfl ⟨rfl, S4.out.2.2⟩

end Go.Proofs.YtgnnfljobgbpbaaDoor

set_option linter.unusedVariables false
namespace Go.Proofs.YtgnnfljobgbpbaaDoor
open Go.RowKit

set_option maxHeartbeats 1000000 in
set_option maxRecDepth 100000 in
theorem implHeadMine (h : HeadV) (w : World) (hp : h.prev.size ≤ 281474976710656) (hr : h.root.size ≤ 281474976710656) (hK : RowG w shaK) (hP : TabP w) :
    Calls Tryd.prog 23 #[headVal h] w fun e w' => e = .returned (.tuple #[headVal (headMine h).1, .bool (headMine h).2]) ∧ Below w.heap.size w w' := by
  have HK : Hid (RowG w shaK) := hK
  have HP : Hid (∀ w', Below w.heap.size w w' → TabP w') := fun w' hb => TabP.below hP hb (Nat.le_refl _)
  have HME : Hid (∀ k, k ≤ 400 → headMeets (headNo h k) = true → (∀ j, j < k → headMeets (headNo h j) = false) → headMine h = (headNo h k, true)) := fun k => headMine_yes
  have HNO : Hid ((∀ j, j < 401 → headMeets (headNo h j) = false) → headMine h = (zeroH, false)) := headMine_no
  have HMT := fun (k : Nat) w' hk hp' => implHeadMeets (headNo h k) w' hk hp'
  have HCP := fun (k : Nat) w' => implHeadCopy (headNo h k) w' hp hr
  generalize headMine h = M at HME HNO ⊢
  clear hK hP hp hr
  obtain ⟨p, r, t, d, n⟩ := h
  unfold headNo at HMT HCP HME HNO
  unfold headVal at HMT HCP ⊢
  dsimp only at HMT HCP HME HNO ⊢
  have S0 : Hid (HTwo w _ p r t d n ⟨#[]⟩ ⟨#[]⟩ 0 0 0) := HTwo.new w p r t d n ⟨#[]⟩ ⟨#[]⟩ 0 0 0
  go_enter Tryd.func23, Tryd.ntmps23
  go_wp2_with fail
  go_loopw [5] (fun i wr => ∃ (k : Nat) (m : Int), k ≤ 401 ∧ i = .int .i64 (k : Int) ∧ Hid (HTwo w wr p r t d m ⟨#[]⟩ ⟨#[]⟩ 0 0 0) ∧ Hid (∀ j, j < k → headMeets ⟨p, r, t, d, (j : Int)⟩ = false)) (fun i _ => 401 - (intOf i).toNat)
  case atStart => exact ⟨0, n, by omega, rfl, S0, fun j hj => by omega⟩
  case round =>
    clear S0
    obtain ⟨k, m, hk, rfl, S0, HJ⟩ := hrel
    obtain ⟨c0, c1, c2, c3, c4, z0, z1, z2, z3, z4⟩ := S0.out.1.facts
    obtain ⟨d0, d1, d2, d3, d4, f0, f1, f2, f3, f4⟩ := S0.out.2.1.facts
    by_cases hlt : k < 401
    · have lk : (k : Int) < 401 := by omega
      have S1 : Hid (HTwo w (wr.setCell ⟨w.heap.size, 4, none⟩ (.int .i64 (k : Int))) p r t d (k : Int) ⟨#[]⟩ ⟨#[]⟩ 0 0 0) := S0.out.set4 (k : Int)
      have hmt := HMT k _ (HK.out.below S1.out.2.2 HK.out.lt) (HP.out _ S1.out.2.2)
      have hcp := HCP k
      have HMk := HME.out k (by omega)
      have HMk' : Hid (headMeets ⟨p, r, t, d, (k : Int)⟩ = true → M = (⟨p, r, t, d, (k : Int)⟩, true)) := fun h => HMk h HJ.out
      have HJ2 : Hid (headMeets ⟨p, r, t, d, (k : Int)⟩ = false → ∀ j, j < k + 1 → headMeets ⟨p, r, t, d, (j : Int)⟩ = false) := by
        intro h j hj
        rcases Nat.lt_or_ge j k with h' | h'
        · exact HJ.out j h'
        · obtain rfl : j = k := by omega
          exact h
      clear HMT HCP HME HMk
      generalize headMeets ⟨p, r, t, d, (k : Int)⟩ = b at hmt HMk' HJ2
      go_wp2_with fail
      refine hmt.mono ?_
      rintro e w1 ⟨rfl, b1⟩
      have S2 : Hid (HTwo w w1 p r t d (k : Int) ⟨#[]⟩ ⟨#[]⟩ 0 0 0) := S1.out.call b1
      clear c0 c1 c2 c3 c4 z0 z1 z2 z3 z4 d0 d1 d2 d3 d4 f0 f1 f2 f3 f4 S0 S1 b1 hmt
      obtain ⟨c0, c1, c2, c3, c4, z0, z1, z2, z3, z4⟩ := S2.out.1.facts
      cases b with
      | true =>
        go_wp2_with fail
        refine (hcp _).mono ?_
        rintro e w2 ⟨rfl, b2⟩
        have S3 : Hid (HTwo w w2 p r t d (k : Int) ⟨#[]⟩ ⟨#[]⟩ 0 0 0) := S2.out.call b2
        clear c0 c1 c2 c3 c4 z0 z1 z2 z3 z4
        obtain ⟨d0, d1, d2, d3, d4, f0, f1, f2, f3, f4⟩ := S3.out.2.1.facts
        have S4 : Hid (HTwo w _ p r t d (k : Int) p r t d (k : Int)) := S3.out.back p r t d (k : Int)
        have HM : Hid (M = (⟨p, r, t, d, (k : Int)⟩, true)) := HMk'.out (by first | rfl | trivial)
        clear HMk' HJ2
        go_wp2_with fail
        exact bodyPost_ret (results_row_tmp (p := 2) (u := 3) rfl _ _ (w.heap.size + 1) 32 #[.string p, .string r, .int .i64 t, .int .i64 d, .int .i64 (k : Int)] (0, 0) _ rfl S4.out.2.1 Tryd.underlying32 rfl (by kernel_rfl)) rfl ⟨by rw [HM.out]; rfl, S4.out.2.2⟩
      | false =>
        have HJ3 := HJ2.out (by first | rfl | trivial)
        have HJ4 : Hid (∀ j, j < k + 1 → headMeets ⟨p, r, t, d, (j : Int)⟩ = false) := HJ3
        clear HJ3 HJ2 HJ HMk'
        have HK1 : Hid (k + 1 ≤ 401) := hlt
        go_wp2_with fail
        go_roundw
        case rel => exact ⟨k + 1, (k : Int), HK1.out, by go_num, S2, HJ4⟩
        case measure => have := HK1.out; simp [intOf]; omega
    · obtain rfl : k = 401 := by omega
      have HM : Hid (M = (zeroH, false)) := HNO.out HJ.out
      have S4 : Hid (HTwo w _ p r t d m ⟨#[]⟩ ⟨#[]⟩ 0 0 0) := S0.out.back ⟨#[]⟩ ⟨#[]⟩ 0 0 0
      clear HMT HCP HME
      go_wp2_with fail
      exact bodyPost_ret (results_row_tmp (p := 2) (u := 3) rfl _ _ (w.heap.size + 1) 32 #[.string ⟨#[]⟩, .string ⟨#[]⟩, .int .i64 0, .int .i64 0, .int .i64 0] (0, 0) _ rfl S4.out.2.1 Tryd.underlying32 rfl (by kernel_rfl)) rfl ⟨by rw [HM.out]; rfl, S4.out.2.2⟩

theorem ok_nonce {h : HeadV} {k : Nat} (hk : k ≤ 400) : headOkB (headNo h k) = headOkB (headNo h 0) := by
  have e1 : decide (0 ≤ (headNo h k).nonce ∧ (headNo h k).nonce ≤ 400) = true := decide_eq_true (by show 0 ≤ (k : Int) ∧ (k : Int) ≤ 400; omega)
  have e2 : decide (0 ≤ (headNo h 0).nonce ∧ (headNo h 0).nonce ≤ 400) = true := decide_eq_true (by show 0 ≤ ((0 : Nat) : Int) ∧ ((0 : Nat) : Int) ≤ 400; omega)
  unfold headOkB
  rw [e1, e2]
  rfl

set_option maxHeartbeats 1000000 in
set_option maxRecDepth 100000 in
theorem specL3Mine (h : HeadV) (w : World) (hok : headOkB (headNo h 0) = true) :
    Calls Tryd.prog 49 #[headVal h] w fun e w' => e = .returned (.tuple #[headVal (headMine h).1, .bool (headMine h).2]) ∧ Below w.heap.size w w' := by
  have HME : Hid (∀ k, k ≤ 400 → headMeets (headNo h k) = true → (∀ j, j < k → headMeets (headNo h j) = false) → headMine h = (headNo h k, true)) := fun k => headMine_yes
  have HNO : Hid ((∀ j, j < 401 → headMeets (headNo h j) = false) → headMine h = (zeroH, false)) := headMine_no
  have HMT := fun (k : Nat) (hk : k ≤ 400) w' => specL3Meets (headNo h k) w' ((ok_nonce hk).trans hok)
  generalize headMine h = M at HME HNO ⊢
  clear hok
  obtain ⟨p, r, t, d, n⟩ := h
  unfold headNo at HMT HME HNO
  unfold headVal at HMT ⊢
  dsimp only at HMT HME HNO ⊢
  have S0 : Hid (HTwo w _ p r t d 0 ⟨#[]⟩ ⟨#[]⟩ 0 0 0) := (HTwo.new w p r t d n ⟨#[]⟩ ⟨#[]⟩ 0 0 0).set4 0
  go_enter Tryd.func49, Tryd.ntmps49
  go_wp2_with fail
  go_loopw [] (fun wr => ∃ k : Nat, k ≤ 401 ∧ Hid (HTwo w wr p r t d (k : Int) ⟨#[]⟩ ⟨#[]⟩ 0 0 0) ∧ Hid (∀ j, j < k → headMeets ⟨p, r, t, d, (j : Int)⟩ = false)) (fun wr => 401 - (intOf ((wr.cell? ⟨w.heap.size, 4, none⟩).getD undef)).toNat)
  case atStart => exact ⟨0, by omega, by first | exact S0 | exact HTwo.new w p r t d 0 ⟨#[]⟩ ⟨#[]⟩ 0 0 0, fun j hj => by omega⟩
  case round =>
    clear S0
    obtain ⟨k, hk, S0, HJ⟩ := hrel
    obtain ⟨c0, c1, c2, c3, c4, z0, z1, z2, z3, z4⟩ := S0.out.1.facts
    obtain ⟨d0, d1, d2, d3, d4, f0, f1, f2, f3, f4⟩ := S0.out.2.1.facts
    by_cases hlt : k < 401
    · have lk : (k : Int) ≤ 400 := by omega
      have hmt := HMT k (by omega)
      have HMk := HME.out k (by omega)
      have HMk' : Hid (headMeets ⟨p, r, t, d, (k : Int)⟩ = true → M = (⟨p, r, t, d, (k : Int)⟩, true)) := fun h => HMk h HJ.out
      have HJ2 : Hid (headMeets ⟨p, r, t, d, (k : Int)⟩ = false → ∀ j, j < k + 1 → headMeets ⟨p, r, t, d, (j : Int)⟩ = false) := by
        intro h j hj
        rcases Nat.lt_or_ge j k with h' | h'
        · exact HJ.out j h'
        · obtain rfl : j = k := by omega
          exact h
      clear HMT HME HMk
      generalize headMeets ⟨p, r, t, d, (k : Int)⟩ = b at hmt HMk' HJ2
      go_wp2_with fail
      refine (hmt _).mono ?_
      rintro e w1 ⟨rfl, b1⟩
      have S2 : Hid (HTwo w w1 p r t d (k : Int) ⟨#[]⟩ ⟨#[]⟩ 0 0 0) := S0.out.call b1
      have HC4 : Hid (wr.cell? ⟨w.heap.size, 4, none⟩ = some (.int .i64 (k : Int))) := c4
      clear c0 c1 c2 c3 c4 z0 z1 z2 z3 z4 d0 d1 d2 d3 d4 f0 f1 f2 f3 f4 S0 b1 hmt
      obtain ⟨c0, c1, c2, c3, c4, z0, z1, z2, z3, z4⟩ := S2.out.1.facts
      obtain ⟨d0, d1, d2, d3, d4, f0, f1, f2, f3, f4⟩ := S2.out.2.1.facts
      cases b with
      | true =>
        have S4 : Hid (HTwo w _ p r t d (k : Int) p r t d (k : Int)) := S2.out.back p r t d (k : Int)
        have HM : Hid (M = (⟨p, r, t, d, (k : Int)⟩, true)) := HMk'.out (by first | rfl | trivial)
        clear HMk' HJ2
        go_wp2_with fail
        exact bodyPost_ret (results_row_tmp (p := 2) (u := 3) rfl _ _ (w.heap.size + 1) 32 #[.string p, .string r, .int .i64 t, .int .i64 d, .int .i64 (k : Int)] (0, 0) _ rfl S4.out.2.1 Tryd.underlying32 rfl (by kernel_rfl)) rfl ⟨by rw [HM.out]; rfl, S4.out.2.2⟩
      | false =>
        have HJ4 : Hid (∀ j, j < k + 1 → headMeets ⟨p, r, t, d, (j : Int)⟩ = false) := HJ2.out (by first | rfl | trivial)
        clear HJ2 HJ HMk'
        have HK1 : Hid (k + 1 ≤ 401) := hlt
        have S5 : Hid (HTwo w (w1.setCell ⟨w.heap.size, 4, none⟩ (.int .i64 ((k : Int) + 1))) p r t d ((k + 1 : Nat) : Int) ⟨#[]⟩ ⟨#[]⟩ 0 0 0) := S2.out.set4 ((k + 1 : Nat) : Int)
        have wk : IntKind.i64.wrap ((k : Int) + 1) = (k : Int) + 1 := by rw [IntKind.wrap_i64]; omega
        go_wp2_with fail
        go_roundw
        case rel => exact ⟨k + 1, HK1.out, S5, HJ4⟩
        case measure =>
          have e1 := S5.out.1.facts.2.2.2.2.1
          rw [e1, HC4.out]
          have := HK1.out
          simp [intOf]
          omega
    · obtain rfl : k = 401 := by omega
      have HM : Hid (M = (zeroH, false)) := HNO.out HJ.out
      have S4 : Hid (HTwo w _ p r t d ((401 : Nat) : Int) ⟨#[]⟩ ⟨#[]⟩ 0 0 0) := S0.out.back ⟨#[]⟩ ⟨#[]⟩ 0 0 0
      clear HMT HME
      go_wp2_with fail
      exact bodyPost_ret (results_row_tmp (p := 2) (u := 3) rfl _ _ (w.heap.size + 1) 32 #[.string ⟨#[]⟩, .string ⟨#[]⟩, .int .i64 0, .int .i64 0, .int .i64 0] (0, 0) _ rfl S4.out.2.1 Tryd.underlying32 rfl (by kernel_rfl)) rfl ⟨by rw [HM.out]; rfl, S4.out.2.2⟩

end Go.Proofs.YtgnnfljobgbpbaaDoor

set_option linter.unusedVariables false
namespace Go.Proofs.YtgnnfljobgbpbaaDoor
open Go.RowKit

section flat
variable {α : Type}
theorem flat_at [Inhabited α] (k : Nat) (enc : α → List Value) (hk : ∀ a, (enc a).length = k) : ∀ (l : List α) (i j : Nat), i < l.length → j < k → (l.flatMap enc)[i * k + j]? = (enc (l.getD i default))[j]?
  | [], i, j, hi, _ => by cases hi
  | x :: r, 0, j, _, hj => by
    rw [List.flatMap_cons, Nat.zero_mul, Nat.zero_add, List.getElem?_append_left (by rw [hk]; exact hj)]
    rfl
  | x :: r, i + 1, j, hi, hj => by
    have e : (i + 1) * k + j = k + (i * k + j) := by rw [Nat.add_mul]; omega
    rw [List.flatMap_cons, List.getElem?_append_right (by rw [hk, e]; omega), hk, e, Nat.add_sub_cancel_left, flat_at k enc hk r i j (by simpa using hi) hj]
    rfl
theorem flat_length (k : Nat) (enc : α → List Value) (hk : ∀ a, (enc a).length = k) (l : List α) : (l.flatMap enc).length = l.length * k := by
  induction l with
  | nil => simp
  | cons x r ih => rw [List.flatMap_cons, List.length_append, hk, ih, List.length_cons, Nat.add_mul]; omega
/-- The cells of one element put one by one. -/
def putAt : List Value → Nat → List Value → List Value
  | cs, _, [] => cs
  | cs, p, v :: vs => putAt (cs.set p v) (p + 1) vs
theorem putAt_right (a : List Value) : ∀ (vs b : List Value) (p : Nat), a.length ≤ p → putAt (a ++ b) p vs = a ++ putAt b (p - a.length) vs
  | [], b, p, _ => rfl
  | v :: vs, b, p, hp => by
    rw [putAt, putAt, List.set_append_right _ _ hp, putAt_right a vs _ (p + 1) (by omega), show p + 1 - a.length = p - a.length + 1 from by omega]
theorem putAt_zero : ∀ (vs a b : List Value) (pre : List Value), a.length = vs.length → putAt (pre ++ (a ++ b)) pre.length vs = pre ++ (vs ++ b)
  | [], a, b, pre, h => by
    rw [List.length_eq_zero_iff.1 h]
    rfl
  | v :: vs, [], b, pre, h => by cases h
  | v :: vs, x :: a, b, pre, h => by
    rw [putAt, List.set_append_right _ _ (Nat.le_refl _), Nat.sub_self]
    have := putAt_zero vs a b (pre ++ [v]) (by simpa using h)
    simp only [List.append_assoc, List.cons_append, List.nil_append, List.length_append, List.length_cons, List.length_nil] at this
    exact this
theorem flat_put (k : Nat) (enc : α → List Value) (hk : ∀ a, (enc a).length = k) : ∀ (l : List α) (i : Nat) (a : α), i < l.length → putAt (l.flatMap enc) (i * k) (enc a) = (l.set i a).flatMap enc
  | [], i, a, hi => by cases hi
  | x :: r, 0, a, _ => by
    have := putAt_zero (enc a) (enc x) (r.flatMap enc) [] (by rw [hk, hk])
    simpa using this
  | x :: r, i + 1, a, hi => by
    have e : (i + 1) * k = k + i * k := by rw [Nat.add_mul]; omega
    rw [List.flatMap_cons, putAt_right _ _ _ _ (by rw [hk, e]; omega), hk, e, Nat.add_sub_cancel_left, flat_put k enc hk r i a (by simpa using hi)]
    rfl
/-- The row at a block. -/
def RowF (enc : α → List Value) (T : TypeId) (w : World) (g : Nat) (l : List α) : Prop := w.heap[g]? = some (.cells (l.flatMap enc).toArray T (0, 0))
theorem RowF.lt {enc : α → List Value} {T : TypeId} {w : World} {g : Nat} {l : List α} (h : RowF enc T w g l) : g < w.heap.size := by
  rcases Nat.lt_or_ge g w.heap.size with h' | h'
  · exact h'
  · simp [RowF, Array.getElem?_eq_none h'] at h
theorem RowF.below {enc : α → List Value} {T : TypeId} {w w' : World} {g B : Nat} {l : List α} (h : RowF enc T w g l) (hb : Below B w w') (hg : g < B) : RowF enc T w' g l := by
  unfold RowF at h ⊢; rw [hb.block g hg]; exact h
theorem RowF.drew {enc : α → List Value} {T : TypeId} {w : World} {g : Nat} {l : List α} (h : RowF enc T w g l) : RowF enc T w.drew g l := h
theorem RowF.frozen {enc : α → List Value} {T : TypeId} {w : World} {g : Nat} {l : List α} (h : RowF enc T w g l) (i : Nat) : w.frozen? ⟨g, i, none⟩ = false := Lib.frozen_of_heap h i
theorem RowF.cell [Inhabited α] {enc : α → List Value} {T : TypeId} {w : World} {g : Nat} {l : List α} (k : Nat) (hk : ∀ a, (enc a).length = k) (h : RowF enc T w g l) (i j : Nat) (hi : i < l.length) (hj : j < k) : w.cell? ⟨g, i * k + j, none⟩ = (enc (l.getD i default))[j]? := by
  rw [Lib.cell_of_heap h, ← flat_at k enc hk l i j hi hj]
  simp
theorem rowSet {T : TypeId} {w : World} {g p : Nat} {cs : List Value} (h : w.heap[g]? = some (.cells cs.toArray T (0, 0))) (v : Value) : (w.setCell ⟨g, p, none⟩ v).heap[g]? = some (.cells (cs.set p v).toArray T (0, 0)) := by
  simp only [World.setCell, Array.getElem?_modify, h]
  simp
/-- What lies there, element by element. -/
def AtF [Inhabited α] (enc : α → List Value) (k : Nat) (w : World) (g : Nat) (l : List α) : Prop := g < w.heap.size ∧ ∀ i j, i < l.length → j < k → w.cell? ⟨g, i * k + j, none⟩ = (enc (l.getD i default))[j]?
theorem RowF.at [Inhabited α] {enc : α → List Value} {T : TypeId} {w : World} {g : Nat} {l : List α} (k : Nat) (hk : ∀ a, (enc a).length = k) (h : RowF enc T w g l) : AtF enc k w g l := ⟨h.lt, fun i j hi hj => h.cell k hk i j hi hj⟩
theorem AtF.below [Inhabited α] {enc : α → List Value} {k : Nat} {w w' : World} {g B : Nat} {l : List α} (h : AtF enc k w g l) (hb : Below B w w') (hg : g < B) : AtF enc k w' g l :=
  ⟨Nat.lt_of_lt_of_le h.1 hb.size, fun i j hi hj => by rw [hb.cell (p := ⟨g, i * k + j, none⟩) hg]; exact h.2 i j hi hj⟩
theorem AtF.drew [Inhabited α] {enc : α → List Value} {k : Nat} {w : World} {g : Nat} {l : List α} (h : AtF enc k w g l) : AtF enc k w.drew g l := h
theorem set_nextF [Inhabited α] (z : α) (f : List α) (n k : Nat) (hk : k < f.length) (hn : k < n) : (f.take k ++ List.replicate (n - k) z).set k (f.getD k default) = f.take (k + 1) ++ List.replicate (n - (k + 1)) z := by
  have hl : (f.take k).length = k := by simp; omega
  rw [List.set_append_right _ _ (by omega), hl, Nat.sub_self, show n - k = (n - (k + 1)) + 1 from by omega, List.replicate_succ, List.set_cons_zero]
  have e1 : f.take (k + 1) = f.take k ++ [f[k]] := by rw [List.take_add_one, List.getElem?_eq_getElem hk]; rfl
  have e2 : f.getD k default = f[k] := by rw [List.getD_eq_getElem?_getD, List.getElem?_eq_getElem hk]; rfl
  rw [e1, e2, List.append_assoc]
  rfl
/-- What 'make' leaves. -/
theorem made_flat [Inhabited α] (k : Nat) (enc : α → List Value) (hk : ∀ a, (enc a).length = k) (hk0 : 0 < k) (a : α) (n : Nat) : madeCells (enc a).toArray (n * k) = ((List.replicate n a).flatMap enc).toArray := by
  apply Array.ext
  · rw [size_madeCells]
    simp [flat_length k enc hk]
  · intro i h1 h2
    rw [size_madeCells] at h1
    have hq : i / k < n := Nat.div_lt_of_lt_mul (by rw [Nat.mul_comm]; exact h1)
    have hr : i % k < k := Nat.mod_lt _ hk0
    have e : i / k * k + i % k = i := by rw [Nat.mul_comm]; exact Nat.div_add_mod i k
    have hf := flat_at k enc hk (List.replicate n a) (i / k) (i % k) (by simpa using hq) hr
    rw [e] at hf
    have hd : (List.replicate n a).getD (i / k) default = a := by simp [List.getD_eq_getElem?_getD, hq]
    rw [hd, List.getElem?_eq_getElem (show i < ((List.replicate n a).flatMap enc).length by simpa using h2), List.getElem?_eq_getElem (show i % k < (enc a).length by rw [hk]; exact hr)] at hf
    have hf2 := Option.some.inj hf
    simp only [List.getElem_toArray]
    rw [hf2]
    simp [madeCells, hk, hr]
end flat

end Go.Proofs.YtgnnfljobgbpbaaDoor

set_option linter.unusedVariables false
namespace Go.Proofs.YtgnnfljobgbpbaaDoor
open Go.RowKit Go.Deep

section
variable {α : Type} [Inhabited α]
/-- A slice of elements of k cells each. -/
def IsFlat (en : α → List Value) (wf : α → Prop) (k : Nat) (w : World) (a : Option Addr) (len cap : Nat) (l : List α) : Prop :=
  (a = none ∧ len = 0 ∧ cap = 0 ∧ l = []) ∨ ∃ x : Addr, a = some x ∧ len ≤ cap ∧ cap ≤ maxLen ∧ l.length = len ∧ (∀ i j, i < len → j < k → w.cell? ((x.add (i * k)).add j) = (en (l.getD i default))[j]?) ∧ ∀ i, i < len → wf (l.getD i default)
theorem IsFlat.len {en : α → List Value} {wf : α → Prop} {k : Nat} {w : World} {a : Option Addr} {len cap : Nat} {l : List α} (h : IsFlat en wf k w a len cap l) : l.length = len := by
  rcases h with ⟨_, h1, _, h2⟩ | ⟨x, _, _, _, h1, _⟩
  · rw [h1, h2]; rfl
  · exact h1
theorem IsFlat.max {en : α → List Value} {wf : α → Prop} {k : Nat} {w : World} {a : Option Addr} {len cap : Nat} {l : List α} (h : IsFlat en wf k w a len cap l) : len ≤ maxLen := by
  rcases h with ⟨_, h1, _, h2⟩ | ⟨x, _, h1, h2, _⟩
  · omega
  · omega
theorem cell_lt {w : World} {x : Addr} {v : Value} (h : w.cell? x = some v) : x.block < w.heap.size := by
  rcases Nat.lt_or_ge x.block w.heap.size with h' | h'
  · exact h'
  · exfalso
    unfold World.cell? at h
    simp [Array.getElem?_eq_none h'] at h
theorem add_block (x : Addr) (n : Nat) : (x.add n).block = x.block := by unfold Addr.add; split <;> rfl
theorem IsFlat.at {en : α → List Value} {wf : α → Prop} {k : Nat} (hk : ∀ a, (en a).length = k) {w w' : World} {a : Option Addr} {len cap : Nat} {l : List α} (h : IsFlat en wf k w a len cap l) (hb : Below w.heap.size w w') (i : Nat) (hi : i < len) :
    ∃ x : Addr, a = some x ∧ (∀ j, j < k → w'.cell? ((x.add (i * k)).add j) = (en (l.getD i default))[j]?) ∧ wf (l.getD i default) := by
  rcases h with ⟨_, h1, _, _⟩ | ⟨x, hx, _, _, _, h2, h3⟩
  · omega
  · refine ⟨x, hx, fun j hj => ?_, h3 i hi⟩
    have := h2 i j hi hj
    rw [← this]
    have hs : ∃ v, w.cell? ((x.add (i * k)).add j) = some v := by
      rw [this]
      exact ⟨_, List.getElem?_eq_getElem (by rw [hk]; exact hj)⟩
    obtain ⟨v, hv⟩ := hs
    exact hb.cell (cell_lt hv)
theorem open_flat {P : Program} {H : Type} {enc : TypeId × Value → H} {W : World} {base : Nat} {sp : Nat → Bool} {held : Bool} {t e : TypeId} {k : Nat} {a : Option Addr} {len cap : Nat} {d : DataW H} {p : List MemPlace}
    (en : α → List Value) (wf : α → Prop) (ht : P.underlying t = some (.slice e)) (hk : P.cellsOf e = k)
    (inv : ∀ n cs y, DataW.trod enc P W base sp held n e cs = some y → cs.length = k → ∃ v : α, cs = en v ∧ wf v)
    (h : DataW.Trod enc P W base sp held t (.slice a len cap) d p) : ∃ l : List α, IsFlat en wf k W a len cap l := by
  obtain ⟨fuel, hf⟩ := h
  rcases open_slice ht hf with ⟨hcs, _⟩ | ⟨x, l, c, m, n, D, Pl, hcs, _, hl, hm, hmm, _, hel⟩
  · simp [Value.cells] at hcs
    obtain ⟨rfl, rfl, rfl⟩ := hcs
    exact ⟨[], .inl ⟨rfl, rfl, rfl, rfl⟩⟩
  · simp [Value.cells] at hcs
    obtain ⟨rfl, rfl, rfl⟩ := hcs
    have hlm : len ≤ m := by rw [hmm]; split <;> omega
    have each : ∀ i : Nat, ∃ v : α, i < len → (∀ j, j < k → W.cell? ((x.add (i * k)).add j) = (en v)[j]?) ∧ wf v := by
      intro i
      by_cases hi : i < len
      · obtain ⟨cs', h1, h2⟩ := hel i (by omega)
        rw [hk] at h1
        obtain ⟨_, h3, h4⟩ := World.cells?_some h1
        obtain ⟨v, rfl, hv⟩ := inv _ _ _ h2 h3
        exact ⟨v, fun _ => ⟨h4, hv⟩⟩
      · exact ⟨default, fun h => absurd h hi⟩
    obtain ⟨f, hf⟩ := Classical.axiomOfChoice each
    have hg : ∀ i, i < len → ((List.range len).map f).getD i default = f i := by
      intro i hi
      simp [List.getD_eq_getElem?_getD, hi]
    refine ⟨(List.range len).map f, .inr ⟨x, rfl, hl, hm, by simp, fun i j hi hj => ?_, fun i hi => ?_⟩⟩
    · rw [hg i hi]
      exact (hf i hi).1 j hj
    · rw [hg i hi]
      exact (hf i hi).2
end

end Go.Proofs.YtgnnfljobgbpbaaDoor

set_option linter.unusedVariables false
namespace Go.Proofs.YtgnnfljobgbpbaaDoor
open Go.ChangeShapes Go.WideShapes Go.ChangeAt Go.RowKit Go.Deep

def enHead (p : HeadV) : List Value := [.string p.prev, .string p.root, .int .i64 p.time, .int .i64 p.diff, .int .i64 p.nonce]
theorem enHead_len (p : HeadV) : (enHead p).length = 5 := rfl
/-- Its texts can be held. -/
def wfHead (p : HeadV) : Prop := p.prev.size ≤ maxLen ∧ p.root.size ≤ maxLen
/-- Its texts are small. -/
def smallHead (p : HeadV) : Prop := p.prev.size ≤ 1048576 ∧ p.root.size ≤ 1048576
abbrev IsHeads (w : World) (a : Option Addr) (len cap : Nat) (l : List HeadV) : Prop := IsFlat enHead wfHead 5 w a len cap l
abbrev RowHead (w : World) (g : Nat) (l : List HeadV) : Prop := RowF enHead 32 w g l
abbrev AtHead (w : World) (g : Nat) (l : List HeadV) : Prop := AtF enHead 5 w g l
theorem AtHead.c0 {w : World} {g : Nat} {l : List HeadV} (h : AtHead w g l) (i : Nat) (hi : i < l.length) : w.cell? ⟨g, i * 5, none⟩ = some (.string (l.getD i default).prev) := h.2 i 0 hi (by decide)
theorem AtHead.c1 {w : World} {g : Nat} {l : List HeadV} (h : AtHead w g l) (i : Nat) (hi : i < l.length) : w.cell? ⟨g, i * 5 + 1, none⟩ = some (.string (l.getD i default).root) := h.2 i 1 hi (by decide)
theorem AtHead.c2 {w : World} {g : Nat} {l : List HeadV} (h : AtHead w g l) (i : Nat) (hi : i < l.length) : w.cell? ⟨g, i * 5 + 2, none⟩ = some (.int .i64 (l.getD i default).time) := h.2 i 2 hi (by decide)
theorem AtHead.c3 {w : World} {g : Nat} {l : List HeadV} (h : AtHead w g l) (i : Nat) (hi : i < l.length) : w.cell? ⟨g, i * 5 + 3, none⟩ = some (.int .i64 (l.getD i default).diff) := h.2 i 3 hi (by decide)
theorem AtHead.c4 {w : World} {g : Nat} {l : List HeadV} (h : AtHead w g l) (i : Nat) (hi : i < l.length) : w.cell? ⟨g, i * 5 + 4, none⟩ = some (.int .i64 (l.getD i default).nonce) := h.2 i 4 hi (by decide)
theorem cellsHead {w : World} {x : Addr} {p : HeadV} (h : ∀ j, j < 5 → w.cell? (x.add j) = (enHead p)[j]?) : w.cell? x = some (.string p.prev) ∧ w.cell? ⟨x.block, x.off + 1, none⟩ = some (.string p.root) ∧ w.cell? ⟨x.block, x.off + 2, none⟩ = some (.int .i64 p.time) ∧ w.cell? ⟨x.block, x.off + 3, none⟩ = some (.int .i64 p.diff) ∧ w.cell? ⟨x.block, x.off + 4, none⟩ = some (.int .i64 p.nonce) := by
  exact ⟨h 0 (by decide), h 1 (by decide), h 2 (by decide), h 3 (by decide), h 4 (by decide)⟩
theorem partsHead {cs : List Value} {a0 a1 a2 a3 a4 : Value} (hl : cs.length = 5) (h0 : (cs.drop 0).take 1 = [a0]) (h1 : (cs.drop 1).take 1 = [a1]) (h2 : (cs.drop 2).take 1 = [a2]) (h3 : (cs.drop 3).take 1 = [a3]) (h4 : (cs.drop 4).take 1 = [a4]) : cs = [a0, a1, a2, a3, a4] := by
  match cs, hl with
  | [x0, x1, x2, x3, x4], _ =>
    simp at h0 h1 h2 h3 h4
    subst h0 h1 h2 h3 h4
    rfl
theorem oneHead_i : Tryd.prog.cellsOf 3 = 1 := by kernel_rfl
theorem oneHead_s : Tryd.prog.cellsOf 9 = 1 := by kernel_rfl
theorem sizeHead : Tryd.prog.cellsOf 37 = 5 := by kernel_rfl
set_option maxRecDepth 100000 in
theorem invHead {H : Type} {enc : TypeId × Value → H} {W : World} {base : Nat} {sp : Nat → Bool} {held : Bool} (n : Nat) (cs : List Value) (y : DataW H × List MemPlace) (h : DataW.trod enc Tryd.prog W base sp held n 37 cs = some y) (hl : cs.length = 5) : ∃ v : HeadV, cs = enHead v ∧ wfHead v := by
  obtain ⟨xs, n, _, _, _, hlen, hx⟩ := DataW.trod_struct Tryd.underlying37 h
  match xs, hlen with
  | [y0, y1, y2, y3, y4], _ =>
    have g0 := hx 0 _ rfl
    have g1 := hx 1 _ rfl
    have g2 := hx 2 _ rfl
    have g3 := hx 3 _ rfl
    have g4 := hx 4 _ rfl
    obtain ⟨s0, e0, _, z0⟩ := DataW.trod_string Tryd.underlying9 g0
    replace e0 : (cs.drop 0).take (Tryd.prog.cellsOf 9) = [_] := e0
    rw [oneHead_s] at e0
    obtain ⟨s1, e1, _, z1⟩ := DataW.trod_string Tryd.underlying9 g1
    replace e1 : (cs.drop 1).take (Tryd.prog.cellsOf 9) = [_] := e1
    rw [oneHead_s] at e1
    obtain ⟨s2, e2, _, z2⟩ := DataW.trod_int Tryd.underlying3 g2
    replace e2 : (cs.drop 2).take (Tryd.prog.cellsOf 3) = [_] := e2
    rw [oneHead_i] at e2
    obtain ⟨s3, e3, _, z3⟩ := DataW.trod_int Tryd.underlying3 g3
    replace e3 : (cs.drop 3).take (Tryd.prog.cellsOf 3) = [_] := e3
    rw [oneHead_i] at e3
    obtain ⟨s4, e4, _, z4⟩ := DataW.trod_int Tryd.underlying3 g4
    replace e4 : (cs.drop 4).take (Tryd.prog.cellsOf 3) = [_] := e4
    rw [oneHead_i] at e4
    exact ⟨⟨s0, s1, s2, s3, s4⟩, partsHead hl e0 e1 e2 e3 e4, z0, z1⟩
set_option maxHeartbeats 1000000 in
set_option maxRecDepth 100000 in
theorem szHead1 (p : HeadV) (r : Nat) (w : World) (hr : r ≤ 1048576) (hs : wfHead p) :
    Calls Tryd.prog 20 #[.agg #[.string p.prev, .string p.root, .int .i64 p.time, .int .i64 p.diff, .int .i64 p.nonce], .int .i64 (r : Int)] w fun e w' => Below w.heap.size w w' ∧ (e = .returned (.int .i64 (-1)) ∨ ∃ q : Nat, e = .returned (.int .i64 (q : Int)) ∧ q ≤ r ∧ smallHead p) := by
  unfold wfHead maxLen at hs
  have hb : ∀ o, Below w.heap.size w (w.alloc o) := fun o => (Below.refl _ w).alloc (Nat.le_refl _) o
  have hw_prev : IntKind.i64.wrap ((r : Int) - (p.prev.size : Int)) = (r : Int) - (p.prev.size : Int) := by rw [IntKind.wrap_i64]; omega
  by_cases hl_prev : (r : Int) - (p.prev.size : Int) < 0
  · go_enter Tryd.func20, Tryd.ntmps20
    go_wp2
    go_ret
    exact ⟨hb _, .inl rfl⟩
  have hw_root : IntKind.i64.wrap ((r : Int) - (p.prev.size : Int) - (p.root.size : Int)) = (r : Int) - (p.prev.size : Int) - (p.root.size : Int) := by rw [IntKind.wrap_i64]; omega
  by_cases hl_root : (r : Int) - (p.prev.size : Int) - (p.root.size : Int) < 0
  · go_enter Tryd.func20, Tryd.ntmps20
    go_wp2
    go_ret
    exact ⟨hb _, .inl rfl⟩
  have HS : Hid (smallHead p) := by show smallHead p; unfold smallHead; omega
  go_enter Tryd.func20, Tryd.ntmps20
  go_wp2
  go_ret
  refine ⟨hb _, .inr ⟨r - p.prev.size - p.root.size, ?_, by omega, HS.out⟩⟩
  show Ending.returned (Value.int IntKind.i64 ((r : Int) - (p.prev.size : Int) - (p.root.size : Int))) = _
  congr 2
  omega
set_option maxHeartbeats 1000000 in
set_option maxRecDepth 100000 in
theorem toHeadA (p : HeadV) (w : World) :
    Calls Tryd.prog 22 #[.agg #[.string p.prev, .string p.root, .int .i64 p.time, .int .i64 p.diff, .int .i64 p.nonce]] w fun e w' => e = .returned (.agg #[.string p.prev, .string p.root, .int .i64 p.time, .int .i64 p.diff, .int .i64 p.nonce]) ∧ Below w.heap.size w w' := by
  go_enter Tryd.func22, Tryd.ntmps22
  go_wp2
  exact bodyPost_ret (results_cell_row (p := 2) rfl _ _ (w.heap.size + 1) 32 #[.string p.prev, .string p.root, .int .i64 p.time, .int .i64 p.diff, .int .i64 p.nonce] (0, 0) _ rfl (alloc3_midH _ _ _ _) Tryd.underlying32 rfl (by kernel_rfl)) rfl ⟨rfl, (((Below.refl _ w).alloc (Nat.le_refl _) _).alloc (by simp) _).alloc (by simp; omega) _⟩
set_option maxHeartbeats 1000000 in
set_option maxRecDepth 100000 in
theorem eqHeadA (p : HeadV) (w : World) :
    Calls Tryd.prog 19 #[.agg #[.string p.prev, .string p.root, .int .i64 p.time, .int .i64 p.diff, .int .i64 p.nonce], .agg #[.string p.prev, .string p.root, .int .i64 p.time, .int .i64 p.diff, .int .i64 p.nonce]] w fun e w' => e = .returned (.bool true) ∧ Below w.heap.size w w' := by
  go_enter Tryd.func19, Tryd.ntmps19
  go_wp2
  go_ret
  exact ⟨rfl, ((Below.refl _ w).alloc (Nat.le_refl _) _).alloc (by simp) _⟩

theorem infoHead : (Tryd.prog.info? 32).map (fun i => (i.zero, i.size, i.bytes)) = some (some (.agg #[.string ⟨#[]⟩, .string ⟨#[]⟩, .int .i64 0, .int .i64 0, .int .i64 0]), 5, 56) := by kernel_rfl
def zeroHead : HeadV := ⟨⟨#[]⟩, ⟨#[]⟩, 0, 0, 0⟩
theorem makeHead (n : Nat) (hn : n ≤ 1099511627776) (w : World) : (Instr.makeSlice 91 (.int .i64 (n : Int)) (.int .i64 (n : Int))).run Tryd.prog w = .ok (.slice (some ⟨w.heap.size, 0, none⟩) n n) (w.alloc (.cells ((List.replicate n zeroHead).flatMap enHead).toArray 32)) := by
  obtain ⟨i, hi, hz, hs, hb⟩ := info_parts infoHead
  have hb' : (i.bytes : Int) * (n : Int) ≤ 281474976710656 := by rw [hb]; omega
  have hr := run_make (P := Tryd.prog) w 91 32 i _ Tryd.underlying91 hi hz .i64 .i64 (n : Int) (n : Int) (by omega) (by omega) hb' (by omega)
  simp only [Int.toNat_natCast, hs, Value.cells] at hr
  rw [← made_flat 5 enHead enHead_len (by decide) zeroHead n]
  exact hr
theorem RowHead.put {w : World} {g : Nat} {l : List HeadV} (h : RowHead w g l) (i : Nat) (hi : i < l.length) (p : HeadV) :
    RowHead (((((w.setCell ⟨g, i * 5, none⟩ (.string p.prev)).setCell ⟨g, i * 5 + 1, none⟩ (.string p.root)).setCell ⟨g, i * 5 + 2, none⟩ (.int .i64 p.time)).setCell ⟨g, i * 5 + 3, none⟩ (.int .i64 p.diff)).setCell ⟨g, i * 5 + 4, none⟩ (.int .i64 p.nonce)) g (l.set i p) := by
  show _ = _
  rw [← flat_put 5 enHead enHead_len l i p hi]
  exact (rowSet (rowSet (rowSet (rowSet (rowSet h _) _) _) _) _)

end Go.Proofs.YtgnnfljobgbpbaaDoor

set_option linter.unusedVariables false
namespace Go.Proofs.YtgnnfljobgbpbaaDoor
open Go.RowKit

theorem headMine_bad {h : HeadV} (hok : headOkB (headNo h 0) = false) : headMine h = (zeroH, false) :=
  headMine_no fun j hj => meets_no ((ok_nonce (by omega)).trans hok)
theorem headMine_small {h : HeadV} {N : Nat} (hp : h.prev.size ≤ N) (hr : h.root.size ≤ N) : (headMine h).1.prev.size ≤ N ∧ (headMine h).1.root.size ≤ N := by
  unfold headMine
  split
  · exact ⟨hp, hr⟩
  · exact ⟨Nat.zero_le _, Nat.zero_le _⟩

set_option maxHeartbeats 1000000 in
set_option maxRecDepth 100000 in
theorem specHeadMine (h : HeadV) (w : World) (hp : h.prev.size ≤ maxLen) (hr : h.root.size ≤ maxLen) :
    Calls Tryd.prog 21 #[headVal h] w fun e w' => e = .returned (.tuple #[headVal (headMine h).1, .bool (headMine h).2]) ∧ Below w.heap.size w w' := by
  have hck := fun w' => specL3Ok (headNo h 0) w' hp hr
  have HN : headMine (headNo h 0) = headMine h := rfl
  cases hok : headOkB (headNo h 0) with
  | false =>
    have HM : Hid (headMine h = (zeroH, false)) := headMine_bad hok
    rw [hok] at hck
    clear HN
    generalize headMine h = M at HM ⊢
    obtain ⟨p, r, t, d, n⟩ := h
    unfold headVal
    unfold headNo at hck
    dsimp only at hck ⊢
    have S0 : HTwo w _ p r t d 0 ⟨#[]⟩ ⟨#[]⟩ 0 0 0 := HTwo.new w p r t d 0 ⟨#[]⟩ ⟨#[]⟩ 0 0 0
    go_enter Tryd.func21, Tryd.ntmps21
    go_wp2_with fail
    refine (hck _).mono ?_
    rintro e w1 ⟨rfl, b1⟩
    have S1 := S0.call b1
    obtain ⟨d0, d1, d2, d3, d4, f0, f1, f2, f3, f4⟩ := S1.2.1.facts
    have S4 : Hid (HTwo w _ p r t d 0 ⟨#[]⟩ ⟨#[]⟩ 0 0 0) := S1.back ⟨#[]⟩ ⟨#[]⟩ 0 0 0
    go_wp2_with fail
    exact bodyPost_ret (results_row_tmp (p := 2) (u := 3) rfl _ _ (w.heap.size + 1) 32 #[.string ⟨#[]⟩, .string ⟨#[]⟩, .int .i64 0, .int .i64 0, .int .i64 0] (0, 0) _ rfl S4.out.2.1 Tryd.underlying32 rfl (by kernel_rfl)) rfl ⟨by rw [HM.out]; rfl, S4.out.2.2⟩
  | true =>
    have hmi := fun w' => specL3Mine (headNo h 0) w' hok
    rw [HN] at hmi
    rw [hok] at hck
    clear HN
    generalize headMine h = M at hmi ⊢
    obtain ⟨⟨p2, r2, t2, dd2, n2⟩, ok2⟩ := M
    obtain ⟨p, r, t, d, n⟩ := h
    unfold headVal at hmi ⊢
    unfold headNo at hck hmi
    dsimp only at hck hmi ⊢
    have S0 : HTwo w _ p r t d 0 ⟨#[]⟩ ⟨#[]⟩ 0 0 0 := HTwo.new w p r t d 0 ⟨#[]⟩ ⟨#[]⟩ 0 0 0
    go_enter Tryd.func21, Tryd.ntmps21
    go_wp2_with fail
    refine (hck _).mono ?_
    rintro e w1 ⟨rfl, b1⟩
    have S1 := S0.call b1
    obtain ⟨c0, c1, c2, c3, c4, _⟩ := S1.1.facts
    go_wp2_with fail
    refine (hmi _).mono ?_
    rintro e w2 ⟨rfl, b2⟩
    have S2 := S1.call b2
    clear c0 c1 c2 c3 c4
    obtain ⟨d0, d1, d2, d3, d4, f0, f1, f2, f3, f4⟩ := S2.2.1.facts
    have S4 : Hid (HTwo w _ p r t d 0 p2 r2 t2 dd2 n2) := S2.back p2 r2 t2 dd2 n2
    go_wp2_with fail
    exact bodyPost_ret (results_row_tmp (p := 2) (u := 3) rfl _ _ (w.heap.size + 1) 32 #[.string p2, .string r2, .int .i64 t2, .int .i64 dd2, .int .i64 n2] (0, 0) _ rfl S4.out.2.1 Tryd.underlying32 rfl (by kernel_rfl)) rfl ⟨rfl, S4.out.2.2⟩

set_option maxHeartbeats 1000000 in
set_option maxRecDepth 100000 in
theorem walk_FnExactHeadMine (h : HeadV) (w : World) (hw : HeadWf h) (hK : RowG w shaK) (hP : TabP w) :
    Calls Tryd.prog 5 #[headVal h] w fun e w' => e = .returned (.bool true) ∧ Below w.heap.size w w' := by
  have HP : Hid (∀ w', Below w.heap.size w w' → TabP w') := fun w' hb => TabP.below hP hb (Nat.le_refl _)
  have HK : Hid (RowG w shaK) := hK
  have hsz := fun w' => szHead h w' hw
  have hto := toHead1 h
  have hsp := fun w' => specHeadMine h w' hw.p hw.r
  have HIM : Hid (h.prev.size ≤ 1048576 → h.root.size ≤ 1048576 → ∀ w', RowG w' shaK → TabP w' → Calls Tryd.prog 23 #[headVal h] w' fun e w'' => e = .returned (.tuple #[headVal (headMine h).1, .bool (headMine h).2]) ∧ Below w'.heap.size w' w'') := fun h1 h2 w' hk hp => implHeadMine h w' (by omega) (by omega) hk hp
  generalize headMine h = M2 at hsp HIM
  obtain ⟨M, ok2⟩ := M2
  have heq := eqHeadA M
  unfold headVal at hsz hto hsp HIM ⊢
  dsimp only at hsp HIM
  have S0 : HSt w _ w.heap.size h.prev h.root h.time h.diff h.nonce := HSt.new w 37 h.prev h.root h.time h.diff h.nonce
  clear hP hw hK
  go_enter Tryd.func5, Tryd.ntmps5
  go_wp2_with fail
  refine (hsz _).mono ?_
  rintro e w1 ⟨b1, rfl | ⟨r, rfl, z1, z2⟩⟩
  · go_wp2_with fail
    go_ret
    exact ⟨rfl, (S0.call b1).2.1⟩
  have him := HIM.out z1 z2
  have S1 := S0.call b1
  obtain ⟨c0, c1, c2, c3, c4⟩ := S1.out
  clear HIM
  go_wp2_with fail
  refine (hto _).mono ?_
  rintro e w2 ⟨rfl, b2⟩
  have S2 := S1.call b2
  go_wp2_with fail
  refine (hsp _).mono ?_
  rintro e w3 ⟨rfl, b3⟩
  have S3 := S2.call b3
  clear c0 c1 c2 c3 c4
  obtain ⟨c0, c1, c2, c3, c4⟩ := S3.out
  have n3 : w.heap.size < w3.heap.size := S3.2.2
  have X3 : Hid (HBk _ w3.heap.size M.prev M.root M.time M.diff M.nonce) := HBk.new w3 M.prev M.root M.time M.diff M.nonce
  go_wp2_with fail
  refine (hto _).mono ?_
  rintro e w4 ⟨rfl, b4⟩
  have S4 := (S3.alloc _).call b4
  have X4 : Hid (HBk w4 w3.heap.size M.prev M.root M.time M.diff M.nonce) := X3.out.below b4 X3.out.lt
  clear c0 c1 c2 c3 c4 n3 X3
  go_wp2_with fail
  refine (him _ (HK.out.below S4.2.1 HK.out.lt) (HP.out _ S4.2.1)).mono ?_
  rintro e w5 ⟨rfl, b5⟩
  have S5 := S4.call b5
  have X5 : Hid (HBk w5 w3.heap.size M.prev M.root M.time M.diff M.nonce) := X4.out.below b5 X4.out.lt
  obtain ⟨c0, c1, c2, c3, c4, _⟩ := X5.out.facts
  have l5 := X5.out.lt
  clear hsz hto hsp him
  go_wp2_with fail
  refine (heq _).mono ?_
  rintro e w6 ⟨rfl, b6⟩
  have S6 := (S5.alloc _).call b6
  cases ok2 <;>
  · go_wp2_with fail
    go_ret
    exact ⟨rfl, S6.2.1⟩

end Go.Proofs.YtgnnfljobgbpbaaDoor

