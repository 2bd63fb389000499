/-
  The program's next state: the rounds over one block.
-/
import Derived.Test.YtjeldedjhlicmaaDoorShaI4

set_option linter.unusedVariables false
namespace Go.Proofs.YtjeldedjhlicmaaDoor
open Go.RowKit

theorem size8 : (Tryd.prog.info? 107).map (·.size) = some 8 := by kernel_rfl
theorem run_storeCellsU {P : Program} {T : TypeId} {w : World} {g : Nat} {m : List Nat} (h : RowU T w g m) (l : List Nat) (hl : l.length = m.length) :
    (storeCells ⟨g, 0, none⟩ (uCells l).toList).run P w = .ok () (w.setCells g 0 (uCells l).toList) := by
  have ht := h.there _ hl
  have := run_storeCells_cells (P := P) g 0 (uCells l).toList 0 w (fun j hj => by simpa using (ht j (by simpa [uCells_size] using hj)).1) (fun j hj => by simpa using (ht j (by simpa [uCells_size] using hj)).2)
    (fun v hv => (Array.all_eq_true_iff_forall_mem.1 (uCells_one l)) v (by simpa using hv))
  simpa using this
theorem zerosU8 : #[Value.int .u32 0, Value.int .u32 0, Value.int .u32 0, Value.int .u32 0, Value.int .u32 0, Value.int .u32 0, Value.int .u32 0, Value.int .u32 0] = uCells (List.replicate 8 0) := rfl
theorem sizeW : (Tryd.prog.info? 106).map (·.size) = some 1 := by kernel_rfl
theorem indexU (ws : List Nat) (hl : ws.length = 64) (k : Nat) (hk : k < 64) (w : World) : (Instr.index 110 (.agg (uCells ws)) (.int .i64 (k : Int))).run Tryd.prog w = .ok (.int .u32 ((ws.getD k 0 : Nat) : Int)) w := by
  have hat := uCells_at ws k (by omega)
  cases hq : Tryd.prog.info? 106 with
  | none => have := sizeW; simp [hq] at this
  | some i =>
    have hs : i.size = 1 := by have := sizeW; simpa [hq] using this
    simp [Instr.index, asIntOf, Sem.run_bind, run_underlying Tryd.underlying110, part, isAgg, run_underlying Tryd.underlying106, sizeOf, typeInfo, hq, hs, hat]
    intro h64; omega
/-- The four blocks that the call lays: the state, the words, the answer's place, the state at work. -/
def Laid4 (T8 T64 : TypeId) (n : Nat) (s : St) (ws : List Nat) (t : St) (w w' : World) : Prop :=
  RowU T8 w' n s.toL ∧ RowU T8 w' (n + 1 + 1) (List.replicate 8 0) ∧ RowU T8 w' (n + 1 + 1 + 1) t.toL ∧ Below n w w'
theorem laid4 (T8 T64 : TypeId) (s : St) (ws : List Nat) (w : World) :
    RowU T8 ((((w.alloc (.cells (uCells s.toL) T8)).alloc (.cells (uCells ws) T64)).alloc (.cells (uCells (List.replicate 8 0)) T8)).alloc (.cells (uCells (List.replicate 8 0)) T8)) (w.heap.size + 1 + 1 + 1) (List.replicate 8 0) ∧
    Laid4 T8 T64 w.heap.size s ws s w (((((w.alloc (.cells (uCells s.toL) T8)).alloc (.cells (uCells ws) T64)).alloc (.cells (uCells (List.replicate 8 0)) T8)).alloc (.cells (uCells (List.replicate 8 0)) T8)).setCells (w.heap.size + 1 + 1 + 1) 0 (uCells s.toL).toList) ∧
    RowU T64 (((((w.alloc (.cells (uCells s.toL) T8)).alloc (.cells (uCells ws) T64)).alloc (.cells (uCells (List.replicate 8 0)) T8)).alloc (.cells (uCells (List.replicate 8 0)) T8)).setCells (w.heap.size + 1 + 1 + 1) 0 (uCells s.toL).toList) (w.heap.size + 1) ws ∧
    RowU T8 (((w.alloc (.cells (uCells s.toL) T8)).alloc (.cells (uCells ws) T64)).alloc (.cells (uCells (List.replicate 8 0)) T8)) w.heap.size s.toL := by
  obtain ⟨w1, h1⟩ : ∃ x, x = w.alloc (.cells (uCells s.toL) T8) := ⟨_, rfl⟩
  have s1 : w1.heap.size = w.heap.size + 1 := by rw [h1]; simp
  have r1 : RowU T8 w1 w.heap.size s.toL := by rw [h1]; exact heap_alloc_new w _
  have b1 : Below w.heap.size w w1 := by rw [h1]; exact (Below.refl _ w).alloc (Nat.le_refl _) _
  rw [← h1]
  obtain ⟨w2, h2⟩ : ∃ x, x = w1.alloc (.cells (uCells ws) T64) := ⟨_, rfl⟩
  have s2 : w2.heap.size = w.heap.size + 1 + 1 := by rw [h2]; simp [s1]
  have r2 : RowU T64 w2 (w.heap.size + 1) ws := by rw [h2, ← s1]; exact heap_alloc_new w1 _
  have r21 : RowU T8 w2 w.heap.size s.toL := by rw [h2]; exact r1.keep (Below.heap_alloc _ _ _ (by omega))
  have b2 : Below w.heap.size w w2 := by rw [h2]; exact b1.alloc (by omega) _
  rw [← h2]
  obtain ⟨w3, h3⟩ : ∃ x, x = w2.alloc (.cells (uCells (List.replicate 8 0)) T8) := ⟨_, rfl⟩
  have s3 : w3.heap.size = w.heap.size + 1 + 1 + 1 := by rw [h3]; simp [s2]
  have r3 : RowU T8 w3 (w.heap.size + 1 + 1) (List.replicate 8 0) := by rw [h3, ← s2]; exact heap_alloc_new w2 _
  have r32 : RowU T64 w3 (w.heap.size + 1) ws := by rw [h3]; exact r2.keep (Below.heap_alloc _ _ _ (by omega))
  have r31 : RowU T8 w3 w.heap.size s.toL := by rw [h3]; exact r21.keep (Below.heap_alloc _ _ _ (by omega))
  have b3 : Below w.heap.size w w3 := by rw [h3]; exact b2.alloc (by omega) _
  rw [← h3]
  obtain ⟨w4, h4⟩ : ∃ x, x = w3.alloc (.cells (uCells (List.replicate 8 0)) T8) := ⟨_, rfl⟩
  have r4 : RowU T8 w4 (w.heap.size + 1 + 1 + 1) (List.replicate 8 0) := by rw [h4, ← s3]; exact heap_alloc_new w3 _
  have r43 : RowU T8 w4 (w.heap.size + 1 + 1) (List.replicate 8 0) := by rw [h4]; exact r3.keep (Below.heap_alloc _ _ _ (by omega))
  have r42 : RowU T64 w4 (w.heap.size + 1) ws := by rw [h4]; exact r32.keep (Below.heap_alloc _ _ _ (by omega))
  have r41 : RowU T8 w4 w.heap.size s.toL := by rw [h4]; exact r31.keep (Below.heap_alloc _ _ _ (by omega))
  have b4 : Below w.heap.size w w4 := by rw [h4]; exact b3.alloc (by omega) _
  rw [← h4]
  refine ⟨r4, ⟨r41.keep (heap_setCells_other _ _ _ _ _ (by omega)), r43.keep (heap_setCells_other _ _ _ _ _ (by omega)), r4.over (by simp [St.toL]), Below.setCells b4 (by omega) _ _⟩, r42.keep (heap_setCells_other _ _ _ _ _ (by omega)), r31⟩

theorem Rows3.set {T8 : TypeId} {n : Nat} {ls l lz : List Nat} {w wr : World} (h : RowU T8 wr n ls ∧ RowU T8 wr (n + 1 + 1) lz ∧ RowU T8 wr (n + 1 + 1 + 1) l ∧ Below n w wr) (i v : Nat) :
    RowU T8 (wr.setCell ⟨n + 1 + 1 + 1, i, none⟩ (.int .u32 (v : Int))) n ls ∧ RowU T8 (wr.setCell ⟨n + 1 + 1 + 1, i, none⟩ (.int .u32 (v : Int))) (n + 1 + 1) lz ∧ RowU T8 (wr.setCell ⟨n + 1 + 1 + 1, i, none⟩ (.int .u32 (v : Int))) (n + 1 + 1 + 1) (l.set i v) ∧ Below n w (wr.setCell ⟨n + 1 + 1 + 1, i, none⟩ (.int .u32 (v : Int))) :=
  ⟨h.1.keep (Below.heap_setCell _ _ _ _ (by show _ ≠ n + 1 + 1 + 1; omega)), h.2.1.keep (Below.heap_setCell _ _ _ _ (by show _ ≠ n + 1 + 1 + 1; omega)), h.2.2.1.set i v, h.2.2.2.setCell (p := ⟨n + 1 + 1 + 1, i, none⟩) (by show n ≤ n + 1 + 1 + 1; omega) _⟩
theorem Laid4.over {T8 T64 : TypeId} {n : Nat} {s t : St} {ws : List Nat} {w wr : World} (h : Laid4 T8 T64 n s ws t w wr) (v0 v1 v2 v3 v4 v5 v6 v7 : Nat) :
    Laid4 T8 T64 n s ws ⟨v0, v1, v2, v3, v4, v5, v6, v7⟩ w ((((((((wr.setCell ⟨n + 1 + 1 + 1, 0, none⟩ (.int .u32 (v0 : Int))).setCell ⟨n + 1 + 1 + 1, 1, none⟩ (.int .u32 (v1 : Int))).setCell ⟨n + 1 + 1 + 1, 2, none⟩ (.int .u32 (v2 : Int))).setCell ⟨n + 1 + 1 + 1, 3, none⟩ (.int .u32 (v3 : Int))).setCell ⟨n + 1 + 1 + 1, 4, none⟩ (.int .u32 (v4 : Int))).setCell ⟨n + 1 + 1 + 1, 5, none⟩ (.int .u32 (v5 : Int))).setCell ⟨n + 1 + 1 + 1, 6, none⟩ (.int .u32 (v6 : Int))).setCell ⟨n + 1 + 1 + 1, 7, none⟩ (.int .u32 (v7 : Int))).drew.drew := by
  have := Rows3.set (Rows3.set (Rows3.set (Rows3.set (Rows3.set (Rows3.set (Rows3.set (Rows3.set h 0 v0) 1 v1) 2 v2) 3 v3) 4 v4) 5 v5) 6 v6) 7 v7
  exact ⟨this.1.drew.drew, this.2.1.drew.drew, this.2.2.1.drew.drew, this.2.2.2.drew.drew⟩

def plusTo (s t : St) (k : Nat) : List Nat := (s.plus t).toL.take k ++ s.toL.drop k
theorem plusTo_length (s t : St) (k : Nat) (h : k ≤ 8) : (plusTo s t k).length = 8 := by
  simp [plusTo, St.toL]; omega
theorem plusTo_at (s t : St) (k : Nat) (h : k < 8) : (plusTo s t k).getD k 0 = s.toL.getD k 0 := by
  match k, h with
  | 0, _ | 1, _ | 2, _ | 3, _ | 4, _ | 5, _ | 6, _ | 7, _ => rfl
theorem plusTo_set (s t : St) (k : Nat) (h : k < 8) (v : Nat) (hv : v = (s.toL.getD k 0 + t.toL.getD k 0) % 4294967296) : (plusTo s t k).set k v = plusTo s t (k + 1) := by
  subst hv
  match k, h with
  | 0, _ | 1, _ | 2, _ | 3, _ | 4, _ | 5, _ | 6, _ | 7, _ => rfl

set_option maxHeartbeats 1000000 in
set_option maxRecDepth 100000 in
theorem nextI (ms ws : List Nat) (s : St) (hs : s.ok) (w : World) (hms : RowG w ms) (hml : ms.length = 64) (hmm : ∀ x ∈ ms, x < 4294967296) (hwl : ws.length = 64) (hww : ∀ x ∈ ws, x < 4294967296) :
    Calls Tryd.prog 81 #[.agg (uCells s.toL), .agg (uCells ws)] w fun e w' => e = .returned (.agg (uCells (s.plus (rounds ms ws s 64)).toL)) ∧ Below w.heap.size w w' := by
  have Z : Hid (_ ∧ _ ∧ _ ∧ _) := laid4 107 110 s ws w
  go_enter Tryd.func81, Tryd.ntmps81
  go_upto_region 1 with fail
  refine wp_region_list ?_
  refine wpList_load_mid rfl 107 _ rfl w.heap.size 0 rfl (uCells s.toL).toList _ ?_ Tryd.underlying107 rfl (by rw [size8, Array.length_toList, uCells_size]; rfl) ?_
  · exact Z.out.2.2.2.range
  rw [Array.toArray_toList]
  go_wp2
  obtain ⟨z1, z2, z3, z4⟩ := Z.out
  rw [zerosU8, run_storeCellsU z1 s.toL rfl]
  obtain ⟨W, hW⟩ : ∃ W, W = (((((w.alloc (.cells (uCells s.toL) 107)).alloc (.cells (uCells ws) 110)).alloc (.cells (uCells (List.replicate 8 0)) 107)).alloc (.cells (uCells (List.replicate 8 0)) 107)).setCells (w.heap.size + 1 + 1 + 1) 0 (uCells s.toL).toList) := ⟨_, rfl⟩
  rw [← hW] at z2 z3 ⊢
  clear hW z1 z4 Z
  have Hmm : Hid (∀ x ∈ ms, x < 4294967296) := hmm
  have Hww : Hid (∀ x ∈ ws, x < 4294967296) := hww
  have HZ : Hid (Laid4 107 110 w.heap.size s ws s w W) := z2
  clear hmm hww z2
  go_upto_region 2 with fail
  refine wp_region_list ?_
  refine wpList_load_mid rfl 110 _ rfl (w.heap.size + 1) 0 rfl (uCells ws).toList _ z3.range Tryd.underlying110 rfl (by rw [size64, Array.length_toList, uCells_size, hwl]) ?_
  rw [Array.toArray_toList]
  clear z3
  go_wp2
  go_loopw [13] (fun i wr => ∃ k : Nat, k ≤ 64 ∧ i = .int .i64 (k : Int) ∧ Hid (Laid4 107 110 w.heap.size s ws (rounds ms ws s k) w wr)) (fun i _ => 64 - (intOf i).toNat)
  case atStart => exact ⟨0, by omega, rfl, HZ⟩
  case round =>
    clear HZ
    obtain ⟨k, hk, rfl, HR⟩ := hrel
    by_cases hlt : k < 64
    · have hok := rounds_ok ms ws s hs k
      obtain ⟨t, ht⟩ : ∃ t, t = rounds ms ws s k := ⟨_, rfl⟩
      rw [← ht] at HR hok
      have HT : Hid (t = rounds ms ws s k) := ht
      clear ht
      obtain ⟨a, b, c, d, e, f, g, h⟩ := t
      obtain ⟨la, lb, lc, ld, le, lf, lg, lh⟩ := hok
      simp only at la lb lc ld le lf lg lh
      have hr := HR.out.2.2.1
      have c0 : wr.cell? ⟨w.heap.size + 1 + 1 + 1, 0, none⟩ = some (.int .u32 (a : Int)) := hr.cell 0 (by show _ < 8; decide)
      have c1 : wr.cell? ⟨w.heap.size + 1 + 1 + 1, 1, none⟩ = some (.int .u32 (b : Int)) := hr.cell 1 (by show _ < 8; decide)
      have c2 : wr.cell? ⟨w.heap.size + 1 + 1 + 1, 2, none⟩ = some (.int .u32 (c : Int)) := hr.cell 2 (by show _ < 8; decide)
      have c3 : wr.cell? ⟨w.heap.size + 1 + 1 + 1, 3, none⟩ = some (.int .u32 (d : Int)) := hr.cell 3 (by show _ < 8; decide)
      have c4 : wr.cell? ⟨w.heap.size + 1 + 1 + 1, 4, none⟩ = some (.int .u32 (e : Int)) := hr.cell 4 (by show _ < 8; decide)
      have c5 : wr.cell? ⟨w.heap.size + 1 + 1 + 1, 5, none⟩ = some (.int .u32 (f : Int)) := hr.cell 5 (by show _ < 8; decide)
      have c6 : wr.cell? ⟨w.heap.size + 1 + 1 + 1, 6, none⟩ = some (.int .u32 (g : Int)) := hr.cell 6 (by show _ < 8; decide)
      have c7 : wr.cell? ⟨w.heap.size + 1 + 1 + 1, 7, none⟩ = some (.int .u32 (h : Int)) := hr.cell 7 (by show _ < 8; decide)
      have f0 := hr.frozen 0
      have f1 := hr.frozen 1
      have f2 := hr.frozen 2
      have f3 := hr.frozen 3
      have f4 := hr.frozen 4
      have f5 := hr.frozen 5
      have f6 := hr.frozen 6
      have f7 := hr.frozen 7
      clear hr
      obtain ⟨m, hm⟩ : ∃ m, m = ms.getD k 0 := ⟨_, rfl⟩
      obtain ⟨x, hx⟩ : ∃ x, x = ws.getD k 0 := ⟨_, rfl⟩
      have lm : m < 4294967296 := by rw [hm]; exact getD_lt Hmm.out _
      have lx : x < 4294967296 := by rw [hx]; exact getD_lt Hww.out _
      have cm : wr.cell? ⟨0, k, none⟩ = some (.int .u32 (m : Int)) := by
        rw [HR.out.2.2.2.cell (p := ⟨0, k, none⟩) hms.lt, hm]
        exact hms.cell k (by omega)
      have cx : ∀ w : World, (Instr.index 110 (.agg (uCells ws)) (.int .i64 (k : Int))).run Tryd.prog w = .ok (.int .u32 (x : Int)) w := by intro w; rw [hx]; exact indexU ws hwl k hlt w
      have lk : (k : Int) < 64 := by omega
      obtain ⟨v1, hv1⟩ : ∃ v : Nat, v = (h + big1 e + chs e f g + m + x) % 4294967296 := ⟨_, rfl⟩
      obtain ⟨v2, hv2⟩ : ∃ v : Nat, v = (big0 a + maj a b c) % 4294967296 := ⟨_, rfl⟩
      obtain ⟨v3, hv3⟩ : ∃ v : Nat, v = (v1 + v2) % 4294967296 := ⟨_, rfl⟩
      obtain ⟨v4, hv4⟩ : ∃ v : Nat, v = (d + v1) % 4294967296 := ⟨_, rfl⟩
      have r1 : IntKind.u32.wrap (IntKind.u32.wrap (IntKind.u32.wrap (IntKind.u32.wrap ((h : Int) + ((big1 e : Nat) : Int)) + ((chs e f g : Nat) : Int)) + (m : Int)) + (x : Int)) = (v1 : Int) := by
        rw [hv1]; simp only [IntKind.wrap_u32]; omega
      have r2 : IntKind.u32.wrap (((big0 a : Nat) : Int) + ((maj a b c : Nat) : Int)) = (v2 : Int) := by
        rw [hv2]; simp only [IntKind.wrap_u32]; omega
      have r3 : IntKind.u32.wrap ((v1 : Int) + (v2 : Int)) = (v3 : Int) := by
        rw [hv3]; simp only [IntKind.wrap_u32]; omega
      have r4 : IntKind.u32.wrap ((d : Int) + (v1 : Int)) = (v4 : Int) := by
        rw [hv4]; simp only [IntKind.wrap_u32]; omega
      have HN : Hid ((⟨v3, a, b, c, v4, e, f, g⟩ : St) = rounds ms ws s (k + 1)) := by
        show _ = _
        rw [rounds, ← HT.out, St.step, ← hm, ← hx, hv3, hv4, hv1, hv2]
        simp only [St.mk.injEq, true_and, and_true]
        omega
      clear hv1 hv2 hv3 hv4 hm hx hms HT
      go_wp2_with fail
      go_region_held2 (fun W => W.cell? ⟨w.heap.size + 1 + 1 + 1, 7, none⟩ = some (.int .u32 (h : Int)) ∧ W.cell? ⟨w.heap.size + 1 + 1 + 1, 4, none⟩ = some (.int .u32 (e : Int)) ∧ W.cell? ⟨w.heap.size + 1 + 1 + 1, 5, none⟩ = some (.int .u32 (f : Int)) ∧ W.cell? ⟨w.heap.size + 1 + 1 + 1, 6, none⟩ = some (.int .u32 (g : Int)) ∧ W.cell? ⟨0, k, none⟩ = some (.int .u32 (m : Int))) (exact ⟨c7, c4, c5, c6, cm⟩) (first | (go_at_call 101; refine (fifthI _ _ le).mono ?_; rintro e w1 ⟨rfl, rfl⟩) | (go_at_call 102; refine (chooseI _ _ _ _ le lf lg).mono ?_; rintro e w1 ⟨rfl, rfl⟩))
      go_wp2_with fail
      go_region_held2 (fun W => W.cell? ⟨w.heap.size + 1 + 1 + 1, 0, none⟩ = some (.int .u32 (a : Int)) ∧ W.cell? ⟨w.heap.size + 1 + 1 + 1, 1, none⟩ = some (.int .u32 (b : Int)) ∧ W.cell? ⟨w.heap.size + 1 + 1 + 1, 2, none⟩ = some (.int .u32 (c : Int))) (exact ⟨c0, c1, c2⟩) (first | (go_at_call 103; refine (firstI _ _ la).mono ?_; rintro e w1 ⟨rfl, rfl⟩) | (go_at_call 104; refine (mostI _ _ _ _ la lb lc).mono ?_; rintro e w1 ⟨rfl, rfl⟩))
      go_wp2
      go_roundw
      case rel =>
        refine ⟨k + 1, by omega, by go_num, ?_⟩
        have := HR.out.over v3 a b c v4 e f g
        rw [HN.out] at this
        exact this
      case measure => simp [intOf]; omega
    · obtain ⟨t, ht⟩ : ∃ t, t = rounds ms ws s 64 := ⟨_, rfl⟩
      have hk64 : k = 64 := by omega
      rw [hk64, ← ht] at HR
      have HT : Hid (t = rounds ms ws s 64) := ht
      obtain ⟨k0, hk0⟩ : ∃ k0 : Nat, k0 = k := ⟨_, rfl⟩
      rw [← hk0] at hlt ⊢
      clear ht hk0 hk64 hk
      go_wp2
      go_loopw [69] (fun i wr => ∃ k : Nat, k ≤ 8 ∧ i = .int .i64 (k : Int) ∧ Hid (RowU 107 wr w.heap.size (plusTo s t k) ∧ RowU 107 wr (w.heap.size + 1 + 1) (List.replicate 8 0) ∧ RowU 107 wr (w.heap.size + 1 + 1 + 1) t.toL ∧ Below w.heap.size w wr)) (fun i _ => 8 - (intOf i).toNat)
      case atStart => exact ⟨0, by omega, rfl, HR.out⟩
      case round =>
        clear HR
        obtain ⟨k, hk, rfl, HR⟩ := hrel
        by_cases hk8 : k < 8
        · obtain ⟨x, hx⟩ : ∃ x, x = s.toL.getD k 0 := ⟨_, rfl⟩
          obtain ⟨y, hy⟩ : ∃ y, y = t.toL.getD k 0 := ⟨_, rfl⟩
          have cx : wr.cell? ⟨w.heap.size, k, none⟩ = some (.int .u32 (x : Int)) := by
            rw [hx, ← plusTo_at s t k hk8]; exact HR.out.1.cell k (by rw [plusTo_length _ _ _ hk]; exact hk8)
          have cy : wr.cell? ⟨w.heap.size + 1 + 1 + 1, k, none⟩ = some (.int .u32 (y : Int)) := by
            rw [hy]; exact HR.out.2.2.1.cell k (by show k < 8; exact hk8)
          have hfz := HR.out.1.frozen k
          obtain ⟨v, hv⟩ : ∃ v : Nat, v = (x + y) % 4294967296 := ⟨_, rfl⟩
          have rv : IntKind.u32.wrap ((x : Int) + (y : Int)) = (v : Int) := by
            rw [hv]; simp only [IntKind.wrap_u32]; omega
          have HV : Hid ((plusTo s t k).set k v = plusTo s t (k + 1)) := by
            show _ = _
            refine plusTo_set s t k hk8 v ?_
            rw [hv, hx, hy]
          have lk : (k : Int) < 8 := by omega
          clear hx hy hv hlt hk
          go_wp2
          go_region
          go_wp2
          go_roundw
          case rel =>
            refine ⟨k + 1, by omega, by go_num, ?_⟩
            have h1 := HR.out.1.set k v
            rw [HV.out] at h1
            exact ⟨h1, HR.out.2.1.keep (Below.heap_setCell _ _ _ _ (by show _ ≠ w.heap.size; omega)), HR.out.2.2.1.keep (Below.heap_setCell _ _ _ _ (by show _ ≠ w.heap.size; omega)), (HR.out.2.2.2.setCell (p := ⟨w.heap.size, k, none⟩) (Nat.le_refl _) _).drew⟩
          case measure => simp [intOf]; omega
        · have HF : Hid (RowU 107 wr w.heap.size (s.plus t).toL) := by
            show RowU _ _ _ _
            have := HR.out.1
            rw [show k = 8 from by omega] at this
            exact this
          obtain ⟨L, hL⟩ : ∃ L, L = (s.plus t).toL := ⟨_, rfl⟩
          have hlen : L.length = 8 := by rw [hL]; rfl
          rw [← hL] at HF
          have HL : Hid (L = (s.plus (rounds ms ws s 64)).toL) := by show _ = _; rw [← HT.out]; exact hL
          have hout : RowU 107 (wr.setCells (w.heap.size + 1 + 1) 0 (uCells L).toList) (w.heap.size + 1 + 1) L := HR.out.2.1.over (by rw [hlen]; rfl)
          have hbo : Below w.heap.size w (wr.setCells (w.heap.size + 1 + 1) 0 (uCells L).toList) := Below.setCells HR.out.2.2.2 (by omega) _ 0
          have hlv := run_loadVar_mid (P := Tryd.prog) (wr.setCells (w.heap.size + 1 + 1) 0 (uCells L).toList) (w.heap.size + 1 + 1) 0 107 (uCells L).toList _ hout.range Tryd.underlying107 rfl (by rw [size8, Array.length_toList, uCells_size, hlen])
          rw [Array.toArray_toList] at hlv
          have Hlv : Hid (_ = _) := hlv
          have Hbo : Hid (Below w.heap.size w (wr.setCells (w.heap.size + 1 + 1) 0 (uCells L).toList)) := hbo
          clear hL hlv hout hbo
          go_upto_region 14 with fail
          refine wp_region_list ?_
          refine wpList_load_mid rfl 107 _ rfl w.heap.size 0 rfl (uCells L).toList _ HF.out.range Tryd.underlying107 rfl (by rw [size8, Array.length_toList, uCells_size, hlen]) ?_
          rw [Array.toArray_toList]
          refine wpList_store_mid rfl 107 _ _ rfl (w.heap.size + 1 + 1) 0 (uCells L) rfl rfl (HR.out.2.1.there _ (by rw [uCells_size, hlen]; simp)) (by rw [size8, uCells_size, hlen]) (uCells_one _) ?_
          go_wp2
          rw [← HL.out]
          exact bodyPost_ret (v := .agg (uCells L)) (results_cell1 (p := 4) (b := w.heap.size + 1 + 1) rfl _ _ _ rfl Hlv) rfl ⟨rfl, Hbo.out⟩

end Go.Proofs.YtjeldedjhlicmaaDoor
