/-
  The specification's rounds of SHA-256: mixing a piece.
-/
import Derived.Test.YtjeldedjhlicmaaDoorShaS1
set_option linter.unusedVariables false
namespace Go.Proofs.YtjeldedjhlicmaaDoor
open Go.RowKit

def zeros8 : Array Value := ((List.replicate 8 (0 : Nat)).map fun n : Nat => Value.int .i64 (n : Int)).toArray
theorem make8 (w : World) : (Instr.makeSlice 125 (.int .i64 8) (.int .i64 8)).run Tryd.prog w = .ok (.slice (some ⟨w.heap.size, 0, none⟩) 8 8) (w.alloc (.cells zeros8 3)) := by kernel_rfl

set_option maxHeartbeats 1000000 in
set_option maxRecDepth 100000 in
theorem specMix (s : St) (hs : s.ok) (ms ws : List Nat) (gv gw gm : Nat) (w : World) (hv : RowN 3 w gv s.toL) (hw : RowN 3 w gw ws) (hm : RowN 3 w gm ms) (hwl : ws.length = 64) (hml : ms.length = 64)
    (hwo : ∀ x ∈ ws, x < 4294967296) (hmo : ∀ x ∈ ms, x < 4294967296) :
    Calls Tryd.prog 112 #[.slice (some ⟨gv, 0, none⟩) 8 8, .slice (some ⟨gw, 0, none⟩) 64 64, .slice (some ⟨gm, 0, none⟩) 64 64] w fun e w' => e = .returned (.slice (some ⟨w.heap.size + 1, 0, none⟩) 8 8) ∧ RowN 3 w' (w.heap.size + 1) (s.plus (rounds ms ws s 64)).toL ∧ Below w.heap.size w w' := by
  have v0 : w.cell? ⟨gv, 0, none⟩ = some (.int .i64 (s.a : Int)) := hv.cell 0 (by simp [St.toL])
  have v1 : w.cell? ⟨gv, 1, none⟩ = some (.int .i64 (s.b : Int)) := hv.cell 1 (by simp [St.toL])
  have v2 : w.cell? ⟨gv, 2, none⟩ = some (.int .i64 (s.c : Int)) := hv.cell 2 (by simp [St.toL])
  have v3 : w.cell? ⟨gv, 3, none⟩ = some (.int .i64 (s.d : Int)) := hv.cell 3 (by simp [St.toL])
  have v4 : w.cell? ⟨gv, 4, none⟩ = some (.int .i64 (s.e : Int)) := hv.cell 4 (by simp [St.toL])
  have v5 : w.cell? ⟨gv, 5, none⟩ = some (.int .i64 (s.f : Int)) := hv.cell 5 (by simp [St.toL])
  have v6 : w.cell? ⟨gv, 6, none⟩ = some (.int .i64 (s.g : Int)) := hv.cell 6 (by simp [St.toL])
  have v7 : w.cell? ⟨gv, 7, none⟩ = some (.int .i64 (s.h : Int)) := hv.cell 7 (by simp [St.toL])
  go_enter Tryd.func112, Tryd.ntmps112
  go_wp2
  clear v0 v1 v2 v3 v4 v5 v6 v7
  go_loopw [7, 8, 9, 10, 11, 12, 13, 14, 15] (fun a b c d e f g h i wr => ∃ (k : Nat) (t : St), k ≤ 64 ∧ i = .int .i64 k ∧ Hid (t = rounds ms ws s k) ∧ a = .int .i64 (t.a : Int) ∧ b = .int .i64 (t.b : Int) ∧ c = .int .i64 (t.c : Int) ∧ d = .int .i64 (t.d : Int) ∧ e = .int .i64 (t.e : Int) ∧ f = .int .i64 (t.f : Int) ∧ g = .int .i64 (t.g : Int) ∧ h = .int .i64 (t.h : Int) ∧ Hid (∃ n, wr = w.drewN n)) (fun _ _ _ _ _ _ _ _ i _ => 64 - (intOf i).toNat)
  case atStart => exact ⟨0, s, by omega, rfl, rfl, rfl, rfl, rfl, rfl, rfl, rfl, rfl, rfl, ⟨0, rfl⟩⟩
  case round =>
    obtain ⟨k, t, hk, rfl, ht, rfl, rfl, rfl, rfl, rfl, rfl, rfl, rfl, HW⟩ := hrel
    have hmr : RowN 3 wr gm ms := by obtain ⟨n, hn⟩ := HW.out; rw [hn]; exact hm
    have hwr : RowN 3 wr gw ws := by obtain ⟨n, hn⟩ := HW.out; rw [hn]; exact hw
    have hok : t.ok := by rw [ht.out]; exact rounds_ok ms ws s hs k
    by_cases hlt : k < 64
    · obtain ⟨mk, hmk⟩ : ∃ x, x = ms.getD k 0 := ⟨_, rfl⟩
      obtain ⟨wk, hwk⟩ : ∃ x, x = ws.getD k 0 := ⟨_, rfl⟩
      have cm := hmr.cell k (by omega)
      have cw := hwr.cell k (by omega)
      rw [← hmk] at cm
      rw [← hwk] at cw
      have lm : mk < 4294967296 := by rw [hmk]; exact getD_lt hmo _
      have lw : wk < 4294967296 := by rw [hwk]; exact getD_lt hwo _
      have HT : Hid (t.step mk wk = rounds ms ws s (k + 1)) := by
        show t.step mk wk = _
        rw [rounds, ← ht.out, hmk, hwk]
      clear hmk hwk ht hmr hwr
      obtain ⟨a, b, c, d, e, f, g, h⟩ := t
      obtain ⟨la, lb, lc, ld, le, lf, lg, lh⟩ := hok
      dsimp only at la lb lc ld le lf lg lh
      obtain ⟨s1, hs1⟩ : ∃ v, v = big1 e := ⟨_, rfl⟩
      obtain ⟨s0, hs0⟩ : ∃ v, v = big0 a := ⟨_, rfl⟩
      obtain ⟨cc, hcc⟩ : ∃ v, v = chs e f g := ⟨_, rfl⟩
      obtain ⟨mj, hmj⟩ : ∃ v, v = maj a b c := ⟨_, rfl⟩
      have l1 : s1 < 4294967296 := by rw [hs1]; exact big1_lt e le
      have l0 : s0 < 4294967296 := by rw [hs0]; exact big0_lt a la
      have lcc : cc < 4294967296 := by rw [hcc]; exact chs_lt e f g lf lg
      have lmj : mj < 4294967296 := by rw [hmj]; exact maj_lt a b c lb lc
      have r1 := x3 (rotr e 6) (rotr e 11) (rotr e 25) s1 (rotr_lt _ _ le) (rotr_lt _ _ le) (rotr_lt _ _ le) hs1
      have r0 := x3 (rotr a 2) (rotr a 13) (rotr a 22) s0 (rotr_lt _ _ la) (rotr_lt _ _ la) (rotr_lt _ _ la) hs0
      have rc := ch64 e f g cc le lf lg hcc
      have rm := mj64 a b c mj la lb lc hmj
      obtain ⟨ne, hne⟩ : ∃ v : Nat, v = (d + (h + s1 + cc + mk + wk)) % 4294967296 := ⟨_, rfl⟩
      obtain ⟨na, hna⟩ : ∃ v : Nat, v = (h + s1 + cc + mk + wk + (s0 + mj)) % 4294967296 := ⟨_, rfl⟩
      have re : bits .and .i64 ((d : Int) + ((h : Int) + (s1 : Int) + (cc : Int) + (mk : Int) + (wk : Int))) 4294967295 = (ne : Int) := by
        rw [hne, ← mask64 _ (by omega)]; simp
      have ra : bits .and .i64 ((h : Int) + (s1 : Int) + (cc : Int) + (mk : Int) + (wk : Int) + ((s0 : Int) + (mj : Int))) 4294967295 = (na : Int) := by
        rw [hna, ← mask64 _ (by omega)]; simp
      have HT2 : Hid ((⟨na, a, b, c, ne, e, f, g⟩ : St) = rounds ms ws s (k + 1)) := by
        show _ = _
        rw [← HT.out, hne, hna, hs1, hs0, hcc, hmj]
        rfl
      clear HT hne hna hs1 hs0 hcc hmj
      go_wp2_with fail
      go_quiet ((go_at_call 118; exact Calls.quiet_of (turn _ _ _ (by omega) (by omega) (by omega))))
      go_wp2_with (go_at_call 118; refine (turn _ _ _ (by omega) (by omega) (by omega)).mono ?_; rintro e w1 ⟨rfl, n1, rfl⟩)
      go_roundw
      case rel =>
        refine ⟨k + 1, ⟨na, a, b, c, ne, e, f, g⟩, by omega, by go_num, HT2, rfl, rfl, rfl, rfl, rfl, rfl, rfl, rfl, ?_⟩
        obtain ⟨n, hn⟩ := HW.out
        rw [hn]
        exact ⟨_, by simp only [World.drewN_drewN]; rfl⟩
      case measure => simp [intOf]; omega
    · have ht64 : t = rounds ms ws s 64 := by rw [ht.out, show k = 64 from by omega]
      have hvr : RowN 3 wr gv s.toL := by obtain ⟨n, hn⟩ := HW.out; rw [hn]; exact hv
      have hB : Below w.heap.size w wr := by obtain ⟨n, hn⟩ := HW.out; rw [hn]; exact ⟨rfl, rfl, rfl, Nat.le_refl _, fun _ _ => rfl⟩
      have HSZ : Hid (wr.heap.size = w.heap.size) := by obtain ⟨n, hn⟩ := HW.out; show _ = _; rw [hn]; rfl
      have hgv := hvr.lt
      have hmk := make8
      obtain ⟨w0, rfl⟩ : ∃ w0 : World, w0 = wr := ⟨_, rfl⟩
      obtain ⟨k0, hk0⟩ : ∃ k0 : Nat, k0 = k := ⟨_, rfl⟩
      rw [← hk0] at hlt ⊢
      clear hk0 hmr hwr hw hm hv hk ht HW
      have HT : Hid (t = rounds ms ws s 64) := ht64
      clear ht64
      have hrow1 : RowN 3 ((w0.alloc (.cells #[.int .i64 (t.a : Int), .int .i64 (t.b : Int), .int .i64 (t.c : Int), .int .i64 (t.d : Int), .int .i64 (t.e : Int), .int .i64 (t.f : Int), .int .i64 (t.g : Int), .int .i64 (t.h : Int)] 3)).alloc (.cells zeros8 3)) w0.heap.size t.toL := by
        show _ = _
        rw [Below.heap_alloc _ _ _ (by simp)]
        exact heap_alloc_new w0 _
      have hrow2 : RowN 3 ((w0.alloc (.cells #[.int .i64 (t.a : Int), .int .i64 (t.b : Int), .int .i64 (t.c : Int), .int .i64 (t.d : Int), .int .i64 (t.e : Int), .int .i64 (t.f : Int), .int .i64 (t.g : Int), .int .i64 (t.h : Int)] 3)).alloc (.cells zeros8 3)) (w0.heap.size + 1) (List.replicate 8 0) := by
        have := heap_alloc_new (w0.alloc (.cells #[.int .i64 (t.a : Int), .int .i64 (t.b : Int), .int .i64 (t.c : Int), .int .i64 (t.d : Int), .int .i64 (t.e : Int), .int .i64 (t.f : Int), .int .i64 (t.g : Int), .int .i64 (t.h : Int)] 3)) (.cells zeros8 3)
        rw [show (w0.alloc (.cells #[.int .i64 (t.a : Int), .int .i64 (t.b : Int), .int .i64 (t.c : Int), .int .i64 (t.d : Int), .int .i64 (t.e : Int), .int .i64 (t.f : Int), .int .i64 (t.g : Int), .int .i64 (t.h : Int)] 3)).heap.size = w0.heap.size + 1 from by simp] at this
        exact this
      go_wp2
      go_loopw [20] (fun i wr => ∃ j : Nat, j ≤ 8 ∧ i = .int .i64 j ∧ RowN 3 wr w0.heap.size t.toL ∧ RowN 3 wr (w0.heap.size + 1) ((s.plus t).toL.take j ++ List.replicate (8 - j) 0) ∧ Below w0.heap.size w0 wr) (fun i _ => 8 - (intOf i).toNat)
      case atStart => exact ⟨0, by omega, rfl, hrow1, hrow2, ((Below.refl _ w0).alloc (Nat.le_refl _) _).alloc (by simp) _⟩
      case round =>
        clear hrow1 hrow2 hmk
        obtain ⟨j, hj, rfl, hr1, hr2, hb2⟩ := hrel
        by_cases hjlt : j < 8
        · obtain ⟨x, hx⟩ : ∃ x, x = s.toL.getD j 0 := ⟨_, rfl⟩
          obtain ⟨y, hy⟩ : ∃ x, x = t.toL.getD j 0 := ⟨_, rfl⟩
          have cx := (hvr.below hb2 hgv).cell j (by simp [St.toL]; omega)
          have cy := hr1.cell j (by simp [St.toL]; omega)
          rw [← hx] at cx
          rw [← hy] at cy
          have lx : x < 4294967296 := by rw [hx]; exact getD_lt (s.toL_lt hs) _
          have ly : y < 4294967296 := by rw [hy]; exact getD_lt (t.toL_lt hok) _
          obtain ⟨v, hv⟩ : ∃ v : Nat, v = (x + y) % 4294967296 := ⟨_, rfl⟩
          have rv : bits .and .i64 ((x : Int) + (y : Int)) 4294967295 = (v : Int) := by rw [hv, ← mask64 _ (by omega)]; simp
          have HV : Hid (v = (s.plus t).toL.getD j 0) := by
            show v = _
            rw [plus_at s t j hjlt, hv, hx, hy]
          have hfz := hr2.frozen j
          have hck := hr2.cell j (by simp [St.toL]; omega)
          generalize ((s.plus t).toL.take j ++ List.replicate (8 - j) 0).getD j 0 = old at hck
          have H1 : Hid (RowN 3 wr w0.heap.size t.toL) := hr1
          have H2 : Hid (RowN 3 wr (w0.heap.size + 1) ((s.plus t).toL.take j ++ List.replicate (8 - j) 0)) := hr2
          have HB2 : Hid (Below w0.heap.size w0 wr) := hb2
          clear hx hy hv hr1 hr2 hb2
          go_wp2_with fail
          go_region
          go_wp2
          go_roundw
          case rel =>
            refine ⟨j + 1, by omega, by go_num, ?_, ?_, ?_⟩
            · exact (H1.out.keep (Below.heap_setCell wr ⟨w0.heap.size + 1, j, none⟩ (.int .i64 (v : Int)) w0.heap.size (by show w0.heap.size ≠ w0.heap.size + 1; omega))).drew
            · have := (H2.out.set j v).drew
              rw [HV.out, set_next _ 8 j (by simp [St.toL]; omega) hjlt, ← HV.out] at this
              exact this
            · exact (HB2.out.setCell (p := ⟨w0.heap.size + 1, j, none⟩) (by show w0.heap.size ≤ w0.heap.size + 1; omega) _).drew
          case measure => simp [intOf]; omega
        · have hj8 : j = 8 := by omega
          have hfin : RowN 3 wr (w0.heap.size + 1) (s.plus t).toL := by
            rw [hj8] at hr2
            simpa [St.toL] using hr2
          clear hr2 hj8
          go_wp2
          go_ret
          rw [← HSZ.out, ← HT.out]
          refine ⟨rfl, hfin, ?_⟩
          rw [HSZ.out]
          exact hB.trans (hb2.mono (by rw [HSZ.out]; exact Nat.le_refl _))

end Go.Proofs.YtjeldedjhlicmaaDoor
