/-
  The specification's text in whole pieces, and figures of base 16.
-/
import Derived.Test.YtjeldedjhlicmaaDoorShaS2
import Derived.Test.YtjeldedjhlicmaaDoorHexM
import Derived.Test.YtjeldedjhlicmaaDoorRows1
import Derived.Deep.OwnRows
set_option linter.unusedVariables false
namespace Go.Proofs.YtjeldedjhlicmaaDoor
open Go.RowKit

theorem infoInt : (Tryd.prog.info? 3).map (fun i => (i.zero, i.size, i.bytes)) = some (some (.int .i64 0), 1, 8) := by kernel_rfl
theorem makeN (n : Nat) (hn : n ≤ 1099511627776) (w : World) : (Instr.makeSlice 125 (.int .i64 (n : Int)) (.int .i64 (n : Int))).run Tryd.prog w = .ok (.slice (some ⟨w.heap.size, 0, none⟩) n n) (w.alloc (.cells (zerosN n) 3)) := by
  rw [← madeCells_zero]
  exact run_make_row' 125 3 (.int .i64 0) 8 Tryd.underlying125 infoInt rfl .i64 .i64 n (by omega) (by omega) w

set_option maxHeartbeats 1000000 in
set_option maxRecDepth 100000 in
theorem specPad (s : ByteArray) (w : World) (hs : s.size ≤ 1073741824) :
    Calls Tryd.prog 111 #[.string s] w fun e w' => e = .returned (.slice (some ⟨w.heap.size, 0, none⟩) (padLen s.size) (padLen s.size)) ∧ RowN 3 w' w.heap.size (padN s.data.toList) ∧ Below w.heap.size w w' := by
  obtain ⟨N, hN⟩ : ∃ N, N = padLen s.size := ⟨_, rfl⟩
  have hNI : ((s.size : Int) + 72) / 64 * 64 = (N : Int) := by rw [hN]; simp [padLen]
  have hN1 : s.size + 9 ≤ N := by rw [hN]; unfold padLen; omega
  have hN2 : N ≤ s.size + 72 := by rw [hN]; unfold padLen; omega
  have hmk := makeN N (by omega)
  have HN : Hid (N = padLen s.size) := hN
  clear hN
  obtain ⟨F, hF⟩ : ∃ F, F = s.data.toList.map (·.toNat) := ⟨_, rfl⟩
  have hFl : F.length = s.size := by rw [hF]; simp
  have hFat : ∀ k (h : k < s.size), F.getD k 0 = s[k].toNat := by
    intro k h
    rw [hF]
    simp [ByteArray.getElem_eq_getElem_data, h]
  have HF : Hid (F = s.data.toList.map (·.toNat)) := hF
  have HFl : Hid (F.length = s.size) := hFl
  clear hF hFl
  go_enter Tryd.func111, Tryd.ntmps111
  go_wp2
  clear hmk hNI
  go_loopw [4] (fun i wr => ∃ k : Nat, k ≤ s.size ∧ i = .int .i64 k ∧ RowN 3 wr w.heap.size (F.take k ++ List.replicate (N - k) 0) ∧ Below w.heap.size w wr) (fun i _ => s.size - (intOf i).toNat)
  case atStart => exact ⟨0, by omega, rfl, heap_alloc_new w _, (Below.refl _ w).alloc (Nat.le_refl _) _⟩
  case round =>
    obtain ⟨k, hk, rfl, hrow, hbw⟩ := hrel
    by_cases hlt : k < s.size
    · have hby : (s[k].toNat : Int) < 256 := by have := s[k].toNat_lt; omega
      have HV : Hid (s[k].toNat = F.getD k 0) := (hFat k hlt).symm
      have hfz := hrow.frozen k
      have hck := hrow.cell k (by simp [HFl.out]; omega)
      generalize (F.take k ++ List.replicate (N - k) 0).getD k 0 = old at hck
      have HROW : Hid (RowN 3 wr w.heap.size (F.take k ++ List.replicate (N - k) 0)) := hrow
      have HB : Hid (Below w.heap.size w wr) := hbw
      clear hrow hbw hFat
      go_wp2
      go_roundw
      case rel =>
        refine ⟨k + 1, by omega, by go_num, ?_, (HB.out.setCell (p := ⟨w.heap.size, k, none⟩) (Nat.le_refl _) _)⟩
        have := HROW.out.set k s[k].toNat
        rw [HV.out, set_next _ N k (by rw [HFl.out]; exact hlt) (by omega), ← HV.out] at this
        exact this
      case measure => simp [intOf]; omega
    · have hks : k = s.size := by omega
      have hrow0 : RowN 3 wr w.heap.size (F ++ List.replicate (N - s.size) 0) := by
        rw [hks, List.take_of_length_le (by rw [HFl.out]; exact Nat.le_refl _)] at hrow; exact hrow
      have hrow1 := hrow0.set s.size 128
      have hset : (F ++ List.replicate (N - s.size) 0).set s.size 128 = F ++ 128 :: List.replicate (N - s.size - 1) 0 := by
        rw [List.set_append_right _ _ (by rw [HFl.out]; exact Nat.le_refl _), HFl.out, Nat.sub_self, show N - s.size = (N - s.size - 1) + 1 from by omega, List.replicate_succ, List.set_cons_zero]
        rfl
      rw [hset] at hrow1
      have hfz := hrow0.frozen s.size
      have hck := hrow0.cell s.size (by simp [HFl.out]; omega)
      generalize (F ++ List.replicate (N - s.size) 0).getD s.size 0 = old at hck
      obtain ⟨P, hP⟩ : ∃ P, P = F ++ 128 :: List.replicate (N - s.size - 1) 0 := ⟨_, rfl⟩
      rw [← hP] at hrow1
      have HPl : Hid (P.length = N) := by show _ = _; rw [hP]; simp [HFl.out]; omega
      have HP : Hid (P = F ++ 128 :: List.replicate (N - s.size - 1) 0) := hP
      have hb1 := hbw.setCell (p := ⟨w.heap.size, s.size, none⟩) (Nat.le_refl _) (.int .i64 128)
      obtain ⟨w0, rfl⟩ : ∃ w0 : World, w0 = wr := ⟨_, rfl⟩
      obtain ⟨k0, hk0⟩ : ∃ k0 : Nat, k0 = k := ⟨_, rfl⟩
      rw [← hk0] at hlt ⊢
      clear hk0 hP hset hrow hrow0 hks hk hFat
      go_wp2
      go_loopw [6] (fun i wr => ∃ j : Nat, j ≤ 8 ∧ i = .int .i64 j ∧ RowN 3 wr w.heap.size (endB P (s.size * 8) j) ∧ Below w.heap.size w wr) (fun i _ => 8 - (intOf i).toNat)
      case atStart => exact ⟨0, by omega, rfl, hrow1, hb1⟩
      case round =>
        clear hrow1 hb1 hck hfz hbw
        obtain ⟨j, hj, rfl, hr, hb2⟩ := hrel
        by_cases hjlt : j < 8
        · obtain ⟨v, hv⟩ : ∃ v : Nat, v = s.size * 8 / 2 ^ (8 * j) % 256 := ⟨_, rfl⟩
          have rv : bits .and .i64 ((s.size : Int) * 8 / 2 ^ (8 * j)) 255 = (v : Int) := by
            have e : (s.size : Int) * 8 / 2 ^ (8 * j) = ((s.size * 8 / 2 ^ (8 * j) : Nat) : Int) := by simp
            have hle : s.size * 8 / 2 ^ (8 * j) ≤ s.size * 8 := Nat.div_le_self _ _
            rw [hv, e]
            generalize s.size * 8 / 2 ^ (8 * j) = q at hle
            have := bits_mask .i64 63 (by decide) wraps_i64 8 (by decide) (q : Int) (by omega) (by omega)
            simpa using this
          have hend := endB_length P (s.size * 8) j
          rw [HPl.out] at hend
          have HV : Hid ((endB P (s.size * 8) j).set (N - 1 - j) v = endB P (s.size * 8) (j + 1)) := by
            show _ = _
            rw [endB, hv, HPl.out]
          have hfz := hr.frozen (N - 1 - j)
          have hck := hr.cell (N - 1 - j) (by rw [hend]; omega)
          generalize (endB P (s.size * 8) j).getD (N - 1 - j) 0 = old2 at hck
          have hx1 : ((N : Int) - 1 - (j : Int)).toNat = N - 1 - j := by omega
          have HROW : Hid (RowN 3 wr w.heap.size (endB P (s.size * 8) j)) := hr
          have HB : Hid (Below w.heap.size w wr) := hb2
          clear hv hr hb2 hend
          go_wp2
          go_roundw
          case rel =>
            refine ⟨j + 1, by omega, by go_num, ?_, (HB.out.setCell (p := ⟨w.heap.size, N - 1 - j, none⟩) (Nat.le_refl _) _)⟩
            have := HROW.out.set (N - 1 - j) v
            rw [HV.out] at this
            exact this
          case measure => simp [intOf]; omega
        · have hj8 : j = 8 := by omega
          have hfin : RowN 3 wr w.heap.size (padN s.data.toList) := by
            rw [hj8, HP.out, HF.out, HN.out] at hr
            have e1 : s.data.toList.length = s.size := by simp
            rw [padN, e1]
            exact hr
          clear hr hj8
          go_wp2
          go_ret
          rw [← HN.out]
          exact ⟨rfl, hfin, hb2⟩

/-! ### Figures -/
theorem infoU8s : (Tryd.prog.info? 5).map (fun i => (i.zero, i.size, i.bytes)) = some (some (.int .u8 0), 1, 1) := by kernel_rfl
set_option maxHeartbeats 1000000 in
set_option maxRecDepth 100000 in
theorem specHex (x : Nat) (w : World) (hx : x < 4294967296) :
    Calls Tryd.prog 94 #[.int .i64 x] w fun e w' => e = .returned (.string ⟨(hexOf x).toArray⟩) ∧ Below w.heap.size w w' := by
  obtain ⟨i0, hi, hz0, hz1, hz2⟩ := info_parts infoU8s
  go_enter Tryd.func94, Tryd.ntmps94
  go_wp2
  go_loopw [3, 4] (fun s i wr => ∃ j : Nat, j ≤ 8 ∧ i = .int .i64 (7 - (j : Int)) ∧ wr.ownsRow w.heap.size 5 1 s j (Lib.byteCells ((hexOf x).take j)) ∧ Below w.heap.size w wr) (fun _ i _ => (intOf i + 1).toNat)
  case atStart =>
    exact ⟨0, by omega, rfl, World.ownsRow_made w #[] 0 (Nat.le_refl _) (by simp) rfl, (Below.refl _ w).alloc (Nat.le_refl _) _⟩
  case round =>
    obtain ⟨j, hj, rfl, hown, hbw⟩ := hrel
    have hsz := hbw.size
    by_cases hlt : j < 8
    · have hx1 : j + 1 ≤ maxLen := by unfold maxLen; omega
      have hx2 : (j + 1) * 1 ≤ 140737488355328 := by omega
      obtain ⟨d, hd⟩ : ∃ d, d = x / 2 ^ (4 * (7 - j)) % 16 := ⟨_, rfl⟩
      have hd16 : d < 16 := by rw [hd]; exact Nat.mod_lt _ (by decide)
      have HD : Hid (d = x / 2 ^ (4 * (7 - j)) % 16) := hd
      obtain ⟨q, hq⟩ : ∃ q, q = x / 2 ^ (4 * (7 - j)) := ⟨_, rfl⟩
      have hql : q ≤ x := by rw [hq]; exact Nat.div_le_self _ _
      have rq : (x : Int) / 2 ^ (4 * (7 - j)) = (q : Int) := by rw [hq]; simp
      have rd : (q : Int) % 16 = (d : Int) := by rw [hd, ← hq]; simp
      clear hq hd
      go_wp2_with (at_builtin; refine wp_app1 rfl _ _ 78 rfl w.heap.size 5 i0 (.int .u8 0) 1 Tryd.underlying78 hi hz0 hz1 hz2 rfl _ _ _ rfl hown _ rfl rfl hx1 hx2 hsz ?_)
      intro g cap w1 hown1 hb1 _
      have hown2 : w1.ownsRow w.heap.size 5 1 (.slice (some ⟨g, 0, none⟩) (j + 1) cap) (j + 1) (Lib.byteCells ((hexOf x).take (j + 1))) := by
        rw [hexOf_take x j hlt, ← HD.out, ← figs_at d hd16 (by show d < 16; exact hd16), Lib.byteCells_append]
        exact hown1
      clear hown1
      go_wp2
      go_roundw
      case rel => exact ⟨j + 1, by omega, by go_num, hown2, hbw.trans hb1⟩
      case measure => simp [intOf]; omega
    · have hj8 : j = 8 := by omega
      have hl8 : (hexOf x).take 8 = hexOf x := List.take_of_length_le (by simp [hexOf])
      rw [hj8, hl8] at hown
      obtain ⟨g, cap, hv⟩ := owned_head hown (by omega)
      rw [hv] at hown ⊢
      have hcv := bytes_back (P := Tryd.prog) 78 9 Tryd.underlying78 Tryd.underlying5 Tryd.underlying9 hown (by simp [hexOf])
      clear hl8
      go_wp2
      go_ret
      exact ⟨rfl, hbw⟩

end Go.Proofs.YtjeldedjhlicmaaDoor
