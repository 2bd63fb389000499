/-
  The specification's RicePut: the call.
-/
import Derived.Test.YtcaejndpmagfaaaDoorRiceS2
set_option linter.unusedVariables false
namespace Go.Proofs.YtcaejndpmagfaaaDoor
open Go.RowKit

theorem bitsNew (w : World) : SB w.heap.size w.heap.size ([], []) (w.alloc (.cells #[.slice none 0 0, .slice none 0 0] 110)) :=
  ⟨Nat.le_refl _, _, _, heap_alloc_new w _, ⟨rfl, .inl ⟨rfl, rfl⟩⟩, ⟨rfl, .inl ⟨rfl, rfl⟩⟩⟩

set_option maxHeartbeats 1000000 in
set_option maxRecDepth 100000 in
theorem specRice (g n cap : Nat) (zs : List Int) (kn : Nat) (w : World) (h : At w g zs) (hn : n = zs.length) (hk8 : kn ≤ 8) (hl40 : zs.length ≤ 40) (hz : ∀ i, i < zs.length → 0 ≤ zs.getD i 0 ∧ zs.getD i 0 ≤ 60000) :
    Calls Tryd.prog 76 #[.slice (some ⟨g, 0, none⟩) n cap, .int .i64 (kn : Int)] w fun e w' => e = .returned (.string ⟨(riceB kn (zs.map Int.toNat)).toArray⟩) ∧ Below w.heap.size w w' := by
  have HA : Hid (At w g zs) := h
  have HN : Hid (n = zs.length) := hn
  have hn40 : n ≤ 40 := by rw [hn]; exact hl40
  have HZ : Hid (∀ i, i < zs.length → 0 ≤ zs.getD i 0 ∧ zs.getD i 0 ≤ 60000) := hz
  have HL : Hid (∀ i, (upTo kn zs i).1.length ≤ 10000000) := fun i => upTo_len hk8 hl40 HZ.out i
  have HE : Hid (fillB (upTo kn zs zs.length) = riceB kn (zs.map Int.toNat)) := upTo_end kn zs
  have HW0 : Hid (SB w.heap.size w.heap.size (upTo kn zs 0) (w.alloc (.cells #[.slice none 0 0, .slice none 0 0] 110))) := by rw [upTo_zero]; exact bitsNew w
  have HB0 : Hid (Below w.heap.size w (w.alloc (.cells #[.slice none 0 0, .slice none 0 0] 110))) := (Below.refl _ w).alloc (Nat.le_refl _) _
  obtain ⟨R, hR⟩ : ∃ R, R = riceB kn (zs.map Int.toNat) := ⟨_, rfl⟩
  rw [← hR] at HE ⊢
  have hgs := h.1
  clear h hn hz hR hl40
  go_enter Tryd.func76, Tryd.ntmps76
  go_wp2_with fail
  go_loopw [6] (fun i wr => ∃ j : Nat, j ≤ n ∧ i = .int .i64 (j : Int) ∧ Hid (SB w.heap.size w.heap.size (upTo kn zs j) wr) ∧ Hid (Below w.heap.size w wr)) (fun i _ => n - (intOf i).toNat)
  case atStart => exact ⟨0, by omega, rfl, HW0, HB0⟩
  case round =>
    clear HW0 HB0
    obtain ⟨j, hj, rfl, HW, HB⟩ := hrel
    by_cases hlt : j < n
    · have hjz : j < zs.length := by rw [← HN.out]; exact hlt
      have HJN : Hid (j + 1 ≤ n) := hlt
      have HAT : Hid (∀ w', Below w.heap.size w w' → w'.cell? ⟨g, j, none⟩ = some (.int .i64 (zs.getD j 0))) := fun w' hb' => (HA.out.below hb' hgs).2 j hjz
      have hz := HZ.out j hjz
      have HS : Hid (upTo kn zs (j + 1) = runB (upTo kn zs j) (numB kn (zs.getD j 0).toNat)) := upTo_succ kn zs j hjz
      generalize zs.getD j 0 = z at HAT hz HS
      obtain ⟨zn, rfl⟩ := Int.eq_ofNat_of_zero_le hz.1
      rw [Int.toNat_natCast] at HS
      have hzn : zn ≤ 60000 := by omega
      have cj := HAT.out wr HB.out
      obtain ⟨N, hN⟩ : ∃ N : Nat, N = zn / 2 ^ kn := ⟨_, rfl⟩
      have hNn : N ≤ 60000 := by rw [hN]; exact Nat.le_trans (Nat.div_le_self _ _) hzn
      have rsh : (zn : Int) / 2 ^ kn = (N : Int) := by rw [hN]; simp
      obtain ⟨F, hF⟩ : ∃ F, F = upTo kn zs (j + 1) := ⟨_, rfl⟩
      rw [← hF] at HS
      have HF0 : Hid (runB (upTo kn zs j) (List.replicate N 1 ++ 0 :: lowB zn kn) = F) := by show _ = _; rw [HS.out, hN]; rfl
      have HFF : Hid (F = upTo kn zs (j + 1)) := hF
      have HO0 : Hid (okB (upTo kn zs j)) := upTo_ok _ _ _
      have HL0 : Hid ((upTo kn zs j).1.length ≤ 10000000) := HL.out j
      obtain ⟨c0, hc0⟩ : ∃ c0, c0 = upTo kn zs j := ⟨_, rfl⟩
      rw [← hc0] at HF0 HO0 HL0 HW
      clear hz hjz hN hF HS hc0
      go_wp2_with fail
      go_loopw [7] (fun i wr => ∃ (t : Nat) (c : List UInt8 × List Nat), t ≤ N ∧ i = .int .i64 (t : Int) ∧ Hid (runB c (List.replicate t 1 ++ 0 :: lowB zn kn) = F) ∧ Hid (okB c) ∧ Hid (c.1.length ≤ 10060000 - t) ∧ Hid (SB w.heap.size w.heap.size c wr) ∧ Hid (Below w.heap.size w wr)) (fun i _ => (intOf i).toNat)
      case atStart => exact ⟨N, c0, by omega, rfl, HF0, HO0, by have := HL0.out; show _ ≤ _; omega, HW, HB⟩
      case round =>
        clear HF0 HO0 HL0 HW HB cj
        obtain ⟨t, c, ht, rfl, HF, HO, HLc, HW, HB⟩ := hrel
        rcases t with _ | t
        · have HF1 : Hid (runB (stepB c 0) (lowB zn kn) = F) := HF.out
          go_wp2_with fail
          refine (putS w.heap.size w.heap.size c 0 _ HW.out HO.out (by omega) (by have := HLc.out; omega)).mono ?_
          rintro e w2 ⟨rfl, hw2, hb2⟩
          have HW2 : Hid (SB w.heap.size w.heap.size (stepB c 0) w2) := hw2
          have HB2 : Hid (Below w.heap.size w w2) := HB.out.trans hb2
          have cj2 : w2.cell? ⟨g, j, none⟩ = some (.int .i64 (zn : Int)) := HAT.out w2 HB2.out
          have cj3 : w2.drew.cell? ⟨g, j, none⟩ = some (.int .i64 (zn : Int)) := cj2
          obtain ⟨P2, hP2⟩ : ∃ P2 : Nat, P2 = 2 ^ kn := ⟨_, rfl⟩
          have hP0 : 0 < P2 := by rw [hP2]; exact Nat.pow_pos (by decide)
          have hP8 : P2 ≤ 256 := by rw [hP2]; exact Nat.pow_le_pow_right (n := 2) (by decide) hk8
          have rp : (2 : Int) ^ kn = (P2 : Int) := by rw [hP2]; simp
          have HRM : Hid (lowB (zn % P2) kn = lowB zn kn) := by show _ = _; rw [hP2]; exact lowB_mod zn kn kn (Nat.le_refl _)
          obtain ⟨r, hr⟩ : ∃ r : Nat, r = zn % P2 := ⟨_, rfl⟩
          have hrn : r ≤ 60000 := by rw [hr]; exact Nat.le_trans (Nat.mod_le _ _) hzn
          have rr : (zn : Int) % (P2 : Int) = (r : Int) := by rw [hr]; simp
          have rt : Int.tmod (zn : Int) (P2 : Int) = (r : Int) := by rw [Int.tmod_eq_emod_of_nonneg (by omega)]; exact rr
          rw [← hr] at HRM
          have hPne : ¬ (P2 : Int) = 0 := by omega
          have hPw : IntKind.i64.wrap (P2 : Int) = (P2 : Int) := by rw [IntKind.wrap_i64]; omega
          have lj : (j : Int) < (n : Int) := by have := HJN.out; omega
          have HF2 : Hid (runB (stepB c 0) (lowB r kn) = F) := by show _ = _; rw [HRM.out]; exact HF1.out
          have HO2 : Hid (okB (stepB c 0)) := stepB_ok HO.out (by omega)
          have HL2 : Hid ((stepB c 0).1.length ≤ 100000000) := by
            have h1 := stepB_len c 0
            have h2 := HLc.out
            show _ ≤ _
            omega
          clear hw2 hb2 hP2 rsh hr
          go_wp2_with fail
          go_region_with (go_at_call 91; refine (numberS w.heap.size w.heap.size (stepB c 0) r kn _ ?_ HO2.out hrn hk8 HL2.out).mono ?_; exact HW2.out; rintro e w3 ⟨rfl, hw3, hb3⟩)
          all_goals
            have HW3 : Hid (SB w.heap.size w.heap.size (upTo kn zs (j + 1)) w3) := by rw [← HFF.out, ← HF2.out]; exact hw3
            have HB3 : Hid (Below w.heap.size w w3) := HB2.out.drew.trans hb3
            clear hw3 hb3
            go_wp2_with fail
            go_roundw
            case rel => exact ⟨j + 1, HJN.out, by go_num, HW3, HB3⟩
            case measure => have := HJN.out; simp [intOf]; omega
        · have HF1 : Hid (runB (stepB c 1) (List.replicate t 1 ++ 0 :: lowB zn kn) = F) := HF.out
          have hpos : (0 : Int) < ((t + 1 : Nat) : Int) := by omega
          go_wp2_with fail
          refine (putS w.heap.size w.heap.size c 1 _ HW.out HO.out (by omega) (by have := HLc.out; omega)).mono ?_
          rintro e w2 ⟨rfl, hw2, hb2⟩
          have HW2 : Hid (SB w.heap.size w.heap.size (stepB c 1) w2) := hw2
          have HB2 : Hid (Below w.heap.size w w2) := HB.out.trans hb2
          clear hw2 hb2
          go_wp2_with fail
          go_roundw
          case rel =>
            refine ⟨t, stepB c 1, by omega, by go_num, HF1, stepB_ok HO.out (by omega), ?_, HW2, HB2⟩
            have h1 := stepB_len c 1
            have h2 := HLc.out
            show _ ≤ _
            omega
          case measure => simp [intOf]
    · have HJ : Hid (upTo kn zs j = upTo kn zs zs.length) := by
        show _ = _
        rw [show j = zs.length from by rw [← HN.out]; omega]
      go_wp2_with fail
      refine (endS w.heap.size w.heap.size (upTo kn zs j) _ HW.out (upTo_ok _ _ _) (by have := HL.out j; omega)).mono ?_
      rintro e w2 ⟨rfl, hb2⟩
      rw [HJ.out, HE.out]
      go_wp2_with fail
      go_ret
      exact ⟨rfl, HB.out.trans hb2⟩

end Go.Proofs.YtcaejndpmagfaaaDoor
