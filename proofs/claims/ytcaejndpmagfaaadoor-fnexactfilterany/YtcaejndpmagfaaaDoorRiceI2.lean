/-
  The program's writer of bits: a number, and the last byte.
-/
import Derived.Test.YtcaejndpmagfaaaDoorRiceI1
set_option linter.unusedVariables false
namespace Go.Proofs.YtcaejndpmagfaaaDoor
open Go.RowKit

set_option maxHeartbeats 1000000 in
set_option maxRecDepth 100000 in
theorem numberI (B b : Nat) (s : List UInt8 × List Nat) (n k : Nat) (w : World) (h : WR B b s w) (hok : okB s) (hn : n ≤ 60000) (hk : k ≤ 8) (hlen : s.1.length ≤ 1000000000) :
    Calls Tryd.prog 67 #[.pointer (some ⟨b, 0, none⟩), .int .i64 (n : Int), .int .i64 (k : Int)] w fun e w' => e = .returned (.tuple #[]) ∧ WR B b (runB s (numB k n)) w' ∧ Below B w w' := by
  obtain ⟨N, hN⟩ : ∃ N : Nat, N = n / 2 ^ k := ⟨_, rfl⟩
  have hNn : N ≤ 60000 := by rw [hN]; exact Nat.le_trans (Nat.div_le_self _ _) hn
  have HF : Hid (runB s (List.replicate N 1 ++ 0 :: lowB n k) = runB s (numB k n)) := by show _ = _; rw [hN]; rfl
  obtain ⟨F, hF⟩ : ∃ F, F = runB s (numB k n) := ⟨_, rfl⟩
  rw [← hF] at HF ⊢
  have rsh : (n : Int) / 2 ^ k = (N : Int) := by rw [hN]; simp
  clear hF hN
  go_enter Tryd.func67, Tryd.ntmps67
  have HS : Hid (WR B b s w ∧ okB s ∧ s.1.length ≤ 1000000000) := ⟨h, hok, hlen⟩
  clear h hok hlen
  go_wp2_with fail
  go_loopw [10] (fun i wr => ∃ (j : Nat) (c : List UInt8 × List Nat), j ≤ N ∧ i = .int .i64 (j : Int) ∧ Hid (runB c (List.replicate (N - j) 1 ++ 0 :: lowB n k) = F) ∧ Hid (okB c) ∧ Hid (c.1.length ≤ 1000000000 + j) ∧ Hid (WR B b c wr) ∧ Hid (Below B w wr)) (fun i _ => N - (intOf i).toNat)
  case atStart => exact ⟨0, s, by omega, rfl, HF, HS.out.2.1, HS.out.2.2, HS.out.1, Below.refl B w⟩
  case round =>
    obtain ⟨j, c, hj, rfl, HF, HO, HL, HW, HB⟩ := hrel
    by_cases hlt : j < N
    · go_wp2_with fail
      refine (bitI B b c 1 _ HW.out HO.out (by omega) (by have := HL.out; omega)).mono ?_
      rintro e w1 ⟨rfl, hw1, hb1⟩
      have HW1 : Hid (WR B b (stepB c 1) w1) := hw1
      have HB1 : Hid (Below B w w1) := HB.out.trans hb1
      clear hw1 hb1
      go_wp2_with fail
      go_roundw
      case rel =>
        refine ⟨j + 1, stepB c 1, by omega, by go_num, ?_, stepB_ok HO.out (by omega), ?_, HW1, HB1⟩
        · show _ = _
          rw [← HF.out, show N - j = (N - (j + 1)) + 1 from by omega, List.replicate_succ]
          rfl
        · have h1 := stepB_len c 1
          have h2 := HL.out
          show _ ≤ _
          omega
      case measure => simp [intOf]; omega
    · have HF1 : Hid (runB (stepB c 0) (lowB n k) = F) := by
        show _ = _
        rw [← HF.out, show N - j = 0 from by omega]
        rfl
      go_wp2_with fail
      refine (bitI B b c 0 _ HW.out HO.out (by omega) (by have := HL.out; omega)).mono ?_
      rintro e w1 ⟨rfl, hw1, hb1⟩
      have HW1 : Hid (WR B b (stepB c 0) w1) := hw1
      have HB1 : Hid (Below B w w1) := HB.out.trans hb1
      have HO1 : Hid (okB (stepB c 0)) := stepB_ok HO.out (by omega)
      have HL1 : Hid ((stepB c 0).1.length ≤ 1000000000 + 60001) := by
        have h1 := stepB_len c 0
        have h2 := HL.out
        show _ ≤ _
        omega
      clear hw1 hb1 HF HW HB HO HL
      obtain ⟨c1, hc1⟩ : ∃ c1, c1 = stepB c 0 := ⟨_, rfl⟩
      rw [← hc1] at HF1 HW1 HO1 HL1
      clear hc1 rsh hj hlt
      go_wp2_with fail
      go_loopw [6] (fun i wr => ∃ (r : Nat) (x : Int) (c : List UInt8 × List Nat), r ≤ k ∧ i = .int .i64 x ∧ Hid (x = (r : Int) - 1) ∧ Hid (runB c (lowB n r) = F) ∧ Hid (okB c) ∧ Hid (c.1.length ≤ 1000070001 - r) ∧ Hid (WR B b c wr) ∧ Hid (Below B w wr)) (fun i _ => (intOf i + 1).toNat)
      case atStart => exact ⟨k, _, c1, by omega, rfl, rfl, HF1, HO1, by have := HL1.out; show _ ≤ _; omega, HW1, HB1⟩
      case round =>
        clear HF1 HO1 HL1 HW1 HB1
        obtain ⟨r, x, c, hr, rfl, HX, HF, HO, HL, HW, HB⟩ := hrel
        rcases r with _ | m
        · have hx : ¬ (0 : Int) ≤ x := by have := HX.out; omega
          have HE : Hid (c = F) := HF.out
          go_wp2_with fail
          go_end0
          rw [← HE.out]
          exact ⟨rfl, HW.out, HB.out⟩
        · obtain rfl : x = (m : Int) := by have := HX.out; omega
          obtain ⟨q, hq⟩ : ∃ q : Nat, q = n / 2 ^ m := ⟨_, rfl⟩
          have rq : (n : Int) / 2 ^ m = (q : Int) := by rw [hq]; simp
          have hqn : q ≤ 60000 := by rw [hq]; exact Nat.le_trans (Nat.div_le_self _ _) hn
          obtain ⟨bt, hbt⟩ : ∃ bt : Nat, bt = q % 2 := ⟨_, rfl⟩
          have hb1 : bt ≤ 1 := by omega
          have rb : bits .and .i64 (q : Int) 1 = (bt : Int) := by
            have := (bits_nat .i64 63 (by decide) (fun m h0 h1 => by rw [IntKind.wrap_i64]; omega) q 1 (by omega) (by omega)).1
            rw [Nat.and_one_is_mod, ← hbt] at this
            exact this
          have rb2 : (q : Int) % 2 = (bt : Int) := by omega
          have HF2 : Hid (runB (stepB c bt) (lowB n m) = F) := by
            show _ = _
            rw [← HF.out, hbt, hq]
            rfl
          have hm0 : (0 : Int) ≤ (m : Int) := by omega
          clear hq hbt HX
          go_wp2_with fail
          refine (bitI B b c bt _ HW.out HO.out hb1 (by have := HL.out; omega)).mono ?_
          rintro e w2 ⟨rfl, hw2, hb2⟩
          have HW2 : Hid (WR B b (stepB c bt) w2) := hw2
          have HB2 : Hid (Below B w w2) := HB.out.trans hb2
          clear hw2 hb2
          go_wp2_with fail
          go_roundw
          case rel =>
            refine ⟨m, _, stepB c bt, by omega, rfl, ?_, HF2, stepB_ok HO.out hb1, ?_, HW2, HB2⟩
            · show _ = _
              first | rfl | omega
            · have h1 := stepB_len c bt
              have h2 := HL.out
              show _ ≤ _
              omega
          case measure => simp [intOf]

end Go.Proofs.YtcaejndpmagfaaaDoor
