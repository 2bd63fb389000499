/-
  Texts that the last part needs, joined.
-/
import Derived.Test.YtgnnfljobgbpbabGreatDoorPart1
import Derived.Test.YtgnnfljobgbpbabGreatDoorPart2
import Derived.Test.YtgnnfljobgbpbabGreatDoorPart3
import Derived.Test.YtgnnfljobgbpbabGreatDoorPart4
import Derived.Test.YtgnnfljobgbpbabGreatDoorPart5
import Derived.Test.YtgnnfljobgbpbabGreatDoorPart6
import Derived.Test.YtgnnfljobgbpbabGreatDoorPart7
import Derived.Deep.RegionWith
import Derived.RegionTactic
import Derived.BigRegion
import Derived.Lib.BufferRead
import Derived.OwnWalk
import Derived.Test.YtgnnfljobgbpbabGreatDoorProg
import Derived.WalkKit
import Derived.WalkSpells
set_option linter.unusedVariables false
namespace Go.Proofs.YtgnnfljobgbpbabGreatDoor
open Go.RowKit

def WR (B b : Nat) (s : List UInt8 × List Nat) (w : World) : Prop := WB B b s.1 (.int .u8 (valB s.2 : Int)) (.int .i64 (s.2.length : Int)) w

theorem or8 (q b : Nat) (hq : q < 128) (hb : b ≤ 1) : bits .or .u8 ((q : Int) * 2 % 256) (b : Int) = ((q * 2 + b : Nat) : Int) := by
  have e : (q : Int) * 2 % 256 = ((q * 2 : Nat) : Int) := by omega
  rw [e, (bits_nat .u8 8 (by decide) (fun m h0 h1 => by rw [IntKind.wrap_u8]; omega) (q * 2) b (by omega) (by omega)).2]
  have := (Nat.two_pow_add_eq_or_of_lt (i := 1) (by omega : b < 2 ^ 1) q).symm
  rw [show (2 : Nat) ^ 1 * q = q * 2 from by omega] at this
  rw [this]
theorem writeByteN (B b : Nat) (o : List UInt8) (v : Nat) (hv : v < 256) (x y : Value) (w : World) (h : WB B b o x y w) (hlen : o.length + 1 ≤ 140737488355328) :
    Calls Tryz.prog 64 #[.pointer (some ⟨b, 0, none⟩), .int .u8 (v : Int)] w fun e w' => e = .returned .nilIface ∧ WB B b (o ++ [UInt8.ofNat v]) x y w' ∧ Below B w w' := by
  have := writeByteW B b o (UInt8.ofNat v) x y w h hlen
  rw [show ((UInt8.ofNat v).toNat : Int) = (v : Int) from by simp; omega] at this
  exact this

set_option maxHeartbeats 1000000 in
set_option maxRecDepth 100000 in
theorem bitI (B b : Nat) (s : List UInt8 × List Nat) (bit : Nat) (w : World) (h : WR B b s w) (hok : okB s) (hb : bit ≤ 1) (hlen : s.1.length + 1 ≤ 140737488355328) :
    Calls Tryz.prog 106 #[.pointer (some ⟨b, 0, none⟩), .int .i64 (bit : Int)] w fun e w' => e = .returned (.tuple #[]) ∧ WR B b (stepB s bit) w' ∧ Below B w w' := by
  obtain ⟨o, l⟩ := s
  have hv := valB_lt l hok.2
  have hl8 : l.length < 8 := hok.1
  have HWB : Hid (WB B b o (.int .u8 (valB l : Int)) (.int .i64 (l.length : Int)) w) := h
  have hB := h.1
  obtain ⟨_, p, v, hp, hw, ho, hne⟩ := h
  have c2 := hw.c2
  have c3 := hw.c3
  have f2 := hw.fz 2
  have f3 := hw.fz 3
  clear hw ho hne hp
  have hsn := valB_snoc l bit
  have hq : valB l < 128 := by
    have : 2 ^ l.length ≤ 2 ^ 7 := Nat.pow_le_pow_right (by decide) (by omega)
    omega
  have ror := or8 (valB l) bit hq hb
  rw [← hsn] at ror
  have HV : Hid (valB (l ++ [bit]) < 256) := by show _ < _; rw [hsn]; omega
  generalize hqv : valB l = q at c2 ror HWB
  have HVV : Hid (∃ u, u = valB (l ++ [bit])) := ⟨_, rfl⟩
  obtain ⟨u, hu⟩ := HVV.out
  rw [← hu] at ror HV
  have HU : Hid (u = valB (l ++ [bit])) := hu
  clear hsn hu HVV hqv hv
  by_cases h7 : l.length = 7
  · have HS : Hid (stepB (o, l) bit = (o ++ [UInt8.ofNat u], [])) := by
      show _ = _
      rw [HU.out]
      simp [stepB, h7]
    have c3' : w.cell? ⟨b, 3, none⟩ = some (.int .i64 7) := by rw [c3, h7]; rfl
    rw [h7] at HWB
    clear c3 h7
    go_enter Tryz.func106, Tryz.ntmps106
    go_wp2_with fail
    have HW1 : Hid (WB B b o (.int .u8 (u : Int)) (.int .i64 8) ((w.setCell ⟨b, 2, none⟩ (.int .u8 (u : Int))).setCell ⟨b, 3, none⟩ (.int .i64 8))) := (HWB.out.set2 _).set3 _
    have HB1 : Hid (Below B w ((w.setCell ⟨b, 2, none⟩ (.int .u8 (u : Int))).setCell ⟨b, 3, none⟩ (.int .i64 8))) := ((Below.refl B w).setCell (p := ⟨b, 2, none⟩) hB _).setCell (p := ⟨b, 3, none⟩) hB _
    go_region_with (go_at_call 64; refine (writeByteN B b o u HV.out (.int .u8 (u : Int)) (.int .i64 8) _ ?_ hlen).mono ?_; exact HW1.out.drew; rintro e w2 ⟨rfl, hw2, hb2⟩)
    all_goals
      obtain ⟨_, p2, v2, hp2, hwa2, ho2, hne2⟩ := id hw2
      have d2 := hwa2.fz 2
      have d3 := hwa2.fz 3
      have e2 := hwa2.c2
      have e3 := hwa2.c3
      have HW2 : Hid (WB B b (o ++ [UInt8.ofNat u]) (.int .u8 (u : Int)) (.int .i64 8) w2) := hw2
      have HB2 : Hid (Below B w w2) := HB1.out.drew.trans hb2
      clear hwa2 ho2 hne2 hp2 hw2 hb2 HB1 HW1
      go_wp2_with fail
      go_end0
      refine ⟨rfl, ?_, (HB2.out.setCell (p := ⟨b, 2, none⟩) hB _).setCell (p := ⟨b, 3, none⟩) hB _⟩
      rw [HS.out]
      exact (HW2.out.set2 _).set3 _
  · have HS : Hid (stepB (o, l) bit = (o, l ++ [bit])) := by
      show _ = _
      simp [stepB, h7]
    obtain ⟨m, hm⟩ : ∃ m : Nat, m = l.length := ⟨_, rfl⟩
    rw [← hm] at c3 HWB h7
    have HM : Hid (m = l.length) := hm
    have hm7 : m < 7 := by omega
    clear hm hl8 h7
    go_enter Tryz.func106, Tryz.ntmps106
    go_wp2_with fail
    go_end0
    refine ⟨rfl, ?_, ((Below.refl B w).setCell (p := ⟨b, 2, none⟩) hB _).setCell (p := ⟨b, 3, none⟩) hB _⟩
    rw [HS.out]
    show WB B b o (.int .u8 ((valB (l ++ [bit]) : Nat) : Int)) (.int .i64 (((l ++ [bit]).length : Nat) : Int)) _
    rw [← HU.out, List.length_append, ← HM.out]
    exact (HWB.out.set2 _).set3 _

end Go.Proofs.YtgnnfljobgbpbabGreatDoor

set_option linter.unusedVariables false
namespace Go.Proofs.YtgnnfljobgbpbabGreatDoor
open Go.RowKit

set_option maxHeartbeats 1000000 in
set_option maxRecDepth 100000 in
theorem numberI (B b : Nat) (s : List UInt8 × List Nat) (n k : Nat) (w : World) (h : WR B b s w) (hok : okB s) (hn : n ≤ 60000) (hk : k ≤ 8) (hlen : s.1.length ≤ 1000000000) :
    Calls Tryz.prog 67 #[.pointer (some ⟨b, 0, none⟩), .int .i64 (n : Int), .int .i64 (k : Int)] w fun e w' => e = .returned (.tuple #[]) ∧ WR B b (runB s (numB k n)) w' ∧ Below B w w' := by
  obtain ⟨N, hN⟩ : ∃ N : Nat, N = n / 2 ^ k := ⟨_, rfl⟩
  have hNn : N ≤ 60000 := by rw [hN]; exact Nat.le_trans (Nat.div_le_self _ _) hn
  have HF : Hid (runB s (List.replicate N 1 ++ 0 :: lowB n k) = runB s (numB k n)) := by show _ = _; rw [hN]; rfl
  obtain ⟨F, hF⟩ : ∃ F, F = runB s (numB k n) := ⟨_, rfl⟩
  rw [← hF] at HF ⊢
  have rsh : (n : Int) / 2 ^ k = (N : Int) := by rw [hN]; simp
  clear hF hN
  go_enter Tryz.func67, Tryz.ntmps67
  have HS : Hid (WR B b s w ∧ okB s ∧ s.1.length ≤ 1000000000) := ⟨h, hok, hlen⟩
  clear h hok hlen
  go_wp2_with fail
  go_loopw [10] (fun i wr => ∃ (j : Nat) (c : List UInt8 × List Nat), j ≤ N ∧ i = .int .i64 (j : Int) ∧ Hid (runB c (List.replicate (N - j) 1 ++ 0 :: lowB n k) = F) ∧ Hid (okB c) ∧ Hid (c.1.length ≤ 1000000000 + j) ∧ Hid (WR B b c wr) ∧ Hid (Below B w wr)) (fun i _ => N - (intOf i).toNat)
  case atStart => exact ⟨0, s, by omega, rfl, HF, HS.out.2.1, HS.out.2.2, HS.out.1, Below.refl B w⟩
  case round =>
    obtain ⟨j, c, hj, rfl, HF, HO, HL, HW, HB⟩ := hrel
    by_cases hlt : j < N
    · go_wp2_with fail
      refine (bitI B b c 1 _ HW.out HO.out (by omega) (by have := HL.out; omega)).mono ?_
      rintro e w1 ⟨rfl, hw1, hb1⟩
      have HW1 : Hid (WR B b (stepB c 1) w1) := hw1
      have HB1 : Hid (Below B w w1) := HB.out.trans hb1
      clear hw1 hb1
      go_wp2_with fail
      go_roundw
      case rel =>
        refine ⟨j + 1, stepB c 1, by omega, by go_num, ?_, stepB_ok HO.out (by omega), ?_, HW1, HB1⟩
        · show _ = _
          rw [← HF.out, show N - j = (N - (j + 1)) + 1 from by omega, List.replicate_succ]
          rfl
        · have h1 := stepB_len c 1
          have h2 := HL.out
          show _ ≤ _
          omega
      case measure => simp [intOf]; omega
    · have HF1 : Hid (runB (stepB c 0) (lowB n k) = F) := by
        show _ = _
        rw [← HF.out, show N - j = 0 from by omega]
        rfl
      go_wp2_with fail
      refine (bitI B b c 0 _ HW.out HO.out (by omega) (by have := HL.out; omega)).mono ?_
      rintro e w1 ⟨rfl, hw1, hb1⟩
      have HW1 : Hid (WR B b (stepB c 0) w1) := hw1
      have HB1 : Hid (Below B w w1) := HB.out.trans hb1
      have HO1 : Hid (okB (stepB c 0)) := stepB_ok HO.out (by omega)
      have HL1 : Hid ((stepB c 0).1.length ≤ 1000000000 + 60001) := by
        have h1 := stepB_len c 0
        have h2 := HL.out
        show _ ≤ _
        omega
      clear hw1 hb1 HF HW HB HO HL
      obtain ⟨c1, hc1⟩ : ∃ c1, c1 = stepB c 0 := ⟨_, rfl⟩
      rw [← hc1] at HF1 HW1 HO1 HL1
      clear hc1 rsh hj hlt
      go_wp2_with fail
      go_loopw [6] (fun i wr => ∃ (r : Nat) (x : Int) (c : List UInt8 × List Nat), r ≤ k ∧ i = .int .i64 x ∧ Hid (x = (r : Int) - 1) ∧ Hid (runB c (lowB n r) = F) ∧ Hid (okB c) ∧ Hid (c.1.length ≤ 1000070001 - r) ∧ Hid (WR B b c wr) ∧ Hid (Below B w wr)) (fun i _ => (intOf i + 1).toNat)
      case atStart => exact ⟨k, _, c1, by omega, rfl, rfl, HF1, HO1, by have := HL1.out; show _ ≤ _; omega, HW1, HB1⟩
      case round =>
        clear HF1 HO1 HL1 HW1 HB1
        obtain ⟨r, x, c, hr, rfl, HX, HF, HO, HL, HW, HB⟩ := hrel
        rcases r with _ | m
        · have hx : ¬ (0 : Int) ≤ x := by have := HX.out; omega
          have HE : Hid (c = F) := HF.out
          go_wp2_with fail
          go_end0
          rw [← HE.out]
          exact ⟨rfl, HW.out, HB.out⟩
        · obtain rfl : x = (m : Int) := by have := HX.out; omega
          obtain ⟨q, hq⟩ : ∃ q : Nat, q = n / 2 ^ m := ⟨_, rfl⟩
          have rq : (n : Int) / 2 ^ m = (q : Int) := by rw [hq]; simp
          have hqn : q ≤ 60000 := by rw [hq]; exact Nat.le_trans (Nat.div_le_self _ _) hn
          obtain ⟨bt, hbt⟩ : ∃ bt : Nat, bt = q % 2 := ⟨_, rfl⟩
          have hb1 : bt ≤ 1 := by omega
          have rb : bits .and .i64 (q : Int) 1 = (bt : Int) := by
            have := (bits_nat .i64 63 (by decide) (fun m h0 h1 => by rw [IntKind.wrap_i64]; omega) q 1 (by omega) (by omega)).1
            rw [Nat.and_one_is_mod, ← hbt] at this
            exact this
          have rb2 : (q : Int) % 2 = (bt : Int) := by omega
          have HF2 : Hid (runB (stepB c bt) (lowB n m) = F) := by
            show _ = _
            rw [← HF.out, hbt, hq]
            rfl
          have hm0 : (0 : Int) ≤ (m : Int) := by omega
          clear hq hbt HX
          go_wp2_with fail
          refine (bitI B b c bt _ HW.out HO.out hb1 (by have := HL.out; omega)).mono ?_
          rintro e w2 ⟨rfl, hw2, hb2⟩
          have HW2 : Hid (WR B b (stepB c bt) w2) := hw2
          have HB2 : Hid (Below B w w2) := HB.out.trans hb2
          clear hw2 hb2
          go_wp2_with fail
          go_roundw
          case rel =>
            refine ⟨m, _, stepB c bt, by omega, rfl, ?_, HF2, stepB_ok HO.out hb1, ?_, HW2, HB2⟩
            · show _ = _
              first | rfl | omega
            · have h1 := stepB_len c bt
              have h2 := HL.out
              show _ ≤ _
              omega
          case measure => simp [intOf]

end Go.Proofs.YtgnnfljobgbpbabGreatDoor

set_option linter.unusedVariables false
namespace Go.Proofs.YtgnnfljobgbpbabGreatDoor
open Go.RowKit

def manyOf (b : Nat) (w : World) : Nat := match w.cell? ⟨b, 3, none⟩ with
  | some (.int _ z) => if z = 0 then 0 else (8 - z).toNat
  | _ => 0
theorem manyOf_eq {b : Nat} {w : World} {m : Nat} (h : w.cell? ⟨b, 3, none⟩ = some (.int .i64 (m : Int))) : manyOf b w = if m = 0 then 0 else 8 - m := by
  simp only [manyOf, h]
  by_cases h0 : m = 0
  · simp [h0]
  · rw [if_neg (by omega), if_neg h0]; omega
theorem WR.c3 {B b : Nat} {s : List UInt8 × List Nat} {w : World} (h : WR B b s w) : w.cell? ⟨b, 3, none⟩ = some (.int .i64 (s.2.length : Int)) := by
  obtain ⟨_, p, v, _, hw, _⟩ := h
  exact hw.c3

set_option maxHeartbeats 1000000 in
set_option maxRecDepth 100000 in
theorem fillI (B b : Nat) (s : List UInt8 × List Nat) (w : World) (h : WR B b s w) (hok : okB s) (hlen : s.1.length ≤ 1000000000) :
    Calls Tryz.prog 68 #[.pointer (some ⟨b, 0, none⟩)] w fun e w' => e = .returned (.tuple #[]) ∧ WR B b (fillB s, []) w' ∧ Below B w w' := by
  have HS : Hid (WR B b s w ∧ okB s ∧ s.1.length ≤ 1000000000) := ⟨h, hok, hlen⟩
  clear h hok hlen
  go_enter Tryz.func68, Tryz.ntmps68
  go_wp2_with fail
  go_loopw [] (fun wr => ∃ c : List UInt8 × List Nat, Hid (fillB c = fillB s) ∧ Hid (okB c) ∧ Hid (c.1.length ≤ 1000000009 - manyOf b wr) ∧ Hid (WR B b c wr) ∧ Hid (Below B w wr)) (fun wr => manyOf b wr)
  case atStart =>
    refine ⟨s, rfl, HS.out.2.1, ?_, HS.out.1, Below.refl B w⟩
    have h1 := manyOf_eq HS.out.1.c3
    have h2 := HS.out.2.2
    show _ ≤ _
    split at h1 <;> omega
  case round =>
    obtain ⟨c, HF, HO, HL, HW, HB⟩ := hrel
    have c3 := HW.out.c3
    have Hm := manyOf_eq c3
    by_cases h0 : c.2.length = 0
    · have hx : ¬ (0 : Int) < (c.2.length : Int) := by omega
      have HE : Hid (c = (fillB s, [])) := by
        show _ = _
        have h1 : c.2 = [] := List.length_eq_zero_iff.1 h0
        rw [← HF.out, fillB_end h1, ← h1]
      clear h0 Hm
      go_wp2_with fail
      go_end0
      rw [← HE.out]
      exact ⟨rfl, HW.out, HB.out⟩
    · have hx : (0 : Int) < (c.2.length : Int) := by omega
      have HM : Hid (manyOf b wr = 8 - c.2.length) := by show _ = _; rw [Hm, if_neg h0]
      have HN : Hid (¬ c.2.length = 0) := h0
      clear h0 Hm
      go_wp2_with fail
      refine (bitI B b c 0 _ HW.out HO.out (by omega) (by have := HL.out; omega)).mono ?_
      rintro e w1 ⟨rfl, hw1, hb1⟩
      have HW1 : Hid (WR B b (stepB c 0) w1) := hw1
      have HB1 : Hid (Below B w w1) := HB.out.trans hb1
      have HM1 : Hid (manyOf b w1 < 8 - c.2.length) := by
        show _ < _
        have h8 := HO.out.1
        have hn := HN.out
        rw [manyOf_eq hw1.c3]
        unfold stepB
        split
        · simp; omega
        · simp; omega
      have HL1 : Hid ((stepB c 0).1.length ≤ 1000000009 - manyOf b w1) := by
        have h1 := stepB_len c 0
        have h2 := HL.out
        have h3 := HM.out
        have h4 := HM1.out
        show _ ≤ _
        omega
      clear hw1 hb1 c3 hx
      go_wp2_with fail
      go_roundw
      case rel =>
        refine ⟨stepB c 0, ?_, stepB_ok HO.out (by omega), HL1, HW1, HB1⟩
        show _ = _
        rw [← HF.out]
        exact fillB_step HO.out.1 (fun e => HN.out (by rw [e]; rfl))
      case measure => rw [HM.out]; exact HM1.out

end Go.Proofs.YtgnnfljobgbpbabGreatDoor

set_option linter.unusedVariables false
namespace Go.Proofs.YtgnnfljobgbpbabGreatDoor
open Go.RowKit

set_option maxHeartbeats 1000000 in
set_option maxRecDepth 100000 in
theorem bitsOkI (k : Int) (w : World) :
    Calls Tryz.prog 105 #[.int .i64 k] w fun e w' => e = .returned (.bool (bitsOk k)) ∧ w = w' := by
  by_cases h1 : (0 : Int) ≤ k
  · by_cases h2 : k ≤ 8
    · have h3 : bitsOk k = true := decide_eq_true ⟨h1, h2⟩
      rw [h3]
      go_enter Tryz.func105, Tryz.ntmps105
      go_wp2
      go_ret
      exact ⟨rfl, rfl⟩
    · have h3 : bitsOk k = false := decide_eq_false (fun h => h2 h.2)
      have h4 : decide (k ≤ 8) = false := decide_eq_false h2
      rw [h3]
      go_enter Tryz.func105, Tryz.ntmps105
      go_wp2
      go_ret
      exact ⟨rfl, rfl⟩
  · have h3 : bitsOk k = false := decide_eq_false (fun h => h1 h.1)
    have h4 : decide ((0 : Int) ≤ k) = false := decide_eq_false h1
    rw [h3]
    go_enter Tryz.func105, Tryz.ntmps105
    go_wp2
    go_ret
    exact ⟨rfl, rfl⟩

set_option maxHeartbeats 1000000 in
set_option maxRecDepth 100000 in
theorem riceOkI (g n cap : Nat) (zs : List Int) (k : Int) (w : World) (h : At w g zs) (hn : n = zs.length) :
    Calls Tryz.prog 66 #[.slice (some ⟨g, 0, none⟩) n cap, .int .i64 k] w fun e w' => e = .returned (.bool (riceOkB zs k)) ∧ w = w' := by
  have HA : Hid (At w g zs) := h
  have HN : Hid (n = zs.length) := hn
  clear h hn
  by_cases h40 : (40 : Int) < (n : Int)
  · have HF : Hid (riceOkB zs k = false) := by
      show _ = _
      cases hh : riceOkB zs k with
      | false => rfl
      | true => have := riceOk_len hh; have := HN.out; omega
    rw [HF.out]
    go_enter Tryz.func66, Tryz.ntmps66
    go_wp2
    go_ret
    exact ⟨rfl, rfl⟩
  · cases hb : bitsOk k with
    | false =>
      have HF : Hid (riceOkB zs k = false) := by show _ = _; simp [riceOkB, hb]
      rw [HF.out]
      go_enter Tryz.func66, Tryz.ntmps66
      go_wp2_with (go_at_call 105; refine (bitsOkI _ _).mono ?_; rintro e w1 ⟨rfl, rfl⟩)
      go_ret
      exact ⟨rfl, rfl⟩
    | true =>
      have hk := of_decide_eq_true hb
      go_enter Tryz.func66, Tryz.ntmps66
      go_wp2_with (go_at_call 105; refine (bitsOkI _ _).mono ?_; rintro e w1 ⟨rfl, rfl⟩)
      go_loop [17] (fun i => ∃ j : Nat, j ≤ n ∧ i = .int .i64 (j : Int) ∧ Hid (∀ m, m < zs.length → m < j → 0 ≤ zs.getD m 0 ∧ zs.getD m 0 ≤ 60000)) (fun i => n - (intOf i).toNat)
      case atStart => exact ⟨0, by omega, rfl, fun m _ h => by omega⟩
      case round =>
        obtain ⟨j, hj, rfl, HALL⟩ := hrel
        by_cases hlt : j < n
        · have hjz : j < zs.length := by rw [← HN.out]; exact hlt
          have cj := HA.out.2 j hjz
          by_cases hz : 0 ≤ zs.getD j 0 ∧ zs.getD j 0 ≤ 60000
          · have HZ2 : Hid (0 ≤ zs.getD j 0 ∧ zs.getD j 0 ≤ 60000) := hz
            generalize zs.getD j 0 = z at cj hz
            have hz0 : ¬ z < 0 := by omega
            have hz1 : ¬ 60000 < z := by omega
            clear hz hjz
            go_wp2
            go_round
            case rel =>
              refine ⟨j + 1, by omega, by go_num, ?_⟩
              intro m hm hmj
              rcases Nat.lt_or_ge m j with h | h
              · exact HALL.out m hm h
              · obtain rfl : m = j := by omega
                exact HZ2.out
            case measure => simp [intOf]; omega
          · have HNO : Hid (riceOkB zs k = false) := riceOk_no j hjz hz
            generalize zs.getD j 0 = z at cj hz
            by_cases hz0 : z < 0
            · go_wp2
              go_ret
              rw [HNO.out]
              exact ⟨rfl, rfl⟩
            · have hz1 : 60000 < z := by omega
              go_wp2
              go_ret
              rw [HNO.out]
              exact ⟨rfl, rfl⟩
        · have HY : Hid (riceOkB zs k = true) := riceOk_yes (by rw [← HN.out]; omega) hk (fun m hm => HALL.out m hm (by have := HN.out; omega))
          go_wp2
          go_ret
          rw [HY.out]
          exact ⟨rfl, rfl⟩

theorem writerNew (w : World) : WR w.heap.size w.heap.size ([], []) (w.alloc (.cells #[.pointer none, .slice none 0 0, .int .u8 0, .int .i64 0] 75)) :=
  ⟨Nat.le_refl _, _, _, .inl rfl, heap_alloc_new w _, ⟨rfl, .inl ⟨rfl, rfl⟩⟩, by simp [Value.ownBlock], fun _ => rfl⟩

set_option maxHeartbeats 1000000 in
set_option maxRecDepth 100000 in
theorem implRicePut (g n cap : Nat) (zs : List Int) (k : Int) (w : World) (h : At w g zs) (hn : n = zs.length) :
    Calls Tryz.prog 37 #[.slice (some ⟨g, 0, none⟩) n cap, .int .i64 k] w fun e w' => e = .returned (.string ⟨(ricePut zs k).toArray⟩) ∧ Below w.heap.size w w' := by
  have HA : Hid (At w g zs) := h
  have HN : Hid (n = zs.length) := hn
  have hgs := h.1
  clear h hn
  cases hr : riceOkB zs k with
  | false =>
    rw [ricePut_no hr]
    go_enter Tryz.func37, Tryz.ntmps37
    go_wp2_with (go_at_call 66; refine (riceOkI g n cap zs k _ HA.out HN.out).mono ?_; rintro e w1 ⟨rfl, rfl⟩)
    go_ret
    exact ⟨rfl, Below.refl _ _⟩
  | true =>
    rw [ricePut_yes hr]
    have hb := riceOk_bits hr
    obtain ⟨kn, rfl⟩ := Int.eq_ofNat_of_zero_le hb.1
    have hk8 : kn ≤ 8 := by omega
    have hl40 := riceOk_len hr
    have HZ : Hid (∀ i, i < zs.length → 0 ≤ zs.getD i 0 ∧ zs.getD i 0 ≤ 60000) := fun i hi => riceOk_at hr i hi
    have HE : Hid (fillB (upTo kn zs zs.length) = riceB ((kn : Int)).toNat (zs.map Int.toNat)) := by show _ = _; rw [upTo_end, Int.toNat_natCast]
    obtain ⟨R, hR⟩ : ∃ R, R = riceB ((kn : Int)).toNat (zs.map Int.toNat) := ⟨_, rfl⟩
    rw [← hR] at HE ⊢
    have HW0 : Hid (WR w.heap.size w.heap.size (upTo kn zs 0) (w.alloc (.cells #[.pointer none, .slice none 0 0, .int .u8 0, .int .i64 0] 75))) := by rw [upTo_zero]; exact writerNew w
    have HB0 : Hid (Below w.heap.size w (w.alloc (.cells #[.pointer none, .slice none 0 0, .int .u8 0, .int .i64 0] 75))) := (Below.refl _ w).alloc (Nat.le_refl _) _
    clear hR hb
    go_enter Tryz.func37, Tryz.ntmps37
    go_wp2_with (go_at_call 66; refine (riceOkI g n cap zs _ _ HA.out HN.out).mono ?_; rintro e w1 ⟨rfl, rfl⟩)
    clear hr
    have hn40 : n ≤ 40 := by rw [HN.out]; exact hl40
    have HL : Hid (∀ i, (upTo kn zs i).1.length ≤ 10000000) := fun i => upTo_len hk8 hl40 HZ.out i
    go_loopw [14] (fun i wr => ∃ j : Nat, j ≤ n ∧ i = .int .i64 (j : Int) ∧ Hid (WR w.heap.size w.heap.size (upTo kn zs j) wr) ∧ Hid (Below w.heap.size w wr)) (fun i _ => n - (intOf i).toNat)
    case atStart => exact ⟨0, by omega, rfl, HW0, HB0⟩
    case round =>
      clear HW0 HB0
      obtain ⟨j, hj, rfl, HW, HB⟩ := hrel
      by_cases hlt : j < n
      · have hjz : j < zs.length := by rw [← HN.out]; exact hlt
        have HJN : Hid (j + 1 ≤ n) := hlt
        have cj := (HA.out.below HB.out hgs).2 j hjz
        have hz := HZ.out j hjz
        have HS : Hid (upTo kn zs (j + 1) = runB (upTo kn zs j) (numB kn (zs.getD j 0).toNat)) := upTo_succ kn zs j hjz
        generalize zs.getD j 0 = z at cj hz HS
        obtain ⟨zn, rfl⟩ := Int.eq_ofNat_of_zero_le hz.1
        rw [Int.toNat_natCast] at HS
        have hzn : zn ≤ 60000 := by omega
        clear hz hjz
        go_wp2_with fail
        refine (numberI w.heap.size w.heap.size (upTo kn zs j) zn kn _ HW.out (upTo_ok _ _ _) hzn hk8 (by have := HL.out j; omega)).mono ?_
        rintro e w2 ⟨rfl, hw2, hb2⟩
        have HW2 : Hid (WR w.heap.size w.heap.size (upTo kn zs (j + 1)) w2) := by rw [HS.out]; exact hw2
        have HB2 : Hid (Below w.heap.size w w2) := HB.out.trans hb2
        clear hw2 hb2 cj
        go_wp2_with fail
        go_roundw
        case rel => exact ⟨j + 1, HJN.out, by go_num, HW2, HB2⟩
        case measure => have := HJN.out; simp [intOf]; omega
      · have HJ : Hid (upTo kn zs j = upTo kn zs zs.length) := by
          show _ = _
          rw [show j = zs.length from by rw [← HN.out]; omega]
        go_wp2_with fail
        refine (fillI w.heap.size w.heap.size (upTo kn zs j) _ HW.out (upTo_ok _ _ _) (by have := HL.out j; omega)).mono ?_
        rintro e w2 ⟨rfl, hw2, hb2⟩
        rw [HJ.out, HE.out] at hw2
        have HW2 : Hid (WR w.heap.size w.heap.size (R, []) w2) := hw2
        have HB2 : Hid (Below w.heap.size w w2) := HB.out.trans hb2
        clear hw2 hb2
        go_wp2_with fail
        refine (stringW w.heap.size w.heap.size R _ _ _ HW2.out).mono ?_
        rintro e w3 ⟨rfl, hb3⟩
        go_wp2_with fail
        go_ret
        exact ⟨rfl, HB2.out.trans hb3⟩

end Go.Proofs.YtgnnfljobgbpbabGreatDoor

set_option linter.unusedVariables false
namespace Go.Proofs.YtgnnfljobgbpbabGreatDoor
open Go.RowKit

theorem SB.lt {B b : Nat} {s : List UInt8 × List Nat} {w : World} (h : SB B b s w) : b < w.heap.size := by
  obtain ⟨_, v, u, h, _⟩ := h; exact h.lt

set_option maxHeartbeats 1000000 in
set_option maxRecDepth 100000 in
theorem numberS (B b : Nat) (s : List UInt8 × List Nat) (n k : Nat) (w : World) (h : SB B b s w) (hok : okB s) (hn : n ≤ 60000) (hk : k ≤ 8) (hlen : s.1.length ≤ 100000000) :
    Calls Tryz.prog 79 #[.pointer (some ⟨b, 0, none⟩), .int .i64 (n : Int), .int .i64 (k : Int)] w fun e w' => e = .returned (.tuple #[]) ∧ SB B b (runB s (lowB n k)) w' ∧ Below B w w' := by
  obtain ⟨F, hF⟩ : ∃ F, F = runB s (lowB n k) := ⟨_, rfl⟩
  rw [← hF]
  have HF1 : Hid (runB s (lowB n k) = F) := hF.symm
  have HS : Hid (SB B b s w ∧ okB s ∧ s.1.length ≤ 100000000) := ⟨h, hok, hlen⟩
  clear hF h hok hlen
  go_enter Tryz.func79, Tryz.ntmps79
  go_wp2_with fail
  go_loopw [6] (fun i wr => ∃ (r : Nat) (x : Int) (c : List UInt8 × List Nat), r ≤ k ∧ i = .int .i64 x ∧ Hid (x = (r : Int) - 1) ∧ Hid (runB c (lowB n r) = F) ∧ Hid (okB c) ∧ Hid (c.1.length ≤ 100000010 - r) ∧ Hid (SB B b c wr) ∧ Hid (Below B w wr)) (fun i _ => (intOf i + 1).toNat)
  case atStart => exact ⟨k, _, s, by omega, rfl, rfl, HF1, HS.out.2.1, by have := HS.out.2.2; show _ ≤ _; omega, HS.out.1, Below.refl B w⟩
  case round =>
    clear HF1 HS
    obtain ⟨r, x, c, hr, rfl, HX, HF, HO, HL, HW, HB⟩ := hrel
    rcases r with _ | m
    · have hx : ¬ (0 : Int) ≤ x := by have := HX.out; omega
      have HE : Hid (c = F) := HF.out
      go_wp2_with fail
      go_end0
      rw [← HE.out]
      exact ⟨rfl, HW.out, HB.out⟩
    · obtain rfl : x = (m : Int) := by have := HX.out; omega
      obtain ⟨q, hq⟩ : ∃ q : Nat, q = n / 2 ^ m := ⟨_, rfl⟩
      have rq : (n : Int) / 2 ^ m = (q : Int) := by rw [hq]; simp
      have hqn : q ≤ 60000 := by rw [hq]; exact Nat.le_trans (Nat.div_le_self _ _) hn
      obtain ⟨bt, hbt⟩ : ∃ bt : Nat, bt = q % 2 := ⟨_, rfl⟩
      have hb1 : bt ≤ 1 := by omega
      have rb2 : (q : Int) % 2 = (bt : Int) := by omega
      have HF2 : Hid (runB (stepB c bt) (lowB n m) = F) := by
        show _ = _
        rw [← HF.out, hbt, hq]
        rfl
      have hm0 : (0 : Int) ≤ (m : Int) := by omega
      clear hq hbt HX
      go_wp2_with fail
      refine (putS B b c bt _ HW.out HO.out hb1 (by have := HL.out; omega)).mono ?_
      rintro e w2 ⟨rfl, hw2, hb2⟩
      have HW2 : Hid (SB B b (stepB c bt) w2) := hw2
      have HB2 : Hid (Below B w w2) := HB.out.trans hb2
      clear hw2 hb2
      go_wp2_with fail
      go_roundw
      case rel =>
        refine ⟨m, _, stepB c bt, by omega, rfl, ?_, HF2, stepB_ok HO.out hb1, ?_, HW2, HB2⟩
        · show _ = _
          first | rfl | omega
        · have h1 := stepB_len c bt
          have h2 := HL.out
          show _ ≤ _
          omega
      case measure => simp [intOf]

theorem convBack {B : Nat} {v : Value} {l : List UInt8} {w : World} (h : w.ownsRow B 5 1 v l.length (Lib.byteCells l)) : (convert 66 9 v).run Tryz.prog w = .ok (.string ⟨l.toArray⟩) w := by
  rcases h.2 with ⟨h1, h2⟩ | ⟨g, cap, cur, hv, _, hc, _, _, _, ht⟩
  · obtain rfl : l = [] := List.length_eq_zero_iff.1 h2
    rw [h1]
    exact Lib.run_convert_nil_bytes w 66 9 5 0 Tryz.underlying66 Tryz.underlying5 Tryz.underlying9
  · rw [hv]
    refine run_convert_bytes_back (P := Tryz.prog) w 66 9 5 ⟨g, 0, none⟩ cap l Tryz.underlying66 Tryz.underlying5 Tryz.underlying9 ?_
    intro j hj
    rw [Addr.add_mid, Nat.zero_add, Lib.cell_of_heap hc, ← Array.getElem?_toList]
    have h3 : cur.toList[j]? = (Lib.byteCells l)[j]? := by rw [← ht, List.getElem?_take]; simp [hj]
    rw [h3]
    simp [Lib.byteCells, List.getElem?_eq_getElem hj]
/-- How many bits wait, out of the block. -/
def waits (b : Nat) (w : World) : Nat := match w.cell? ⟨b, 1, none⟩ with
  | some (.slice _ n _) => if n = 0 then 0 else 8 - n
  | _ => 0
theorem SB.c1 {B b : Nat} {s : List UInt8 × List Nat} {w : World} (h : SB B b s w) : ∃ a cap, w.cell? ⟨b, 1, none⟩ = some (.slice a s.2.length cap) := by
  obtain ⟨_, v, u, hs, _, hl⟩ := h
  rcases hl.2 with ⟨h1, h2⟩ | ⟨g, cap, cur, hv, _⟩
  · exact ⟨none, 0, by rw [hs.c1, h1, h2]⟩
  · exact ⟨_, cap, by rw [hs.c1, hv]⟩
theorem waits_eq {B b : Nat} {s : List UInt8 × List Nat} {w : World} (h : SB B b s w) : waits b w = if s.2.length = 0 then 0 else 8 - s.2.length := by
  obtain ⟨a, cap, hc⟩ := h.c1
  simp only [waits, hc]

set_option maxHeartbeats 1000000 in
set_option maxRecDepth 100000 in
theorem endS (B b : Nat) (s : List UInt8 × List Nat) (w : World) (h : SB B b s w) (hok : okB s) (hlen : s.1.length ≤ 100000000) :
    Calls Tryz.prog 80 #[.pointer (some ⟨b, 0, none⟩)] w fun e w' => e = .returned (.string ⟨(fillB s).toArray⟩) ∧ Below B w w' := by
  have HS : Hid (SB B b s w ∧ okB s ∧ s.1.length ≤ 100000000) := ⟨h, hok, hlen⟩
  clear h hok hlen
  go_enter Tryz.func80, Tryz.ntmps80
  go_wp2_with fail
  go_loopw [] (fun wr => ∃ c : List UInt8 × List Nat, Hid (fillB c = fillB s) ∧ Hid (okB c) ∧ Hid (c.1.length ≤ 100000009 - waits b wr) ∧ Hid (SB B b c wr) ∧ Hid (Below B w wr)) (fun wr => waits b wr)
  case atStart =>
    refine ⟨s, rfl, HS.out.2.1, ?_, HS.out.1, Below.refl B w⟩
    have h1 := waits_eq HS.out.1
    have h2 := HS.out.2.2
    show _ ≤ _
    split at h1 <;> omega
  case round =>
    obtain ⟨c, HF, HO, HL, HW, HB⟩ := hrel
    obtain ⟨a1, cap1, c1⟩ := HW.out.c1
    have Hm := waits_eq HW.out
    by_cases h0 : c.2.length = 0
    · have hx : ¬ (0 : Int) < (c.2.length : Int) := by omega
      have HE : Hid (fillB s = c.1) := by
        show _ = _
        rw [← HF.out, fillB_end (List.length_eq_zero_iff.1 h0)]
      clear h0 Hm
      obtain ⟨hB, v, u, hs, ho, hl⟩ := HW.out
      have c0 := hs.c0
      have HO2 : Hid (wr.ownsRow B 5 1 v c.1.length (Lib.byteCells c.1)) := ho
      have hcv := convBack ho
      clear hs ho hl
      go_wp2_with fail
      go_ret
      rw [HE.out]
      exact ⟨rfl, HB.out⟩
    · have hx : (0 : Int) < (c.2.length : Int) := by omega
      have HM : Hid (waits b wr = 8 - c.2.length) := by show _ = _; rw [Hm, if_neg h0]
      have HN : Hid (¬ c.2.length = 0) := h0
      clear h0 Hm
      go_wp2_with fail
      refine (putS B b c 0 _ HW.out HO.out (by omega) (by have := HL.out; omega)).mono ?_
      rintro e w1 ⟨rfl, hw1, hb1⟩
      have HW1 : Hid (SB B b (stepB c 0) w1) := hw1
      have HB1 : Hid (Below B w w1) := HB.out.trans hb1
      have HM1 : Hid (waits b w1 < 8 - c.2.length) := by
        show _ < _
        have h8 := HO.out.1
        have hn := HN.out
        rw [waits_eq hw1]
        unfold stepB
        split
        · simp; omega
        · simp; omega
      have HL1 : Hid ((stepB c 0).1.length ≤ 100000009 - waits b w1) := by
        have h1 := stepB_len c 0
        have h2 := HL.out
        have h3 := HM.out
        have h4 := HM1.out
        show _ ≤ _
        omega
      clear hw1 hb1 c1 hx
      go_wp2_with fail
      go_roundw
      case rel =>
        refine ⟨stepB c 0, ?_, stepB_ok HO.out (by omega), HL1, HW1, HB1⟩
        show _ = _
        rw [← HF.out]
        exact fillB_step HO.out.1 (fun e => HN.out (by rw [e]; rfl))
      case measure => rw [HM.out]; exact HM1.out

end Go.Proofs.YtgnnfljobgbpbabGreatDoor

set_option linter.unusedVariables false
namespace Go.Proofs.YtgnnfljobgbpbabGreatDoor
open Go.RowKit

theorem bitsNew (w : World) : SB w.heap.size w.heap.size ([], []) (w.alloc (.cells #[.slice none 0 0, .slice none 0 0] 90)) :=
  ⟨Nat.le_refl _, _, _, heap_alloc_new w _, ⟨rfl, .inl ⟨rfl, rfl⟩⟩, ⟨rfl, .inl ⟨rfl, rfl⟩⟩⟩

set_option maxHeartbeats 1000000 in
set_option maxRecDepth 100000 in
theorem specRice (g n cap : Nat) (zs : List Int) (kn : Nat) (w : World) (h : At w g zs) (hn : n = zs.length) (hk8 : kn ≤ 8) (hl40 : zs.length ≤ 40) (hz : ∀ i, i < zs.length → 0 ≤ zs.getD i 0 ∧ zs.getD i 0 ≤ 60000) :
    Calls Tryz.prog 53 #[.slice (some ⟨g, 0, none⟩) n cap, .int .i64 (kn : Int)] w fun e w' => e = .returned (.string ⟨(riceB kn (zs.map Int.toNat)).toArray⟩) ∧ Below w.heap.size w w' := by
  have HA : Hid (At w g zs) := h
  have HN : Hid (n = zs.length) := hn
  have hn40 : n ≤ 40 := by rw [hn]; exact hl40
  have HZ : Hid (∀ i, i < zs.length → 0 ≤ zs.getD i 0 ∧ zs.getD i 0 ≤ 60000) := hz
  have HL : Hid (∀ i, (upTo kn zs i).1.length ≤ 10000000) := fun i => upTo_len hk8 hl40 HZ.out i
  have HE : Hid (fillB (upTo kn zs zs.length) = riceB kn (zs.map Int.toNat)) := upTo_end kn zs
  have HW0 : Hid (SB w.heap.size w.heap.size (upTo kn zs 0) (w.alloc (.cells #[.slice none 0 0, .slice none 0 0] 90))) := by rw [upTo_zero]; exact bitsNew w
  have HB0 : Hid (Below w.heap.size w (w.alloc (.cells #[.slice none 0 0, .slice none 0 0] 90))) := (Below.refl _ w).alloc (Nat.le_refl _) _
  obtain ⟨R, hR⟩ : ∃ R, R = riceB kn (zs.map Int.toNat) := ⟨_, rfl⟩
  rw [← hR] at HE ⊢
  have hgs := h.1
  clear h hn hz hR hl40
  go_enter Tryz.func53, Tryz.ntmps53
  go_wp2_with fail
  go_loopw [6] (fun i wr => ∃ j : Nat, j ≤ n ∧ i = .int .i64 (j : Int) ∧ Hid (SB w.heap.size w.heap.size (upTo kn zs j) wr) ∧ Hid (Below w.heap.size w wr)) (fun i _ => n - (intOf i).toNat)
  case atStart => exact ⟨0, by omega, rfl, HW0, HB0⟩
  case round =>
    clear HW0 HB0
    obtain ⟨j, hj, rfl, HW, HB⟩ := hrel
    by_cases hlt : j < n
    · have hjz : j < zs.length := by rw [← HN.out]; exact hlt
      have HJN : Hid (j + 1 ≤ n) := hlt
      have HAT : Hid (∀ w', Below w.heap.size w w' → w'.cell? ⟨g, j, none⟩ = some (.int .i64 (zs.getD j 0))) := fun w' hb' => (HA.out.below hb' hgs).2 j hjz
      have hz := HZ.out j hjz
      have HS : Hid (upTo kn zs (j + 1) = runB (upTo kn zs j) (numB kn (zs.getD j 0).toNat)) := upTo_succ kn zs j hjz
      generalize zs.getD j 0 = z at HAT hz HS
      obtain ⟨zn, rfl⟩ := Int.eq_ofNat_of_zero_le hz.1
      rw [Int.toNat_natCast] at HS
      have hzn : zn ≤ 60000 := by omega
      have cj := HAT.out wr HB.out
      obtain ⟨N, hN⟩ : ∃ N : Nat, N = zn / 2 ^ kn := ⟨_, rfl⟩
      have hNn : N ≤ 60000 := by rw [hN]; exact Nat.le_trans (Nat.div_le_self _ _) hzn
      have rsh : (zn : Int) / 2 ^ kn = (N : Int) := by rw [hN]; simp
      obtain ⟨F, hF⟩ : ∃ F, F = upTo kn zs (j + 1) := ⟨_, rfl⟩
      rw [← hF] at HS
      have HF0 : Hid (runB (upTo kn zs j) (List.replicate N 1 ++ 0 :: lowB zn kn) = F) := by show _ = _; rw [HS.out, hN]; rfl
      have HFF : Hid (F = upTo kn zs (j + 1)) := hF
      have HO0 : Hid (okB (upTo kn zs j)) := upTo_ok _ _ _
      have HL0 : Hid ((upTo kn zs j).1.length ≤ 10000000) := HL.out j
      obtain ⟨c0, hc0⟩ : ∃ c0, c0 = upTo kn zs j := ⟨_, rfl⟩
      rw [← hc0] at HF0 HO0 HL0 HW
      clear hz hjz hN hF HS hc0
      go_wp2_with fail
      go_loopw [7] (fun i wr => ∃ (t : Nat) (c : List UInt8 × List Nat), t ≤ N ∧ i = .int .i64 (t : Int) ∧ Hid (runB c (List.replicate t 1 ++ 0 :: lowB zn kn) = F) ∧ Hid (okB c) ∧ Hid (c.1.length ≤ 10060000 - t) ∧ Hid (SB w.heap.size w.heap.size c wr) ∧ Hid (Below w.heap.size w wr)) (fun i _ => (intOf i).toNat)
      case atStart => exact ⟨N, c0, by omega, rfl, HF0, HO0, by have := HL0.out; show _ ≤ _; omega, HW, HB⟩
      case round =>
        clear HF0 HO0 HL0 HW HB cj
        obtain ⟨t, c, ht, rfl, HF, HO, HLc, HW, HB⟩ := hrel
        rcases t with _ | t
        · have HF1 : Hid (runB (stepB c 0) (lowB zn kn) = F) := HF.out
          go_wp2_with fail
          refine (putS w.heap.size w.heap.size c 0 _ HW.out HO.out (by omega) (by have := HLc.out; omega)).mono ?_
          rintro e w2 ⟨rfl, hw2, hb2⟩
          have HW2 : Hid (SB w.heap.size w.heap.size (stepB c 0) w2) := hw2
          have HB2 : Hid (Below w.heap.size w w2) := HB.out.trans hb2
          have cj2 : w2.cell? ⟨g, j, none⟩ = some (.int .i64 (zn : Int)) := HAT.out w2 HB2.out
          have cj3 : w2.drew.cell? ⟨g, j, none⟩ = some (.int .i64 (zn : Int)) := cj2
          obtain ⟨P2, hP2⟩ : ∃ P2 : Nat, P2 = 2 ^ kn := ⟨_, rfl⟩
          have hP0 : 0 < P2 := by rw [hP2]; exact Nat.pow_pos (by decide)
          have hP8 : P2 ≤ 256 := by rw [hP2]; exact Nat.pow_le_pow_right (n := 2) (by decide) hk8
          have rp : (2 : Int) ^ kn = (P2 : Int) := by rw [hP2]; simp
          have HRM : Hid (lowB (zn % P2) kn = lowB zn kn) := by show _ = _; rw [hP2]; exact lowB_mod zn kn kn (Nat.le_refl _)
          obtain ⟨r, hr⟩ : ∃ r : Nat, r = zn % P2 := ⟨_, rfl⟩
          have hrn : r ≤ 60000 := by rw [hr]; exact Nat.le_trans (Nat.mod_le _ _) hzn
          have rr : (zn : Int) % (P2 : Int) = (r : Int) := by rw [hr]; simp
          have rt : Int.tmod (zn : Int) (P2 : Int) = (r : Int) := by rw [Int.tmod_eq_emod_of_nonneg (by omega)]; exact rr
          rw [← hr] at HRM
          have hPne : ¬ (P2 : Int) = 0 := by omega
          have hPw : IntKind.i64.wrap (P2 : Int) = (P2 : Int) := by rw [IntKind.wrap_i64]; omega
          have lj : (j : Int) < (n : Int) := by have := HJN.out; omega
          have HF2 : Hid (runB (stepB c 0) (lowB r kn) = F) := by show _ = _; rw [HRM.out]; exact HF1.out
          have HO2 : Hid (okB (stepB c 0)) := stepB_ok HO.out (by omega)
          have HL2 : Hid ((stepB c 0).1.length ≤ 100000000) := by
            have h1 := stepB_len c 0
            have h2 := HLc.out
            show _ ≤ _
            omega
          clear hw2 hb2 hP2 rsh hr
          go_wp2_with fail
          go_region_with (go_at_call 79; refine (numberS w.heap.size w.heap.size (stepB c 0) r kn _ ?_ HO2.out hrn hk8 HL2.out).mono ?_; exact HW2.out; rintro e w3 ⟨rfl, hw3, hb3⟩)
          all_goals
            have HW3 : Hid (SB w.heap.size w.heap.size (upTo kn zs (j + 1)) w3) := by rw [← HFF.out, ← HF2.out]; exact hw3
            have HB3 : Hid (Below w.heap.size w w3) := HB2.out.drew.trans hb3
            clear hw3 hb3
            go_wp2_with fail
            go_roundw
            case rel => exact ⟨j + 1, HJN.out, by go_num, HW3, HB3⟩
            case measure => have := HJN.out; simp [intOf]; omega
        · have HF1 : Hid (runB (stepB c 1) (List.replicate t 1 ++ 0 :: lowB zn kn) = F) := HF.out
          have hpos : (0 : Int) < ((t + 1 : Nat) : Int) := by omega
          go_wp2_with fail
          refine (putS w.heap.size w.heap.size c 1 _ HW.out HO.out (by omega) (by have := HLc.out; omega)).mono ?_
          rintro e w2 ⟨rfl, hw2, hb2⟩
          have HW2 : Hid (SB w.heap.size w.heap.size (stepB c 1) w2) := hw2
          have HB2 : Hid (Below w.heap.size w w2) := HB.out.trans hb2
          clear hw2 hb2
          go_wp2_with fail
          go_roundw
          case rel =>
            refine ⟨t, stepB c 1, by omega, by go_num, HF1, stepB_ok HO.out (by omega), ?_, HW2, HB2⟩
            have h1 := stepB_len c 1
            have h2 := HLc.out
            show _ ≤ _
            omega
          case measure => simp [intOf]
    · have HJ : Hid (upTo kn zs j = upTo kn zs zs.length) := by
        show _ = _
        rw [show j = zs.length from by rw [← HN.out]; omega]
      go_wp2_with fail
      refine (endS w.heap.size w.heap.size (upTo kn zs j) _ HW.out (upTo_ok _ _ _) (by have := HL.out j; omega)).mono ?_
      rintro e w2 ⟨rfl, hb2⟩
      rw [HJ.out, HE.out]
      go_wp2_with fail
      go_ret
      exact ⟨rfl, HB.out.trans hb2⟩

end Go.Proofs.YtgnnfljobgbpbabGreatDoor

set_option linter.unusedVariables false
namespace Go.Proofs.YtgnnfljobgbpbabGreatDoor
open Go.RowKit

end Go.Proofs.YtgnnfljobgbpbabGreatDoor

set_option linter.unusedVariables false
namespace Go.Proofs.YtgnnfljobgbpbabGreatDoor
open Go.RowKit

def bent8 : List ByteArray := [⟨#[48]⟩, ⟨#[97]⟩, ⟨#[32]⟩, ⟨#[0]⟩, ⟨#[255]⟩, ⟨#[128]⟩, ⟨#[102]⟩, ⟨#[10]⟩]
theorem bent8_size : ∀ i : Fin 8, (bent8.getD i.val ByteArray.empty).size ≤ 1 := by decide
def bent4 : List ByteArray := [⟨#[48]⟩, ⟨#[32]⟩, ⟨#[0]⟩, ⟨#[255]⟩]
theorem bent4_size : ∀ i : Fin 4, (bent4.getD i.val ByteArray.empty).size ≤ 1 := by decide

end Go.Proofs.YtgnnfljobgbpbabGreatDoor

set_option linter.unusedVariables false
namespace Go.Proofs.YtgnnfljobgbpbabGreatDoor
open Go.RowKit

theorem lowB_len (x : Nat) : ∀ k, (lowB x k).length = k := by
  intro k
  induction k with
  | zero => rfl
  | succ k ih => simp [lowB, ih]
theorem bitsOf_len (k : Nat) (hk : k ≤ 8) (l : List Nat) (h : ∀ x ∈ l, x ≤ 60000) : (bitsOf k l).length ≤ 60009 * l.length := by
  induction l with
  | nil => simp [bitsOf]
  | cons x r ih =>
    have e : bitsOf k (x :: r) = numB k x ++ bitsOf k r := by simp [bitsOf]
    have h1 := h x (by simp)
    have h2 := ih (fun y hy => h y (by simp [hy]))
    have h3 : x / 2 ^ k ≤ x := Nat.div_le_self _ _
    rw [e, List.length_append, List.length_cons]
    have h4 : (numB k x).length ≤ 60009 := by
      simp [numB, lowB_len]
      omega
    omega
theorem ricePut_len (ns : List Int) (k : Int) : (ricePut ns k).length ≤ 300100 := by
  cases hr : riceOkB ns k with
  | false => rw [ricePut_no hr]; simp
  | true =>
    rw [ricePut_yes hr]
    have hb := riceOk_bits hr
    have hn := riceOk_len hr
    obtain ⟨z, hz, hu⟩ := unpack_rice k.toNat (ns.map Int.toNat)
    have h1 := unpack_length (riceB k.toNat (ns.map Int.toNat))
    rw [hu, List.length_append, List.length_replicate] at h1
    have h2 := bitsOf_len k.toNat (by omega) (ns.map Int.toNat) (by
      intro x hx
      obtain ⟨y, hy, rfl⟩ := List.mem_map.1 hx
      obtain ⟨i, hi, rfl⟩ := List.mem_iff_getElem.1 hy
      have := riceOk_at hr i hi
      rw [List.getD_eq_getElem?_getD, List.getElem?_eq_getElem hi] at this
      simp at this
      omega)
    simp at h2
    omega

def bits4 : List Int := [0, 2, 5, 8]
def more6 : List Int := [0, 0, 0, 0, 1, -1]
theorem more6_in : ∀ i : Fin 6, -1 ≤ more6.getD i.val 0 ∧ more6.getD i.val 0 ≤ 1 := by decide
end Go.Proofs.YtgnnfljobgbpbabGreatDoor

set_option linter.unusedVariables false
namespace Go.Proofs.YtgnnfljobgbpbabGreatDoor
open Go.RowKit

theorem own_at {w : World} {B g n c : Nat} {ss : List ByteArray} (h : w.ownsRow B 9 1 (.slice (some ⟨g, 0, none⟩) n c) n (ss.map Value.string)) : AtS w g ss := by
  have hn : n = ss.length := by simpa using h.1.symm
  subst hn
  refine ⟨(h.lt g rfl).2, fun i hi => ?_⟩
  rw [h.cellAt i (by simpa using hi)]
  simp [List.getElem?_eq_getElem hi]
theorem varPut_nat {n : Nat} (h : n ≤ 2147483647) : varPut (n : Int) = varB 4 n := by
  rw [varPut, if_pos (by omega)]
  simp
theorem ricePut_gaps {gl : List Int} (h : gl.length ≤ 40 ∧ ∀ i, i < gl.length → 0 ≤ gl.getD i 0 ∧ gl.getD i 0 ≤ 60000) : ricePut gl 5 = riceB 5 (gl.map Int.toNat) :=
  ricePut_yes (riceOk_yes h.1 (by omega) h.2)

set_option maxHeartbeats 2000000 in
set_option maxRecDepth 100000 in
theorem implFilterOf (g n cap : Nat) (ss : List ByteArray) (k : ByteArray) (w : World) (h : AtS w g ss) (hn : n = ss.length) (hK : RowG w shaK) :
    Calls Tryz.prog 16 #[.string k, .slice (some ⟨g, 0, none⟩) n cap] w fun e w' => e = .returned (.string ⟨(filterOf k.data.toList ss).toArray⟩) ∧ Below w.heap.size w w' := by
  cases h1 : isSum k.data.toList with
  | false =>
    rw [filterOf_no1 h1]
    clear h hn hK
    go_enter Tryz.func16, Tryz.ntmps16
    go_wp2_with (go_at_call 29; refine (implSumOk _ _).mono ?_; rintro e w1 ⟨rfl, rfl⟩)
    go_ret
    exact ⟨rfl, Below.refl _ _⟩
  | true =>
  have hit := implItemsOk g n cap ss w h hn
  cases h2 : itemsOkB ss with
  | false =>
    rw [filterOf_no2 h2]
    rw [h2] at hit
    clear h hn hK
    go_enter Tryz.func16, Tryz.ntmps16
    go_wp2_with first
      | (go_at_call 29; refine (implSumOk _ _).mono ?_; rintro e w1 ⟨rfl, rfl⟩)
      | (go_at_call 30; refine hit.mono ?_; rintro e w1 ⟨rfl, rfl⟩)
    go_ret
    exact ⟨rfl, Below.refl _ _⟩
  | true =>
  rw [filterOf_yes h1 h2]
  rw [h2] at hit
  have hn40 : n ≤ 40 := by rw [hn]; exact itemsOk_len h2
  have hclone := cloneS g n cap ss w h hn hn40
  have HGO : Hid ((gapsL k.data.toList ss).length ≤ 40 ∧ ∀ i, i < (gapsL k.data.toList ss).length → 0 ≤ (gapsL k.data.toList ss).getD i 0 ∧ (gapsL k.data.toList ss).getD i 0 ≤ 60000) := gaps_ok h1 h2
  have HPI : Hid (∀ z ∈ sortL (placesL k.data.toList ss), 0 ≤ z ∧ z ≤ 1480) := fun z hz => places_in h1 h2 z ((sortL_mem _ z).1 hz)
  have hm40 : (setL ss).length ≤ 40 := Nat.le_trans (setL_length ss) (itemsOk_len h2)
  have HFB : Hid (filterB k.data.toList ss = varB 4 (setL ss).length ++ riceB 5 ((gapsL k.data.toList ss).map Int.toNat)) := rfl
  have HPL : Hid (placesL k.data.toList ss = (setL ss).map fun it => filterTo k.data.toList it.data.toList (((setL ss).length : Int) * 37)) := rfl
  have HGL : Hid (gapsL k.data.toList ss = gapsZ 0 (sortL (placesL k.data.toList ss))) := rfl
  have HKG : Hid (RowG w shaK) := hK
  have hcomp := fun g1 c1 w1 w2 hc hs => compactS g1 n c1 ss w w1 w2 hc hs
  generalize gapsL k.data.toList ss = gl at HGO HFB HGL
  generalize placesL k.data.toList ss = pl at HPI HPL HGL
  generalize filterB k.data.toList ss = fb at HFB ⊢
  generalize setL ss = st at hm40 HFB HPL hcomp
  obtain ⟨i0, hi, hz0, hz1, hz2⟩ := info_parts infoIntG
  obtain ⟨m, hm⟩ : ∃ m, m = st.length := ⟨_, rfl⟩
  rw [← hm] at hm40 HFB HPL hcomp
  have HM : Hid (m = st.length) := hm
  have hmk := makeCap m (by omega)
  clear h hn hm h2 hK
  go_enter Tryz.func16, Tryz.ntmps16
  go_wp2_with first
    | (go_at_call 29; refine (implSumOk _ _).mono ?_; rintro e w1 ⟨rfl, rfl⟩)
    | (go_at_call 30; refine hit.mono ?_; rintro e w1 ⟨rfl, rfl⟩)
  clear hit
  refine hclone.mono ?_
  rintro e w1 ⟨g1, c1, rfl, hc1⟩
  have HC : Hid (Cloned w.heap.size g1 n c1 ss w w1) := hc1
  clear hclone hc1
  go_wp2_with fail
  refine (sortS _ g1 n c1 ss w w1 HC.out hn40).mono ?_
  rintro e w2 ⟨rfl, hs2⟩
  have HS : Hid (SortedS g1 ss w1 w2) := hs2
  clear hs2
  go_wp2_with fail
  refine (hcomp g1 c1 w1 w2 HC.out HS.out).mono ?_
  rintro e w3 ⟨rfl, hown3, hb3⟩
  have HAS : Hid (AtS w3 g1 st) := own_at hown3
  have HB3 : Hid (Below w.heap.size w w3) := hb3
  have HK3 : Hid (RowG w3 shaK) := HKG.out.below hb3 HKG.out.lt
  clear hown3 hb3 hcomp HC HS
  go_wp2_with fail
  have HW0 : Hid (ZRow w3.heap.size (.slice (some ⟨w3.heap.size, 0, none⟩) 0 m) (pl.take 0) (w3.alloc (.cells (madeCells #[.int .i64 0] m) 3))) :=
    ⟨⟨_, _, rfl⟩, rfl, .inr ⟨_, _, _, rfl, Nat.le_refl _, World.alloc_heap_new w3 _, Nat.zero_le _, by unfold maxLen; omega, by rw [size_madeCells]; omega, rfl⟩⟩
  have HB0 : Hid (Below w3.heap.size w3 (w3.alloc (.cells (madeCells #[.int .i64 0] m) 3))) := (Below.refl _ w3).alloc (Nat.le_refl _) _
  have HPLL : Hid (pl.length = m) := by show _ = _; rw [HPL.out, List.length_map]; exact HM.out.symm
  clear hmk
  go_loopw [6, 28] (fun v i wr => ∃ (q g3 c3 : Nat), q ≤ m ∧ i = .int .i64 (q : Int) ∧ v = .slice (some ⟨g3, 0, none⟩) q c3 ∧ Hid (ZRow w3.heap.size v (pl.take q) wr) ∧ Hid (Below w3.heap.size w3 wr)) (fun _ i _ => m - (intOf i).toNat)
  case atStart => exact ⟨0, w3.heap.size, m, by omega, rfl, rfl, HW0, HB0⟩
  case round =>
    clear HW0 HB0
    obtain ⟨q, g3, c3, hq, rfl, rfl, HR, HB⟩ := hrel
    have hszr := HB.out.size
    by_cases hlt : q < m
    · have hql : q < st.length := by rw [← HM.out]; exact hlt
      have hc : wr.cell? ⟨g1, q, none⟩ = some (.string (st.getD q ByteArray.empty)) := by
        rw [HB.out.cell (p := ⟨g1, q, none⟩) HAS.out.1]
        exact HAS.out.2 q hql
      have hto := implFilterTo k (st.getD q ByteArray.empty) ((m : Int) * 37) wr (HK3.out.below HB.out HK3.out.lt)
      have HE : Hid (pl.take (q + 1) = pl.take q ++ [filterTo k.data.toList (st.getD q ByteArray.empty).data.toList ((m : Int) * 37)]) := by
        show _ = _
        rw [List.take_add_one, HPL.out, List.getElem?_map, List.getElem?_eq_getElem hql, List.getD_eq_getElem?_getD, List.getElem?_eq_getElem hql]
        rfl
      generalize filterTo k.data.toList (st.getD q ByteArray.empty).data.toList ((m : Int) * 37) = z at hto HE
      generalize st.getD q ByteArray.empty = it at hc hto
      have HRW : Hid (wr.ownsRow w3.heap.size 3 1 (.slice (some ⟨g3, 0, none⟩) q c3) q ((pl.take q).map (Value.int .i64))) := by
        have h5 := HR.out.2
        have h6 : (pl.take q).length = q := by rw [List.length_take, HPLL.out]; omega
        rw [h6] at h5
        exact h5
      have HQ : Hid (q + 1 ≤ m) := hlt
      have lq : (q : Int) < (m : Int) := by omega
      have lq0 : (0 : Int) ≤ (q : Int) := by omega
      have hx1 : q + 1 ≤ maxLen := by unfold maxLen; omega
      have hx2 : (q + 1) * 8 ≤ 140737488355328 := by omega
      clear hql
      go_wp2_with fail
      refine hto.mono ?_
      rintro e w4 ⟨rfl, b4⟩
      have HRW2 : Hid (w4.ownsRow w3.heap.size 3 1 (.slice (some ⟨g3, 0, none⟩) q c3) q ((pl.take q).map (Value.int .i64))) := ownsRow_keep HRW.out (fun g' hg' => by
        obtain ⟨cur, hcc, hl⟩ := ownsRow_type HRW.out g' hg'
        exact b4.block g' hl)
      have HB2 : Hid (Below w3.heap.size w3 w4) := HB.out.trans (b4.mono HB.out.size)
      have hs2 := HB2.out.size
      clear b4 hto
      go_wp2_with (at_builtin; refine wp_app1 rfl _ _ 49 rfl w3.heap.size 3 i0 (.int .i64 0) 8 Tryz.underlying49 hi hz0 hz1 hz2 rfl _ _ _ rfl HRW2.out (.int .i64 z) rfl rfl hx1 hx2 hs2 ?_; intro g4 c4 w5 hown4 hb4 _)
      have HR4 : Hid (ZRow w3.heap.size (.slice (some ⟨g4, 0, none⟩) (q + 1) c4) (pl.take (q + 1)) w5) := by
        refine ZRow.of ?_ (by rw [List.length_take, HPLL.out]; have := HQ.out; omega)
        rw [HE.out, List.map_append]
        exact hown4
      clear hown4
      go_roundw
      case rel => exact ⟨q + 1, g4, c4, HQ.out, by go_num, rfl, HR4, HB2.out.trans hb4⟩
      case measure => have := HQ.out; simp [intOf]; omega
    · obtain rfl : q = m := by omega
      have HRA : Hid (ZRow w3.heap.size (.slice (some ⟨g3, 0, none⟩) q c3) pl wr) := by
        have h5 := HR.out
        rw [List.take_of_length_le (by rw [HPLL.out]; exact Nat.le_refl _)] at h5
        exact h5
      have hsort := sortI w3.heap.size g3 q c3 pl wr HRA.out hszr hm40
      have HSL : Hid ((sortL pl).length = q) := by show _ = _; rw [sortL_length]; exact HPLL.out
      have HBw : Hid (Below w.heap.size w wr) := HB3.out.trans (HB.out.mono HB3.out.size)
      generalize sortL pl = so at hsort HPI HGL HSL
      have hvar := fun w' => implVarPut (q : Int) w'
      rw [varPut_nat (by omega)] at hvar
      have HRP : Hid (ricePut gl 5 = riceB 5 (gl.map Int.toNat)) := ricePut_gaps HGO.out
      have hrice := fun g' c' w' h' (hn : q = gl.length) => implRicePut g' q c' gl 5 w' h' hn
      rw [HRP.out] at hrice
      have hlr : (riceB 5 (gl.map Int.toNat)).length ≤ 300100 := by
        have h5 := ricePut_len gl 5
        rw [HRP.out] at h5
        exact h5
      have hlv := (varB_length 4 q).2
      generalize (riceB 5 (gl.map Int.toNat)) = rb at hrice HFB hlr HRP
      generalize varB 4 q = vb at hvar HFB hlv
      have HEQ : Hid ((⟨vb.toArray⟩ ++ ⟨rb.toArray⟩ : ByteArray) = ⟨fb.toArray⟩) := by
        show _ = _
        rw [HFB.out]
        apply ByteArray.ext
        simp
      clear HR
      go_wp2_with fail
      refine hsort.mono ?_
      rintro e w5 ⟨rfl, hr5, b5⟩
      have HR5 : Hid (ZRow w3.heap.size (.slice (some ⟨g3, 0, none⟩) q c3) so w5) := hr5
      have HB5 : Hid (Below w3.heap.size w3 w5) := HB.out.trans b5
      clear hsort hr5 b5 hszr
      go_wp2_with fail
      refine (hvar _).mono ?_
      rintro e w6 ⟨rfl, b6⟩
      have HA6 : Hid (At w6 g3 so) := HR5.out.at.1.below b6 HR5.out.at.1.1
      have HB6 : Hid (Below w3.heap.size w3 w6) := HB5.out.trans (b6.mono HB5.out.size)
      clear b6 hvar
      go_wp2_with fail
      refine (implSteps g3 q c3 so w6 HA6.out HSL.out.symm hm40 HPI.out).mono ?_
      rintro e w7 ⟨v7, rfl, hr7, b7⟩
      rw [← HGL.out] at hr7
      obtain ⟨g7, c7, rfl⟩ := hr7.1
      have HGLN : Hid (q = gl.length) := by show _ = _; rw [HGL.out, gapsZ_length]; exact HSL.out.symm
      rw [← HGLN.out] at hr7 ⊢
      have HA7 : Hid (At w7 g7 gl) := hr7.at.1
      have HB7 : Hid (Below w3.heap.size w3 w7) := HB6.out.trans (b7.mono HB6.out.size)
      clear hr7 b7
      go_wp2_with fail
      refine (hrice g7 c7 w7 HA7.out HGLN.out).mono ?_
      rintro e w8 ⟨rfl, b8⟩
      have HB8 : Hid (Below w.heap.size w w8) := HB3.out.trans ((HB7.out.trans (b8.mono HB7.out.size)).mono HB3.out.size)
      clear hrice b8
      go_wp2_with fail
      go_ret
      refine ⟨?_, HB8.out⟩
      rw [← HEQ.out]
      rfl

end Go.Proofs.YtgnnfljobgbpbabGreatDoor

set_option linter.unusedVariables false
namespace Go.Proofs.YtgnnfljobgbpbabGreatDoor
open Go.RowKit

theorem at_newsS {w : World} {g : Nat} {zs : List ByteArray} (h : AtS w g zs) (a m off : Nat) (hk : a + m ≤ zs.length) (ho : 0 < m → off = a) : ∀ j u, (((zs.drop a).take m).map Value.string)[j]? = some u → w.cell? ((⟨g, off, none⟩ : Addr).add j) = some u := by
  intro j u hu
  have hj : j < m := by
    have := (List.getElem?_eq_some_iff.1 hu).1
    simp at this
    omega
  have e := ho (by omega)
  subst e
  have hc := h.2 (off + j) (by omega)
  have e2 : (((zs.drop off).take m).map Value.string)[j]? = some (.string (zs.getD (off + j) ByteArray.empty)) := by
    rw [List.getElem?_map, List.getElem?_take_of_lt hj, List.getElem?_drop, List.getElem?_eq_getElem (by omega)]
    simp [List.getElem?_eq_getElem (show off + j < zs.length by omega)]
  rw [e2] at hu
  rw [← hu, ← hc]
  rcases j with _ | j
  · simp [Addr.add]
  · simp [Addr.add]
theorem strs_one (l : List ByteArray) : ∀ u ∈ l.map Value.string, u.oneCell' = true := by
  intro u hu
  obtain ⟨x, _, rfl⟩ := List.mem_map.1 hu
  rfl
theorem AtS.far {w w' : World} {g : Nat} {zs : List ByteArray} (h : AtS w g zs) (hk : w'.heap[g]? = w.heap[g]?) (hs : w.heap.size ≤ w'.heap.size) : AtS w' g zs :=
  ⟨Nat.lt_of_lt_of_le h.1 hs, fun i hi => (World.cell?_of_block (a := ⟨g, i, none⟩) hk).trans (h.2 i hi)⟩
theorem SRow.of {B n g cap : Nat} {zs : List ByteArray} {w : World} (h : w.ownsRow B 9 1 (.slice (some ⟨g, 0, none⟩) n cap) n (zs.map Value.string)) (hn : n = zs.length) : SRow B (.slice (some ⟨g, 0, none⟩) n cap) zs w := by
  subst hn
  exact ⟨⟨g, cap, rfl⟩, h⟩

set_option maxHeartbeats 4000000 in
set_option maxRecDepth 100000 in
theorem specSet (g n cap : Nat) (zs : List ByteArray) (w : World) (h : AtS w g zs) (hn : n = zs.length) (hm : n ≤ 1000) :
    Calls Tryz.prog 49 #[.slice (some ⟨g, 0, none⟩) n cap] w fun e w' => ∃ v, e = .returned v ∧ SRow w.heap.size v (setL zs) w' ∧ Below w.heap.size w w' := by
  obtain ⟨i0, hi, hz0, hz1, hz2⟩ := info_parts infoStr
  have HA : Hid (AtS w g zs) := h
  have HN : Hid (n = zs.length) := hn
  clear h hn
  go_enter Tryz.func49, Tryz.ntmps49
  go_wp2_with fail
  have HW0 : Hid (SRow w.heap.size (.slice (some ⟨w.heap.size, 0, none⟩) 0 0) (setL (zs.take 0)) (w.alloc (.cells #[] 9))) := srow_new w
  have HB0 : Hid (Below w.heap.size w (w.alloc (.cells #[] 9))) := (Below.refl _ w).alloc (Nat.le_refl _) _
  go_loopw [3, 4] (fun v i wr => ∃ (p q g3 c3 : Nat), p ≤ n ∧ q ≤ p ∧ i = .int .i64 (p : Int) ∧ v = .slice (some ⟨g3, 0, none⟩) q c3 ∧ Hid (q = (setL (zs.take p)).length) ∧ Hid (SRow w.heap.size v (setL (zs.take p)) wr) ∧ Hid (Below w.heap.size w wr)) (fun _ i _ => n - (intOf i).toNat)
  case atStart => exact ⟨0, 0, w.heap.size, 0, by omega, by omega, rfl, rfl, rfl, HW0, HB0⟩
  case round =>
    clear HW0 HB0
    obtain ⟨p, q, g3, c3, hp, hqp, rfl, rfl, HQL, HR, HB⟩ := hrel
    have hszr := HB.out.size
    by_cases hlt : p < n
    · have hql : p < zs.length := by rw [← HN.out]; exact hlt
      have hc : wr.cell? ⟨g, p, none⟩ = some (.string (zs.getD p ByteArray.empty)) := by
        rw [HB.out.cell (p := ⟨g, p, none⟩) HA.out.1]
        exact HA.out.2 p hql
      have HE : Hid (setL (zs.take (p + 1)) = setIns (setL (zs.take p)) (zs.getD p ByteArray.empty)) := setL_take zs p hql
      have HOL : Hid ((setL (zs.take p)).length = q) := HQL.out.symm
      generalize zs.getD p ByteArray.empty = z at hc HE
      generalize setL (zs.take p) = o at HR HE HOL HQL
      have HAO : Hid (AtS wr g3 o) := HR.out.at.1
      have HG3 : Hid (w.heap.size ≤ g3 ∧ g3 < wr.heap.size) := by
        obtain ⟨g', _, _, hv, h1, h2, _⟩ := HR.out.block
        cases hv
        exact ⟨h1, h2⟩
      have HQ : Hid (p + 1 ≤ n) := hlt
      have HCP : Hid (q ≤ c3) := (own_cap HR.out.2).1
      have lq : (p : Int) < (n : Int) := by omega
      have lq0 : (0 : Int) ≤ (p : Int) := by omega
      have HC : Hid (wr.cell? ⟨g, p, none⟩ = some (.string z)) := hc
      clear hql hc hszr HQL
      go_wp2_with fail
      go_loopw [5] (fun i wx => ∃ k : Nat, k ≤ q ∧ i = .int .i64 (k : Int) ∧ Hid (∀ j, j < k → ltB (o.getD j ByteArray.empty) z = true) ∧ Hid (AtS wx g3 o ∧ wx.cell? ⟨g, p, none⟩ = some (.string z) ∧ w.heap.size ≤ g3 ∧ SRow w.heap.size (.slice (some ⟨g3, 0, none⟩) q c3) o wx) ∧ Hid (Below w.heap.size w wx)) (fun i _ => q - (intOf i).toNat)
      case atStart => exact ⟨0, by omega, rfl, fun j hj => by omega, ⟨HAO.out, HC.out, HG3.out.1, HR.out⟩, HB⟩
      case round =>
        clear HR HB HAO HG3 HC
        obtain ⟨k, hk, rfl, HT, HX, HB⟩ := hrel
        have hcz := HX.out.2.1
        have hszr := HB.out.size
        have fin : (k = q ∨ ltB (o.getD k ByteArray.empty) z = false) → Hid (o.takeWhile (fun y => ltB y z) = (o.drop 0).take k ∧ o.dropWhile (fun y => ltB y z) = (o.drop k).take (q - k)) := by
          intro hor
          have := span_at (fun y => ltB y z) ByteArray.empty o k (by rw [HOL.out]; exact hk) (fun j hj => HT.out j hj) (fun hj => by
            rcases hor with h' | h'
            · rw [HOL.out] at hj; omega
            · exact h')
          refine ⟨by rw [List.drop_zero]; exact this.1, ?_⟩
          rw [this.2, List.take_of_length_le (by simp [HOL.out])]
        by_cases hkq : k < q
        · have hkl : k < o.length := by rw [HOL.out]; exact hkq
          have hco := HX.out.1.2 k hkl
          have lk : (k : Int) < (q : Int) := by omega
          have lk0 : (0 : Int) ≤ (k : Int) := by omega
          have HD : Hid ((o.drop k).take (q - k) = o.getD k ByteArray.empty :: (o.drop (k + 1)).take (q - k - 1)) := by
            show _ = _
            rw [List.drop_eq_getElem_cons hkl, show q - k = q - k - 1 + 1 from by omega, List.take_succ_cons, List.getD_eq_getElem?_getD, List.getElem?_eq_getElem hkl]
            rfl
          cases hle : ltB (o.getD k ByteArray.empty) z with
          | true =>
            have HT2 : Hid (∀ j, j < k + 1 → ltB (o.getD j ByteArray.empty) z = true) := by
              intro j hj
              rcases Nat.lt_or_ge j k with h' | h'
              · exact HT.out j h'
              · obtain rfl : j = k := by omega
                exact hle
            have HK : Hid (k + 1 ≤ q) := hkq
            generalize o.getD k ByteArray.empty = y at hco hle
            have hle' : Op.bytesLess y.toList z.toList = true := hle
            clear fin hkl hle
            go_wp2_with fail
            go_region
            go_wp2_with fail
            go_roundw
            case rel => exact ⟨k + 1, HK.out, by go_num, HT2, HX.out, HB.out.drew⟩
            case measure => have := HK.out; simp [intOf]; omega
          | false =>
            have HF := fin (.inr hle)
            generalize o.getD k ByteArray.empty = y at hco hle HD
            have hle' : Op.bytesLess y.toList z.toList = false := hle
            clear fin HT hkl hle
            by_cases hyz : y = z
            · subst hyz
              have HEQ : Hid (setL (zs.take (p + 1)) = o) := by
                show _ = _
                rw [HE.out, setIns, HF.out.2, HD.out]
                simp
              have hee : (y.toList == y.toList) = true := by simp
              go_wp2_with fail
              go_region
              go_wp2_with fail
              go_region
              go_wp2_with fail
              go_roundw
              case rel => exact ⟨p + 1, q, g3, c3, HQ.out, by omega, by go_num, rfl, by rw [HEQ.out]; exact HOL.out.symm, by rw [HEQ.out]; exact HX.out.2.2.2, HB.out.drew.drew⟩
              case measure => have := HQ.out; simp [intOf]; omega
            · have hee : (y.toList == z.toList) = false := by
                simp
                intro e
                exact hyz (toList_inj e)
              have HRES : Hid (setL (zs.take (p + 1)) = (o.drop 0).take k ++ [z] ++ (o.drop k).take (q - k)) := by
                show _ = _
                rw [HE.out, setIns, HF.out.1, HF.out.2, if_neg (by rw [HD.out]; simp; exact hyz)]
                simp
              clear hyz
              have hck' : ¬ (c3 : Int) = (k : Int) := by have := HCP.out; omega
              have hck : ¬ c3 = k := by have := HCP.out; omega
              have hkc : (k : Int) ≤ (c3 : Int) := by have := HCP.out; omega
              have HP : Hid (0 < q - k → k = k) := fun _ => rfl
              go_wp2_with fail
              go_region
              go_wp2_with fail
              go_region
              have hXd : Hid (AtS wr.drew.drew g3 o ∧ wr.drew.drew.cell? ⟨g, p, none⟩ = some (.string z) ∧ w.heap.size ≤ g3 ∧ SRow w.heap.size (.slice (some ⟨g3, 0, none⟩) q c3) o wr.drew.drew) := HX.out
              have hBd : Hid (Below w.heap.size w wr.drew.drew) := HB.out.drew.drew
              have hzd : w.heap.size ≤ wr.drew.drew.heap.size := hszr
              clear HX HB hszr hcz hco
              generalize wr.drew.drew = wd at hXd hBd hzd ⊢
              have HX := hXd
              have HB := hBd
              have hszr := hzd
              have hne0 : g3 ≠ wd.heap.size := by have := HX.out.1.1; omega
              have hgl : g < w.heap.size := HA.out.1
              have HOW : Hid ((wd.alloc (.cells #[] 9)).ownsRow w.heap.size 9 1 (.slice (some ⟨wd.heap.size, 0, none⟩) 0 0) 0 []) :=
                ⟨rfl, .inr ⟨_, _, #[], rfl, hszr, heap_alloc_new wd _, Nat.le_refl _, by unfold maxLen; omega, rfl, rfl⟩⟩
              have HO0 : Hid (AtS (wd.alloc (.cells #[] 9)) g3 o) := HX.out.1.far (Below.heap_alloc _ _ _ HX.out.1.1) (by simp)
              have hl1 : (((o.drop 0).take k).map Value.string).length = k * 1 := by simp [HOL.out] <;> omega
              have hn1 := at_newsS HO0.out 0 k 0 (by rw [HOL.out]; omega) (fun _ => rfl)
              have hx1 : 0 + k ≤ maxLen := by unfold maxLen; omega
              have hx2 : (0 + k) * 16 ≤ 140737488355328 := by omega
              have hx3 : k + 1 ≤ maxLen := by unfold maxLen; omega
              have hx4 : (k + 1) * 16 ≤ 140737488355328 := by omega
              have hx5 : k + 1 + (q - k) ≤ maxLen := by unfold maxLen; omega
              have hx6 : (k + 1 + (q - k)) * 16 ≤ 140737488355328 := by omega
              have hbs : w.heap.size ≤ (wd.alloc (.cells #[] 9)).heap.size := by simp; omega
              have hl3 : (((o.drop k).take (q - k)).map Value.string).length = (q - k) * 1 := by simp [HOL.out]
              go_wp2_with first
                | (at_builtin; refine wpList_append_own_at _ rfl _ _ 24 rfl w.heap.size 9 i0 (.string ⟨#[]⟩) 1 16 Tryz.underlying24 hi hz0 hz1 hz2 rfl (by decide) (.slice (some ⟨wd.heap.size, 0, none⟩) 0 0) 0 [] rfl HOW.out ⟨g3, 0, none⟩ k c3 (((o.drop 0).take k).map Value.string) rfl hl1 hn1 (strs_one _) hx1 hx2 hbs ?_; intro v1 w1 hown1 hgrow1 hnil1 hat1; rw [Nat.zero_add, List.nil_append] at hown1; obtain ⟨g5, c5, rfl⟩ := own_form hown1 (fun e => by have := (hnil1.1 e).1; cases this); have hc1 : w1.cell? ⟨g, p, none⟩ = some (.string z) := (World.cell?_of_block (a := ⟨g, p, none⟩) (grown_far (b := g) hgrow1 (by omega) (by simp [Value.ownBlock]; omega))).trans HX.out.2.1; have HO1 : Hid (AtS w1 g3 o) := HX.out.1.far (grown_far hgrow1 HX.out.1.1 (by simpa [Value.ownBlock] using hne0)) (by have := grown_size hgrow1; omega); have hne1 : g3 ≠ g5 := (by have h9 := HX.out.1.1; simp [Value.ownBlock] at hat1; omega); have HB1 : Hid (Below w.heap.size w w1) := (HB.out.alloc (by omega) _).grown hgrow1 hbs (fun j hj => by have h8 : wd.heap.size = j := (by simpa [Value.ownBlock] using hj); omega); have HOW1 : Hid (w1.ownsRow w.heap.size 9 1 (.slice (some ⟨g5, 0, none⟩) k c5) k (((o.drop 0).take k).map Value.string)) := hown1; have hs1 : w.heap.size ≤ w1.heap.size := HB1.out.size; have hbs1 : w.heap.size ≤ (w1.alloc (.cells #[.string z] 9)).heap.size := (by simp; omega); clear hown1 hgrow1 hnil1 hat1)
                | (at_builtin; refine wpList_append_own_at _ rfl _ _ 24 rfl w.heap.size 9 i0 (.string ⟨#[]⟩) 1 16 Tryz.underlying24 hi hz0 hz1 hz2 rfl (by decide) (.slice (some ⟨g5, 0, none⟩) k c5) k _ rfl (HOW1.out.alloc _) ⟨w1.heap.size, 0, none⟩ 1 1 [.string z] rfl rfl (cell_one_new _ _ _) (strs_one [z]) hx3 hx4 hbs1 ?_; intro v2 w2 hown2 hgrow2 hnil2 hat2; obtain ⟨g6, c6, rfl⟩ := own_form hown2 (fun e => by have := (hnil2.1 e).1; cases this); have HO2 : Hid (AtS w2 g3 o) := HO1.out.far (grown_far hgrow2 HO1.out.1 (by simpa [Value.ownBlock] using hne1)) (by have := grown_size hgrow2; omega); have HB2 : Hid (Below w.heap.size w w2) := (HB1.out.alloc hs1 _).grown hgrow2 hbs1 (fun j hj => (HOW1.out.lt j hj).1); have HOW2 : Hid (w2.ownsRow w.heap.size 9 1 (.slice (some ⟨g6, 0, none⟩) (k + 1) c6) (k + 1) (((o.drop 0).take k).map Value.string ++ [.string z])) := hown2; have hs2 : w.heap.size ≤ w2.heap.size := HB2.out.size; have hn3 := at_newsS HO2.out k (q - k) k (by rw [HOL.out]; omega) (fun _ => rfl); clear hown2 hgrow2 hnil2 hat2)
                | (at_builtin; refine wpList_append_own_at _ rfl _ _ 24 rfl w.heap.size 9 i0 (.string ⟨#[]⟩) 1 16 Tryz.underlying24 hi hz0 hz1 hz2 rfl (by decide) (.slice (some ⟨g6, 0, none⟩) (k + 1) c6) (k + 1) _ rfl HOW2.out ⟨g3, k, none⟩ (q - k) (c3 - k) (((o.drop k).take (q - k)).map Value.string) rfl hl3 hn3 (strs_one _) hx5 hx6 hs2 ?_; intro v3 w3 hown3 hgrow3 hnil3 hat3; obtain ⟨g7, c7, rfl⟩ := own_form hown3 (fun e => by have := (hnil3.1 e).1; cases this); have HB3 : Hid (Below w.heap.size w w3) := HB2.out.grown hgrow3 hs2 (fun j hj => (HOW2.out.lt j hj).1); have HOW3 : Hid (w3.ownsRow w.heap.size 9 1 (.slice (some ⟨g7, 0, none⟩) (k + 1 + (q - k)) c7) (k + 1 + (q - k)) (((o.drop 0).take k).map Value.string ++ [.string z] ++ ((o.drop k).take (q - k)).map Value.string)) := hown3; clear hown3 hgrow3 hnil3 hat3)
              go_roundw
              case rel =>
                refine ⟨p + 1, q + 1, g7, c7, HQ.out, by omega, by go_num, by rw [show q + 1 = k + 1 + (q - k) from by omega], ?_, ?_, HB3⟩
                · show _ = _
                  rw [HRES.out, List.length_append, List.length_append]
                  first | (simp [HOL.out]; done) | (simp [HOL.out]; omega)
                · have h5 := HOW3.out
                  rw [show k + 1 + (q - k) = q + 1 from by omega] at h5 ⊢
                  refine SRow.of ?_ ?_
                  · rw [HRES.out]
                    simpa using h5
                  · rw [HRES.out, List.length_append, List.length_append]
                    first | (simp [HOL.out]; done) | (simp [HOL.out]; omega)
              case measure => have := HQ.out; simp [intOf]; omega
        · have hkq2 : k = q := by omega
          have HF := fin (.inl hkq2)
          subst hkq2
          clear fin HT
          have lk : ¬ (k : Int) < (k : Int) := by omega
          have HRES : Hid (setL (zs.take (p + 1)) = (o.drop 0).take k ++ [z] ++ []) := by
            show _ = _
            rw [HE.out, setIns, HF.out.1, HF.out.2, if_neg (by simp)]
            simp
          have hkc : (k : Int) ≤ (c3 : Int) := by have := HCP.out; omega
          go_wp2_with fail
          go_region
          go_wp2_with fail
          go_region
          have hXd : Hid (AtS wr.drew.drew g3 o ∧ wr.drew.drew.cell? ⟨g, p, none⟩ = some (.string z) ∧ w.heap.size ≤ g3 ∧ SRow w.heap.size (.slice (some ⟨g3, 0, none⟩) k c3) o wr.drew.drew) := HX.out
          have hBd : Hid (Below w.heap.size w wr.drew.drew) := HB.out.drew.drew
          have hzd : w.heap.size ≤ wr.drew.drew.heap.size := hszr
          clear HX HB hszr hcz
          generalize wr.drew.drew = wd at hXd hBd hzd ⊢
          have HX := hXd
          have HB := hBd
          have hszr := hzd
          have hne0 : g3 ≠ wd.heap.size := by have := HX.out.1.1; omega
          have hgl : g < w.heap.size := HA.out.1
          have HOW : Hid ((wd.alloc (.cells #[] 9)).ownsRow w.heap.size 9 1 (.slice (some ⟨wd.heap.size, 0, none⟩) 0 0) 0 []) :=
            ⟨rfl, .inr ⟨_, _, #[], rfl, hszr, heap_alloc_new wd _, Nat.le_refl _, by unfold maxLen; omega, rfl, rfl⟩⟩
          have HO0 : Hid (AtS (wd.alloc (.cells #[] 9)) g3 o) := HX.out.1.far (Below.heap_alloc _ _ _ HX.out.1.1) (by simp)
          have hl1 : (((o.drop 0).take k).map Value.string).length = k * 1 := by simp [HOL.out] <;> omega
          have hn1 := at_newsS HO0.out 0 k 0 (by rw [HOL.out]; omega) (fun _ => rfl)
          have hx1 : 0 + k ≤ maxLen := by unfold maxLen; omega
          have hx2 : (0 + k) * 16 ≤ 140737488355328 := by omega
          have hx3 : k + 1 ≤ maxLen := by unfold maxLen; omega
          have hx4 : (k + 1) * 16 ≤ 140737488355328 := by omega
          have hx5 : k + 1 + 0 ≤ maxLen := by unfold maxLen; omega
          have hx6 : (k + 1 + 0) * 16 ≤ 140737488355328 := by omega
          have hbs : w.heap.size ≤ (wd.alloc (.cells #[] 9)).heap.size := by simp; omega
          by_cases hck : c3 = k
          · obtain rfl : k = c3 := hck.symm
            go_wp2_with first
              | (at_builtin; refine wpList_append_own_at _ rfl _ _ 24 rfl w.heap.size 9 i0 (.string ⟨#[]⟩) 1 16 Tryz.underlying24 hi hz0 hz1 hz2 rfl (by decide) (.slice (some ⟨wd.heap.size, 0, none⟩) 0 0) 0 [] rfl HOW.out ⟨g3, 0, none⟩ k k (((o.drop 0).take k).map Value.string) rfl hl1 hn1 (strs_one _) hx1 hx2 hbs ?_; intro v1 w1 hown1 hgrow1 hnil1 hat1; rw [Nat.zero_add, List.nil_append] at hown1; obtain ⟨g5, c5, rfl⟩ := own_form hown1 (fun e => by have := (hnil1.1 e).1; cases this); have hc1 : w1.cell? ⟨g, p, none⟩ = some (.string z) := (World.cell?_of_block (a := ⟨g, p, none⟩) (grown_far (b := g) hgrow1 (by omega) (by simp [Value.ownBlock]; omega))).trans HX.out.2.1; have HO1 : Hid (AtS w1 g3 o) := HX.out.1.far (grown_far hgrow1 HX.out.1.1 (by simpa [Value.ownBlock] using hne0)) (by have := grown_size hgrow1; omega); have hne1 : g3 ≠ g5 := (by have h9 := HX.out.1.1; simp [Value.ownBlock] at hat1; omega); have HB1 : Hid (Below w.heap.size w w1) := (HB.out.alloc (by omega) _).grown hgrow1 hbs (fun j hj => by have h8 : wd.heap.size = j := (by simpa [Value.ownBlock] using hj); omega); have HOW1 : Hid (w1.ownsRow w.heap.size 9 1 (.slice (some ⟨g5, 0, none⟩) k c5) k (((o.drop 0).take k).map Value.string)) := hown1; have hs1 : w.heap.size ≤ w1.heap.size := HB1.out.size; have hbs1 : w.heap.size ≤ (w1.alloc (.cells #[.string z] 9)).heap.size := (by simp; omega); clear hown1 hgrow1 hnil1 hat1)
              | (at_builtin; refine wpList_append_own_at _ rfl _ _ 24 rfl w.heap.size 9 i0 (.string ⟨#[]⟩) 1 16 Tryz.underlying24 hi hz0 hz1 hz2 rfl (by decide) (.slice (some ⟨g5, 0, none⟩) k c5) k _ rfl (HOW1.out.alloc _) ⟨w1.heap.size, 0, none⟩ 1 1 [.string z] rfl rfl (cell_one_new _ _ _) (strs_one [z]) hx3 hx4 hbs1 ?_; intro v2 w2 hown2 hgrow2 hnil2 hat2; obtain ⟨g6, c6, rfl⟩ := own_form hown2 (fun e => by have := (hnil2.1 e).1; cases this); have HO2 : Hid (AtS w2 g3 o) := HO1.out.far (grown_far hgrow2 HO1.out.1 (by simpa [Value.ownBlock] using hne1)) (by have := grown_size hgrow2; omega); have HB2 : Hid (Below w.heap.size w w2) := (HB1.out.alloc hs1 _).grown hgrow2 hbs1 (fun j hj => (HOW1.out.lt j hj).1); have HOW2 : Hid (w2.ownsRow w.heap.size 9 1 (.slice (some ⟨g6, 0, none⟩) (k + 1) c6) (k + 1) (((o.drop 0).take k).map Value.string ++ [.string z])) := hown2; have hs2 : w.heap.size ≤ w2.heap.size := HB2.out.size; clear hown2 hgrow2 hnil2 hat2)
              | (at_builtin; refine wpList_append_own_at _ rfl _ _ 24 rfl w.heap.size 9 i0 (.string ⟨#[]⟩) 1 16 Tryz.underlying24 hi hz0 hz1 hz2 rfl (by decide) (.slice (some ⟨g6, 0, none⟩) (k + 1) c6) (k + 1) _ rfl HOW2.out ⟨g3, _, none⟩ 0 _ [] rfl rfl (fun j u h => by simp at h) (fun u h => by cases h) hx5 hx6 hs2 ?_; intro v3 w3 hown3 hgrow3 hnil3 hat3; obtain ⟨g7, c7, rfl⟩ := own_form hown3 (fun e => by have := (hnil3.1 e).1; cases this); have HB3 : Hid (Below w.heap.size w w3) := HB2.out.grown hgrow3 hs2 (fun j hj => (HOW2.out.lt j hj).1); have HOW3 : Hid (w3.ownsRow w.heap.size 9 1 (.slice (some ⟨g7, 0, none⟩) (k + 1 + 0) c7) (k + 1 + 0) (((o.drop 0).take k).map Value.string ++ [.string z] ++ [])) := hown3; clear hown3 hgrow3 hnil3 hat3)
            go_roundw
            case rel =>
              refine ⟨p + 1, k + 1, g7, c7, HQ.out, by omega, by go_num, by rfl, ?_, ?_, HB3⟩
              · show _ = _
                rw [HRES.out, List.length_append, List.length_append]
                first | (simp [HOL.out]; done) | (simp [HOL.out]; omega)
              · have h5 := HOW3.out
                rw [show k + 1 + 0 = k + 1 from rfl] at h5
                refine SRow.of ?_ ?_
                · rw [HRES.out]
                  simpa using h5
                · rw [HRES.out, List.length_append, List.length_append]
                  first | (simp [HOL.out]; done) | (simp [HOL.out]; omega)
            case measure => have := HQ.out; simp [intOf]; omega
          · have hck' : ¬ (c3 : Int) = (k : Int) := by omega
            go_wp2_with first
              | (at_builtin; refine wpList_append_own_at _ rfl _ _ 24 rfl w.heap.size 9 i0 (.string ⟨#[]⟩) 1 16 Tryz.underlying24 hi hz0 hz1 hz2 rfl (by decide) (.slice (some ⟨wd.heap.size, 0, none⟩) 0 0) 0 [] rfl HOW.out ⟨g3, 0, none⟩ k c3 (((o.drop 0).take k).map Value.string) rfl hl1 hn1 (strs_one _) hx1 hx2 hbs ?_; intro v1 w1 hown1 hgrow1 hnil1 hat1; rw [Nat.zero_add, List.nil_append] at hown1; obtain ⟨g5, c5, rfl⟩ := own_form hown1 (fun e => by have := (hnil1.1 e).1; cases this); have hc1 : w1.cell? ⟨g, p, none⟩ = some (.string z) := (World.cell?_of_block (a := ⟨g, p, none⟩) (grown_far (b := g) hgrow1 (by omega) (by simp [Value.ownBlock]; omega))).trans HX.out.2.1; have HO1 : Hid (AtS w1 g3 o) := HX.out.1.far (grown_far hgrow1 HX.out.1.1 (by simpa [Value.ownBlock] using hne0)) (by have := grown_size hgrow1; omega); have hne1 : g3 ≠ g5 := (by have h9 := HX.out.1.1; simp [Value.ownBlock] at hat1; omega); have HB1 : Hid (Below w.heap.size w w1) := (HB.out.alloc (by omega) _).grown hgrow1 hbs (fun j hj => by have h8 : wd.heap.size = j := (by simpa [Value.ownBlock] using hj); omega); have HOW1 : Hid (w1.ownsRow w.heap.size 9 1 (.slice (some ⟨g5, 0, none⟩) k c5) k (((o.drop 0).take k).map Value.string)) := hown1; have hs1 : w.heap.size ≤ w1.heap.size := HB1.out.size; have hbs1 : w.heap.size ≤ (w1.alloc (.cells #[.string z] 9)).heap.size := (by simp; omega); clear hown1 hgrow1 hnil1 hat1)
              | (at_builtin; refine wpList_append_own_at _ rfl _ _ 24 rfl w.heap.size 9 i0 (.string ⟨#[]⟩) 1 16 Tryz.underlying24 hi hz0 hz1 hz2 rfl (by decide) (.slice (some ⟨g5, 0, none⟩) k c5) k _ rfl (HOW1.out.alloc _) ⟨w1.heap.size, 0, none⟩ 1 1 [.string z] rfl rfl (cell_one_new _ _ _) (strs_one [z]) hx3 hx4 hbs1 ?_; intro v2 w2 hown2 hgrow2 hnil2 hat2; obtain ⟨g6, c6, rfl⟩ := own_form hown2 (fun e => by have := (hnil2.1 e).1; cases this); have HO2 : Hid (AtS w2 g3 o) := HO1.out.far (grown_far hgrow2 HO1.out.1 (by simpa [Value.ownBlock] using hne1)) (by have := grown_size hgrow2; omega); have HB2 : Hid (Below w.heap.size w w2) := (HB1.out.alloc hs1 _).grown hgrow2 hbs1 (fun j hj => (HOW1.out.lt j hj).1); have HOW2 : Hid (w2.ownsRow w.heap.size 9 1 (.slice (some ⟨g6, 0, none⟩) (k + 1) c6) (k + 1) (((o.drop 0).take k).map Value.string ++ [.string z])) := hown2; have hs2 : w.heap.size ≤ w2.heap.size := HB2.out.size; clear hown2 hgrow2 hnil2 hat2)
              | (at_builtin; refine wpList_append_own_at _ rfl _ _ 24 rfl w.heap.size 9 i0 (.string ⟨#[]⟩) 1 16 Tryz.underlying24 hi hz0 hz1 hz2 rfl (by decide) (.slice (some ⟨g6, 0, none⟩) (k + 1) c6) (k + 1) _ rfl HOW2.out ⟨g3, k, none⟩ 0 (c3 - k) [] rfl rfl (fun j u h => by simp at h) (fun u h => by cases h) hx5 hx6 hs2 ?_; intro v3 w3 hown3 hgrow3 hnil3 hat3; obtain ⟨g7, c7, rfl⟩ := own_form hown3 (fun e => by have := (hnil3.1 e).1; cases this); have HB3 : Hid (Below w.heap.size w w3) := HB2.out.grown hgrow3 hs2 (fun j hj => (HOW2.out.lt j hj).1); have HOW3 : Hid (w3.ownsRow w.heap.size 9 1 (.slice (some ⟨g7, 0, none⟩) (k + 1 + 0) c7) (k + 1 + 0) (((o.drop 0).take k).map Value.string ++ [.string z] ++ [])) := hown3; clear hown3 hgrow3 hnil3 hat3)
            go_roundw
            case rel =>
              refine ⟨p + 1, k + 1, g7, c7, HQ.out, by omega, by go_num, by rfl, ?_, ?_, HB3⟩
              · show _ = _
                rw [HRES.out, List.length_append, List.length_append]
                first | (simp [HOL.out]; done) | (simp [HOL.out]; omega)
              · have h5 := HOW3.out
                rw [show k + 1 + 0 = k + 1 from rfl] at h5
                refine SRow.of ?_ ?_
                · rw [HRES.out]
                  simpa using h5
                · rw [HRES.out, List.length_append, List.length_append]
                  first | (simp [HOL.out]; done) | (simp [HOL.out]; omega)
            case measure => have := HQ.out; simp [intOf]; omega
    · have HE : Hid (setL (zs.take p) = setL zs) := by
        show _ = _
        rw [List.take_of_length_le (by rw [← HN.out]; omega)]
      go_wp2_with fail
      go_ret
      refine ⟨_, rfl, ?_, HB.out⟩
      have := HR.out
      rw [HE.out] at this
      exact this

end Go.Proofs.YtgnnfljobgbpbabGreatDoor

set_option linter.unusedVariables false
namespace Go.Proofs.YtgnnfljobgbpbabGreatDoor
open Go.RowKit

set_option maxHeartbeats 2000000 in
set_option maxRecDepth 100000 in
theorem specL2To (k it : ByteArray) (below : Int) (w : World) (h1 : isSum k.data.toList = true) (h2 : isItem it.data.toList = true) (h3 : 1 ≤ below ∧ below ≤ 60000) :
    Calls Tryz.prog 50 #[.string k, .string it, .int .i64 below] w fun e w' => e = .returned (.int .i64 (filterTo k.data.toList it.data.toList below)) ∧ Below w.heap.size w w' := by
  have hks : k.size = 16 := by have := isSum_len h1; simpa using this
  have his := isItem_size h2
  have hsz : (k ++ (⟨#[32]⟩ : ByteArray) ++ it).size ≤ 1073741824 := by
    simp only [ByteArray.size_append, hks]
    have : (⟨#[32]⟩ : ByteArray).size = 1 := rfl
    omega
  have HF : Hid (filterTo k.data.toList it.data.toList below = (headOf (k ++ (⟨#[32]⟩ : ByteArray) ++ it).data.toList : Int) * below / 2147483648) := by
    show _ = _
    rw [filterTo_yes h1 h2 (by omega), keyItem_bytes]
  clear h1 h2
  go_enter Tryz.func50, Tryz.ntmps50
  go_wp2_with fail
  refine (specSum _ _ hsz).mono ?_
  rintro e w1 ⟨rfl, b1⟩
  have HX : Hid (isSum (⟨(sumB (k ++ (⟨#[32]⟩ : ByteArray) ++ it).data.toList).toArray⟩ : ByteArray).data.toList = true) := isSum_sumB _
  have hlt := headOf_lt (k ++ (⟨#[32]⟩ : ByteArray) ++ it).data.toList
  generalize (k ++ (⟨#[32]⟩ : ByteArray) ++ it).data.toList = t at HF HX hlt ⊢
  have hpl := place_lt (headOf t) below hlt h3
  go_wp2_with fail
  refine (specHead _ _ HX).mono ?_
  rintro e w2 ⟨rfl, rfl⟩
  rw [show hexN ((⟨(sumB t).toArray⟩ : ByteArray).data.toList.take 8) / 2 = headOf t from rfl]
  generalize headOf t = h at HF hlt hpl ⊢
  go_wp2
  go_ret
  rw [HF.out]
  exact ⟨rfl, b1⟩

end Go.Proofs.YtgnnfljobgbpbabGreatDoor

set_option linter.unusedVariables false
namespace Go.Proofs.YtgnnfljobgbpbabGreatDoor
open Go.RowKit
theorem infoU8 : (Tryz.prog.info? 5).map (fun i => (i.zero, i.size, i.bytes)) = some (some (.int .u8 0), 1, 1) := by kernel_rfl

set_option maxHeartbeats 2000000 in
set_option maxRecDepth 100000 in
theorem specVar (n : Nat) (w : World) (h : n ≤ 2147483647) :
    Calls Tryz.prog 52 #[.int .i64 n] w fun e w' => e = .returned (.string ⟨(varB 4 n).toArray⟩) ∧ Below w.heap.size w w' := by
  obtain ⟨i0, hi, hz0, hz1, hz2⟩ := info_parts infoU8
  go_enter Tryz.func52, Tryz.ntmps52
  go_wp2
  go_loopw [0, 3] (fun v s wr => ∃ (m f : Nat) (acc : List UInt8), v = .int .i64 m ∧ m ≤ n ∧ m < 128 ^ (f + 1) ∧ f ≤ 4 ∧ acc.length + f = 4 ∧ acc ++ varB f m = varB 4 n ∧ wr.ownsRow w.heap.size 5 1 s acc.length (Lib.byteCells acc) ∧ Below w.heap.size w wr) (fun v _ _ => (intOf v).toNat)
  case atStart =>
    exact ⟨n, 4, [], rfl, Nat.le_refl _, by omega, by omega, rfl, rfl, World.ownsRow_made w #[] 0 (Nat.le_refl _) (by simp) rfl, (Below.refl _ w).alloc (Nat.le_refl _) _⟩
  case round =>
    obtain ⟨m, f, acc, rfl, hm, hf, hf4, hacc, heq, hown, hbw⟩ := hrel
    have hsz := hbw.size
    have hx1 : acc.length + 1 ≤ maxLen := by unfold maxLen; omega
    have hx2 : (acc.length + 1) * 1 ≤ 140737488355328 := by omega
    by_cases hlt : m < 128
    · have h2 : (m : Int) < 128 := by omega
      go_wp2_with (at_builtin; refine wp_app1 rfl _ _ 66 rfl w.heap.size 5 i0 (.int .u8 0) 1 Tryz.underlying66 hi hz0 hz1 hz2 rfl _ _ _ rfl hown (.int .u8 m) rfl rfl hx1 hx2 hsz ?_)
      intro g cap w1 hown1 hb1 _
      rw [byteCells_snoc acc _ m rfl (by omega)] at hown1
      have hcv := bytes_back (P := Tryz.prog) 66 9 Tryz.underlying66 Tryz.underlying5 Tryz.underlying9 hown1 (by simp)
      go_wp2
      go_ret
      rw [varB_small f m hlt] at heq
      rw [heq]
      exact ⟨rfl, hbw.trans hb1⟩
    · have h2 : ¬ (m : Int) < 128 := by omega
      obtain ⟨g, rfl⟩ : ∃ g, f = g + 1 := by
        cases f with
        | zero => omega
        | succ g => exact ⟨g, rfl⟩
      go_wp2_with (at_builtin; refine wp_app1 rfl _ _ 66 rfl w.heap.size 5 i0 (.int .u8 0) 1 Tryz.underlying66 hi hz0 hz1 hz2 rfl _ _ _ rfl hown (.int .u8 (128 + m % 128)) rfl rfl hx1 hx2 hsz ?_)
      intro g1 cap w1 hown1 hb1 _
      rw [byteCells_snoc acc _ (128 + m % 128) (by omega) (by omega)] at hown1
      go_wp2
      go_roundw
      case rel =>
        refine ⟨m / 128, g, acc ++ [UInt8.ofNat (128 + m % 128)], by go_num, by omega, ?_, by omega, by simp; omega, ?_, by simpa using hown1, hbw.trans hb1⟩
        · have : 128 ^ (g + 1 + 1) = 128 ^ (g + 1) * 128 := Nat.pow_succ ..
          omega
        · rw [← heq, varB_step g m hlt]; simp
      case measure => simp [intOf]; omega

end Go.Proofs.YtgnnfljobgbpbabGreatDoor

set_option linter.unusedVariables false
namespace Go.Proofs.YtgnnfljobgbpbabGreatDoor
open Go.RowKit

set_option maxHeartbeats 2000000 in
set_option maxRecDepth 100000 in
theorem specFilter (g n cap : Nat) (ss : List ByteArray) (key : ByteArray) (w : World) (h : AtS w g ss) (hn : n = ss.length) (h1 : isSum key.data.toList = true) (h2 : itemsOkB ss = true) :
    Calls Tryz.prog 24 #[.string key, .slice (some ⟨g, 0, none⟩) n cap] w fun e w' => e = .returned (.string ⟨(filterB key.data.toList ss).toArray⟩) ∧ Below w.heap.size w w' := by
  obtain ⟨i0, hi, hz0, hz1, hz2⟩ := info_parts infoIntB
  have hset := specSet g n cap ss w h hn (by have := itemsOk_len h2; omega)
  have H1 : Hid (isSum key.data.toList = true) := h1
  have HSI : Hid (∀ i, i < (setL ss).length → isItem ((setL ss).getD i ByteArray.empty).data.toList = true) := by
    intro i hi
    refine set_items h2 _ ?_
    simp [List.getElem?_eq_getElem hi]
  have HGO : Hid ((gapsL key.data.toList ss).length ≤ 40 ∧ ∀ i, i < (gapsL key.data.toList ss).length → 0 ≤ (gapsL key.data.toList ss).getD i 0 ∧ (gapsL key.data.toList ss).getD i 0 ≤ 60000) := gaps_ok h1 h2
  have HPI : Hid (∀ z ∈ sortL (placesL key.data.toList ss), 0 ≤ z ∧ z ≤ 1480) := fun z hz => places_in h1 h2 z ((sortL_mem _ z).1 hz)
  have hm40 : (setL ss).length ≤ 40 := Nat.le_trans (setL_length ss) (itemsOk_len h2)
  have HFB : Hid (filterB key.data.toList ss = varB 4 (setL ss).length ++ riceB 5 ((gapsL key.data.toList ss).map Int.toNat)) := rfl
  have HPL : Hid (placesL key.data.toList ss = (setL ss).map fun it => filterTo key.data.toList it.data.toList (((setL ss).length : Int) * 37)) := rfl
  have HGL : Hid (gapsL key.data.toList ss = gapsZ 0 (sortL (placesL key.data.toList ss))) := rfl
  generalize gapsL key.data.toList ss = gl at HGO HFB HGL
  generalize placesL key.data.toList ss = pl at HPI HPL HGL
  generalize filterB key.data.toList ss = fb at HFB ⊢
  generalize setL ss = st at hset HSI hm40 HFB HPL
  clear h hn h1 h2
  go_enter Tryz.func24, Tryz.ntmps24
  go_wp2_with fail
  refine hset.mono ?_
  rintro e w1 ⟨v1, rfl, hr1, b1⟩
  obtain ⟨g1, c1, rfl⟩ := hr1.1
  have HAS : Hid (AtS w1 g1 st) := hr1.at.1
  have HB1 : Hid (Below w.heap.size w w1) := b1
  obtain ⟨m, hm⟩ : ∃ m, m = st.length := ⟨_, rfl⟩
  rw [← hm] at hm40 ⊢
  have HM : Hid (m = st.length) := hm
  rw [← hm] at HFB HPL
  clear hset hr1 b1 hm
  go_wp2_with fail
  have HW0 : Hid (ZRow w1.heap.size (.slice (some ⟨w1.heap.size, 0, none⟩) 0 0) (pl.take 0) (w1.alloc (.cells #[] 3))) := zrow_new w1
  have HB0 : Hid (Below w1.heap.size w1 (w1.alloc (.cells #[] 3))) := (Below.refl _ w1).alloc (Nat.le_refl _) _
  have HPLL : Hid (pl.length = m) := by show _ = _; rw [HPL.out, List.length_map]; exact HM.out.symm
  go_loopw [6, 7] (fun v i wr => ∃ (q g3 c3 : Nat), q ≤ m ∧ i = .int .i64 (q : Int) ∧ v = .slice (some ⟨g3, 0, none⟩) q c3 ∧ Hid (ZRow w1.heap.size v (pl.take q) wr) ∧ Hid (Below w1.heap.size w1 wr)) (fun _ i _ => m - (intOf i).toNat)
  case atStart => exact ⟨0, w1.heap.size, 0, by omega, rfl, rfl, HW0, HB0⟩
  case round =>
    clear HW0 HB0
    obtain ⟨q, g3, c3, hq, rfl, rfl, HR, HB⟩ := hrel
    have hszr := HB.out.size
    by_cases hlt : q < m
    · have hql : q < st.length := by rw [← HM.out]; exact hlt
      have hc : wr.cell? ⟨g1, q, none⟩ = some (.string (st.getD q ByteArray.empty)) := by
        rw [HB.out.cell (p := ⟨g1, q, none⟩) HAS.out.1]
        exact HAS.out.2 q hql
      have hit := HSI.out q hql
      have hto := specL2To key (st.getD q ByteArray.empty) ((m : Int) * 37) wr H1.out hit (by omega)
      have HE : Hid (pl.take (q + 1) = pl.take q ++ [filterTo key.data.toList (st.getD q ByteArray.empty).data.toList ((m : Int) * 37)]) := by
        show _ = _
        rw [List.take_add_one, HPL.out, List.getElem?_map, List.getElem?_eq_getElem hql, List.getD_eq_getElem?_getD, List.getElem?_eq_getElem hql]
        rfl
      generalize filterTo key.data.toList (st.getD q ByteArray.empty).data.toList ((m : Int) * 37) = z at hto HE
      generalize st.getD q ByteArray.empty = it at hc hto
      have HRW : Hid (wr.ownsRow w1.heap.size 3 1 (.slice (some ⟨g3, 0, none⟩) q c3) q ((pl.take q).map (Value.int .i64))) := by
        have h5 := HR.out.2
        have h6 : (pl.take q).length = q := by rw [List.length_take, HPLL.out]; omega
        rw [h6] at h5
        exact h5
      have HQ : Hid (q + 1 ≤ m) := hlt
      have lq : (q : Int) < (m : Int) := by omega
      have lq0 : (0 : Int) ≤ (q : Int) := by omega
      have hx1 : q + 1 ≤ maxLen := by unfold maxLen; omega
      have hx2 : (q + 1) * 8 ≤ 140737488355328 := by omega
      clear hql hit
      go_wp2_with fail
      refine hto.mono ?_
      rintro e w2 ⟨rfl, b2⟩
      have HRW2 : Hid (w2.ownsRow w1.heap.size 3 1 (.slice (some ⟨g3, 0, none⟩) q c3) q ((pl.take q).map (Value.int .i64))) := ownsRow_keep HRW.out (fun g' hg' => by
        obtain ⟨cur, hcc, hl⟩ := ownsRow_type HRW.out g' hg'
        exact b2.block g' hl)
      have HB2 : Hid (Below w1.heap.size w1 w2) := HB.out.trans (b2.mono HB.out.size)
      have hs2 := HB2.out.size
      clear b2 hto
      go_wp2_with (at_builtin; refine wp_app1 rfl _ _ 49 rfl w1.heap.size 3 i0 (.int .i64 0) 8 Tryz.underlying49 hi hz0 hz1 hz2 rfl _ _ _ rfl HRW2.out (.int .i64 z) rfl rfl hx1 hx2 hs2 ?_; intro g4 c4 w4 hown4 hb4 _)
      have HR4 : Hid (ZRow w1.heap.size (.slice (some ⟨g4, 0, none⟩) (q + 1) c4) (pl.take (q + 1)) w4) := by
        refine ZRow.of ?_ (by rw [List.length_take, HPLL.out]; have := HQ.out; omega)
        rw [HE.out, List.map_append]
        exact hown4
      clear hown4
      go_roundw
      case rel => exact ⟨q + 1, g4, c4, HQ.out, by go_num, rfl, HR4, HB2.out.trans hb4⟩
      case measure => have := HQ.out; simp [intOf]; omega
    · obtain rfl : q = m := by omega
      have HRA : Hid (ZRow w1.heap.size (.slice (some ⟨g3, 0, none⟩) q c3) pl wr) := by
        have h5 := HR.out
        rw [List.take_of_length_le (by rw [HPLL.out]; exact Nat.le_refl _)] at h5
        exact h5
      have hsort := specSort g3 q c3 pl wr HRA.out.at.1 HPLL.out.symm (by omega)
      have HSL : Hid ((sortL pl).length = q) := by show _ = _; rw [sortL_length]; exact HPLL.out
      have HBw : Hid (Below w.heap.size w wr) := HB1.out.trans (HB.out.mono HB1.out.size)
      generalize sortL pl = so at hsort HPI HGL HSL
      clear hszr HR
      go_wp2_with fail
      refine hsort.mono ?_
      rintro e w5 ⟨v5, rfl, hr5, b5⟩
      obtain ⟨g5, c5, rfl⟩ := hr5.1
      have HA5 : Hid (At w5 g5 so) := hr5.at.1
      have HB5 : Hid (Below w.heap.size w w5) := HBw.out.trans (b5.mono HBw.out.size)
      rw [HSL.out]
      clear hsort hr5 b5
      go_wp2_with fail
      have HG0 : Hid (ZRow w5.heap.size (.slice (some ⟨w5.heap.size, 0, none⟩) 0 0) (gapsZ 0 (so.take 0)) (w5.alloc (.cells #[] 3))) := zrow_new w5
      have HB50 : Hid (Below w5.heap.size w5 (w5.alloc (.cells #[] 3))) := (Below.refl _ w5).alloc (Nat.le_refl _) _
      go_loopw [8, 9, 10] (fun v l i wx => ∃ (p g6 c6 : Nat) (y : Int), p ≤ q ∧ i = .int .i64 (p : Int) ∧ l = .int .i64 y ∧ 0 ≤ y ∧ y ≤ 1480 ∧ v = .slice (some ⟨g6, 0, none⟩) p c6 ∧ Hid (y = lastZ 0 (so.take p)) ∧ Hid (ZRow w5.heap.size v (gapsZ 0 (so.take p)) wx) ∧ Hid (Below w5.heap.size w5 wx)) (fun _ _ i _ => q - (intOf i).toNat)
      case atStart => exact ⟨0, w5.heap.size, 0, 0, by omega, rfl, rfl, by omega, by omega, rfl, rfl, HG0, HB50⟩
      case round =>
        clear HG0 HB50 HB HRA
        obtain ⟨p, g6, c6, y, hp, rfl, rfl, hy0, hy1, rfl, HY, HR, HB⟩ := hrel
        have hszr := HB.out.size
        have HGLN : Hid ((gapsZ 0 (so.take p)).length = p) := by show _ = _; rw [gapsZ_length, List.length_take, HSL.out]; omega
        by_cases hlt2 : p < q
        · have hpl : p < so.length := by rw [HSL.out]; exact hlt2
          have hc : wr.cell? ⟨g5, p, none⟩ = some (.int .i64 (so.getD p 0)) := by
            rw [HB.out.cell (p := ⟨g5, p, none⟩) HA5.out.1]
            exact HA5.out.2 p hpl
          have hin := HPI.out (so.getD p 0) (by simp [List.getElem?_eq_getElem hpl])
          have e1 : so.take (p + 1) = so.take p ++ [so.getD p 0] := by
            rw [List.take_add_one, List.getElem?_eq_getElem hpl, List.getD_eq_getElem?_getD, List.getElem?_eq_getElem hpl]
            rfl
          have HE : Hid (gapsZ 0 (so.take (p + 1)) = gapsZ 0 (so.take p) ++ [so.getD p 0 - y] ∧ so.getD p 0 = lastZ 0 (so.take (p + 1))) := by
            rw [e1, gapsZ_snoc, lastZ_snoc, ← HY.out]
            exact ⟨rfl, rfl⟩
          generalize so.getD p 0 = x at hc hin HE
          obtain ⟨hin0, hin1⟩ := hin
          have HRW : Hid (wr.ownsRow w5.heap.size 3 1 (.slice (some ⟨g6, 0, none⟩) p c6) p ((gapsZ 0 (so.take p)).map (Value.int .i64))) := by
            have h5 := HR.out.2
            rw [HGLN.out] at h5
            exact h5
          have HP : Hid (p + 1 ≤ q) := hlt2
          have lp : (p : Int) < (q : Int) := by omega
          have lp0 : (0 : Int) ≤ (p : Int) := by omega
          have hx1 : p + 1 ≤ maxLen := by unfold maxLen; omega
          have hx2 : (p + 1) * 8 ≤ 140737488355328 := by omega
          clear hpl e1
          go_wp2_with (at_builtin; refine wp_app1 rfl _ _ 49 rfl w5.heap.size 3 i0 (.int .i64 0) 8 Tryz.underlying49 hi hz0 hz1 hz2 rfl _ _ _ rfl HRW.out (.int .i64 (x - y)) rfl rfl hx1 hx2 hszr ?_; intro g4 c4 w4 hown4 hb4 _; have hc4 : w4.cell? ⟨g5, p, none⟩ = some (.int .i64 x) := (hb4.cell (p := ⟨g5, p, none⟩) HA5.out.1).trans hc)
          have HR4 : Hid (ZRow w5.heap.size (.slice (some ⟨g4, 0, none⟩) (p + 1) c4) (gapsZ 0 (so.take (p + 1))) w4) := by
            refine ZRow.of ?_ (by rw [gapsZ_length, List.length_take, HSL.out]; have := HP.out; omega)
            rw [HE.out.1, List.map_append]
            exact hown4
          clear hown4
          go_roundw
          case rel => exact ⟨p + 1, g4, c4, x, HP.out, by go_num, rfl, hin0, hin1, rfl, HE.out.2, HR4, HB.out.trans hb4⟩
          case measure => have := HP.out; simp [intOf]; omega
        · obtain rfl : p = q := by omega
          have HGA : Hid (At wr g6 gl ∧ p = gl.length) := by
            have h5 := HR.out
            rw [List.take_of_length_le (by rw [HSL.out]; exact Nat.le_refl _), ← HGL.out] at h5
            exact ⟨h5.at.1, h5.at.2⟩
          have hvar := fun w' => specVar p w' (by omega)
          have hrice := fun w' h' => specRice g6 p c6 gl 5 w' h' HGA.out.2 (by omega) HGO.out.1 HGO.out.2
          have HBx : Hid (Below w.heap.size w wr) := HB5.out.trans (HB.out.mono HB5.out.size)
          have hlr : (riceB 5 (gl.map Int.toNat)).length ≤ 300100 := by
            have h5 := ricePut_len gl 5
            rw [ricePut_yes (riceOk_yes HGO.out.1 (by omega) HGO.out.2)] at h5
            exact h5
          have hlv := (varB_length 4 p).2
          generalize (riceB 5 (gl.map Int.toNat)) = rb at hrice HFB hlr
          generalize varB 4 p = vb at hvar HFB hlv
          have HEQ : Hid ((⟨vb.toArray⟩ ++ ⟨rb.toArray⟩ : ByteArray) = ⟨fb.toArray⟩) := by
            show _ = _
            rw [HFB.out]
            apply ByteArray.ext
            simp
          clear hszr HR
          go_wp2_with fail
          refine (hvar _).mono ?_
          rintro e w6 ⟨rfl, b6⟩
          have HGA6 : Hid (At w6 g6 gl) := HGA.out.1.below b6 HGA.out.1.1
          have HB6 : Hid (Below w.heap.size w w6) := HBx.out.trans (b6.mono HBx.out.size)
          clear b6 hvar
          go_wp2_with fail
          refine (hrice _ HGA6.out).mono ?_
          rintro e w7 ⟨rfl, b7⟩
          clear hrice
          go_wp2_with fail
          go_ret
          refine ⟨?_, HB6.out.trans (b7.mono HB6.out.size)⟩
          rw [← HEQ.out]
          rfl

end Go.Proofs.YtgnnfljobgbpbabGreatDoor

