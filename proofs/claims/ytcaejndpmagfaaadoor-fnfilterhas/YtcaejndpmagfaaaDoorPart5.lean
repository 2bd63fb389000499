/-
  Texts that the last part needs, joined.
-/
import Derived.Test.YtcaejndpmagfaaaDoorPart1
import Derived.Test.YtcaejndpmagfaaaDoorPart2
import Derived.Test.YtcaejndpmagfaaaDoorPart3
import Derived.Test.YtcaejndpmagfaaaDoorPart4
import Derived.Lib.FrozenHead2
import Derived.Lib.OthersKept
import Derived.WalkKit
import Derived.Laws.Externs
import Derived.BigQuiet
import Derived.Lib.Strings
import Derived.Test.YtcaejndpmagfaaaDoorProg
import Derived.WalkSpells
import Derived.OwnWalk
import Derived.Below
import Derived.ArgAppend
import Derived.Laws.IdiomStrings
import Derived.Lib.Builder
import Derived.Lib.UnsafeStr
set_option linter.unusedVariables false
namespace Go.Proofs.YtcaejndpmagfaaaDoor
open Go.RowKit

set_option maxHeartbeats 1000000 in
set_option maxRecDepth 100000 in
theorem numberI (B b : Nat) (s : List UInt8 × List Nat) (n k : Nat) (w : World) (h : WR B b s w) (hok : okB s) (hn : n ≤ 60000) (hk : k ≤ 8) (hlen : s.1.length ≤ 1000000000) :
    Calls Tryd.prog 67 #[.pointer (some ⟨b, 0, none⟩), .int .i64 (n : Int), .int .i64 (k : Int)] w fun e w' => e = .returned (.tuple #[]) ∧ WR B b (runB s (numB k n)) w' ∧ Below B w w' := by
  obtain ⟨N, hN⟩ : ∃ N : Nat, N = n / 2 ^ k := ⟨_, rfl⟩
  have hNn : N ≤ 60000 := by rw [hN]; exact Nat.le_trans (Nat.div_le_self _ _) hn
  have HF : Hid (runB s (List.replicate N 1 ++ 0 :: lowB n k) = runB s (numB k n)) := by show _ = _; rw [hN]; rfl
  obtain ⟨F, hF⟩ : ∃ F, F = runB s (numB k n) := ⟨_, rfl⟩
  rw [← hF] at HF ⊢
  have rsh : (n : Int) / 2 ^ k = (N : Int) := by rw [hN]; simp
  clear hF hN
  go_enter Tryd.func67, Tryd.ntmps67
  have HS : Hid (WR B b s w ∧ okB s ∧ s.1.length ≤ 1000000000) := ⟨h, hok, hlen⟩
  clear h hok hlen
  go_wp2_with fail
  go_loopw [10] (fun i wr => ∃ (j : Nat) (c : List UInt8 × List Nat), j ≤ N ∧ i = .int .i64 (j : Int) ∧ Hid (runB c (List.replicate (N - j) 1 ++ 0 :: lowB n k) = F) ∧ Hid (okB c) ∧ Hid (c.1.length ≤ 1000000000 + j) ∧ Hid (WR B b c wr) ∧ Hid (Below B w wr)) (fun i _ => N - (intOf i).toNat)
  case atStart => exact ⟨0, s, by omega, rfl, HF, HS.out.2.1, HS.out.2.2, HS.out.1, Below.refl B w⟩
  case round =>
    obtain ⟨j, c, hj, rfl, HF, HO, HL, HW, HB⟩ := hrel
    by_cases hlt : j < N
    · go_wp2_with fail
      refine (bitI B b c 1 _ HW.out HO.out (by omega) (by have := HL.out; omega)).mono ?_
      rintro e w1 ⟨rfl, hw1, hb1⟩
      have HW1 : Hid (WR B b (stepB c 1) w1) := hw1
      have HB1 : Hid (Below B w w1) := HB.out.trans hb1
      clear hw1 hb1
      go_wp2_with fail
      go_roundw
      case rel =>
        refine ⟨j + 1, stepB c 1, by omega, by go_num, ?_, stepB_ok HO.out (by omega), ?_, HW1, HB1⟩
        · show _ = _
          rw [← HF.out, show N - j = (N - (j + 1)) + 1 from by omega, List.replicate_succ]
          rfl
        · have h1 := stepB_len c 1
          have h2 := HL.out
          show _ ≤ _
          omega
      case measure => simp [intOf]; omega
    · have HF1 : Hid (runB (stepB c 0) (lowB n k) = F) := by
        show _ = _
        rw [← HF.out, show N - j = 0 from by omega]
        rfl
      go_wp2_with fail
      refine (bitI B b c 0 _ HW.out HO.out (by omega) (by have := HL.out; omega)).mono ?_
      rintro e w1 ⟨rfl, hw1, hb1⟩
      have HW1 : Hid (WR B b (stepB c 0) w1) := hw1
      have HB1 : Hid (Below B w w1) := HB.out.trans hb1
      have HO1 : Hid (okB (stepB c 0)) := stepB_ok HO.out (by omega)
      have HL1 : Hid ((stepB c 0).1.length ≤ 1000000000 + 60001) := by
        have h1 := stepB_len c 0
        have h2 := HL.out
        show _ ≤ _
        omega
      clear hw1 hb1 HF HW HB HO HL
      obtain ⟨c1, hc1⟩ : ∃ c1, c1 = stepB c 0 := ⟨_, rfl⟩
      rw [← hc1] at HF1 HW1 HO1 HL1
      clear hc1 rsh hj hlt
      go_wp2_with fail
      go_loopw [6] (fun i wr => ∃ (r : Nat) (x : Int) (c : List UInt8 × List Nat), r ≤ k ∧ i = .int .i64 x ∧ Hid (x = (r : Int) - 1) ∧ Hid (runB c (lowB n r) = F) ∧ Hid (okB c) ∧ Hid (c.1.length ≤ 1000070001 - r) ∧ Hid (WR B b c wr) ∧ Hid (Below B w wr)) (fun i _ => (intOf i + 1).toNat)
      case atStart => exact ⟨k, _, c1, by omega, rfl, rfl, HF1, HO1, by have := HL1.out; show _ ≤ _; omega, HW1, HB1⟩
      case round =>
        clear HF1 HO1 HL1 HW1 HB1
        obtain ⟨r, x, c, hr, rfl, HX, HF, HO, HL, HW, HB⟩ := hrel
        rcases r with _ | m
        · have hx : ¬ (0 : Int) ≤ x := by have := HX.out; omega
          have HE : Hid (c = F) := HF.out
          go_wp2_with fail
          go_end0
          rw [← HE.out]
          exact ⟨rfl, HW.out, HB.out⟩
        · obtain rfl : x = (m : Int) := by have := HX.out; omega
          obtain ⟨q, hq⟩ : ∃ q : Nat, q = n / 2 ^ m := ⟨_, rfl⟩
          have rq : (n : Int) / 2 ^ m = (q : Int) := by rw [hq]; simp
          have hqn : q ≤ 60000 := by rw [hq]; exact Nat.le_trans (Nat.div_le_self _ _) hn
          obtain ⟨bt, hbt⟩ : ∃ bt : Nat, bt = q % 2 := ⟨_, rfl⟩
          have hb1 : bt ≤ 1 := by omega
          have rb : bits .and .i64 (q : Int) 1 = (bt : Int) := by
            have := (bits_nat .i64 63 (by decide) (fun m h0 h1 => by rw [IntKind.wrap_i64]; omega) q 1 (by omega) (by omega)).1
            rw [Nat.and_one_is_mod, ← hbt] at this
            exact this
          have rb2 : (q : Int) % 2 = (bt : Int) := by omega
          have HF2 : Hid (runB (stepB c bt) (lowB n m) = F) := by
            show _ = _
            rw [← HF.out, hbt, hq]
            rfl
          have hm0 : (0 : Int) ≤ (m : Int) := by omega
          clear hq hbt HX
          go_wp2_with fail
          refine (bitI B b c bt _ HW.out HO.out hb1 (by have := HL.out; omega)).mono ?_
          rintro e w2 ⟨rfl, hw2, hb2⟩
          have HW2 : Hid (WR B b (stepB c bt) w2) := hw2
          have HB2 : Hid (Below B w w2) := HB.out.trans hb2
          clear hw2 hb2
          go_wp2_with fail
          go_roundw
          case rel =>
            refine ⟨m, _, stepB c bt, by omega, rfl, ?_, HF2, stepB_ok HO.out hb1, ?_, HW2, HB2⟩
            · show _ = _
              first | rfl | omega
            · have h1 := stepB_len c bt
              have h2 := HL.out
              show _ ≤ _
              omega
          case measure => simp [intOf]

end Go.Proofs.YtcaejndpmagfaaaDoor

set_option linter.unusedVariables false
namespace Go.Proofs.YtcaejndpmagfaaaDoor
open Go.RowKit

def manyOf (b : Nat) (w : World) : Nat := match w.cell? ⟨b, 3, none⟩ with
  | some (.int _ z) => if z = 0 then 0 else (8 - z).toNat
  | _ => 0
theorem manyOf_eq {b : Nat} {w : World} {m : Nat} (h : w.cell? ⟨b, 3, none⟩ = some (.int .i64 (m : Int))) : manyOf b w = if m = 0 then 0 else 8 - m := by
  simp only [manyOf, h]
  by_cases h0 : m = 0
  · simp [h0]
  · rw [if_neg (by omega), if_neg h0]; omega
theorem WR.c3 {B b : Nat} {s : List UInt8 × List Nat} {w : World} (h : WR B b s w) : w.cell? ⟨b, 3, none⟩ = some (.int .i64 (s.2.length : Int)) := by
  obtain ⟨_, p, v, _, hw, _⟩ := h
  exact hw.c3

set_option maxHeartbeats 1000000 in
set_option maxRecDepth 100000 in
theorem fillI (B b : Nat) (s : List UInt8 × List Nat) (w : World) (h : WR B b s w) (hok : okB s) (hlen : s.1.length ≤ 1000000000) :
    Calls Tryd.prog 68 #[.pointer (some ⟨b, 0, none⟩)] w fun e w' => e = .returned (.tuple #[]) ∧ WR B b (fillB s, []) w' ∧ Below B w w' := by
  have HS : Hid (WR B b s w ∧ okB s ∧ s.1.length ≤ 1000000000) := ⟨h, hok, hlen⟩
  clear h hok hlen
  go_enter Tryd.func68, Tryd.ntmps68
  go_wp2_with fail
  go_loopw [] (fun wr => ∃ c : List UInt8 × List Nat, Hid (fillB c = fillB s) ∧ Hid (okB c) ∧ Hid (c.1.length ≤ 1000000009 - manyOf b wr) ∧ Hid (WR B b c wr) ∧ Hid (Below B w wr)) (fun wr => manyOf b wr)
  case atStart =>
    refine ⟨s, rfl, HS.out.2.1, ?_, HS.out.1, Below.refl B w⟩
    have h1 := manyOf_eq HS.out.1.c3
    have h2 := HS.out.2.2
    show _ ≤ _
    split at h1 <;> omega
  case round =>
    obtain ⟨c, HF, HO, HL, HW, HB⟩ := hrel
    have c3 := HW.out.c3
    have Hm := manyOf_eq c3
    by_cases h0 : c.2.length = 0
    · have hx : ¬ (0 : Int) < (c.2.length : Int) := by omega
      have HE : Hid (c = (fillB s, [])) := by
        show _ = _
        have h1 : c.2 = [] := List.length_eq_zero_iff.1 h0
        rw [← HF.out, fillB_end h1, ← h1]
      clear h0 Hm
      go_wp2_with fail
      go_end0
      rw [← HE.out]
      exact ⟨rfl, HW.out, HB.out⟩
    · have hx : (0 : Int) < (c.2.length : Int) := by omega
      have HM : Hid (manyOf b wr = 8 - c.2.length) := by show _ = _; rw [Hm, if_neg h0]
      have HN : Hid (¬ c.2.length = 0) := h0
      clear h0 Hm
      go_wp2_with fail
      refine (bitI B b c 0 _ HW.out HO.out (by omega) (by have := HL.out; omega)).mono ?_
      rintro e w1 ⟨rfl, hw1, hb1⟩
      have HW1 : Hid (WR B b (stepB c 0) w1) := hw1
      have HB1 : Hid (Below B w w1) := HB.out.trans hb1
      have HM1 : Hid (manyOf b w1 < 8 - c.2.length) := by
        show _ < _
        have h8 := HO.out.1
        have hn := HN.out
        rw [manyOf_eq hw1.c3]
        unfold stepB
        split
        · simp; omega
        · simp; omega
      have HL1 : Hid ((stepB c 0).1.length ≤ 1000000009 - manyOf b w1) := by
        have h1 := stepB_len c 0
        have h2 := HL.out
        have h3 := HM.out
        have h4 := HM1.out
        show _ ≤ _
        omega
      clear hw1 hb1 c3 hx
      go_wp2_with fail
      go_roundw
      case rel =>
        refine ⟨stepB c 0, ?_, stepB_ok HO.out (by omega), HL1, HW1, HB1⟩
        show _ = _
        rw [← HF.out]
        exact fillB_step HO.out.1 (fun e => HN.out (by rw [e]; rfl))
      case measure => rw [HM.out]; exact HM1.out

end Go.Proofs.YtcaejndpmagfaaaDoor

set_option linter.unusedVariables false
namespace Go.Proofs.YtcaejndpmagfaaaDoor
open Go.RowKit

set_option maxHeartbeats 1000000 in
set_option maxRecDepth 100000 in
theorem bitsOkI (k : Int) (w : World) :
    Calls Tryd.prog 48 #[.int .i64 k] w fun e w' => e = .returned (.bool (bitsOk k)) ∧ w = w' := by
  by_cases h1 : (0 : Int) ≤ k
  · by_cases h2 : k ≤ 8
    · have h3 : bitsOk k = true := decide_eq_true ⟨h1, h2⟩
      rw [h3]
      go_enter Tryd.func48, Tryd.ntmps48
      go_wp2
      go_ret
      exact ⟨rfl, rfl⟩
    · have h3 : bitsOk k = false := decide_eq_false (fun h => h2 h.2)
      have h4 : decide (k ≤ 8) = false := decide_eq_false h2
      rw [h3]
      go_enter Tryd.func48, Tryd.ntmps48
      go_wp2
      go_ret
      exact ⟨rfl, rfl⟩
  · have h3 : bitsOk k = false := decide_eq_false (fun h => h1 h.1)
    have h4 : decide ((0 : Int) ≤ k) = false := decide_eq_false h1
    rw [h3]
    go_enter Tryd.func48, Tryd.ntmps48
    go_wp2
    go_ret
    exact ⟨rfl, rfl⟩

set_option maxHeartbeats 1000000 in
set_option maxRecDepth 100000 in
theorem riceOkI (g n cap : Nat) (zs : List Int) (k : Int) (w : World) (h : At w g zs) (hn : n = zs.length) :
    Calls Tryd.prog 66 #[.slice (some ⟨g, 0, none⟩) n cap, .int .i64 k] w fun e w' => e = .returned (.bool (riceOkB zs k)) ∧ w = w' := by
  have HA : Hid (At w g zs) := h
  have HN : Hid (n = zs.length) := hn
  clear h hn
  by_cases h40 : (40 : Int) < (n : Int)
  · have HF : Hid (riceOkB zs k = false) := by
      show _ = _
      cases hh : riceOkB zs k with
      | false => rfl
      | true => have := riceOk_len hh; have := HN.out; omega
    rw [HF.out]
    go_enter Tryd.func66, Tryd.ntmps66
    go_wp2
    go_ret
    exact ⟨rfl, rfl⟩
  · cases hb : bitsOk k with
    | false =>
      have HF : Hid (riceOkB zs k = false) := by show _ = _; simp [riceOkB, hb]
      rw [HF.out]
      go_enter Tryd.func66, Tryd.ntmps66
      go_wp2_with (go_at_call 48; refine (bitsOkI _ _).mono ?_; rintro e w1 ⟨rfl, rfl⟩)
      go_ret
      exact ⟨rfl, rfl⟩
    | true =>
      have hk := of_decide_eq_true hb
      go_enter Tryd.func66, Tryd.ntmps66
      go_wp2_with (go_at_call 48; refine (bitsOkI _ _).mono ?_; rintro e w1 ⟨rfl, rfl⟩)
      go_loop [17] (fun i => ∃ j : Nat, j ≤ n ∧ i = .int .i64 (j : Int) ∧ Hid (∀ m, m < zs.length → m < j → 0 ≤ zs.getD m 0 ∧ zs.getD m 0 ≤ 60000)) (fun i => n - (intOf i).toNat)
      case atStart => exact ⟨0, by omega, rfl, fun m _ h => by omega⟩
      case round =>
        obtain ⟨j, hj, rfl, HALL⟩ := hrel
        by_cases hlt : j < n
        · have hjz : j < zs.length := by rw [← HN.out]; exact hlt
          have cj := HA.out.2 j hjz
          by_cases hz : 0 ≤ zs.getD j 0 ∧ zs.getD j 0 ≤ 60000
          · have HZ2 : Hid (0 ≤ zs.getD j 0 ∧ zs.getD j 0 ≤ 60000) := hz
            generalize zs.getD j 0 = z at cj hz
            have hz0 : ¬ z < 0 := by omega
            have hz1 : ¬ 60000 < z := by omega
            clear hz hjz
            go_wp2
            go_round
            case rel =>
              refine ⟨j + 1, by omega, by go_num, ?_⟩
              intro m hm hmj
              rcases Nat.lt_or_ge m j with h | h
              · exact HALL.out m hm h
              · obtain rfl : m = j := by omega
                exact HZ2.out
            case measure => simp [intOf]; omega
          · have HNO : Hid (riceOkB zs k = false) := riceOk_no j hjz hz
            generalize zs.getD j 0 = z at cj hz
            by_cases hz0 : z < 0
            · go_wp2
              go_ret
              rw [HNO.out]
              exact ⟨rfl, rfl⟩
            · have hz1 : 60000 < z := by omega
              go_wp2
              go_ret
              rw [HNO.out]
              exact ⟨rfl, rfl⟩
        · have HY : Hid (riceOkB zs k = true) := riceOk_yes (by rw [← HN.out]; omega) hk (fun m hm => HALL.out m hm (by have := HN.out; omega))
          go_wp2
          go_ret
          rw [HY.out]
          exact ⟨rfl, rfl⟩

theorem writerNew (w : World) : WR w.heap.size w.heap.size ([], []) (w.alloc (.cells #[.pointer none, .slice none 0 0, .int .u8 0, .int .i64 0] 91)) :=
  ⟨Nat.le_refl _, _, _, .inl rfl, heap_alloc_new w _, ⟨rfl, .inl ⟨rfl, rfl⟩⟩, by simp [Value.ownBlock], fun _ => rfl⟩

set_option maxHeartbeats 1000000 in
set_option maxRecDepth 100000 in
theorem implRicePut (g n cap : Nat) (zs : List Int) (k : Int) (w : World) (h : At w g zs) (hn : n = zs.length) :
    Calls Tryd.prog 50 #[.slice (some ⟨g, 0, none⟩) n cap, .int .i64 k] w fun e w' => e = .returned (.string ⟨(ricePut zs k).toArray⟩) ∧ Below w.heap.size w w' := by
  have HA : Hid (At w g zs) := h
  have HN : Hid (n = zs.length) := hn
  have hgs := h.1
  clear h hn
  cases hr : riceOkB zs k with
  | false =>
    rw [ricePut_no hr]
    go_enter Tryd.func50, Tryd.ntmps50
    go_wp2_with (go_at_call 66; refine (riceOkI g n cap zs k _ HA.out HN.out).mono ?_; rintro e w1 ⟨rfl, rfl⟩)
    go_ret
    exact ⟨rfl, Below.refl _ _⟩
  | true =>
    rw [ricePut_yes hr]
    have hb := riceOk_bits hr
    obtain ⟨kn, rfl⟩ := Int.eq_ofNat_of_zero_le hb.1
    have hk8 : kn ≤ 8 := by omega
    have hl40 := riceOk_len hr
    have HZ : Hid (∀ i, i < zs.length → 0 ≤ zs.getD i 0 ∧ zs.getD i 0 ≤ 60000) := fun i hi => riceOk_at hr i hi
    have HE : Hid (fillB (upTo kn zs zs.length) = riceB ((kn : Int)).toNat (zs.map Int.toNat)) := by show _ = _; rw [upTo_end, Int.toNat_natCast]
    obtain ⟨R, hR⟩ : ∃ R, R = riceB ((kn : Int)).toNat (zs.map Int.toNat) := ⟨_, rfl⟩
    rw [← hR] at HE ⊢
    have HW0 : Hid (WR w.heap.size w.heap.size (upTo kn zs 0) (w.alloc (.cells #[.pointer none, .slice none 0 0, .int .u8 0, .int .i64 0] 91))) := by rw [upTo_zero]; exact writerNew w
    have HB0 : Hid (Below w.heap.size w (w.alloc (.cells #[.pointer none, .slice none 0 0, .int .u8 0, .int .i64 0] 91))) := (Below.refl _ w).alloc (Nat.le_refl _) _
    clear hR hb
    go_enter Tryd.func50, Tryd.ntmps50
    go_wp2_with (go_at_call 66; refine (riceOkI g n cap zs _ _ HA.out HN.out).mono ?_; rintro e w1 ⟨rfl, rfl⟩)
    clear hr
    have hn40 : n ≤ 40 := by rw [HN.out]; exact hl40
    have HL : Hid (∀ i, (upTo kn zs i).1.length ≤ 10000000) := fun i => upTo_len hk8 hl40 HZ.out i
    go_loopw [14] (fun i wr => ∃ j : Nat, j ≤ n ∧ i = .int .i64 (j : Int) ∧ Hid (WR w.heap.size w.heap.size (upTo kn zs j) wr) ∧ Hid (Below w.heap.size w wr)) (fun i _ => n - (intOf i).toNat)
    case atStart => exact ⟨0, by omega, rfl, HW0, HB0⟩
    case round =>
      clear HW0 HB0
      obtain ⟨j, hj, rfl, HW, HB⟩ := hrel
      by_cases hlt : j < n
      · have hjz : j < zs.length := by rw [← HN.out]; exact hlt
        have HJN : Hid (j + 1 ≤ n) := hlt
        have cj := (HA.out.below HB.out hgs).2 j hjz
        have hz := HZ.out j hjz
        have HS : Hid (upTo kn zs (j + 1) = runB (upTo kn zs j) (numB kn (zs.getD j 0).toNat)) := upTo_succ kn zs j hjz
        generalize zs.getD j 0 = z at cj hz HS
        obtain ⟨zn, rfl⟩ := Int.eq_ofNat_of_zero_le hz.1
        rw [Int.toNat_natCast] at HS
        have hzn : zn ≤ 60000 := by omega
        clear hz hjz
        go_wp2_with fail
        refine (numberI w.heap.size w.heap.size (upTo kn zs j) zn kn _ HW.out (upTo_ok _ _ _) hzn hk8 (by have := HL.out j; omega)).mono ?_
        rintro e w2 ⟨rfl, hw2, hb2⟩
        have HW2 : Hid (WR w.heap.size w.heap.size (upTo kn zs (j + 1)) w2) := by rw [HS.out]; exact hw2
        have HB2 : Hid (Below w.heap.size w w2) := HB.out.trans hb2
        clear hw2 hb2 cj
        go_wp2_with fail
        go_roundw
        case rel => exact ⟨j + 1, HJN.out, by go_num, HW2, HB2⟩
        case measure => have := HJN.out; simp [intOf]; omega
      · have HJ : Hid (upTo kn zs j = upTo kn zs zs.length) := by
          show _ = _
          rw [show j = zs.length from by rw [← HN.out]; omega]
        go_wp2_with fail
        refine (fillI w.heap.size w.heap.size (upTo kn zs j) _ HW.out (upTo_ok _ _ _) (by have := HL.out j; omega)).mono ?_
        rintro e w2 ⟨rfl, hw2, hb2⟩
        rw [HJ.out, HE.out] at hw2
        have HW2 : Hid (WR w.heap.size w.heap.size (R, []) w2) := hw2
        have HB2 : Hid (Below w.heap.size w w2) := HB.out.trans hb2
        clear hw2 hb2
        go_wp2_with fail
        refine (stringW w.heap.size w.heap.size R _ _ _ HW2.out).mono ?_
        rintro e w3 ⟨rfl, hb3⟩
        go_wp2_with fail
        go_ret
        exact ⟨rfl, HB2.out.trans hb3⟩

end Go.Proofs.YtcaejndpmagfaaaDoor

set_option linter.unusedVariables false
namespace Go.Proofs.YtcaejndpmagfaaaDoor
open Go.Shelf Go.RowKit

theorem put_writes {kn mn : Nat} {o : List UInt8} {out : List Nat} (hk : kn ≤ 8) (hm : mn ≤ 40) (hl : out.length = mn) (hr : readT kn mn (unpack o) (0, false, 0) [] = out) :
    ricePut (out.map fun n : Nat => (n : Int)) (kn : Int) = o ↔ Writes kn mn o out := by
  constructor
  · intro h
    cases hk2 : riceOkB (out.map fun n : Nat => (n : Int)) (kn : Int) with
    | true =>
      rw [ricePut_yes hk2, toNat_map, Int.toNat_natCast] at h
      refine ⟨hl, ?_, h⟩
      intro x hx
      obtain ⟨i, hi, rfl⟩ := List.mem_iff_getElem.1 hx
      have := riceOk_at hk2 i (by simpa using hi)
      rw [List.getD_eq_getElem?_getD, List.getElem?_map, List.getElem?_eq_getElem hi] at this
      simp at this
      omega
    | false =>
      rw [ricePut_no hk2] at h
      subst h
      have e : out = [] := by rw [← hr]; rfl
      subst e
      rw [riceOk_yes (by simp) (by omega) (by simp)] at hk2
      cases hk2
  · rintro ⟨h1, h2, h3⟩
    rw [ricePut_yes (riceOk_yes (by simp; omega) (by omega) ?_), toNat_map, Int.toNat_natCast]
    · exact h3
    · intro i hi
      have hil : i < out.length := by simpa using hi
      have := h2 (out[i]) (List.getElem_mem hil)
      rw [List.getD_eq_getElem?_getD, List.getElem?_map, List.getElem?_eq_getElem hil]
      simp
      omega

set_option maxHeartbeats 1000000 in
set_option maxRecDepth 100000 in
theorem implRiceGet (s : ByteArray) (many k : Int) (w : World) :
    Calls Tryd.prog 33 #[.string s, .int .i64 many, .int .i64 k] w fun e w' => ∃ v, e = .returned (.tuple #[v, .bool (riceGet s.data.toList many k).isSome]) ∧ GotRow w.heap.size v w' (riceGet s.data.toList many k) ∧ Below w.heap.size w w' := by
  cases hok : getOk s.data.toList many k with
  | false =>
    have HG : Hid (riceGet s.data.toList many k = none) := riceGet_bad hok
    rw [HG.out]
    by_cases h1 : (600 : Int) < (s.size : Int)
    · clear hok
      go_enter Tryd.func33, Tryd.ntmps33
      go_wp2_with fail
      go_ret2
      exact ⟨_, rfl, rfl, Below.refl _ _⟩
    · by_cases h2 : many < 0
      · clear hok
        go_enter Tryd.func33, Tryd.ntmps33
        go_wp2_with fail
        go_ret2
        exact ⟨_, rfl, rfl, Below.refl _ _⟩
      · by_cases h3 : (40 : Int) < many
        · clear hok
          go_enter Tryd.func33, Tryd.ntmps33
          go_wp2_with fail
          go_ret2
          exact ⟨_, rfl, rfl, Below.refl _ _⟩
        · have h4 : bitsOk k = false := by
            cases hb : bitsOk k with
            | false => rfl
            | true =>
              have e1 : decide (0 ≤ many ∧ many ≤ 40) = true := decide_eq_true (by omega)
              have e2 : decide (0 ≤ k ∧ k ≤ 8) = true := hb
              have e3 : decide (s.data.toList.length ≤ 600) = true := decide_eq_true (by simp; omega)
              simp only [getOk, e1, e2, e3, Bool.and_self] at hok
              cases hok
          clear hok
          go_enter Tryd.func33, Tryd.ntmps33
          go_wp2_with (go_at_call 48; refine (bitsOkI _ _).mono ?_; rintro e w1 ⟨rfl, rfl⟩)
          go_ret2
          exact ⟨_, rfl, rfl, Below.refl _ _⟩
  | true =>
    have hok2 := hok
    simp only [getOk, Bool.and_eq_true, decide_eq_true_eq] at hok2
    obtain ⟨⟨⟨hm0, hm40⟩, hk0, hk8⟩, hs6⟩ := hok2
    have hb : bitsOk k = true := decide_eq_true ⟨hk0, hk8⟩
    have HOK : Hid (getOk s.data.toList many k = true) := hok
    have hs6' : s.size ≤ 600 := by simpa using hs6
    obtain ⟨mn, rfl⟩ := Int.eq_ofNat_of_zero_le hm0
    obtain ⟨kn, rfl⟩ := Int.eq_ofNat_of_zero_le hk0
    have hm2 : mn ≤ 40 := by omega
    have hk2 : kn ≤ 8 := by omega
    have h1 : ¬ (600 : Int) < (s.size : Int) := by omega
    have h2 : ¬ (mn : Int) < 0 := by omega
    have h3 : ¬ (40 : Int) < (mn : Int) := by omega
    clear hok hs6
    go_enter Tryd.func33, Tryd.ntmps33
    go_wp2_with first
      | (go_at_call 48; refine (bitsOkI _ _).mono ?_; rintro e w1 ⟨rfl, rfl⟩)
    refine (implNumbers s mn kn _ hs6' hm2 hk2).mono ?_
    rintro e w1 ⟨v, rfl, hrow, hb1⟩
    obtain ⟨out, hout⟩ : ∃ out, readT kn mn (unpack s.data.toList) (0, false, 0) [] = out := ⟨_, rfl⟩
    rw [hout] at hrow
    obtain ⟨g, cap, rfl⟩ := hrow.1
    have HR : Hid (OutRow w.heap.size (.slice (some ⟨g, 0, none⟩) out.length cap) out w1) := hrow
    have HB1 : Hid (Below w.heap.size w w1) := hb1
    have HO : Hid (readT kn mn (unpack s.data.toList) (0, false, 0) [] = out) := hout
    clear hrow hb1 hout
    by_cases hl : out.length = mn
    · have hq : ((out.length : Nat) : Int) = ((mn : Nat) : Int) := by omega
      have HL : Hid (out.length = mn) := hl
      have HAT : Hid (At w1 g (out.map fun n : Nat => (n : Int))) := outRow_at HR.out
      clear hl
      have HPW := put_writes hk2 hm2 HL.out HO.out
      obtain ⟨pt, hpt⟩ : ∃ pt, ricePut (out.map fun n : Nat => (n : Int)) (kn : Int) = pt := ⟨_, rfl⟩
      have hput := implRicePut g out.length cap (out.map fun n : Nat => (n : Int)) (kn : Int) w1 HAT.out (by simp)
      rw [hpt] at hput HPW
      have HW : Hid (pt = s.data.toList ↔ Writes kn mn s.data.toList out) := HPW
      clear HPW hpt
      by_cases he : pt = s.data.toList
      · have hee : (pt == s.toList) = true := by rw [ByteArray.toList_eq]; simpa using he
        have HG : Hid (riceGet s.data.toList (mn : Int) (kn : Int) = some out) := riceGet_yes HOK.out (HW.out.1 he)
        clear he
        go_wp2_with (go_at_call 50; refine hput.mono ?_; rintro e w2 ⟨rfl, hb2⟩)
        go_ret2
        rw [HG.out]
        refine ⟨_, rfl, ⟨HR.out.1, ownsRow_keep HR.out.2 (fun g' hg' => ?_)⟩, HB1.out.trans (hb2.mono HB1.out.size)⟩
        obtain ⟨cur, hc, hlt⟩ := ownsRow_type HR.out.2 g' hg'
        exact hb2.block g' hlt
      · have hee : (pt == s.toList) = false := by rw [ByteArray.toList_eq]; simpa using he
        have HG : Hid (riceGet s.data.toList (mn : Int) (kn : Int) = none) := riceGet_no (fun l hl' => by
          have hl2 : Writes kn mn s.data.toList l := hl'
          have h1 := writes_one hl2
          rw [HO.out] at h1
          subst h1
          exact he (HW.out.2 hl2))
        clear he
        go_wp2_with (go_at_call 50; refine hput.mono ?_; rintro e w2 ⟨rfl, hb2⟩)
        go_ret2
        rw [HG.out]
        exact ⟨_, rfl, rfl, HB1.out.trans (hb2.mono HB1.out.size)⟩
    · have hq : ¬ ((out.length : Nat) : Int) = ((mn : Nat) : Int) := by omega
      have HG : Hid (riceGet s.data.toList (mn : Int) (kn : Int) = none) := riceGet_no (fun l hl' => by
        have hl2 : Writes kn mn s.data.toList l := hl'
        have := writes_one hl2
        rw [HO.out] at this
        subst this
        exact hl hl2.1)
      clear hl
      go_wp2_with fail
      go_ret2
      rw [HG.out]
      exact ⟨_, rfl, rfl, HB1.out⟩

end Go.Proofs.YtcaejndpmagfaaaDoor

set_option linter.unusedVariables false
namespace Go.Proofs.YtcaejndpmagfaaaDoor
open Go.Shelf Go.RowKit

theorem sizeBuilder : (Tryd.prog.info? 79).map (fun i => i.size) = some 2 := by kernel_rfl
theorem liesBuilder : liesAt Tryd.prog Tryd.prog.depth 79 (2 / Tryd.prog.cellsOf 79) 0 79 1 = true := by kernel_rfl
theorem infoByte : (Tryd.prog.info? 5).map (fun i => (i.zero, i.size, i.bytes)) = some (some (.int .u8 0), 1, 1) := by kernel_rfl

set_option maxHeartbeats 1000000 in
set_option maxRecDepth 100000 in
theorem copyCheck_used (b : Nat) (w : World) (h0 : w.cell? ⟨b, 0, none⟩ = some (.pointer (some ⟨b, 0, none⟩))) :
    Calls Tryd.prog 85 #[.pointer (some ⟨b, 0, none⟩)] w fun e w' => e = .returned (.tuple #[]) ∧ w' = w := by
  obtain ⟨j, hj, _⟩ := Option.map_eq_some_iff.1 sizeBuilder
  go_enter Tryd.func85, Tryd.ntmps85
  go_wp2
  rw [Lib.run_neq_ptr_same w _ Tryd.underlying77 hj]
  go_wp2
  go_end0
  exact ⟨rfl, rfl⟩

set_option maxHeartbeats 1000000 in
set_option maxRecDepth 100000 in
theorem copyCheck_fresh (b : Nat) (w : World) (h0 : w.cell? ⟨b, 0, none⟩ = some (.pointer none)) (hsh : w.shape? b = some (79, 2)) (hfz : w.frozen? ⟨b, 0, none⟩ = false) :
    Calls Tryd.prog 85 #[.pointer (some ⟨b, 0, none⟩)] w fun e w' => e = .returned (.tuple #[]) ∧ w' = w.setCell ⟨b, 0, none⟩ (.pointer (some ⟨b, 0, none⟩)) := by
  obtain ⟨j, hj, hjs⟩ := Option.map_eq_some_iff.1 sizeBuilder
  go_enter Tryd.func85, Tryd.ntmps85
  go_wp2
  rw [Lib.run_to_unsafe w ⟨b, 0, none⟩ Tryd.underlying77 Tryd.underlying112 hj (by rw [hjs]; decide) hsh (Nat.zero_lt_succ 1)]
  simp only [Result.andThen]
  rw [Oper.upon_value]
  go_wp2
  rw [run_callFunc_extern Tryd.func94 (by kernel_rfl) (by kernel_rfl) (by kernel_rfl) (e := Extern.AbiNoEscape.same) (by kernel_rfl)]
  rw [Lib.run_noEscape]
  simp only [Result.andThen]
  rw [Oper.upon_value]
  go_wp2
  rw [Lib.run_from_unsafe w ⟨b, 0, none⟩ Tryd.underlying112 Tryd.underlying77 hj hsh liesBuilder]
  simp only [Result.andThen]
  rw [Oper.upon_value]
  go_wp2
  go_end0
  exact ⟨rfl, rfl⟩

theorem copyCheck_any (B b : Nat) (bs : List Value) (w : World) (h : Lib.IsBuilderF 79 5 B b bs w) :
    Calls Tryd.prog 85 #[.pointer (some ⟨b, 0, none⟩)] w fun e w' => e = .returned (.tuple #[]) ∧ (Lib.BuilderAtF 79 5 B b (.pointer (some ⟨b, 0, none⟩)) bs w' ∧ Below B w w' ∧ Lib.OthersKept 5 (some b) w w') := by
  rcases h with h | h
  · refine (copyCheck_fresh b w h.cell0 h.shape h.frozen0).mono ?_
    rintro e w' ⟨rfl, rfl⟩
    exact ⟨rfl, h.used _, (Below.refl B w).setCell (p := ⟨b, 0, none⟩) h.1 _, (Lib.OthersKept.refl _ _ w).setCell ⟨b, 0, none⟩ rfl _⟩
  · refine (copyCheck_used b w h.cell0).mono ?_
    rintro e w' ⟨rfl, rfl⟩
    exact ⟨rfl, h, Below.refl B _, Lib.OthersKept.refl _ _ _⟩

set_option maxHeartbeats 2000000 in
set_option maxRecDepth 100000 in
theorem writeByte (B b : Nat) (bs : List Value) (c : Int) (w : World) (h : Lib.IsBuilderF 79 5 B b bs w) (hlen : bs.length + 1 ≤ 140737488355328) (hBw : B ≤ w.heap.size) :
    Calls Tryd.prog 62 #[.pointer (some ⟨b, 0, none⟩), .int .u8 c] w fun e w' => e = .returned .nilIface ∧ (Lib.IsBuilderF 79 5 B b (bs ++ [.int .u8 c]) w' ∧ Below B w w' ∧ Lib.OthersKept 5 (some b) w w') := by
  obtain ⟨i0, hi, hz0, hz1, hz2⟩ := info_parts infoByte
  go_enter Tryd.func62, Tryd.ntmps62
  go_wp2_with (go_at_call 85; refine (copyCheck_any B b bs _ h).mono ?_)
  rintro e w1 ⟨rfl, h1, hb1, hk1⟩
  obtain ⟨hB, v, hbk, hown, hne⟩ := h1
  have c0 : w1.cell? ⟨b, 0, none⟩ = some (.pointer (some ⟨b, 0, none⟩)) := by rw [Lib.cell_of_heap hbk]; rfl
  have c1 : w1.cell? ⟨b, 1, none⟩ = some v := by rw [Lib.cell_of_heap hbk]; rfl
  go_wp2_with (at_builtin; refine wpList_append_ownF _ rfl _ _ 28 rfl B 5 i0 (.int .u8 0) 1 1 Tryd.underlying28 hi hz0 hz1 hz2 rfl (by decide) _ _ _ rfl (hown.alloc _) ⟨w1.heap.size, 0, none⟩ 1 1 [.int .u8 c] rfl rfl ?c1 ?c2 ?c3 ?c4 ?c5 ?_)
  case c1 =>
    intro j u hj
    match j, hj with
    | 0, hj => simp at hj; subst hj; simp [Addr.add]
  case c2 => intro u hu; simp at hu; subst hu; rfl
  case c3 => unfold maxLen; omega
  case c4 => omega
  case c5 => have := hb1.size; simp; omega
  intro v' w2 hown' hgrow _
  have hlt : b < w1.heap.size := by
    rcases Nat.lt_or_ge b w1.heap.size with h' | h'
    · exact h'
    · simp [Array.getElem?_eq_none h'] at hbk
  have hb2 : w2.heap[b]? = some (.cells #[.pointer (some ⟨b, 0, none⟩), v] 79 (0, 0)) := by
    rw [hgrow.block b (by simp; omega) (fun e => hne e.symm), Lib.alloc_old w1 _ b hlt]
    exact hbk
  have d0 : w2.cell? ⟨b, 0, none⟩ = some (.pointer (some ⟨b, 0, none⟩)) := by rw [Lib.cell_of_heap hb2]; rfl
  have d1 : w2.cell? ⟨b, 1, none⟩ = some v := by rw [Lib.cell_of_heap hb2]; rfl
  have f1 : w2.frozen? ⟨b, 1, none⟩ = false := Lib.frozen_of_heap hb2 1
  obtain ⟨g, cap, rfl⟩ : ∃ g cap, v' = .slice (some ⟨g, 0, none⟩) (bs.length + 1) cap := by
    rcases hown'.2 with ⟨_, h0⟩ | ⟨g, cap, cur, fz, hv, _⟩
    · omega
    · exact ⟨g, cap, hv⟩
  go_wp2
  go_ret
  refine ⟨rfl, Or.inr ?_, ?_, ((hk1.alloc _).grown hgrow (Lib.ownsRowF_kind (hown.alloc _))).setCell ⟨b, 1, none⟩ rfl _⟩
  · exact Lib.BuilderAtF.put (T := 79) (e := 5) hB hb2 (bs' := bs ++ [.int .u8 c]) (by simpa using hown') (by decide)
  · exact ((hb1.alloc (by have := hb1.size; omega) _).grown hgrow (by have := hb1.size; simp; omega) (fun k hk => (hown.lt k hk).1)).setCell (p := ⟨b, 1, none⟩) hB _

end Go.Proofs.YtcaejndpmagfaaaDoor

set_option linter.unusedVariables false
namespace Go.Proofs.YtcaejndpmagfaaaDoor
open Go.Shelf Go.RowKit

set_option maxHeartbeats 1000000 in
set_option maxRecDepth 100000 in
theorem implVarPut_no (n : Int) (w : World) (h : n < 0 ∨ 2147483647 < n) :
    Calls Tryd.prog 47 #[.int .i64 n] w fun e w' => e = .returned (.string ⟨#[]⟩) ∧ Below w.heap.size w w' := by
  rcases h with h | h
  · go_enter Tryd.func47, Tryd.ntmps47
    go_wp2
    go_ret
    exact ⟨rfl, Below.refl _ _⟩
  · have h' : ¬ n < 0 := by omega
    go_enter Tryd.func47, Tryd.ntmps47
    go_wp2
    go_ret
    exact ⟨rfl, Below.refl _ _⟩

set_option maxHeartbeats 2000000 in
set_option maxRecDepth 100000 in
theorem implVarPut_yes (n : Nat) (w : World) (h : n ≤ 2147483647) :
    Calls Tryd.prog 47 #[.int .i64 n] w fun e w' => e = .returned (.string ⟨(varB 4 n).toArray⟩) ∧ Below w.heap.size w w' := by
  have h0 : ¬ (n : Int) < 0 := by omega
  have h1 : ¬ (2147483647 : Int) < n := by omega
  go_enter Tryd.func47, Tryd.ntmps47
  go_wp2
  go_loopw [0] (fun v wr => ∃ (m f : Nat) (acc : List UInt8), v = .int .i64 m ∧ m ≤ n ∧ m < 128 ^ (f + 1) ∧ f ≤ 4 ∧ acc.length + f = 4 ∧ acc ++ varB f m = varB 4 n ∧ Lib.IsBuilderF 79 5 w.heap.size w.heap.size (Lib.byteCells acc) wr ∧ Below w.heap.size w wr) (fun v _ => (intOf v).toNat)
  case atStart =>
    exact ⟨n, 4, [], rfl, Nat.le_refl _, by omega, by omega, rfl, rfl, Lib.IsBuilderF.of (Lib.fresh_isBuilder 79 5 w), (Below.refl _ w).alloc (Nat.le_refl _) _⟩
  case round =>
    obtain ⟨m, f, acc, rfl, hm, hf, hf4, hacc, heq, hI, hbw⟩ := hrel
    have hsz := hbw.size
    by_cases hlt : m < 128
    · have h2 : (m : Int) < 128 := by omega
      go_wp2_with fail
      refine (writeByte _ _ _ _ _ hI (by rw [Lib.byteCells_length]; omega) hsz).mono ?_
      rintro e w1 ⟨rfl, h1, b1, k1⟩
      rw [byteCells_snoc acc _ m (by omega) (by omega)] at h1
      go_wp2_with fail
      refine (Tryd.Builder_String_any_k _ _ _ _ h1 (by have := b1.size; omega)).mono ?_
      rintro e w2 ⟨rfl, _, b2, _⟩
      go_wp2
      go_ret
      rw [varB_small f m hlt] at heq
      rw [heq]
      exact ⟨rfl, (hbw.trans b1).trans b2⟩
    · have h2 : ¬ (m : Int) < 128 := by omega
      obtain ⟨g, rfl⟩ : ∃ g, f = g + 1 := by
        cases f with
        | zero => omega
        | succ g => exact ⟨g, rfl⟩
      go_wp2_with fail
      refine (writeByte _ _ _ _ _ hI (by rw [Lib.byteCells_length]; omega) hsz).mono ?_
      rintro e w1 ⟨rfl, h1, b1, k1⟩
      rw [byteCells_snoc acc _ (128 + m % 128) (by omega) (by omega)] at h1
      go_wp2
      go_roundw
      case rel =>
        refine ⟨m / 128, g, acc ++ [UInt8.ofNat (128 + m % 128)], by go_num, by omega, ?_, by omega, by simp; omega, ?_, h1, hbw.trans b1⟩
        · have : 128 ^ (g + 1 + 1) = 128 ^ (g + 1) * 128 := Nat.pow_succ ..
          omega
        · rw [← heq, varB_step g m hlt]; simp
      case measure => simp [intOf]; omega

end Go.Proofs.YtcaejndpmagfaaaDoor

set_option linter.unusedVariables false
namespace Go.Proofs.YtcaejndpmagfaaaDoor
open Go.RowKit

theorem implVarPut (n : Int) (w : World) :
    Calls Tryd.prog 47 #[.int .i64 n] w fun e w' => e = .returned (.string ⟨(varPut n).toArray⟩) ∧ Below w.heap.size w w' := by
  by_cases h : 0 ≤ n ∧ n ≤ 2147483647
  · obtain ⟨m, rfl⟩ := Int.eq_ofNat_of_zero_le h.1
    rw [varPut, if_pos h]
    exact implVarPut_yes m w (by omega)
  · rw [varPut, if_neg h]
    exact implVarPut_no n w (by omega)

end Go.Proofs.YtcaejndpmagfaaaDoor

set_option linter.unusedVariables false
namespace Go.Proofs.YtcaejndpmagfaaaDoor
open Go.RowKit

set_option maxHeartbeats 2000000 in
set_option maxRecDepth 100000 in
theorem implVarGet (s : ByteArray) (w : World) (hs : s.size ≤ maxLen) :
    Calls Tryd.prog 32 #[.string s] w fun e w' => e = .returned (.tuple #[.int .i64 (varGet s.data.toList).1, .int .i64 (varGet s.data.toList).2]) ∧ Below w.heap.size w w' := by
  unfold maxLen at hs
  go_enter Tryd.func32, Tryd.ntmps32
  go_wp2
  go_loopw [4, 5] (fun n i wr => ∃ k : Nat, k ≤ s.size ∧ k ≤ 5 ∧ i = .int .i64 k ∧ n = .int .i64 (vNum (s.data.toList.take k)) ∧ vg (5 - k) (s.data.toList.take k) (s.data.toList.drop k) = varGet s.data.toList ∧ Below w.heap.size w wr) (fun _ i _ => s.size - (intOf i).toNat)
  case atStart => exact ⟨0, by omega, by omega, rfl, rfl, rfl, Below.refl _ _⟩
  case round =>
    obtain ⟨k, hk, hk5, rfl, rfl, heq, hbw⟩ := hrel
    by_cases hlt : k < s.size ∧ k < 5
    · obtain ⟨hlt, h5⟩ := hlt
      have hor : bits .or .i64 (vNum (s.data.toList.take k) : Int) (wrap64 ((s[k].toNat : Int) % 128 * 2 ^ (7 * k))) = (vNum (s.data.toList.take (k + 1)) : Int) := by
        rw [take_snoc s k hlt, vNum_snoc, take_len s k hk]
        have := or_step (vNum (s.data.toList.take k)) (s[k].toNat % 128) k (by have := vNum_lt (s.data.toList.take k); rwa [take_len s k hk] at this) (by omega) h5
        simpa using this
      by_cases hb : 128 ≤ s[k].toNat
      · have hb' : (128 : Int) ≤ (s[k].toNat : Int) := by omega
        have HE : Hid (vg (5 - (k + 1)) (s.data.toList.take (k + 1)) (s.data.toList.drop (k + 1)) = varGet s.data.toList) := by rw [← vg_on s k hlt h5 hb]; exact heq
        clear heq
        go_wp2
        go_roundw
        case rel => exact ⟨k + 1, by omega, by omega, by go_num, rfl, HE.out, hbw⟩
        case measure => simp [intOf]; omega
      · have hb' : ¬ (128 : Int) ≤ (s[k].toNat : Int) := by omega
        have hw1 : IntKind.i64.wrap ((k : Int) + 1) = (k : Int) + 1 := by rw [IntKind.wrap_i64]; omega
        have hbd : 0 ≤ (k : Int) + 1 ∧ (k : Int) + 1 ≤ (s.size : Int) := by omega
        have hex : (s.extract 0 (k + 1)).toList = s.data.toList.take (k + 1) := by rw [Lib.extract_toList]; simp
        by_cases hp : varPut (vNum (s.data.toList.take (k + 1))) = s.data.toList.take (k + 1)
        · have HE : Hid (varGet s.data.toList = (vNum (s.data.toList.take (k + 1)), k + 1)) := by rw [← heq]; exact vg_yes s k hlt h5 hb hp
          have hcmp : (varPut (vNum (s.data.toList.take (k + 1))) == (s.extract 0 (k + 1)).toList) = true := by rw [hex, hp]; simp
          clear heq hex hp
          go_wp2_with fail
          go_region_with (go_at_call 47; refine (implVarPut _ _).mono ?_; rintro e w1 ⟨rfl, b1⟩)
          all_goals
            go_wp2
            go_ret2
            rw [HE.out]
            exact ⟨by simp, hbw.trans ((Below.drew (Below.refl _ wr)).trans b1 |>.mono hbw.size)⟩
        · have HE : Hid (varGet s.data.toList = (0, 0)) := by rw [← heq]; exact vg_no s k hlt h5 hb hp
          have hcmp : (varPut (vNum (s.data.toList.take (k + 1))) == (s.extract 0 (k + 1)).toList) = false := by rw [hex]; simpa using hp
          clear heq hex hp
          go_wp2_with fail
          go_region_with (go_at_call 47; refine (implVarPut _ _).mono ?_; rintro e w1 ⟨rfl, b1⟩)
          all_goals
            go_wp2
            go_ret2
            rw [HE.out]
            exact ⟨by simp, hbw.trans ((Below.drew (Below.refl _ wr)).trans b1 |>.mono hbw.size)⟩
    · have HE : Hid (varGet s.data.toList = (0, 0)) := by rw [← heq]; exact vg_end s k hlt
      clear heq
      by_cases hl : k < s.size
      · have h5 : ¬ k < 5 := fun h => hlt ⟨hl, h⟩
        clear hlt
        go_wp2
        go_ret2
        rw [HE.out]
        exact ⟨rfl, hbw⟩
      · clear hlt
        go_wp2
        go_ret2
        rw [HE.out]
        exact ⟨rfl, hbw⟩

end Go.Proofs.YtcaejndpmagfaaaDoor

namespace Go.Proofs.YtcaejndpmagfaaaDoor
open Go.RowKit

/-- Each the sum of all up to it. -/
def sumsF : Nat → List Nat → List Nat
  | _, [] => []
  | a, x :: r => (a + x) :: sumsF (a + x) r
def total (a : Nat) (l : List Nat) : Nat := l.foldl (· + ·) a
theorem total_cons (a x : Nat) (l : List Nat) : total a (x :: l) = total (a + x) l := rfl
theorem total_snoc (a x : Nat) (l : List Nat) : total a (l ++ [x]) = total a l + x := by simp [total]
theorem sumsF_length (l : List Nat) : ∀ a, (sumsF a l).length = l.length := by
  induction l with
  | nil => intro a; rfl
  | cons x r ih => intro a; simp [sumsF, ih]
theorem sumsF_snoc (l : List Nat) (x : Nat) : ∀ a, sumsF a (l ++ [x]) = sumsF a l ++ [total a l + x] := by
  induction l with
  | nil => intro a; rfl
  | cons y r ih => intro a; simp [sumsF, ih, total_cons]
theorem le_total (l : List Nat) : ∀ a, a ≤ total a l := by
  induction l with
  | nil => intro a; exact Nat.le_refl _
  | cons x r ih => intro a; rw [total_cons]; have := ih (a + x); omega
theorem sumsF_le (l : List Nat) : ∀ a, ∀ p ∈ sumsF a l, a ≤ p ∧ p ≤ total a l := by
  induction l with
  | nil => intro a p hp; cases hp
  | cons x r ih =>
    intro a p hp
    rw [total_cons]
    rcases List.mem_cons.1 hp with rfl | hp
    · exact ⟨by omega, le_total r _⟩
    · have := ih (a + x) p hp
      exact ⟨by omega, this.2⟩
theorem sumsF_last (l : List Nat) (h : l ≠ []) : ∀ a, total a l ∈ sumsF a l := by
  induction l with
  | nil => exact absurd rfl h
  | cons x r ih =>
    intro a
    cases r with
    | nil => simp [sumsF, total]
    | cons y t => exact List.mem_cons_of_mem _ (ih (by simp) (a + x))
theorem total_bound (l : List Nat) (h : ∀ x ∈ l, x ≤ 60000) : ∀ a, total a l ≤ a + 60000 * l.length := by
  induction l with
  | nil => intro a; exact Nat.le_refl _
  | cons x r ih =>
    intro a
    have h1 := ih (fun y hy => h y (by simp [hy])) (a + x)
    have h2 := h x (by simp)
    rw [total_cons, List.length_cons]
    omega

/-- Where the items fall, if all are below. -/
def placesOf (many : Nat) (gaps : List Nat) : Option (List Nat) := if total 0 gaps < many * 37 ∨ gaps = [] then some (sumsF 0 gaps) else none
noncomputable def filterGet (o : List UInt8) : Option (List Nat) :=
  if (varGet o).2 = 0 ∨ 600 < o.length then none
  else match riceGet (o.drop (varGet o).2) ((varGet o).1 : Int) 5 with
    | none => none
    | some gaps => placesOf (varGet o).1 gaps
theorem filterGet_bad {o : List UInt8} (h : (varGet o).2 = 0 ∨ 600 < o.length) : filterGet o = none := by rw [filterGet, if_pos h]
theorem filterGet_none {o : List UInt8} (h : riceGet (o.drop (varGet o).2) ((varGet o).1 : Int) 5 = none) : filterGet o = none := by
  unfold filterGet
  split
  · rfl
  · rw [h]
theorem filterGet_some {o : List UInt8} {gaps : List Nat} (h0 : ¬ ((varGet o).2 = 0 ∨ 600 < o.length)) (h : riceGet (o.drop (varGet o).2) ((varGet o).1 : Int) 5 = some gaps) : filterGet o = placesOf (varGet o).1 gaps := by
  rw [filterGet, if_neg h0, h]

theorem vg_size (f : Nat) : ∀ (l r : List UInt8), (vg f l r).2 ≤ l.length + r.length ∧ (vg f l r).2 ≤ l.length + f ∧ (vg f l r).1 ≤ 2147483647 := by
  induction f with
  | zero => intro l r; simp [vg]
  | succ f ih =>
    intro l r
    cases r with
    | nil => simp [vg]
    | cons b r =>
      rw [vg]
      split
      · have := ih (l ++ [b]) r
        simp at this ⊢
        omega
      · split
        · rename_i hb hv
          refine ⟨by simp, by simp, ?_⟩
          show vNum (l ++ [b]) ≤ 2147483647
          unfold varPut at hv
          split at hv
          · rename_i h
            omega
          · simp at hv
        · simp
theorem varGet_size (o : List UInt8) : (varGet o).2 ≤ o.length ∧ (varGet o).2 ≤ 5 ∧ (varGet o).1 ≤ 2147483647 := by
  have := vg_size 5 [] o
  simpa [varGet] using this

end Go.Proofs.YtcaejndpmagfaaaDoor

namespace Go.Proofs.YtcaejndpmagfaaaDoor
open Go.RowKit

theorem take_sums (l : List Nat) (i : Nat) (h : i < l.length) : sumsF 0 (l.take (i + 1)) = sumsF 0 (l.take i) ++ [total 0 (l.take i) + l.getD i 0] ∧ total 0 (l.take (i + 1)) = total 0 (l.take i) + l.getD i 0 := by
  have e : l.take (i + 1) = l.take i ++ [l.getD i 0] := by
    rw [List.take_add_one, List.getElem?_eq_getElem h, List.getD_eq_getElem?_getD, List.getElem?_eq_getElem h]
    rfl
  rw [e, sumsF_snoc, total_snoc]
  exact ⟨rfl, rfl⟩
theorem total_take_le (l : List Nat) (i : Nat) : total 0 (l.take i) ≤ total 0 l := by
  have e : total 0 l = total (total 0 (l.take i)) (l.drop i) := by
    rw [total, total, total, ← List.foldl_append, List.take_append_drop]
  rw [e]
  exact le_total _ _

end Go.Proofs.YtcaejndpmagfaaaDoor

set_option linter.unusedVariables false
namespace Go.Proofs.YtcaejndpmagfaaaDoor
open Go.Shelf Go.RowKit

set_option maxHeartbeats 1000000 in
set_option maxRecDepth 100000 in
theorem implFilterGet (s : ByteArray) (w : World) (hs : s.size ≤ maxLen) :
    Calls Tryd.prog 15 #[.string s] w fun e w' => ∃ v, e = .returned (.tuple #[v, .bool (filterGet s.data.toList).isSome]) ∧ GotRow w.heap.size v w' (filterGet s.data.toList) ∧ Below w.heap.size w w' := by
  obtain ⟨i0, hi, hz0, hz1, hz2⟩ := info_parts infoIntG
  have hvs := varGet_size s.data.toList
  obtain ⟨mn, sz, hvg⟩ : ∃ mn sz, varGet s.data.toList = (mn, sz) := ⟨_, _, rfl⟩
  have hget := implVarGet s w hs
  have hln : s.data.toList.length = s.size := by simp
  have HBAD : Hid ((sz = 0 ∨ 600 < s.size) → filterGet s.data.toList = none) := by
    intro h
    refine filterGet_bad ?_
    rw [hvg, hln]
    exact h
  have HNONE : Hid (riceGet (s.data.toList.drop sz) (mn : Int) 5 = none → filterGet s.data.toList = none) := by
    intro h
    refine filterGet_none ?_
    rw [hvg]
    exact h
  have HSOME : Hid (∀ gaps, ¬ (sz = 0 ∨ 600 < s.size) → riceGet (s.data.toList.drop sz) (mn : Int) 5 = some gaps → filterGet s.data.toList = placesOf mn gaps) := by
    intro gaps h0 h
    have := filterGet_some (o := s.data.toList) (gaps := gaps) (by rw [hvg, hln]; exact h0) (by rw [hvg]; exact h)
    rw [this, hvg]
  rw [hvg] at hvs hget
  rw [hln] at hvs
  dsimp only at hvs hget
  obtain ⟨hsz, hsz5, hmn⟩ := hvs
  clear hvg hln
  by_cases h0 : sz = 0
  · have HG : Hid (filterGet s.data.toList = none) := HBAD.out (.inl h0)
    rw [HG.out]
    subst h0
    go_enter Tryd.func15, Tryd.ntmps15
    go_wp2_with (go_at_call 32; refine hget.mono ?_; rintro e w1 ⟨rfl, b1⟩)
    go_ret2
    exact ⟨_, rfl, rfl, b1⟩
  · have hne : (((sz : Nat) : Int) == 0) = false := by simp; omega
    by_cases h6 : (600 : Int) < (s.size : Int)
    · have HG : Hid (filterGet s.data.toList = none) := HBAD.out (.inr (by omega))
      rw [HG.out]
      go_enter Tryd.func15, Tryd.ntmps15
      go_wp2_with (go_at_call 32; refine hget.mono ?_; rintro e w1 ⟨rfl, b1⟩)
      go_ret2
      exact ⟨_, rfl, rfl, b1⟩
    · have HOK : Hid (¬ (sz = 0 ∨ 600 < s.size)) := by show ¬ _; omega
      have hbd : 0 ≤ (sz : Int) ∧ (sz : Int) ≤ (s.size : Int) := by omega
      have hex : (s.extract sz s.size).data.toList = s.data.toList.drop sz := by
        simp
        exact List.take_of_length_le (by simp)
      have hrg := fun w => implRiceGet (s.extract sz s.size) (mn : Int) 5 w
      rw [hex] at hrg
      cases hr : riceGet (s.data.toList.drop sz) (mn : Int) 5 with
      | none =>
        have HG : Hid (filterGet s.data.toList = none) := HNONE.out hr
        rw [HG.out]
        rw [hr] at hrg
        dsimp only [Option.isSome] at hrg
        clear hr hex
        go_enter Tryd.func15, Tryd.ntmps15
        go_wp2_with first
          | (go_at_call 32; refine hget.mono ?_; rintro e w1 ⟨rfl, b1⟩)
          | (go_at_call 33; refine (hrg _).mono ?_; rintro e w2 ⟨v2, rfl, g2, b2⟩; obtain rfl : v2 = .slice none 0 0 := g2)
        go_ret2
        exact ⟨_, rfl, rfl, b1.trans (b2.mono b1.size)⟩
      | some gaps =>
        have HG : Hid (filterGet s.data.toList = placesOf mn gaps) := HSOME.out gaps HOK.out hr
        rw [HG.out]
        rw [hr] at hrg
        have hgs := riceGet_some hr
        have HGB : Hid (∀ i, gaps.getD i 0 ≤ 60000) := by
          intro i
          rcases Nat.lt_or_ge i gaps.length with h' | h'
          · rw [List.getD_eq_getElem?_getD, List.getElem?_eq_getElem h']
            exact hgs.2.2.1 _ (List.getElem_mem h')
          · rw [List.getD_eq_getElem?_getD, List.getElem?_eq_none h']
            exact Nat.zero_le _
        have hm40 : mn ≤ 40 ∧ gaps.length = mn := by
          have h1 := hgs.1
          simp only [getOk, Bool.and_eq_true, decide_eq_true_eq] at h1
          have h2 := hgs.2.1
          exact ⟨by omega, by simpa using h2⟩
        obtain ⟨hm40, hgl⟩ := hm40
        have HT : Hid (∀ i, total 0 (gaps.take i) ≤ 2400000) := by
          intro i
          refine Nat.le_trans (total_take_le gaps i) (Nat.le_trans (total_bound gaps hgs.2.2.1 0) ?_)
          omega
        have HGL : Hid (gaps.length = mn) := hgl
        dsimp only [Option.isSome] at hrg
        have hmk := makeCap mn (by omega)
        clear hr hex hgs hgl HNONE HSOME HBAD
        go_enter Tryd.func15, Tryd.ntmps15
        go_wp2_with first
          | (go_at_call 32; refine hget.mono ?_; rintro e w1 ⟨rfl, b1⟩)
          | (go_at_call 33; refine (hrg _).mono ?_; rintro e w2 ⟨v2, rfl, g2, b2⟩; obtain ⟨gg, c2, rfl⟩ := g2.1)
        have HG2 : Hid (OutRow w1.heap.size (.slice (some ⟨gg, 0, none⟩) gaps.length c2) gaps w2) := g2
        have HB2 : Hid (Below w.heap.size w w2) := b1.trans (b2.mono b1.size)
        have HL2 : Hid (gg < w2.heap.size) := g2.lt.2
        have HAT : Hid (At w2 gg (gaps.map fun n : Nat => (n : Int))) := outRow_at g2
        rw [HGL.out]
        have HW3 : Hid (OutRow w2.heap.size (.slice (some ⟨w2.heap.size, 0, none⟩) 0 mn) (sumsF 0 (gaps.take 0)) (w2.alloc (.cells (madeCells #[.int .i64 0] mn) 3))) :=
          ⟨⟨_, _, rfl⟩, rfl, .inr ⟨_, _, _, rfl, Nat.le_refl _, World.alloc_heap_new w2 _, Nat.zero_le _, by unfold maxLen; omega, by rw [madeCells_size0]; omega, rfl⟩⟩
        have HB3 : Hid (Below w2.heap.size w2 (w2.alloc (.cells (madeCells #[.int .i64 0] mn) 3))) := (Below.refl _ w2).alloc (Nat.le_refl _) _
        clear b1 b2 g2 hget hrg hmk
        go_loopw [8, 9, 38] (fun v p i wr => ∃ (k q : Nat), k ≤ mn ∧ q ≤ 2400000 ∧ i = .int .i64 (k : Int) ∧ p = .int .i64 (q : Int) ∧ Hid (q = total 0 (gaps.take k)) ∧ Hid (k = 0 ∨ q < mn * 37) ∧ Hid (OutRow w2.heap.size v (sumsF 0 (gaps.take k)) wr) ∧ Hid (Below w2.heap.size w2 wr)) (fun _ _ i _ => mn - (intOf i).toNat)
        case atStart => exact ⟨0, 0, by omega, by omega, rfl, rfl, rfl, .inl rfl, HW3, HB3⟩
        case round =>
          clear HW3 HB3
          obtain ⟨k, q, hk, hq, rfl, rfl, HQ, HLT, HR, HB⟩ := hrel
          obtain ⟨⟨g3, c3, rfl⟩, hrow⟩ := HR.out
          by_cases hlt : k < mn
          · obtain ⟨x, hx⟩ : ∃ x, x = gaps.getD k 0 := ⟨_, rfl⟩
            have hkg : k < gaps.length := by rw [HGL.out]; exact hlt
            have hst := take_sums gaps k hkg
            have hx6 : x ≤ 60000 := by rw [hx]; exact HGB.out k
            have hq2 : q + x ≤ 2400000 := by have := HT.out (k + 1); rw [hst.2, ← HQ.out, ← hx] at this; exact this
            have cx : wr.cell? ⟨gg, k, none⟩ = some (.int .i64 (x : Int)) := by
              rw [HB.out.cell (p := ⟨gg, k, none⟩) HL2.out, HAT.out.2 k (by simpa using hkg), hx, List.getD_eq_getElem?_getD, List.getElem?_map, List.getD_eq_getElem?_getD, List.getElem?_eq_getElem hkg]
              rfl
            have HS : Hid (sumsF 0 (gaps.take (k + 1)) = sumsF 0 (gaps.take k) ++ [q + x] ∧ q + x = total 0 (gaps.take (k + 1))) := by rw [hst.1, hst.2, ← HQ.out, ← hx]; exact ⟨rfl, rfl⟩
            have HKG : Hid (k < gaps.length) := hkg
            have lk : (k : Int) < (mn : Int) := by omega
            have hlen : (sumsF 0 (gaps.take k)).length = k := by rw [sumsF_length]; simp; omega
            rw [hlen] at hrow HR
            have HRW : Hid (wr.ownsRow w2.heap.size 3 1 (.slice (some ⟨g3, 0, none⟩) k c3) k (intCells (sumsF 0 (gaps.take k)))) := hrow
            have hszr := HB.out.size
            rw [hlen]
            clear hx hst hkg hrow hlen
            by_cases hge : mn * 37 ≤ q + x
            · have hge' : (mn : Int) * 37 ≤ (q : Int) + (x : Int) := by omega
              have HG3 : Hid (placesOf mn gaps = none) := by
                show _ = _
                unfold placesOf
                have h1 := total_take_le gaps (k + 1)
                rw [← HS.out.2] at h1
                have h2 : gaps ≠ [] := by intro e; have := HKG.out; rw [e] at this; cases this
                rw [if_neg]
                rintro (h | h)
                · omega
                · exact h2 h
              clear hge
              go_wp2_with fail
              go_ret2
              rw [HG3.out]
              exact ⟨_, rfl, rfl, HB2.out.trans (HB.out.mono HB2.out.size)⟩
            · have hge' : ¬ (mn : Int) * 37 ≤ (q : Int) + (x : Int) := by omega
              have HGE : Hid (q + x < mn * 37) := Nat.lt_of_not_le hge
              clear hge
              have HK : Hid (k + 1 ≤ mn) := hlt
              have hx1 : k + 1 ≤ maxLen := by unfold maxLen; omega
              have hx2 : (k + 1) * 8 ≤ 140737488355328 := by omega
              go_wp2_with (at_builtin; refine wp_app1 rfl _ _ 31 rfl w2.heap.size 3 i0 (.int .i64 0) 8 Tryd.underlying31 hi hz0 hz1 hz2 rfl _ _ _ rfl HRW.out (.int .i64 ((q + x : Nat) : Int)) rfl rfl hx1 hx2 hszr ?_; intro g4 c4 w4 hown4 hb4 _)
              go_roundw
              case rel =>
                refine ⟨k + 1, q + x, HK.out, hq2, by go_num, by go_num, HS.out.2, .inr HGE.out, ⟨⟨g4, c4, ?_⟩, ?_⟩, HB.out.trans hb4⟩
                · rw [sumsF_length, List.length_take, Nat.min_eq_left (by have := HKG.out; omega)]
                · rw [sumsF_length, List.length_take, Nat.min_eq_left (by have := HKG.out; omega), HS.out.1]
                  simpa [intCells] using hown4
              case measure => have := HK.out; simp [intOf]; omega
          · obtain rfl : k = mn := by omega
            have HP : Hid (placesOf k gaps = some (sumsF 0 gaps)) := by
              show _ = _
              unfold placesOf
              have e : gaps.take k = gaps := List.take_of_length_le (by rw [HGL.out]; exact Nat.le_refl _)
              have h1 := HQ.out
              rw [e] at h1
              rw [if_pos]
              rcases HLT.out with h | h
              · right
                exact List.length_eq_zero_iff.1 (by rw [HGL.out]; exact h)
              · left
                rw [← h1]
                exact h
            have HR2 : Hid (OutRow w2.heap.size (.slice (some ⟨g3, 0, none⟩) (sumsF 0 (gaps.take k)).length c3) (sumsF 0 gaps) wr) := by
              have := HR.out
              rw [List.take_of_length_le (by rw [HGL.out]; exact Nat.le_refl _)] at this ⊢
              exact this
            clear hrow
            go_wp2_with fail
            go_ret2
            rw [HP.out]
            exact ⟨_, rfl, ⟨HR2.out.1, ownsRow_mono HR2.out.2 HB2.out.size⟩, HB2.out.trans (HB.out.mono HB2.out.size)⟩

end Go.Proofs.YtcaejndpmagfaaaDoor

set_option linter.unusedVariables false
namespace Go.Proofs.YtcaejndpmagfaaaDoor
open Go.RowKit

set_option maxHeartbeats 2000000 in
set_option maxRecDepth 100000 in
theorem specGet (s : ByteArray) (w : World) (hs : s.size ≤ maxLen) :
    Calls Tryd.prog 55 #[.string s] w fun e w' => e = .returned (.tuple #[.int .i64 (varGet s.data.toList).1, .int .i64 (varGet s.data.toList).2]) ∧ w = w' := by
  unfold maxLen at hs
  go_enter Tryd.func55, Tryd.ntmps55
  go_wp2
  go_loop [4, 5, 6] (fun n b i => ∃ k p v : Nat, k ≤ s.size ∧ k ≤ 5 ∧ i = .int .i64 k ∧ n = .int .i64 v ∧ b = .int .i64 p ∧ Hid (p = 128 ^ k) ∧ Hid (v = vNum (s.data.toList.take k)) ∧ (∀ c ∈ s.data.toList.take k, 128 ≤ c.toNat) ∧ Hid (vg (5 - k) (s.data.toList.take k) (s.data.toList.drop k) = varGet s.data.toList)) (fun _ _ i => s.size - (intOf i).toNat)
  case atStart => exact ⟨0, 1, 0, by omega, by omega, rfl, rfl, rfl, rfl, rfl, by simp, rfl⟩
  case round =>
    obtain ⟨k, p, v, hk, hk5, rfl, rfl, rfl, HP, HV, hall, heq⟩ := hrel
    have hlen := take_len s k hk
    have hvlt : v < p := by rw [HP.out, HV.out]; have := vNum_lt (s.data.toList.take k); rwa [hlen] at this
    by_cases hlt : k < s.size ∧ k < 5
    · obtain ⟨hlt, h5⟩ := hlt
      have hby : (s[k].toNat : Int) < 256 := by have := s[k].toNat_lt; omega
      have hp1 : p ≤ 268435456 := by rw [HP.out]; exact Nat.pow_le_pow_right (by decide) (show k ≤ 4 by omega)
      obtain ⟨q, hq⟩ : ∃ q, q = s[k].toNat % 128 * p := ⟨_, rfl⟩
      have hq1 : q ≤ 127 * 268435456 := by rw [hq]; exact Nat.mul_le_mul (by omega) hp1
      have hmul : wrap64 ((s[k].toNat : Int) % 128 * (p : Int)) = (q : Int) := by
        have : (s[k].toNat : Int) % 128 * (p : Int) = (q : Int) := by rw [hq]; simp
        rw [this]; unfold wrap64; omega
      have HV1 : Hid (v + q = vNum (s.data.toList.take (k + 1))) := by
        have : v + q = vNum (s.data.toList.take (k + 1)) := by rw [take_snoc s k hlt, vNum_snoc, hlen, ← HV.out, hq, HP.out]
        exact this
      have HP1 : Hid (p * 128 = 128 ^ (k + 1)) := by
        have : p * 128 = 128 ^ (k + 1) := by rw [Nat.pow_succ, ← HP.out]
        exact this
      clear hq
      by_cases hb : 128 ≤ s[k].toNat
      · have hb' : ¬ (s[k].toNat : Int) < 128 := by omega
        have HE : Hid (vg (5 - (k + 1)) (s.data.toList.take (k + 1)) (s.data.toList.drop (k + 1)) = varGet s.data.toList) := by
          have := heq.out
          rw [vg_on s k hlt h5 hb] at this; exact this
        have HA : Hid (∀ c ∈ s.data.toList.take (k + 1), 128 ≤ c.toNat) := by
          intro c hc
          rw [take_snoc s k hlt] at hc
          rcases List.mem_append.1 hc with hc | hc
          · exact hall c hc
          · simp at hc; subst hc; exact hb
        clear heq hall
        go_wp2
        go_round
        case rel => exact ⟨k + 1, p * 128, v + q, by omega, by omega, by go_num, by go_num, by go_num, HP1, HV1, HA, HE⟩
        case measure => simp [intOf]; omega
      · have hb' : (s[k].toNat : Int) < 128 := by omega
        have hends : vEnds (s.data.toList.take k) s[k] := ⟨hall, by omega⟩
        have hiff := varPut_vNum _ _ hends (by omega)
        rw [← take_snoc s k hlt, ← HV1.out] at hiff
        by_cases hp : (s.data.toList.take k = [] ∨ s[k] ≠ 0) ∧ v + q ≤ 2147483647
        · have hpp := hiff.2 hp
          have HE : Hid (varGet s.data.toList = (v + q, k + 1)) := by
            have := heq.out
            rw [vg_yes s k hlt h5 hb (by rw [← HV1.out]; rw [HV1.out] at hpp ⊢; exact hpp), ← HV1.out] at this; exact this.symm
          have h31 : ¬ (2147483647 : Int) < (v : Int) + (q : Int) := by omega
          by_cases hk0 : k = 0
          · subst hk0
            clear heq hall hiff hpp hends
            go_wp2
            go_ret2
            rw [HE.out]
            exact ⟨by simp, rfl⟩
          · have hk1 : (0 : Int) < (k : Int) := by omega
            have hne : ((s[k].toNat : Int) == 0) = false := by
              rcases hp.1 with h0 | h0
              · rw [h0] at hlen; simp at hlen; omega
              · simp
                intro h1
                exact h0 (UInt8.toNat.inj (by simpa using h1))
            clear heq hall hiff hpp hends hp
            go_wp2
            go_ret2
            rw [HE.out]
            exact ⟨by simp, rfl⟩
        · have HE : Hid (varGet s.data.toList = (0, 0)) := by
            have := heq.out
            rw [vg_no s k hlt h5 hb (by rw [← HV1.out]; intro hh; rw [HV1.out] at hh hp hiff; exact hp (hiff.1 hh))] at this; exact this.symm
          by_cases h31 : v + q ≤ 2147483647
          · have h31' : ¬ (2147483647 : Int) < (v : Int) + (q : Int) := by omega
            have hk0 : ¬ k = 0 := by
              intro hk0
              exact hp ⟨Or.inl (List.length_eq_zero_iff.1 (by omega)), h31⟩
            have hk1 : (0 : Int) < (k : Int) := by omega
            have he0 : ((s[k].toNat : Int) == 0) = true := by
              by_cases hz : s[k] = 0
              · simp [hz]
              · exact absurd ⟨Or.inr hz, h31⟩ hp
            clear heq hall hiff hends hp
            go_wp2
            go_ret2
            rw [HE.out]
            exact ⟨rfl, rfl⟩
          · have h31' : (2147483647 : Int) < (v : Int) + (q : Int) := by omega
            clear heq hall hiff hends hp
            by_cases hk0 : k = 0
            · subst hk0
              go_wp2
              go_ret2
              rw [HE.out]
              exact ⟨rfl, rfl⟩
            · have hk1 : (0 : Int) < (k : Int) := by omega
              by_cases he0 : ((s[k].toNat : Int) == 0) = true
              · go_wp2
                go_ret2
                rw [HE.out]
                exact ⟨rfl, rfl⟩
              · have he1 : ((s[k].toNat : Int) == 0) = false := by simpa using he0
                clear he0
                go_wp2
                go_ret2
                rw [HE.out]
                exact ⟨rfl, rfl⟩
    · have HE : Hid (varGet s.data.toList = (0, 0)) := by rw [← heq.out]; exact vg_end s k hlt
      clear heq hall
      by_cases hl : k < s.size
      · have h5 : ¬ k < 5 := fun h => hlt ⟨hl, h⟩
        clear hlt
        go_wp2
        go_ret2
        rw [HE.out]
        exact ⟨rfl, rfl⟩
      · clear hlt
        go_wp2
        go_ret2
        rw [HE.out]
        exact ⟨rfl, rfl⟩

end Go.Proofs.YtcaejndpmagfaaaDoor

set_option linter.unusedVariables false
namespace Go.Proofs.YtcaejndpmagfaaaDoor
open Go.Shelf Go.RowKit

/-- How many a filter tells, if it is one. -/
noncomputable def manyOf2 (o : List UInt8) : Nat := if (filterGet o).isSome then (varGet o).1 else 0

set_option maxHeartbeats 1000000 in
set_option maxRecDepth 100000 in
theorem specPlaces (s : ByteArray) (w : World) (hs : s.size ≤ 1048576) :
    Calls Tryd.prog 39 #[.string s] w fun e w' => ∃ v, e = .returned (.tuple #[v, .int .i64 ((manyOf2 s.data.toList : Nat) : Int), .bool (filterGet s.data.toList).isSome]) ∧ GotRow w.heap.size v w' (filterGet s.data.toList) ∧ Below w.heap.size w w' := by
  obtain ⟨i0, hi, hz0, hz1, hz2⟩ := info_parts infoIntB
  have hvs := varGet_size s.data.toList
  obtain ⟨mn, sz, hvg⟩ : ∃ mn sz, varGet s.data.toList = (mn, sz) := ⟨_, _, rfl⟩
  have hget := specGet s w (by unfold maxLen; omega)
  have hln : s.data.toList.length = s.size := by simp
  have HMY : Hid (∀ l, filterGet s.data.toList = some l → manyOf2 s.data.toList = mn) := by
    intro l h
    unfold manyOf2
    rw [h, hvg]
    rfl
  have HMN : Hid (filterGet s.data.toList = none → ((manyOf2 s.data.toList : Nat) : Int) = 0) := by
    intro h
    unfold manyOf2
    rw [h]
    rfl
  have HBAD : Hid ((sz = 0 ∨ 600 < s.size) → filterGet s.data.toList = none) := by
    intro h
    refine filterGet_bad ?_
    rw [hvg, hln]
    exact h
  have HNONE : Hid (riceGet (s.data.toList.drop sz) (mn : Int) 5 = none → filterGet s.data.toList = none) := by
    intro h
    refine filterGet_none ?_
    rw [hvg]
    exact h
  have HSOME : Hid (∀ gaps, ¬ (sz = 0 ∨ 600 < s.size) → riceGet (s.data.toList.drop sz) (mn : Int) 5 = some gaps → filterGet s.data.toList = placesOf mn gaps) := by
    intro gaps h0 h
    have := filterGet_some (o := s.data.toList) (gaps := gaps) (by rw [hvg, hln]; exact h0) (by rw [hvg]; exact h)
    rw [this, hvg]
  rw [hvg] at hvs hget
  rw [hln] at hvs
  dsimp only at hvs hget
  obtain ⟨hsz, hsz5, hmn⟩ := hvs
  clear hvg hln
  by_cases h0 : sz = 0
  · have HG : Hid (filterGet s.data.toList = none) := HBAD.out (.inl h0)
    rw [HMN.out HG.out, HG.out]
    subst h0
    go_enter Tryd.func39, Tryd.ntmps39
    go_wp2_with (go_at_call 55; refine hget.mono ?_; rintro e w1 ⟨rfl, rfl⟩)
    go_ret3
    exact ⟨_, rfl, rfl, Below.refl _ _⟩
  have hne : (((sz : Nat) : Int) == 0) = false := by simp; omega
  by_cases h40 : (40 : Int) < (mn : Int)
  · have HG : Hid (filterGet s.data.toList = none) := HNONE.out (riceGet_bad (by
      have e1 : decide (0 ≤ (mn : Int) ∧ (mn : Int) ≤ 40) = false := decide_eq_false (by omega)
      simp only [getOk, e1, Bool.false_and]))
    rw [HMN.out HG.out, HG.out]
    go_enter Tryd.func39, Tryd.ntmps39
    go_wp2_with (go_at_call 55; refine hget.mono ?_; rintro e w1 ⟨rfl, rfl⟩)
    go_ret3
    exact ⟨_, rfl, rfl, Below.refl _ _⟩
  by_cases h6 : (600 : Int) < (s.size : Int)
  · have HG : Hid (filterGet s.data.toList = none) := HBAD.out (.inr (by omega))
    rw [HMN.out HG.out, HG.out]
    go_enter Tryd.func39, Tryd.ntmps39
    go_wp2_with (go_at_call 55; refine hget.mono ?_; rintro e w1 ⟨rfl, rfl⟩)
    go_ret3
    exact ⟨_, rfl, rfl, Below.refl _ _⟩
  have HOK : Hid (¬ (sz = 0 ∨ 600 < s.size)) := by show ¬ _; omega
  have hm40 : mn ≤ 40 := by omega
  have hbd : 0 ≤ (sz : Int) ∧ (sz : Int) ≤ (s.size : Int) := by omega
  have hex : (s.extract sz s.size).data.toList = s.data.toList.drop sz := by
    simp
    exact List.take_of_length_le (by simp)
  have hrg := fun w => specRiceGet (s.extract sz s.size) (mn : Int) 5 w (by simp; omega)
  rw [hex] at hrg
  cases hr : riceGet (s.data.toList.drop sz) (mn : Int) 5 with
  | none =>
    have HG : Hid (filterGet s.data.toList = none) := HNONE.out hr
    rw [HMN.out HG.out, HG.out]
    rw [hr] at hrg
    dsimp only [Option.isSome] at hrg
    clear hr hex
    go_enter Tryd.func39, Tryd.ntmps39
    go_wp2_with first
      | (go_at_call 55; refine hget.mono ?_; rintro e w1 ⟨rfl, rfl⟩)
      | (go_at_call 56; refine (hrg _).mono ?_; rintro e w2 ⟨v2, rfl, g2, b2⟩; obtain rfl : v2 = .slice none 0 0 := g2)
    have HB2 : Hid (Below w.heap.size w (w2.alloc (.cells #[] 3))) := b2.alloc b2.size _
    clear b2
    go_loop [11] (fun i => i = .int .i64 0) (fun _ => 0)
    case atStart => rfl
    case round =>
      subst hrel
      go_wp2_with fail
      go_ret3
      exact ⟨_, rfl, rfl, HB2.out⟩
  | some gaps =>
    have HG : Hid (filterGet s.data.toList = placesOf mn gaps) := HSOME.out gaps HOK.out hr
    rw [hr] at hrg
    have hgs := riceGet_some hr
    have HGB : Hid (∀ i, gaps.getD i 0 ≤ 60000) := by
      intro i
      rcases Nat.lt_or_ge i gaps.length with h' | h'
      · rw [List.getD_eq_getElem?_getD, List.getElem?_eq_getElem h']
        exact hgs.2.2.1 _ (List.getElem_mem h')
      · rw [List.getD_eq_getElem?_getD, List.getElem?_eq_none h']
        exact Nat.zero_le _
    have hgl : gaps.length = mn := by simpa using hgs.2.1
    have HT : Hid (∀ i, total 0 (gaps.take i) ≤ 2400000) := by
      intro i
      refine Nat.le_trans (total_take_le gaps i) (Nat.le_trans (total_bound gaps hgs.2.2.1 0) ?_)
      omega
    have HGL : Hid (gaps.length = mn) := hgl
    dsimp only [Option.isSome] at hrg
    clear hr hex hgs hgl HNONE HSOME HBAD
    go_enter Tryd.func39, Tryd.ntmps39
    go_wp2_with first
      | (go_at_call 55; refine hget.mono ?_; rintro e w1 ⟨rfl, rfl⟩)
      | (go_at_call 56; refine (hrg _).mono ?_; rintro e w2 ⟨v2, rfl, g2, b2⟩; obtain ⟨gg, c2, rfl⟩ := g2.1)
    have HB2 : Hid (Below w.heap.size w w2) := b2
    have HL2 : Hid (gg < w2.heap.size) := g2.lt.2
    have HAT : Hid (At w2 gg (gaps.map fun n : Nat => (n : Int))) := outRow_at g2
    rw [HGL.out]
    have HW3 : Hid (OutRow w2.heap.size (.slice (some ⟨w2.heap.size, 0, none⟩) 0 0) (sumsF 0 (gaps.take 0)) (w2.alloc (.cells #[] 3))) := newRow w2
    have HB3 : Hid (Below w2.heap.size w2 (w2.alloc (.cells #[] 3))) := (Below.refl _ w2).alloc (Nat.le_refl _) _
    clear b2 g2 hget hrg
    go_loopw [9, 10, 11] (fun v p i wr => ∃ (k q : Nat), k ≤ mn ∧ q ≤ 2400000 ∧ i = .int .i64 (k : Int) ∧ p = .int .i64 (q : Int) ∧ Hid (q = total 0 (gaps.take k)) ∧ Hid (OutRow w2.heap.size v (sumsF 0 (gaps.take k)) wr) ∧ Hid (Below w2.heap.size w2 wr)) (fun _ _ i _ => mn - (intOf i).toNat)
    case atStart => exact ⟨0, 0, by omega, by omega, rfl, rfl, rfl, HW3, HB3⟩
    case round =>
      clear HW3 HB3
      obtain ⟨k, q, hk, hq, rfl, rfl, HQ, HR, HB⟩ := hrel
      obtain ⟨⟨g3, c3, rfl⟩, hrow⟩ := HR.out
      by_cases hlt : k < mn
      · obtain ⟨x, hx⟩ : ∃ x, x = gaps.getD k 0 := ⟨_, rfl⟩
        have hkg : k < gaps.length := by rw [HGL.out]; exact hlt
        have hst := take_sums gaps k hkg
        have hx6 : x ≤ 60000 := by rw [hx]; exact HGB.out k
        have hq2 : q + x ≤ 2400000 := by have := HT.out (k + 1); rw [hst.2, ← HQ.out, ← hx] at this; exact this
        have cx : wr.cell? ⟨gg, k, none⟩ = some (.int .i64 (x : Int)) := by
          rw [HB.out.cell (p := ⟨gg, k, none⟩) HL2.out, HAT.out.2 k (by simpa using hkg), hx, List.getD_eq_getElem?_getD, List.getElem?_map, List.getD_eq_getElem?_getD, List.getElem?_eq_getElem hkg]
          rfl
        have HS : Hid (sumsF 0 (gaps.take (k + 1)) = sumsF 0 (gaps.take k) ++ [q + x] ∧ q + x = total 0 (gaps.take (k + 1))) := by rw [hst.1, hst.2, ← HQ.out, ← hx]; exact ⟨rfl, rfl⟩
        have HKG : Hid (k < gaps.length) := hkg
        have lk : (k : Int) < (mn : Int) := by omega
        have hlen : (sumsF 0 (gaps.take k)).length = k := by rw [sumsF_length]; simp; omega
        rw [hlen] at hrow HR
        have HRW : Hid (wr.ownsRow w2.heap.size 3 1 (.slice (some ⟨g3, 0, none⟩) k c3) k (intCells (sumsF 0 (gaps.take k)))) := hrow
        have hszr := HB.out.size
        rw [hlen]
        clear hx hst hkg hrow hlen
        have HK : Hid (k + 1 ≤ mn) := hlt
        have hx1 : k + 1 ≤ maxLen := by unfold maxLen; omega
        have hx2 : (k + 1) * 8 ≤ 140737488355328 := by omega
        go_wp2_with (at_builtin; refine wp_app1 rfl _ _ 31 rfl w2.heap.size 3 i0 (.int .i64 0) 8 Tryd.underlying31 hi hz0 hz1 hz2 rfl _ _ _ rfl HRW.out (.int .i64 ((q + x : Nat) : Int)) rfl rfl hx1 hx2 hszr ?_; intro g4 c4 w4 hown4 hb4 _)
        go_roundw
        case rel =>
          refine ⟨k + 1, q + x, HK.out, hq2, by go_num, by go_num, HS.out.2, ⟨⟨g4, c4, ?_⟩, ?_⟩, HB.out.trans hb4⟩
          · rw [sumsF_length, List.length_take, Nat.min_eq_left (by have := HKG.out; omega)]
          · rw [sumsF_length, List.length_take, Nat.min_eq_left (by have := HKG.out; omega), HS.out.1]
            simpa [intCells] using hown4
        case measure => have := HK.out; simp [intOf]; omega
      · obtain rfl : k = mn := by omega
        have e : gaps.take k = gaps := List.take_of_length_le (by rw [HGL.out]; exact Nat.le_refl _)
        have HR2 : Hid (OutRow w2.heap.size (.slice (some ⟨g3, 0, none⟩) (sumsF 0 gaps).length c3) (sumsF 0 gaps) wr) := by
          have := HR.out
          rw [e] at this
          exact this
        have HQ2 : Hid (q = total 0 gaps) := by have := HQ.out; rw [e] at this; exact this
        rw [e]
        have HBB : Hid (Below w.heap.size w wr) := HB2.out.trans (HB.out.mono HB2.out.size)
        clear hrow e
        by_cases hge : k * 37 ≤ q
        · have hge' : (k : Int) * 37 ≤ (q : Int) := by omega
          by_cases hk0 : k = 0
          · subst hk0
            have HF : Hid (filterGet s.data.toList = some (sumsF 0 gaps)) := by
              show _ = _
              rw [HG.out, placesOf, if_pos]
              exact .inr (List.length_eq_zero_iff.1 HGL.out)
            go_wp2_with fail
            go_ret3
            rw [HMY.out _ HF.out, HF.out]
            exact ⟨_, rfl, ⟨HR2.out.1, ownsRow_mono HR2.out.2 HB2.out.size⟩, HBB.out⟩
          · have hk1 : (0 : Int) < (k : Int) := by omega
            have HF : Hid (filterGet s.data.toList = none) := by
              show _ = _
              rw [HG.out, placesOf, if_neg]
              rintro (h | h)
              · rw [← HQ2.out] at h; omega
              · have := HGL.out
                rw [h] at this
                exact hk0 this.symm
            clear hk0 hge
            go_wp2_with fail
            go_ret3
            rw [HMN.out HF.out, HF.out]
            exact ⟨_, rfl, rfl, HBB.out⟩
        · have hge' : ¬ (k : Int) * 37 ≤ (q : Int) := by omega
          have HF : Hid (filterGet s.data.toList = some (sumsF 0 gaps)) := by
            show _ = _
            rw [HG.out, placesOf, if_pos]
            exact .inl (by rw [← HQ2.out]; omega)
          clear hge
          go_wp2_with fail
          go_ret3
          rw [HMY.out _ HF.out, HF.out]
          exact ⟨_, rfl, ⟨HR2.out.1, ownsRow_mono HR2.out.2 HB2.out.size⟩, HBB.out⟩

end Go.Proofs.YtcaejndpmagfaaaDoor

set_option linter.unusedVariables false
namespace Go.Proofs.YtcaejndpmagfaaaDoor
open Go.RowKit

theorem figIndex (b : UInt8) (w : World) :
    Calls Tryd.prog 41 #[.string ⟨#[48, 49, 50, 51, 52, 53, 54, 55, 56, 57, 97, 98, 99, 100, 101, 102]⟩, .int .u8 b.toNat] w fun e w' => e = .returned (.int .i64 (figAt b)) ∧ w = w' := by
  refine (Tryd.strings_IndexByte _ _ _).mono ?_
  rintro e w' ⟨rfl, rfl⟩
  refine ⟨?_, rfl⟩
  have : ((b.toNat : Int).toNat).toUInt8 = b := by simp
  rw [this]
  exact congrArg (fun x => Ending.returned (Value.int .i64 x)) (figAt_eq b)

set_option maxHeartbeats 2000000 in
set_option maxRecDepth 100000 in
theorem implSumOk (s : ByteArray) (w : World) :
    Calls Tryd.prog 21 #[.string s] w fun e w' => e = .returned (.bool (isSum s.data.toList)) ∧ w = w' := by
  by_cases hl : s.size = 16
  · have hl' : ((s.size : Int) != 16) = false := by simp [hl]
    go_enter Tryd.func21, Tryd.ntmps21
    go_wp2
    go_loop [9] (fun i => ∃ k : Nat, k ≤ s.size ∧ i = .int .i64 k ∧ Hid (∀ j (hj : j < s.size), j < k → hexB s[j] = true)) (fun i => s.size - (intOf i).toNat)
    case atStart => exact ⟨0, by omega, rfl, fun j hj h => by omega⟩
    case round =>
      obtain ⟨k, hk, rfl, hall⟩ := hrel
      by_cases hlt : k < s.size
      · cases hx : hexB s[k] with
        | true =>
          have hf : ¬ figAt s[k] < 0 := by rw [figAt_yes _ hx]; omega
          go_wp2_with (go_at_call 41; refine (figIndex _ _).mono ?_; rintro e w1 ⟨rfl, rfl⟩)
          go_round
          case rel =>
            refine ⟨k + 1, by omega, by go_num, ?_⟩
            intro j hj hjk
            rcases Nat.lt_or_ge j k with h | h
            · exact hall.out j hj h
            · obtain rfl : j = k := by omega
              exact hx
          case measure => simp [intOf]; omega
        | false =>
          have hf : figAt s[k] < 0 := by rw [figAt_no _ hx]; decide
          have hno := isSum_no k hlt hx
          go_wp2_with (go_at_call 41; refine (figIndex _ _).mono ?_; rintro e w1 ⟨rfl, rfl⟩)
          go_ret
          rw [hno]
          exact ⟨rfl, rfl⟩
      · have hyes := isSum_yes hl (fun j hj => hall.out j hj (by omega))
        go_wp2
        go_ret
        exact ⟨rfl, rfl⟩
  · have hl' : ((s.size : Int) != 16) = true := by simp; omega
    have hno : isSum s.data.toList = false := by
      cases hh : isSum s.data.toList with
      | false => rfl
      | true => exact absurd (by simpa using isSum_len hh) hl
    go_enter Tryd.func21, Tryd.ntmps21
    go_wp2
    go_ret
    rw [hno]
    exact ⟨rfl, rfl⟩

set_option maxHeartbeats 2000000 in
set_option maxRecDepth 100000 in
theorem implSumHead (s : ByteArray) (w : World) :
    Calls Tryd.prog 34 #[.string s] w fun e w' => e = .returned (.int .i64 (sumHead s.data.toList)) ∧ w = w' := by
  cases hx : isSum s.data.toList with
  | false =>
    have hv : sumHead s.data.toList = -1 := by simp [sumHead, hx]
    rw [hv]
    go_enter Tryd.func34, Tryd.ntmps34
    go_wp2_with (go_at_call 21; refine (implSumOk _ _).mono ?_; rintro e w1 ⟨rfl, rfl⟩)
    go_ret
    exact ⟨rfl, rfl⟩
  | true =>
    have HV : Hid (sumHead s.data.toList = ((hexN (s.data.toList.take 8) / 2 : Nat) : Int)) := by simp [Hid, sumHead, hx]
    have hsz : s.size = 16 := by simpa using isSum_len hx
    have HX : Hid (isSum s.data.toList = true) := hx
    go_enter Tryd.func34, Tryd.ntmps34
    go_wp2_with (go_at_call 21; refine (implSumOk _ _).mono ?_; rintro e w1 ⟨rfl, rfl⟩)
    clear hx
    go_loop [3, 8] (fun h i => ∃ k n : Nat, k ≤ 8 ∧ i = .int .i64 k ∧ h = .int .u32 n ∧ Hid (n = hexN (s.data.toList.take k))) (fun _ i => 8 - (intOf i).toNat)
    case atStart => exact ⟨0, 0, by omega, rfl, rfl, rfl⟩
    case round =>
      obtain ⟨k, n, hk, rfl, rfl, hn⟩ := hrel
      by_cases hlt : k < 8
      · have hks : k < s.size := by omega
        have hxk := isSum_at HX.out k hks
        have hf : figAt s[k] = (hexV s[k] : Int) := figAt_yes _ hxk
        have hvl := hexV_lt _ hxk
        have hall : (s.data.toList.take k).all hexB = true := by
          rw [List.all_eq_true]
          intro b hb
          have := HX.out
          simp only [isSum, Bool.and_eq_true, List.all_eq_true] at this
          exact this.2 b (List.mem_of_mem_take hb)
        have hle := hexN_le _ hall
        rw [take_len s k (by omega), ← hn.out] at hle
        have h7 : 16 ^ k ≤ 16 ^ 7 := Nat.pow_le_pow_right (by decide) (by omega)
        have hor := or16 n (hexV s[k]) (by omega) hvl
        have HN : Hid (n * 16 + hexV s[k] = hexN (s.data.toList.take (k + 1))) := by
          have := hexN_snoc (s.data.toList.take k) s[k]
          rw [← take_snoc s k hks, ← hn.out] at this
          exact this.symm
        clear hall hle h7
        go_wp2_with (go_at_call 41; refine (figIndex _ _).mono ?_; rintro e w1 ⟨rfl, rfl⟩)
        go_round
        case rel => exact ⟨k + 1, _, by omega, by go_num, rfl, HN⟩
        case measure => simp [intOf]; omega
      · obtain rfl : k = 8 := by omega
        have hall : (s.data.toList.take 8).all hexB = true := by
          rw [List.all_eq_true]
          intro b hb
          have := HX.out
          simp only [isSum, Bool.and_eq_true, List.all_eq_true] at this
          exact this.2 b (List.mem_of_mem_take hb)
        have hle := hexN_le _ hall
        rw [take_len s 8 (by omega), ← hn.out] at hle
        clear hall
        go_wp2
        go_ret
        rw [HV.out, ← hn.out]
        exact ⟨by simp, rfl⟩

end Go.Proofs.YtcaejndpmagfaaaDoor

set_option linter.unusedVariables false
namespace Go.Proofs.YtcaejndpmagfaaaDoor
open Go.RowKit

theorem turn32_eq (x j : Nat) (hx : x < 4294967296) (hj : j ≤ 31) : bits .or .u32 ((x : Int) / 2 ^ j) ((x : Int) * 2 ^ (32 - j) % 4294967296) = ((rotr x j : Nat) : Int) := by
  have e1 : (x : Int) * 2 ^ (32 - j) % 4294967296 = ((x * 2 ^ (32 - j) % 4294967296 : Nat) : Int) := by simp
  have e2 : (x : Int) / 2 ^ j = ((x / 2 ^ j : Nat) : Int) := by simp
  rw [e1, e2, or32 _ _ (Nat.lt_of_le_of_lt (Nat.div_le_self _ _) hx) (Nat.mod_lt _ (by decide))]
  rfl

set_option maxHeartbeats 400000 in
set_option maxRecDepth 100000 in
theorem turnI (x : Nat) (k : Int) (w : World) (hx : x < 4294967296) (hk : 1 ≤ k) (hk' : k ≤ 31) :
    Calls Tryd.prog 88 #[.int .u32 x, .int .u64 k] w fun e w' => e = .returned (.int .u32 (rotr x k.toNat : Nat)) ∧ w = w' := by
  obtain ⟨j, rfl⟩ := Int.eq_ofNat_of_zero_le (show 0 ≤ k by omega)
  go_enter Tryd.func88, Tryd.ntmps88
  go_wp2
  go_ret
  rw [Int.toNat_natCast, ← turn32_eq x j hx (by omega)]
  exact ⟨rfl, rfl⟩

theorem x332 (p q r v : Nat) (hp : p < 4294967296) (hq : q < 4294967296) (hr : r < 4294967296) (hv : v = p ^^^ q ^^^ r) : bits .xor .u32 (bits .xor .u32 (p : Int) (q : Int)) (r : Int) = (v : Int) := by
  rw [xor32 _ _ hp hq, xor32 _ _ (xor_lt hp hq) hr, hv]

set_option maxHeartbeats 400000 in
set_option maxRecDepth 100000 in
theorem firstI (x : Nat) (w : World) (hx : x < 4294967296) :
    Calls Tryd.prog 71 #[.int .u32 x] w fun e w' => e = .returned (.int .u32 (big0 x : Nat)) ∧ w = w' := by
  have r := x332 (rotr x 2) (rotr x 13) (rotr x 22) (big0 x) (rotr_lt _ _ hx) (rotr_lt _ _ hx) (rotr_lt _ _ hx) rfl
  go_enter Tryd.func71, Tryd.ntmps71
  go_wp2_with (go_at_call 88; refine (turnI _ _ _ hx (by omega) (by omega)).mono ?_; rintro e w1 ⟨rfl, rfl⟩)
  go_ret
  exact ⟨rfl, rfl⟩

set_option maxHeartbeats 400000 in
set_option maxRecDepth 100000 in
theorem fifthI (x : Nat) (w : World) (hx : x < 4294967296) :
    Calls Tryd.prog 69 #[.int .u32 x] w fun e w' => e = .returned (.int .u32 (big1 x : Nat)) ∧ w = w' := by
  have r := x332 (rotr x 6) (rotr x 11) (rotr x 25) (big1 x) (rotr_lt _ _ hx) (rotr_lt _ _ hx) (rotr_lt _ _ hx) rfl
  go_enter Tryd.func69, Tryd.ntmps69
  go_wp2_with (go_at_call 88; refine (turnI _ _ _ hx (by omega) (by omega)).mono ?_; rintro e w1 ⟨rfl, rfl⟩)
  go_ret
  exact ⟨rfl, rfl⟩

set_option maxHeartbeats 400000 in
set_option maxRecDepth 100000 in
theorem nearI (x : Nat) (w : World) (hx : x < 4294967296) :
    Calls Tryd.prog 73 #[.int .u32 x] w fun e w' => e = .returned (.int .u32 (sig0 x : Nat)) ∧ w = w' := by
  have r := x332 (rotr x 7) (rotr x 18) (x / 8) (sig0 x) (rotr_lt _ _ hx) (rotr_lt _ _ hx) (by omega) rfl
  rw [show ((x / 8 : Nat) : Int) = (x : Int) / 8 from by simp] at r
  go_enter Tryd.func73, Tryd.ntmps73
  go_wp2_with (go_at_call 88; refine (turnI _ _ _ hx (by omega) (by omega)).mono ?_; rintro e w1 ⟨rfl, rfl⟩)
  go_ret
  exact ⟨rfl, rfl⟩

set_option maxHeartbeats 400000 in
set_option maxRecDepth 100000 in
theorem farI (x : Nat) (w : World) (hx : x < 4294967296) :
    Calls Tryd.prog 74 #[.int .u32 x] w fun e w' => e = .returned (.int .u32 (sig1 x : Nat)) ∧ w = w' := by
  have r := x332 (rotr x 17) (rotr x 19) (x / 1024) (sig1 x) (rotr_lt _ _ hx) (rotr_lt _ _ hx) (by omega) rfl
  rw [show ((x / 1024 : Nat) : Int) = (x : Int) / 1024 from by simp] at r
  go_enter Tryd.func74, Tryd.ntmps74
  go_wp2_with (go_at_call 88; refine (turnI _ _ _ hx (by omega) (by omega)).mono ?_; rintro e w1 ⟨rfl, rfl⟩)
  go_ret
  exact ⟨rfl, rfl⟩

set_option maxHeartbeats 400000 in
set_option maxRecDepth 100000 in
theorem chooseI (e f g : Nat) (w : World) (he : e < 4294967296) (hf : f < 4294967296) (hg : g < 4294967296) :
    Calls Tryd.prog 70 #[.int .u32 e, .int .u32 f, .int .u32 g] w fun r w' => r = .returned (.int .u32 (chs e f g : Nat)) ∧ w = w' := by
  have h1 : bits .xor .u32 IntKind.u32.max (e : Int) = ((4294967295 ^^^ e : Nat) : Int) := by
    have hm : IntKind.u32.max = ((4294967295 : Nat) : Int) := by decide
    rw [hm]
    exact xor32 4294967295 e (by decide) he
  have h2 : 4294967295 ^^^ e < 4294967296 := xor_lt (by decide) he
  have r : bits .xor .u32 (bits .and .u32 (e : Int) (f : Int)) (bits .and .u32 (bits .xor .u32 IntKind.u32.max (e : Int)) (g : Int)) = ((chs e f g : Nat) : Int) := by
    rw [h1, and32 _ _ he hf, and32 _ _ h2 hg, xor32 _ _ (and_lt hf) (and_lt hg)]
    rfl
  clear h1 h2
  go_enter Tryd.func70, Tryd.ntmps70
  go_wp2
  go_ret
  exact ⟨rfl, rfl⟩

set_option maxHeartbeats 400000 in
set_option maxRecDepth 100000 in
theorem mostI (a b c : Nat) (w : World) (ha : a < 4294967296) (hb : b < 4294967296) (hc : c < 4294967296) :
    Calls Tryd.prog 72 #[.int .u32 a, .int .u32 b, .int .u32 c] w fun r w' => r = .returned (.int .u32 (maj a b c : Nat)) ∧ w = w' := by
  have r : bits .xor .u32 (bits .xor .u32 (bits .and .u32 (a : Int) (b : Int)) (bits .and .u32 (a : Int) (c : Int))) (bits .and .u32 (b : Int) (c : Int)) = ((maj a b c : Nat) : Int) := by
    rw [and32 _ _ ha hb, and32 _ _ ha hc, and32 _ _ hb hc]
    exact x332 _ _ _ _ (and_lt hb) (and_lt hc) (and_lt hc) rfl
  go_enter Tryd.func72, Tryd.ntmps72
  go_wp2
  go_ret
  exact ⟨rfl, rfl⟩

end Go.Proofs.YtcaejndpmagfaaaDoor

namespace Go.Proofs.YtcaejndpmagfaaaDoor
open Go.RowKit

/-- A row of bytes of the call's own: none of its places is frozen. -/
def ByteRow (e : TypeId) (base : Nat) (w : World) (v : Value) (l : List UInt8) : Prop :=
  ∃ g cap cur fz, v = .slice (some ⟨g, 0, none⟩) l.length cap ∧ base ≤ g ∧ w.heap[g]? = some (.cells cur e fz) ∧ (fz = (0, 0) ∨ cap ≤ fz.1) ∧ l.length ≤ cap ∧ cap ≤ maxLen ∧ cur.size = cap ∧ cur.toList.take l.length = Lib.byteCells l

theorem ByteRow.cells {e : TypeId} {base : Nat} {w : World} {g n cap : Nat} {l : List UInt8} (h : ByteRow e base w (.slice (some ⟨g, 0, none⟩) n cap) l) (j : Nat) (hj : j < l.length) : w.cell? ⟨g, j, none⟩ = some (.int .u8 (l[j].toNat : Int)) := by
  obtain ⟨g', cap', cur, fz, hv, _, hb, _, _, _, hs, ht⟩ := h
  simp only [Value.slice.injEq, Option.some.injEq, Addr.mk.injEq, and_true] at hv
  obtain ⟨rfl, _, rfl⟩ := hv
  rw [Lib.cell_of_heap hb]
  have : cur.toList[j]? = (Lib.byteCells l)[j]? := by rw [← ht, List.getElem?_take]; simp [hj]
  rw [← Array.getElem?_toList, this]
  simp [Lib.byteCells, List.getElem?_eq_getElem hj]

theorem ByteRow.frozen {e : TypeId} {base : Nat} {w : World} {g n cap : Nat} {l : List UInt8} (h : ByteRow e base w (.slice (some ⟨g, 0, none⟩) n cap) l) (j : Nat) (hj : j < cap) : w.frozen? ⟨g, j, none⟩ = false ∧ (w.cell? ⟨g, j, none⟩).isSome = true := by
  obtain ⟨g', cap', cur, fz, hv, _, hb, hfz, _, _, hs, _⟩ := h
  simp only [Value.slice.injEq, Option.some.injEq, Addr.mk.injEq, and_true] at hv
  obtain ⟨rfl, _, rfl⟩ := hv
  refine ⟨?_, ?_⟩
  · unfold World.frozen?
    rw [hb]
    rcases hfz with rfl | hfz
    · simp
    · obtain ⟨lo, hi⟩ := fz
      simp only [Bool.and_eq_false_iff, decide_eq_false_iff_not]
      left
      simp at hfz
      omega
  · rw [Lib.cell_of_heap hb]
    simp
    omega

theorem ByteRow.keep {e : TypeId} {base B : Nat} {w w' : World} {v : Value} {l : List UInt8} (h : ByteRow e base w v l) (hb : Below B w w') (hlt : ∀ g n cap, v = .slice (some ⟨g, 0, none⟩) n cap → g < B) : ByteRow e base w' v l := by
  obtain ⟨g, cap, cur, fz, hv, h1, h2, h3⟩ := h
  exact ⟨g, cap, cur, fz, hv, h1, by rw [hb.block g (hlt _ _ _ hv)]; exact h2, h3⟩
theorem ByteRow.lt {e : TypeId} {base : Nat} {w : World} {g n cap : Nat} {l : List UInt8} (h : ByteRow e base w (.slice (some ⟨g, 0, none⟩) n cap) l) : base ≤ g ∧ g < w.heap.size := by
  obtain ⟨g', cap', cur, fz, hv, h1, hb, _⟩ := h
  simp only [Value.slice.injEq, Option.some.injEq, Addr.mk.injEq, and_true] at hv
  obtain ⟨rfl, _, rfl⟩ := hv
  refine ⟨h1, ?_⟩
  rcases Nat.lt_or_ge g w.heap.size with h' | h'
  · exact h'
  · simp [Array.getElem?_eq_none h'] at hb

/-- 'append(bs, b)' of one byte. -/
theorem wp_appB {P : Program} {w : World} {ops : Array Oper} {rest : List Oper} {o : Oper} {a : Act} {Q : Exit → Act → World → Prop} (hgd : o.guard = none) (s x : Operand) (t : TypeId)
    (ho : o.op = .call { callee := .builtin .append, args := #[s, x], argTypes := #[t, t] })
    (base : Nat) (e : TypeId) (i : TypeInfo) (ht : P.underlying t = some (.slice e)) (hi : P.info? e = some i) (hz : i.zero = some (.int .u8 0)) (hsize : i.size = 1) (hby : i.bytes = 1)
    (g n cap : Nat) (l : List UInt8) (hn : n = l.length) (hs : a.eval s = .slice (some ⟨g, 0, none⟩) n cap) (hrow : ByteRow e base w (.slice (some ⟨g, 0, none⟩) n cap) l)
    (b : UInt8) (c : Int) (hc : c = (b.toNat : Int)) (hx : a.eval x = .slice (some ⟨w.heap.size, 0, none⟩) 1 1)
    (h63 : n + 1 ≤ 140737488355328) (hbase : base ≤ w.heap.size)
    (h : ∀ g' cap' w', ByteRow e base w' (.slice (some ⟨g', 0, none⟩) (n + 1) cap') (l ++ [b]) → Below base w w' →
      wpList P ops Q rest (a.put o.dst (.slice (some ⟨g', 0, none⟩) (n + 1) cap')) w') :
    wpList P ops Q (o :: rest) a (w.alloc (.cells #[.int .u8 c] e)) := by
  subst hc
  subst hn
  have hlt := hrow.lt
  have hk : (w.alloc (.cells #[.int .u8 (b.toNat : Int)] e)).heap[g]? = w.heap[g]? := Below.heap_alloc _ _ _ hlt.2
  have hrow' : ByteRow e base (w.alloc (.cells #[.int .u8 (b.toNat : Int)] e)) (.slice (some ⟨g, 0, none⟩) l.length cap) l :=
    hrow.keep ((Below.refl w.heap.size w).alloc (Nat.le_refl _) _) (fun g' n' c' hv => by simp only [Value.slice.injEq, Option.some.injEq, Addr.mk.injEq, and_true] at hv; rw [← hv.1]; exact hlt.2)
  refine wpList_append_arg _ hgd s x t ho e i (.int .u8 0) 1 1 ht hi hz hsize hby rfl (by decide) g 0 l.length cap (Lib.byteCells l) hs (by rw [Lib.byteCells_length]; omega) ?_ ⟨w.heap.size, 0, none⟩ 1 1 [.int .u8 (b.toNat : Int)] hx rfl (cell_one_new _ _ _) ?_ ?_ (by unfold maxLen; omega) (by omega) ?_ ?_
  · intro j u hu
    have hj : j < l.length := by have := (List.getElem?_eq_some_iff.1 hu).1; rwa [Lib.byteCells_length] at this
    rw [Nat.zero_add, hrow'.cells j hj]
    simpa [Lib.byteCells, List.getElem?_eq_getElem hj] using hu
  · intro u hu
    simp at hu
    subst hu
    rfl
  · intro hroom j hj
    obtain rfl : j = 0 := by simpa using hj
    have := hrow'.frozen l.length (by omega)
    refine ⟨?_, ?_⟩
    · simpa using this.2
    · simpa using this.1
  · intro hroom
    have hset : (w.alloc (.cells #[.int .u8 (b.toNat : Int)] e)).setCells g (0 + l.length * 1) [.int .u8 (b.toNat : Int)] = (w.alloc (.cells #[.int .u8 (b.toNat : Int)] e)).setCell ⟨g, l.length, none⟩ (.int .u8 (b.toNat : Int)) := by
      simp [World.setCells]
    rw [hset]
    refine h g cap _ ?_ (((Below.refl base w).alloc hbase _).setCell (p := ⟨g, l.length, none⟩) hlt.1 _)
    obtain ⟨g', cap', cur, fz, hv, h1, hb, hfz, hle, hm, hsz, htk⟩ := hrow'
    simp only [Value.slice.injEq, Option.some.injEq, Addr.mk.injEq, and_true] at hv
    obtain ⟨rfl, _, rfl⟩ := hv
    refine ⟨g, cap, cur.setIfInBounds l.length (.int .u8 (b.toNat : Int)), fz, by simp, h1, ?_, hfz, by simp; omega, hm, by simp [hsz], ?_⟩
    · simp only [World.setCell, Array.getElem?_modify, hb]
      simp
    · rw [Lib.byteCells_append, List.length_append]
      show List.take (l.length + 1) _ = _
      rw [Array.toList_setIfInBounds]
      have hlc : l.length < cur.toList.length := by simp; omega
      rw [List.take_succ_eq_append_getElem (by simpa using hlc)]
      rw [List.take_set_of_le (Nat.le_refl _), htk]
      simp [Lib.byteCells]
  · intro hgrow v' w' hown hg
    obtain ⟨g', cap', cur, rfl, h1, hb, hle, hm, hsz, htk⟩ : ∃ g' cap' cur, v' = .slice (some ⟨g', 0, none⟩) (l.length + 1) cap' ∧ (w.alloc (.cells #[.int .u8 (b.toNat : Int)] e)).heap.size ≤ g' ∧ w'.heap[g']? = some (.cells cur e (0, 0)) ∧ l.length + 1 ≤ cap' ∧ cap' ≤ maxLen ∧ cur.size = cap' * 1 ∧ cur.toList.take ((l.length + 1) * 1) = Lib.byteCells l ++ [.int .u8 (b.toNat : Int)] := by
      rcases hown.2 with ⟨_, h0⟩ | ⟨g', cap', cur, hv, r⟩
      · omega
      · exact ⟨g', cap', cur, hv, r⟩
    refine h g' cap' w' ⟨g', cap', cur, (0, 0), by simp, by simp at h1; omega, hb, Or.inl rfl, by simp; omega, hm, by omega, ?_⟩ (((Below.refl base w).alloc hbase _).grown hg (by simp; omega) (fun k hk => by simp at hk))
    rw [Lib.byteCells_append, List.length_append]
    simpa [Lib.byteCells] using htk

end Go.Proofs.YtcaejndpmagfaaaDoor

set_option linter.unusedVariables false
namespace Go.Proofs.YtcaejndpmagfaaaDoor
open Go.RowKit

def lenB (n : Nat) : List UInt8 := (List.range 8).map fun j => UInt8.ofNat (n / 2 ^ (8 * (7 - j)) % 256)
def padZ (n : Nat) : Nat := padLen n - n - 9
def padB (t : List UInt8) : List UInt8 := t ++ 128 :: List.replicate (padZ t.length) 0 ++ lenB (t.length * 8)
theorem lenB_take (n j : Nat) (h : j < 8) : (lenB n).take (j + 1) = (lenB n).take j ++ [UInt8.ofNat (n / 2 ^ (8 * (7 - j)) % 256)] := by
  have hl : j < (lenB n).length := by simp [lenB]; omega
  rw [List.take_succ_eq_append_getElem hl]
  simp [lenB]
theorem len_digit (n j : Nat) (hn : n < 18446744073709551616) (hj : j < 8) : n * 256 ^ j % 18446744073709551616 / 72057594037927936 = n / 2 ^ (8 * (7 - j)) % 256 := by
  match j, hj with
  | 0, _ => simp; omega
  | 1, _ => simp; omega
  | 2, _ => simp; omega
  | 3, _ => simp; omega
  | 4, _ => simp; omega
  | 5, _ => simp; omega
  | 6, _ => simp; omega
  | 7, _ => simp; omega
theorem padB_length (t : List UInt8) : (padB t).length = padLen t.length := by
  simp [padB, lenB, padZ, padLen]
  omega

theorem infoU8i : (Tryd.prog.info? 5).map (fun i => (i.zero, i.size, i.bytes)) = some (some (.int .u8 0), 1, 1) := by kernel_rfl

theorem byteRow_of_text (e : TypeId) (w : World) (s : ByteArray) (hs : s.size ≤ 1073741824) :
    ByteRow e w.heap.size (w.drew.alloc (.cells (bytesRow s (grownCap w s.size 0 e)) e ((bytesRow s (grownCap w s.size 0 e)).size, (bytesRow s (grownCap w s.size 0 e)).size + 1))) (.slice (some ⟨w.heap.size, 0, none⟩) s.size (grownCap w s.size 0 e)) s.data.toList := by
  have hge := grownCap_ge w s.size 0 e
  have hcm := grownCap_le_maxLen w s.size 0 e (by unfold maxLen; omega)
  have hsz : (bytesRow s (grownCap w s.size 0 e)).size = grownCap w s.size 0 e := by
    simp [bytesRow]
    have : s.data.size = s.size := rfl
    omega
  refine ⟨w.heap.size, _, _, _, by simp, Nat.le_refl _, heap_alloc_new w.drew _, Or.inr (by rw [hsz]; exact Nat.le_refl _), by simpa using hge, hcm, hsz, ?_⟩
  simp [bytesRow, Lib.byteCells]

def lenOf : Value → Nat
  | .slice _ n _ => n
  | _ => 0

set_option maxHeartbeats 1000000 in
set_option maxRecDepth 100000 in
theorem paddedI (s : ByteArray) (w : World) (hs : s.size ≤ 1073741824) :
    Calls Tryd.prog 51 #[.string s] w fun e w' => ∃ g cap, e = .returned (.slice (some ⟨g, 0, none⟩) (padLen s.size) cap) ∧ ByteRow 5 w.heap.size w' (.slice (some ⟨g, 0, none⟩) (padLen s.size) cap) (padB s.data.toList) ∧ Below w.heap.size w w' := by
  obtain ⟨i0, hi, hz0, hz1, hz2⟩ := info_parts infoU8i
  have hcv := run_bytes_of_string (P := Tryd.prog) w 9 28 5 s Tryd.underlying9 Tryd.underlying28 Tryd.underlying5
  have hrow0 := byteRow_of_text 5 w s hs
  have hb0 : Below w.heap.size w (w.drew.alloc (.cells (bytesRow s (grownCap w s.size 0 5)) 5 ((bytesRow s (grownCap w s.size 0 5)).size, (bytesRow s (grownCap w s.size 0 5)).size + 1))) := (Below.drew (Below.refl _ w)).alloc (Nat.le_refl _) _
  generalize (w.drew.alloc (.cells (bytesRow s (grownCap w s.size 0 5)) 5 ((bytesRow s (grownCap w s.size 0 5)).size, (bytesRow s (grownCap w s.size 0 5)).size + 1))) = w1 at hcv hrow0 hb0
  generalize grownCap w s.size 0 5 = cap0 at hcv hrow0
  have hsz0 := hb0.size
  have hlen0 : s.size = s.data.toList.length := by simp
  have HL0 : Hid (s.size = s.data.toList.length) := hlen0
  clear hlen0
  go_enter Tryd.func51, Tryd.ntmps51
  go_wp2_with (at_builtin; refine wp_appB rfl _ _ 28 rfl w.heap.size 5 i0 Tryd.underlying28 hi hz0 hz1 hz2 w.heap.size s.size cap0 s.data.toList HL0.out rfl hrow0 128 128 rfl rfl (by omega) hsz0 ?_)
  intro g1 cap1 w2 hrow1 hb1
  clear hcv hrow0
  have hb2 := hb0.trans hb1
  have HZ : Hid (padLen s.size = s.size + 9 + padZ s.size ∧ padLen s.size % 64 = 0 ∧ padZ s.size ≤ 63) := by
    show _ ∧ _ ∧ _
    unfold padZ padLen
    omega
  have HPB : Hid (padB s.data.toList = s.data.toList ++ 128 :: List.replicate (padZ s.size) 0 ++ lenB (s.size * 8)) := by
    show _ = _
    rw [padB, ← HL0.out]
  obtain ⟨t, ht⟩ : ∃ t, t = s.data.toList := ⟨_, rfl⟩
  obtain ⟨L, hL⟩ : ∃ L, L = padLen s.size := ⟨_, rfl⟩
  rw [← ht] at hrow1 HL0 HPB
  rw [← hL] at HZ
  generalize padZ s.size = Z at HZ HPB
  have HTT : Hid (t = s.data.toList) := ht
  have HLL : Hid (L = padLen s.size) := hL
  clear ht hL
  go_wp2
  go_loopw [3] (fun v wr => ∃ k n g cap : Nat, k ≤ Z ∧ Hid (n = s.size + 1 + k) ∧ n ≤ 1073741900 ∧ v = .slice (some ⟨g, 0, none⟩) n cap ∧ ByteRow 5 w.heap.size wr (.slice (some ⟨g, 0, none⟩) n cap) (t ++ 128 :: List.replicate k 0) ∧ Below w.heap.size w wr) (fun v _ => L - lenOf v)
  case atStart => exact ⟨0, s.size + 1, g1, cap1, by omega, rfl, by omega, rfl, hrow1, hb2⟩
  case round =>
    clear hrow1 hb1 hb2
    obtain ⟨k, n, g, cap, hk, hn, hn2, rfl, hrow, hbw⟩ := hrel
    have hsz := hbw.size
    have hln : n = (t ++ 128 :: List.replicate k 0).length := by rw [hn.out]; simp; rw [← HL0.out]; omega
    by_cases hlt : k < Z
    · have hne : (((n : Int) % 64) != 56) = true := by
        have h1 := HZ.out; have h2 := hn.out
        rw [bne_iff_ne]
        omega
      have HLN : Hid (n = (t ++ 128 :: List.replicate k 0).length) := hln
      clear hln
      go_wp2_with (at_builtin; refine wp_appB rfl _ _ 28 rfl w.heap.size 5 i0 Tryd.underlying28 hi hz0 hz1 hz2 g n cap (t ++ 128 :: List.replicate k 0) HLN.out rfl hrow 0 0 rfl rfl (by omega) hsz ?_)
      intro g2 cap2 w3 hrow3 hb3
      have hrow4 : ByteRow 5 w.heap.size w3 (.slice (some ⟨g2, 0, none⟩) (n + 1) cap2) (t ++ 128 :: List.replicate (k + 1) 0) := by
        rw [List.replicate_succ']
        simpa using hrow3
      clear hrow3
      go_wp2
      go_roundw
      case rel => exact ⟨k + 1, n + 1, g2, cap2, by omega, by show n + 1 = _; have := hn.out; omega, by have := hn.out; have := HZ.out; omega, rfl, hrow4, hbw.trans hb3⟩
      case measure => show L - (n + 1) < L - n; have := hn.out; have := HZ.out; omega
    · have hkz : k = Z := by omega
      have hne : (((n : Int) % 64) != 56) = false := by
        have h1 := HZ.out; have h2 := hn.out
        rw [bne_eq_false_iff_eq]
        omega
      have HN : Hid (n + 8 = L) := by show _ = _; have := HZ.out; have := hn.out; omega
      have HLN : Hid (n = (t ++ 128 :: List.replicate k 0).length) := hln
      have HKZ : Hid (k = Z) := hkz
      obtain ⟨w0, rfl⟩ : ∃ w0 : World, w0 = wr := ⟨_, rfl⟩
      obtain ⟨T, hT⟩ : ∃ T, T = t ++ 128 :: List.replicate k 0 := ⟨_, rfl⟩
      rw [← hT] at hrow HLN
      have HT : Hid (T = t ++ 128 :: List.replicate k 0) := hT
      clear hln hkz hT hk hlt hn
      go_wp2
      go_loopw [3, 4, 20] (fun v m i wr => ∃ j y g cap : Nat, j ≤ 8 ∧ i = .int .i64 j ∧ m = .int .u64 y ∧ Hid (y = s.size * 8 * 256 ^ j % 18446744073709551616) ∧ v = .slice (some ⟨g, 0, none⟩) (n + j) cap ∧ ByteRow 5 w.heap.size wr (.slice (some ⟨g, 0, none⟩) (n + j) cap) (T ++ (lenB (s.size * 8)).take j) ∧ Below w.heap.size w wr) (fun _ _ i _ => 8 - (intOf i).toNat)
      case atStart => exact ⟨0, s.size * 8, g, cap, by omega, rfl, by go_num, by show _ = _; simp; omega, rfl, by simpa using hrow, hbw⟩
      case round =>
        clear hrow hbw hsz
        obtain ⟨j, y, g2, cap2, hj, rfl, rfl, hy, rfl, hrow, hbw⟩ := hrel
        have hsz := hbw.size
        have hyl : y < 18446744073709551616 := by rw [hy.out]; exact Nat.mod_lt _ (by decide)
        by_cases hjlt : j < 8
        · obtain ⟨d, hd⟩ : ∃ d : Nat, d = y / 72057594037927936 := ⟨_, rfl⟩
          have rd : (y : Int) / 72057594037927936 = (d : Int) := by rw [hd]; simp
          have hd256 : d < 256 := by rw [hd]; omega
          have HD : Hid (UInt8.ofNat d = UInt8.ofNat (s.size * 8 / 2 ^ (8 * (7 - j)) % 256)) := by
            show _ = _
            rw [hd, hy.out, len_digit _ _ (by omega) hjlt]
          have HDN : Hid ((d : Int) = ((UInt8.ofNat d).toNat : Int)) := by show _ = _; simp; omega
          have HY : Hid (y * 256 % 18446744073709551616 = s.size * 8 * 256 ^ (j + 1) % 18446744073709551616) := by
            show _ = _
            rw [hy.out, Nat.pow_succ, ← Nat.mul_assoc, Nat.mod_mul_mod]
          have HLJ : Hid (n + j = (T ++ (lenB (s.size * 8)).take j).length) := by
            show _ = _
            rw [List.length_append, ← HLN.out]
            simp [lenB]
            omega
          clear hd
          go_wp2_with (at_builtin; refine wp_appB rfl _ _ 28 rfl w.heap.size 5 i0 Tryd.underlying28 hi hz0 hz1 hz2 g2 (n + j) cap2 (T ++ (lenB (s.size * 8)).take j) HLJ.out rfl hrow (UInt8.ofNat d) (d : Int) HDN.out rfl (by omega) hsz ?_)
          intro g3 cap3 w3 hrow3 hb3
          have hrow4 : ByteRow 5 w.heap.size w3 (.slice (some ⟨g3, 0, none⟩) (n + j + 1) cap3) (T ++ (lenB (s.size * 8)).take (j + 1)) := by
            rw [lenB_take _ _ hjlt, ← HD.out]
            first | exact hrow3 | (rw [← List.append_assoc]; exact hrow3)
          clear hrow3
          go_wp2
          go_roundw
          case rel => exact ⟨j + 1, y * 256 % 18446744073709551616, g3, cap3, by omega, by go_num, by go_num, HY, rfl, hrow4, hbw.trans hb3⟩
          case measure => simp [intOf]; omega
        · have hfin : ByteRow 5 w.heap.size wr (.slice (some ⟨g2, 0, none⟩) L cap2) (t ++ 128 :: List.replicate Z 0 ++ lenB (s.size * 8)) := by
            have hj8 : j = 8 := by omega
            rw [List.take_of_length_le (by simp [lenB]; omega), HT.out, HKZ.out] at hrow
            have hnl : n + j = L := by have := HN.out; omega
            rw [← hnl]
            exact hrow
          have HL8 : Hid (n + j = L) := by show _ = _; have := HN.out; omega
          clear hrow
          go_wp2
          go_ret
          rw [← HTT.out, ← HLL.out, HPB.out]
          exact ⟨g2, cap2, by rw [← HL8.out]; rfl, hfin, hbw⟩

end Go.Proofs.YtcaejndpmagfaaaDoor

