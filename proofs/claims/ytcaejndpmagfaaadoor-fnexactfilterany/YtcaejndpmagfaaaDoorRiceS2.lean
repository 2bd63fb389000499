/-
  The specification's RicePut.
-/
import Derived.Test.YtcaejndpmagfaaaDoorRiceS1
import Derived.Test.YtcaejndpmagfaaaDoorRicePM
import Derived.Test.YtcaejndpmagfaaaDoorSpecIn
import Derived.Test.YtcaejndpmagfaaaDoorVarGetM
import Derived.Lib.BufferRead
set_option linter.unusedVariables false
namespace Go.Proofs.YtcaejndpmagfaaaDoor
open Go.RowKit

theorem SB.lt {B b : Nat} {s : List UInt8 × List Nat} {w : World} (h : SB B b s w) : b < w.heap.size := by
  obtain ⟨_, v, u, h, _⟩ := h; exact h.lt

set_option maxHeartbeats 1000000 in
set_option maxRecDepth 100000 in
theorem numberS (B b : Nat) (s : List UInt8 × List Nat) (n k : Nat) (w : World) (h : SB B b s w) (hok : okB s) (hn : n ≤ 60000) (hk : k ≤ 8) (hlen : s.1.length ≤ 100000000) :
    Calls Tryd.prog 91 #[.pointer (some ⟨b, 0, none⟩), .int .i64 (n : Int), .int .i64 (k : Int)] w fun e w' => e = .returned (.tuple #[]) ∧ SB B b (runB s (lowB n k)) w' ∧ Below B w w' := by
  obtain ⟨F, hF⟩ : ∃ F, F = runB s (lowB n k) := ⟨_, rfl⟩
  rw [← hF]
  have HF1 : Hid (runB s (lowB n k) = F) := hF.symm
  have HS : Hid (SB B b s w ∧ okB s ∧ s.1.length ≤ 100000000) := ⟨h, hok, hlen⟩
  clear hF h hok hlen
  go_enter Tryd.func91, Tryd.ntmps91
  go_wp2_with fail
  go_loopw [6] (fun i wr => ∃ (r : Nat) (x : Int) (c : List UInt8 × List Nat), r ≤ k ∧ i = .int .i64 x ∧ Hid (x = (r : Int) - 1) ∧ Hid (runB c (lowB n r) = F) ∧ Hid (okB c) ∧ Hid (c.1.length ≤ 100000010 - r) ∧ Hid (SB B b c wr) ∧ Hid (Below B w wr)) (fun i _ => (intOf i + 1).toNat)
  case atStart => exact ⟨k, _, s, by omega, rfl, rfl, HF1, HS.out.2.1, by have := HS.out.2.2; show _ ≤ _; omega, HS.out.1, Below.refl B w⟩
  case round =>
    clear HF1 HS
    obtain ⟨r, x, c, hr, rfl, HX, HF, HO, HL, HW, HB⟩ := hrel
    rcases r with _ | m
    · have hx : ¬ (0 : Int) ≤ x := by have := HX.out; omega
      have HE : Hid (c = F) := HF.out
      go_wp2_with fail
      go_end0
      rw [← HE.out]
      exact ⟨rfl, HW.out, HB.out⟩
    · obtain rfl : x = (m : Int) := by have := HX.out; omega
      obtain ⟨q, hq⟩ : ∃ q : Nat, q = n / 2 ^ m := ⟨_, rfl⟩
      have rq : (n : Int) / 2 ^ m = (q : Int) := by rw [hq]; simp
      have hqn : q ≤ 60000 := by rw [hq]; exact Nat.le_trans (Nat.div_le_self _ _) hn
      obtain ⟨bt, hbt⟩ : ∃ bt : Nat, bt = q % 2 := ⟨_, rfl⟩
      have hb1 : bt ≤ 1 := by omega
      have rb2 : (q : Int) % 2 = (bt : Int) := by omega
      have HF2 : Hid (runB (stepB c bt) (lowB n m) = F) := by
        show _ = _
        rw [← HF.out, hbt, hq]
        rfl
      have hm0 : (0 : Int) ≤ (m : Int) := by omega
      clear hq hbt HX
      go_wp2_with fail
      refine (putS B b c bt _ HW.out HO.out hb1 (by have := HL.out; omega)).mono ?_
      rintro e w2 ⟨rfl, hw2, hb2⟩
      have HW2 : Hid (SB B b (stepB c bt) w2) := hw2
      have HB2 : Hid (Below B w w2) := HB.out.trans hb2
      clear hw2 hb2
      go_wp2_with fail
      go_roundw
      case rel =>
        refine ⟨m, _, stepB c bt, by omega, rfl, ?_, HF2, stepB_ok HO.out hb1, ?_, HW2, HB2⟩
        · show _ = _
          first | rfl | omega
        · have h1 := stepB_len c bt
          have h2 := HL.out
          show _ ≤ _
          omega
      case measure => simp [intOf]

theorem convBack {B : Nat} {v : Value} {l : List UInt8} {w : World} (h : w.ownsRow B 5 1 v l.length (Lib.byteCells l)) : (convert 28 9 v).run Tryd.prog w = .ok (.string ⟨l.toArray⟩) w := by
  rcases h.2 with ⟨h1, h2⟩ | ⟨g, cap, cur, hv, _, hc, _, _, _, ht⟩
  · obtain rfl : l = [] := List.length_eq_zero_iff.1 h2
    rw [h1]
    exact Lib.run_convert_nil_bytes w 28 9 5 0 Tryd.underlying28 Tryd.underlying5 Tryd.underlying9
  · rw [hv]
    refine run_convert_bytes_back (P := Tryd.prog) w 28 9 5 ⟨g, 0, none⟩ cap l Tryd.underlying28 Tryd.underlying5 Tryd.underlying9 ?_
    intro j hj
    rw [Addr.add_mid, Nat.zero_add, Lib.cell_of_heap hc, ← Array.getElem?_toList]
    have h3 : cur.toList[j]? = (Lib.byteCells l)[j]? := by rw [← ht, List.getElem?_take]; simp [hj]
    rw [h3]
    simp [Lib.byteCells, List.getElem?_eq_getElem hj]
/-- How many bits wait, out of the block. -/
def waits (b : Nat) (w : World) : Nat := match w.cell? ⟨b, 1, none⟩ with
  | some (.slice _ n _) => if n = 0 then 0 else 8 - n
  | _ => 0
theorem SB.c1 {B b : Nat} {s : List UInt8 × List Nat} {w : World} (h : SB B b s w) : ∃ a cap, w.cell? ⟨b, 1, none⟩ = some (.slice a s.2.length cap) := by
  obtain ⟨_, v, u, hs, _, hl⟩ := h
  rcases hl.2 with ⟨h1, h2⟩ | ⟨g, cap, cur, hv, _⟩
  · exact ⟨none, 0, by rw [hs.c1, h1, h2]⟩
  · exact ⟨_, cap, by rw [hs.c1, hv]⟩
theorem waits_eq {B b : Nat} {s : List UInt8 × List Nat} {w : World} (h : SB B b s w) : waits b w = if s.2.length = 0 then 0 else 8 - s.2.length := by
  obtain ⟨a, cap, hc⟩ := h.c1
  simp only [waits, hc]

set_option maxHeartbeats 1000000 in
set_option maxRecDepth 100000 in
theorem endS (B b : Nat) (s : List UInt8 × List Nat) (w : World) (h : SB B b s w) (hok : okB s) (hlen : s.1.length ≤ 100000000) :
    Calls Tryd.prog 92 #[.pointer (some ⟨b, 0, none⟩)] w fun e w' => e = .returned (.string ⟨(fillB s).toArray⟩) ∧ Below B w w' := by
  have HS : Hid (SB B b s w ∧ okB s ∧ s.1.length ≤ 100000000) := ⟨h, hok, hlen⟩
  clear h hok hlen
  go_enter Tryd.func92, Tryd.ntmps92
  go_wp2_with fail
  go_loopw [] (fun wr => ∃ c : List UInt8 × List Nat, Hid (fillB c = fillB s) ∧ Hid (okB c) ∧ Hid (c.1.length ≤ 100000009 - waits b wr) ∧ Hid (SB B b c wr) ∧ Hid (Below B w wr)) (fun wr => waits b wr)
  case atStart =>
    refine ⟨s, rfl, HS.out.2.1, ?_, HS.out.1, Below.refl B w⟩
    have h1 := waits_eq HS.out.1
    have h2 := HS.out.2.2
    show _ ≤ _
    split at h1 <;> omega
  case round =>
    obtain ⟨c, HF, HO, HL, HW, HB⟩ := hrel
    obtain ⟨a1, cap1, c1⟩ := HW.out.c1
    have Hm := waits_eq HW.out
    by_cases h0 : c.2.length = 0
    · have hx : ¬ (0 : Int) < (c.2.length : Int) := by omega
      have HE : Hid (fillB s = c.1) := by
        show _ = _
        rw [← HF.out, fillB_end (List.length_eq_zero_iff.1 h0)]
      clear h0 Hm
      obtain ⟨hB, v, u, hs, ho, hl⟩ := HW.out
      have c0 := hs.c0
      have HO2 : Hid (wr.ownsRow B 5 1 v c.1.length (Lib.byteCells c.1)) := ho
      have hcv := convBack ho
      clear hs ho hl
      go_wp2_with fail
      go_ret
      rw [HE.out]
      exact ⟨rfl, HB.out⟩
    · have hx : (0 : Int) < (c.2.length : Int) := by omega
      have HM : Hid (waits b wr = 8 - c.2.length) := by show _ = _; rw [Hm, if_neg h0]
      have HN : Hid (¬ c.2.length = 0) := h0
      clear h0 Hm
      go_wp2_with fail
      refine (putS B b c 0 _ HW.out HO.out (by omega) (by have := HL.out; omega)).mono ?_
      rintro e w1 ⟨rfl, hw1, hb1⟩
      have HW1 : Hid (SB B b (stepB c 0) w1) := hw1
      have HB1 : Hid (Below B w w1) := HB.out.trans hb1
      have HM1 : Hid (waits b w1 < 8 - c.2.length) := by
        show _ < _
        have h8 := HO.out.1
        have hn := HN.out
        rw [waits_eq hw1]
        unfold stepB
        split
        · simp; omega
        · simp; omega
      have HL1 : Hid ((stepB c 0).1.length ≤ 100000009 - waits b w1) := by
        have h1 := stepB_len c 0
        have h2 := HL.out
        have h3 := HM.out
        have h4 := HM1.out
        show _ ≤ _
        omega
      clear hw1 hb1 c1 hx
      go_wp2_with fail
      go_roundw
      case rel =>
        refine ⟨stepB c 0, ?_, stepB_ok HO.out (by omega), HL1, HW1, HB1⟩
        show _ = _
        rw [← HF.out]
        exact fillB_step HO.out.1 (fun e => HN.out (by rw [e]; rfl))
      case measure => rw [HM.out]; exact HM1.out

end Go.Proofs.YtcaejndpmagfaaaDoor
