/-
  How many heads a range has, and how much work: the program, the specification, the law.
-/
import Derived.Test.YtaahmbooagocgaaRangeL
set_option linter.unusedVariables false
namespace Go.Proofs.Ytaahmbooagocgaa
open Go.RowKit Go.Deep

def wrkTo (ps : List PeakV) : Nat → Int
  | 0 => 0
  | k + 1 => wrkTo ps k + (ps.getD k default).work
def rangeMany (ps : List PeakV) : Int × Int := if rangeOkB ps = true then (cntTo ps ps.length, wrkTo ps ps.length) else (-1, -1)
theorem many_no {ps : List PeakV} (h : rangeOkB ps = false) : rangeMany ps = (-1, -1) := by rw [rangeMany, h]; rfl
theorem many_yes {ps : List PeakV} (h : rangeOkB ps = true) : rangeMany ps = (cntTo ps ps.length, wrkTo ps ps.length) := by rw [rangeMany, if_pos h]
theorem rangeOk_at {ps : List PeakV} (h : rangeOkB ps = true) (i : Nat) (hi : i < ps.length) : 1 ≤ (ps.getD i default).count ∧ (ps.getD i default).count ≤ 20 ∧ (ps.getD i default).count ≤ (ps.getD i default).work ∧ (ps.getD i default).work ≤ (ps.getD i default).count * 8 := by
  rw [rangeOkB, Bool.and_eq_true, List.all_eq_true] at h
  have := h.1 i (List.mem_range.2 hi)
  rw [stepOk, Bool.and_eq_true] at this
  exact peakOk_in this.1

set_option maxHeartbeats 1000000 in
set_option maxRecDepth 100000 in
theorem implRangeMany (g n cap : Nat) (ps : List PeakV) (w : World) (h : AtP w g ps) (hn : n = ps.length) (hm : n ≤ 1048576) :
    Calls Try.prog 11 #[.slice (some ⟨g, 0, none⟩) n cap] w fun e w' => e = .returned (.tuple #[.int .i64 (rangeMany ps).1, .int .i64 (rangeMany ps).2]) ∧ Below w.heap.size w w' := by
  have HA : Hid (AtP w g ps) := h
  have HN : Hid (n = ps.length) := hn
  have hok := implRangeOk g n cap ps w h hn (by omega)
  clear h hn
  cases hr : rangeOkB ps with
  | false =>
    have HM : Hid (rangeMany ps = (-1, -1)) := many_no hr
    rw [hr] at hok
    go_enter Try.func11, Try.ntmps11
    go_wp2_with fail
    refine hok.mono ?_
    rintro e w1 ⟨rfl, b1⟩
    go_wp2_with fail
    go_ret2
    exact ⟨by rw [HM.out]; rfl, b1⟩
  | true =>
    have HM : Hid (rangeMany ps = (cntTo ps ps.length, wrkTo ps ps.length)) := many_yes hr
    have HR : Hid (∀ i, i < ps.length → 1 ≤ (ps.getD i default).count ∧ (ps.getD i default).count ≤ 20 ∧ (ps.getD i default).count ≤ (ps.getD i default).work ∧ (ps.getD i default).work ≤ (ps.getD i default).count * 8) := fun i hi => rangeOk_at hr i hi
    rw [hr] at hok
    go_enter Try.func11, Try.ntmps11
    go_wp2_with fail
    refine hok.mono ?_
    rintro e w1 ⟨rfl, b1⟩
    go_wp2_with fail
    go_loopw [4, 5, 13] (fun m v i wr => ∃ (k : Nat) (x y : Int), k ≤ n ∧ i = .int .i64 (k : Int) ∧ m = .int .i64 x ∧ v = .int .i64 y ∧ 0 ≤ x ∧ x ≤ 20 * (k : Int) ∧ 0 ≤ y ∧ y ≤ 160 * (k : Int) ∧ Hid (x = cntTo ps k) ∧ Hid (y = wrkTo ps k) ∧ Hid (Below w.heap.size w wr)) (fun _ _ i _ => n - (intOf i).toNat)
    case atStart => exact ⟨0, 0, 0, by omega, rfl, rfl, rfl, by omega, by omega, by omega, by omega, rfl, rfl, b1⟩
    case round =>
      obtain ⟨k, x, y, hk, rfl, rfl, rfl, hx0, hx1, hy0, hy1, HX, HY, HB⟩ := hrel
      by_cases hlt : k < n
      · have hkl : k < ps.length := by rw [← HN.out]; exact hlt
        have HAr : Hid (AtP wr g ps) := HA.out.below HB.out HA.out.1
        have c0 := AtP.c0 HAr.out k hkl
        have c1 := AtP.c1 HAr.out k hkl
        have c2 := AtP.c2 HAr.out k hkl
        have lk : (k : Int) < (n : Int) := by omega
        have HK : Hid (k + 1 ≤ n) := hlt
        obtain ⟨p1, p2, p3, p4⟩ := HR.out k hkl
        have HC : Hid (x + (ps.getD k default).count = cntTo ps (k + 1)) := by show _ = _; rw [cntTo, ← HX.out]
        have HD : Hid (y + (ps.getD k default).work = wrkTo ps (k + 1)) := by show _ = _; rw [wrkTo, ← HY.out]
        generalize ps.getD k default = p at c0 c1 c2 p1 p2 p3 p4 HC HD
        have wx : IntKind.i64.wrap (x + p.count) = x + p.count := by rw [IntKind.wrap_i64]; omega
        have wy : IntKind.i64.wrap (y + p.work) = y + p.work := by rw [IntKind.wrap_i64]; omega
        clear hkl HX HY
        go_wp2_with fail
        go_roundw
        case rel => exact ⟨k + 1, x + p.count, y + p.work, HK.out, by go_num, rfl, rfl, by omega, by omega, by omega, by omega, HC, HD, HB.out.alloc HB.out.size _⟩
        case measure => have := HK.out; simp [intOf]; omega
      · obtain rfl : k = n := by omega
        go_wp2_with fail
        go_ret2
        exact ⟨by rw [HM.out, ← HN.out, ← HX.out, ← HY.out]; rfl, HB.out⟩

set_option maxHeartbeats 1000000 in
set_option maxRecDepth 100000 in
theorem specL5Many (g n cap : Nat) (ps : List PeakV) (w : World) (h : AtP w g ps) (hn : n = ps.length) (hm : n ≤ 1048576) (hr : rangeOkB ps = true) :
    Calls Try.prog 18 #[.slice (some ⟨g, 0, none⟩) n cap] w fun e w' => e = .returned (.tuple #[.int .i64 (cntTo ps n), .int .i64 (wrkTo ps n)]) ∧ Below w.heap.size w w' := by
  have HA : Hid (AtP w g ps) := h
  have HN : Hid (n = ps.length) := hn
  have HR : Hid (∀ i, i < ps.length → 1 ≤ (ps.getD i default).count ∧ (ps.getD i default).count ≤ 20 ∧ (ps.getD i default).count ≤ (ps.getD i default).work ∧ (ps.getD i default).work ≤ (ps.getD i default).count * 8) := fun i hi => rangeOk_at hr i hi
  clear h hn hr
  go_enter Try.func18, Try.ntmps18
  go_wp2_with fail
  go_loopw [4, 5, 6] (fun m v i wr => ∃ (k : Nat) (x y : Int), k ≤ n ∧ i = .int .i64 (k : Int) ∧ m = .int .i64 x ∧ v = .int .i64 y ∧ 0 ≤ x ∧ x ≤ 20 * (k : Int) ∧ 0 ≤ y ∧ y ≤ 160 * (k : Int) ∧ Hid (x = cntTo ps k) ∧ Hid (y = wrkTo ps k) ∧ Hid (Below w.heap.size w wr)) (fun _ _ i _ => n - (intOf i).toNat)
  case atStart => exact ⟨0, 0, 0, by omega, rfl, rfl, rfl, by omega, by omega, by omega, by omega, rfl, rfl, Below.refl _ _⟩
  case round =>
    obtain ⟨k, x, y, hk, rfl, rfl, rfl, hx0, hx1, hy0, hy1, HX, HY, HB⟩ := hrel
    by_cases hlt : k < n
    · have hkl : k < ps.length := by rw [← HN.out]; exact hlt
      have HAr : Hid (AtP wr g ps) := HA.out.below HB.out HA.out.1
      have c0 := AtP.c0 HAr.out k hkl
      have c1 := AtP.c1 HAr.out k hkl
      have c2 := AtP.c2 HAr.out k hkl
      have lk : (k : Int) < (n : Int) := by omega
      have HK : Hid (k + 1 ≤ n) := hlt
      obtain ⟨p1, p2, p3, p4⟩ := HR.out k hkl
      have HC : Hid (x + (ps.getD k default).count = cntTo ps (k + 1)) := by show _ = _; rw [cntTo, ← HX.out]
      have HD : Hid (y + (ps.getD k default).work = wrkTo ps (k + 1)) := by show _ = _; rw [wrkTo, ← HY.out]
      generalize ps.getD k default = p at c0 c1 c2 p1 p2 p3 p4 HC HD
      have wx : IntKind.i64.wrap (x + p.count) = x + p.count := by rw [IntKind.wrap_i64]; omega
      have wy : IntKind.i64.wrap (y + p.work) = y + p.work := by rw [IntKind.wrap_i64]; omega
      clear hkl HX HY
      go_wp2_with fail
      go_roundw
      case rel => exact ⟨k + 1, x + p.count, y + p.work, HK.out, by go_num, rfl, rfl, by omega, by omega, by omega, by omega, HC, HD, HB.out⟩
      case measure => have := HK.out; simp [intOf]; omega
    · obtain rfl : k = n := by omega
      go_wp2_with fail
      go_ret2
      exact ⟨by rw [← HX.out, ← HY.out]; rfl, HB.out⟩

set_option maxHeartbeats 1000000 in
set_option maxRecDepth 100000 in
theorem specRangeMany (g n cap : Nat) (ps : List PeakV) (w : World) (h : AtP w g ps) (hn : n = ps.length) (hm : n ≤ 1048576) (hz : ∀ i, i < ps.length → (ps.getD i default).sum.size ≤ maxLen) :
    Calls Try.prog 10 #[.slice (some ⟨g, 0, none⟩) n cap] w fun e w' => e = .returned (.tuple #[.int .i64 (rangeMany ps).1, .int .i64 (rangeMany ps).2]) ∧ Below w.heap.size w w' := by
  have hok := specL5Ok g n cap ps w h hn (by omega) hz
  have HA : Hid (AtP w g ps) := h
  have HN : Hid (n = ps.length) := hn
  cases hr : rangeOkB ps with
  | false =>
    have HM : Hid (rangeMany ps = (-1, -1)) := many_no hr
    rw [hr] at hok
    clear h hn hz
    go_enter Try.func10, Try.ntmps10
    go_wp2_with fail
    refine hok.mono ?_
    rintro e w1 ⟨rfl, b1⟩
    go_wp2_with fail
    go_ret2
    exact ⟨by rw [HM.out]; rfl, b1⟩
  | true =>
    have hmy := fun w' h' => specL5Many g n cap ps w' h' hn hm hr
    have HM : Hid (rangeMany ps = (cntTo ps n, wrkTo ps n)) := by show _ = _; rw [many_yes hr, ← HN.out]
    rw [hr] at hok
    generalize rangeMany ps = M at HM ⊢
    generalize cntTo ps n = x at hmy HM
    generalize wrkTo ps n = y at hmy HM
    clear h hn hz hr
    go_enter Try.func10, Try.ntmps10
    go_wp2_with fail
    refine hok.mono ?_
    rintro e w1 ⟨rfl, b1⟩
    go_wp2_with fail
    refine (hmy _ (HA.out.below b1 HA.out.1)).mono ?_
    rintro e w2 ⟨rfl, b2⟩
    go_wp2_with fail
    go_ret2
    exact ⟨by rw [HM.out]; rfl, b1.trans (b2.mono b1.size)⟩

set_option maxHeartbeats 1000000 in
set_option maxRecDepth 100000 in
theorem walk_FnExactRangeMany (a : Option Addr) (len cap : Nat) (ps : List PeakV) (w : World) (h : IsPeaks w a len cap ps) :
    Calls Try.prog 4 #[.slice a len cap] w fun e w' => e = .returned (.bool true) ∧ Below w.heap.size w w' := by
  have H0 : Hid (IsPeaks w a len cap ps) := h
  have HLn : Hid (len = ps.length) := h.len.symm
  clear h
  go_enter Try.func4, Try.ntmps4
  go_wp2_with fail
  refine (szPeaks a len cap ps w H0.out).mono ?_
  rintro e w0 ⟨b0, rfl | ⟨r, rfl, hl3, hsm⟩⟩
  · go_wp2_with fail
    go_ret
    exact ⟨rfl, b0⟩
  have HZ : Hid (∀ i, i < ps.length → (ps.getD i default).sum.size ≤ maxLen) := by
    intro i hi
    have := hsm i (by rw [HLn.out]; exact hi)
    unfold maxLen
    omega
  clear hsm
  have hl4 : len ≤ 1073741824 := by omega
  have hr0 : ¬ (r : Int) < 0 := by omega
  go_wp2_with fail
  refine (toPeaks a len cap ps _ w H0.out b0 hl3).mono ?_
  rintro e w1 ⟨rfl, r1, b1⟩
  have HB1 : Hid (Below w.heap.size w w1) := b0.trans (b1.mono b0.size)
  go_wp2_with fail
  refine (specRangeMany w0.heap.size len len ps _ (r1.at 3 pEnc_len) HLn.out hl3 HZ.out).mono ?_
  rintro e w2 ⟨rfl, b2⟩
  have HB2 : Hid (Below w.heap.size w w2) := HB1.out.trans (b2.mono HB1.out.size)
  clear r1 b1 b2 b0 HB1
  have HI : Hid (∀ w', AtP w' w2.heap.size ps → Calls Try.prog 11 #[.slice (some ⟨w2.heap.size, 0, none⟩) len len] w' fun e w'' => e = .returned (.tuple #[.int .i64 (rangeMany ps).1, .int .i64 (rangeMany ps).2]) ∧ Below w'.heap.size w' w'') := fun w' h1 => implRangeMany w2.heap.size len len ps w' h1 HLn.out hl3
  generalize rangeMany ps = R at HI ⊢
  obtain ⟨x, y⟩ := R
  dsimp only at HI ⊢
  go_wp2_with fail
  refine (toPeaks a len cap ps _ w H0.out HB2.out hl3).mono ?_
  rintro e w3 ⟨rfl, r3, b3⟩
  have HR3 : Hid (RowP w3 w2.heap.size ps) := r3
  have HB3 : Hid (Below w.heap.size w w3) := HB2.out.trans (b3.mono HB2.out.size)
  clear r3 b3
  go_wp2_with fail
  refine (HI.out _ (HR3.out.at 3 pEnc_len)).mono ?_
  rintro e w4 ⟨rfl, b4⟩
  have HR4 : Hid (RowP w4 w2.heap.size ps) := HR3.out.below b4 HR3.out.lt
  have HB4 : Hid (Below w.heap.size w w4) := HB3.out.trans (b4.mono HB3.out.size)
  clear b4 HI
  go_wp2_with fail
  refine (toPeaks a len cap ps _ w H0.out HB4.out hl3).mono ?_
  rintro e w5 ⟨rfl, r5, b5⟩
  have HR5 : Hid (RowP w5 w4.heap.size ps) := r5
  have HR45 : Hid (RowP w5 w2.heap.size ps) := HR4.out.below b5 HR4.out.lt
  have HB5 : Hid (Below w.heap.size w w5) := HB4.out.trans (b5.mono HB4.out.size)
  clear r5 b5
  go_wp2_with fail
  refine (eqPeaks w2.heap.size w4.heap.size len len len ps _ (HR45.out.at 3 pEnc_len) (HR5.out.at 3 pEnc_len) HLn.out hl4).mono ?_
  rintro e w6 ⟨rfl, b6⟩
  go_wp2_with fail
  go_ret
  exact ⟨rfl, HB5.out.trans (b6.mono HB5.out.size)⟩

end Go.Proofs.Ytaahmbooagocgaa
