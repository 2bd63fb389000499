/-
  Texts that the last part needs, joined.
-/
import Derived.Test.YtkajpkfhedfmaaaGreatDoorPart1
import Derived.Test.YtkajpkfhedfmaaaGreatDoorPart2
import Derived.Test.YtkajpkfhedfmaaaGreatDoorPart3
import Derived.Test.YtkajpkfhedfmaaaGreatDoorPart4
import Derived.Test.YtkajpkfhedfmaaaGreatDoorPart5
import Derived.Test.YtkajpkfhedfmaaaGreatDoorPart6
import Derived.Test.YtkajpkfhedfmaaaGreatDoorPart7
import Derived.Test.YtkajpkfhedfmaaaGreatDoorPart8
import Derived.Test.YtkajpkfhedfmaaaGreatDoorPart9
import Derived.Test.YtkajpkfhedfmaaaGreatDoorPart10
import Derived.Test.YtkajpkfhedfmaaaGreatDoorPart11
import Derived.WalkSmall
import Derived.BigRegion
import Derived.Deep.RegionWith
import Derived.Deep.RegionHeld3
import Derived.Deep.RegionLaw
set_option linter.unusedVariables false
namespace Go.Proofs.YtkajpkfhedfmaaaGreatDoor
open Go.RowKit Go.Deep

theorem sameR (a b : ByteArray) : (a.toList == b.toList) = decide (a = b) := by
  rw [Bool.eq_iff_iff, beq_iff_eq, decide_eq_true_eq, ByteArray.toList_eq, ByteArray.toList_eq]
  constructor
  · intro h
    exact ByteArray.ext (by simpa using h)
  · intro h
    rw [h]
theorem walk_fine {h : HeadV} (hok : headOkB h = true) {a : Nat} {ss : List PeakV} : ∀ (i : Nat) (q : PeakV) (l : Int), walkTo (leafP h) a ss i = some (q, l) → Fine q l i
  | 0, q, l, hw => by
    simp only [walkTo, Option.some.injEq, Prod.mk.injEq] at hw
    obtain ⟨rfl, rfl⟩ := hw
    exact fine_leaf hok
  | i + 1, q, l, hw => by
    rw [walkTo] at hw
    cases hx : walkTo (leafP h) a ss i with
    | none => rw [hx] at hw; cases hw
    | some y =>
      obtain ⟨q0, l0⟩ := y
      have ih := walk_fine hok i q0 l0 hx
      rw [hx] at hw
      dsimp only at hw
      cases hb : (peakOkB (ss.getD i default) && decide ((ss.getD i default).count = q0.count)) with
      | false => rw [hb] at hw; cases hw
      | true =>
        rw [hb] at hw
        simp only [if_true] at hw
        split at hw
        · simp only [Option.some.injEq, Prod.mk.injEq] at hw
          obtain ⟨rfl, rfl⟩ := hw
          exact fine_left ih hb
        · simp only [Option.some.injEq, Prod.mk.injEq] at hw
          obtain ⟨rfl, rfl⟩ := hw
          exact fine_right ih hb
theorem fine_le {q : PeakV} {l : Int} {i : Nat} (h : Fine q l i) : l ≤ 256 := by
  have h1 := h.l1
  have h2 := h.wk
  have h3 := h.cnt
  have h4 := h.hi
  have h5 : (2 ^ i : Nat) ≤ 32 := by
    have : i = 0 ∨ i = 1 ∨ i = 2 ∨ i = 3 ∨ i = 4 ∨ i = 5 := by omega
    rcases this with rfl | rfl | rfl | rfl | rfl | rfl <;> decide
  omega
theorem climb_le {top : PeakV} {h : HeadV} (hok : headOkB h = true) (a : Nat) (ss : List PeakV) : -1 ≤ climbV top h a ss ∧ climbV top h a ss ≤ 256 := by
  unfold climbV
  cases hx : walkTo (leafP h) a ss ss.length with
  | none => dsimp only; omega
  | some y =>
    obtain ⟨q, l⟩ := y
    have hf := walk_fine hok _ q l hx
    have := fine_le hf
    have := hf.l0
    dsimp only
    split <;> omega
theorem wrk_in {ps : List PeakV} (h : rangeOkB ps = true) : ∀ k, k ≤ ps.length → 0 ≤ wrkTo ps k ∧ wrkTo ps k ≤ 160 * (k : Int)
  | 0, _ => by simp [wrkTo]
  | k + 1, hk => by
    have ih := wrk_in h k (by omega)
    have := rangeOk_at h k (by omega)
    rw [wrkTo]
    push_cast
    omega
theorem cnt_in {ps : List PeakV} (h : rangeOkB ps = true) : ∀ k, k ≤ ps.length → 0 ≤ cntTo ps k ∧ cntTo ps k ≤ 20 * (k : Int)
  | 0, _ => by simp [cntTo]
  | k + 1, hk => by
    have ih := cnt_in h k (by omega)
    have := rangeOk_at h k (by omega)
    rw [cntTo]
    push_cast
    omega
/-- A proof in memory. -/
structure PrfAt (s : PrfV) (w : World) : Prop where
  p : AtP w s.g s.ps
  pl : s.n = s.ps.length
  pm : s.n ≤ 1048576
  pc : s.n ≤ s.c
  t : AtP w s.sg s.ss
  tl : s.sn = s.ss.length
  tm : s.sn ≤ 1048576
theorem PrfAt.below {s : PrfV} {w w' : World} (h : PrfAt s w) (hb : Below w.heap.size w w') : PrfAt s w' :=
  ⟨h.p.below hb h.p.1, h.pl, h.pm, h.pc, h.t.below hb h.t.1, h.tl, h.tm⟩
theorem check_root {root : ByteArray} {h : HeadV} {a : Int} {ps ss : List PeakV} (hn : (⟨(rangeRoot ps).toArray⟩ : ByteArray) ≠ root) : checkV root h a ps ss = -1 := check_no (fun hh => hn hh.2.2.2.2)

set_option linter.unusedSimpArgs false in
set_option maxHeartbeats 8000000 in
set_option maxRecDepth 100000 in
theorem implRangeCheck (root : ByteArray) (h : HeadV) (a : Int) (s : PrfV) (w : World) (ham : a ≤ 9223372036854775807) (hS : PrfAt s w) (hK : RowG w shaK) (hP : TabP w) :
    Calls Tryz.prog 103 #[.string root, headVal h, .int .i64 a, prfVal s] w fun e w' => e = .returned (.int .i64 (checkV root h a s.ps s.ss)) ∧ Below w.heap.size w w' := by
  have HS : Hid (PrfAt s w) := hS
  have HK : Hid (RowG w shaK) := hK
  have HP : Hid (TabP w) := hP
  have HN : Hid (s.n = s.ps.length ∧ s.sn = s.ss.length) := ⟨hS.pl, hS.tl⟩
  have hpm := hS.pm
  have htm := hS.tm
  have hho := fun w' => implHeadOk h w'
  have hst := fun (w' : World) (hb : Below w.heap.size w w') => implStepsOk s.sg s.sn s.sc s.ss w' (HS.out.below hb).t hS.tl hS.tm
  have hro := fun (w' : World) (hb : Below w.heap.size w w') => implRangeOk s.g s.n s.c s.ps w' (HS.out.below hb).p hS.pl (by omega)
  have hrr := fun (w' : World) (hb : Below w.heap.size w w') => implRangeRoot s.g s.n s.c s.ps w' (HS.out.below hb).p hS.pl hS.pm (HK.out.below hb HK.out.lt) (TabP.below HP.out hb (Nat.le_refl _))
  have HNO : Hid (¬ (headOkB h = true ∧ 0 ≤ a ∧ s.ss.length ≤ 8 ∧ rangeOkB s.ps = true ∧ (⟨(rangeRoot s.ps).toArray⟩ : ByteArray) = root) → checkV root h a s.ps s.ss = -1) := fun hn => check_no hn
  have HST : Hid (stepsB s.ss = false → checkV root h a s.ps s.ss = -1) := fun hf => check_steps hf
  have HPN : Hid (placeP s.ps a = none → checkV root h a s.ps s.ss = -1) := fun hp => check_none hp
  have HPS : Hid (∀ k, headOkB h = true → 0 ≤ a → s.ss.length ≤ 8 → rangeOkB s.ps = true → (⟨(rangeRoot s.ps).toArray⟩ : ByteArray) = root → placeP s.ps a = some k → checkV root h a s.ps s.ss = if climbV (s.ps.getD k default) h (a - cntTo s.ps k).toNat s.ss < 0 then -1 else wrkTo s.ps k + climbV (s.ps.getD k default) h (a - cntTo s.ps k).toNat s.ss) := fun k h1 h2 h3 h4 h5 h6 => check_some ⟨h1, h2, h3, h4, h5⟩ h6
  have HCL : Hid (∀ (k a' : Nat) (w' : World), headOkB h = true → a' ≤ 20 → stepsB s.ss = true → Below w.heap.size w w' → Calls Tryz.prog 130 #[.agg #[.string (s.ps.getD k default).sum, .int .i64 (s.ps.getD k default).work, .int .i64 (s.ps.getD k default).count], .agg #[.string h.prev, .string h.root, .int .i64 h.time, .int .i64 h.diff, .int .i64 h.nonce], .int .i64 (a' : Int), .slice (some ⟨s.sg, 0, none⟩) s.sn s.sc] w' fun e w'' => e = .returned (.int .i64 (climbV (s.ps.getD k default) h a' s.ss)) ∧ Below w'.heap.size w' w'') := fun k a' w' h1 h2 h3 hb => implRangeClimb (s.ps.getD k default) h a' s.sg s.sn s.sc s.ss w' h1 h2 (HS.out.below hb).t HN.out.2 (by have := HN.out.2; have := steps_len h3; omega) (fun i hi => steps_at h3 i hi) (HK.out.below hb HK.out.lt) (TabP.below HP.out hb (Nat.le_refl _))
  have HCE : Hid (∀ k a', headOkB h = true → -1 ≤ climbV (s.ps.getD k default) h a' s.ss ∧ climbV (s.ps.getD k default) h a' s.ss ≤ 256) := fun k a' h1 => climb_le h1 a' s.ss
  generalize checkV root h a s.ps s.ss = R at HNO HST HPN HPS ⊢
  clear hS hK hP
  unfold headVal prfVal
  have A0 : Hid (CBk ((w.alloc (.cells #[.string h.prev, .string h.root, .int .i64 h.time, .int .i64 h.diff, .int .i64 h.nonce] 36)).alloc (.cells #[.slice (some ⟨s.g, 0, none⟩) s.n s.c, .slice (some ⟨s.sg, 0, none⟩) s.sn s.sc] 44)) w.heap.size 36 #[.string h.prev, .string h.root, .int .i64 h.time, .int .i64 h.diff, .int .i64 h.nonce]) := (CBk.new w _ _).alloc _
  have B0 : Hid (CBk ((w.alloc (.cells #[.string h.prev, .string h.root, .int .i64 h.time, .int .i64 h.diff, .int .i64 h.nonce] 36)).alloc (.cells #[.slice (some ⟨s.g, 0, none⟩) s.n s.c, .slice (some ⟨s.sg, 0, none⟩) s.sn s.sc] 44)) (w.heap.size + 1) 44 #[.slice (some ⟨s.g, 0, none⟩) s.n s.c, .slice (some ⟨s.sg, 0, none⟩) s.sn s.sc]) := by
    have := CBk.new (w.alloc (.cells #[.string h.prev, .string h.root, .int .i64 h.time, .int .i64 h.diff, .int .i64 h.nonce] 36)) 44 #[.slice (some ⟨s.g, 0, none⟩) s.n s.c, .slice (some ⟨s.sg, 0, none⟩) s.sn s.sc]
    rwa [show (w.alloc (.cells #[.string h.prev, .string h.root, .int .i64 h.time, .int .i64 h.diff, .int .i64 h.nonce] 36)).heap.size = w.heap.size + 1 from by simp] at this
  have L0 : Hid (Below w.heap.size w ((w.alloc (.cells #[.string h.prev, .string h.root, .int .i64 h.time, .int .i64 h.diff, .int .i64 h.nonce] 36)).alloc (.cells #[.slice (some ⟨s.g, 0, none⟩) s.n s.c, .slice (some ⟨s.sg, 0, none⟩) s.sn s.sc] 44))) := ((Below.refl _ w).alloc (Nat.le_refl _) _).alloc (by simp) _
  go_enter Tryz.func103, Tryz.ntmps103
  go_wp2_with fail
  generalize (w.alloc (.cells #[.string h.prev, .string h.root, .int .i64 h.time, .int .i64 h.diff, .int .i64 h.nonce] 36)).alloc (.cells #[.slice (some ⟨s.g, 0, none⟩) s.n s.c, .slice (some ⟨s.sg, 0, none⟩) s.sn s.sc] 44) = W0 at A0 B0 L0 ⊢
  obtain ⟨g0, hg0⟩ : ∃ g0, g0 = w.heap.size := ⟨_, rfl⟩
  rw [← hg0] at A0 B0 ⊢
  clear hg0
  have h0 := hho W0
  clear hho
  cases hok : headOkB h with
  | false =>
    have HV : Hid (R = -1) := HNO.out (by rw [hok]; intro hh; exact absurd hh.1 (by decide))
    rw [hok] at h0
    clear HNO HST HPN HPS HCL HCE hro hrr hst hok
    refine h0.mono ?_
    rintro e w1 ⟨rfl, b1⟩
    go_wp2_with fail
    go_ret
    exact ⟨by rw [HV.out]; rfl, L0.out.trans (b1.mono L0.out.size)⟩
  | true =>
  have HOK : Hid (headOkB h = true) := hok
  rw [hok] at h0
  clear hok
  refine h0.mono ?_
  rintro e w1 ⟨rfl, b1⟩
  have A1 : Hid (CBk w1 g0 36 #[.string h.prev, .string h.root, .int .i64 h.time, .int .i64 h.diff, .int .i64 h.nonce]) := A0.out.call b1
  have B1 : Hid (CBk w1 (g0 + 1) 44 #[.slice (some ⟨s.g, 0, none⟩) s.n s.c, .slice (some ⟨s.sg, 0, none⟩) s.sn s.sc]) := B0.out.call b1
  have L1 : Hid (Below w.heap.size w w1) := L0.out.trans (b1.mono L0.out.size)
  clear A0 B0 L0 b1 h0
  obtain ⟨p0, p1⟩ := B1.out.out2
  by_cases ha0 : a < 0
  · have HV : Hid (R = -1) := HNO.out (fun hh => absurd hh.2.1 (by omega))
    clear HNO HST HPN HPS HCL HCE hro hrr hst
    go_wp2_with fail
    go_ret
    exact ⟨by rw [HV.out]; rfl, L1.out⟩
  have hs0 := hst _ L1.out
  clear hst
  cases hsk : stepsB s.ss with
  | false =>
    have HV : Hid (R = -1) := HST.out hsk
    rw [hsk] at hs0
    clear HNO HST HPN HPS HCL HCE hro hrr hsk
    go_wp2_with fail
    refine hs0.mono ?_
    rintro e w2 ⟨rfl, b2⟩
    go_wp2_with fail
    go_ret
    exact ⟨by rw [HV.out]; rfl, L1.out.trans (b2.mono L1.out.size)⟩
  | true =>
  have H8S : Hid (stepsB s.ss = true) := hsk
  have H8 : Hid (s.ss.length ≤ 8) := steps_len hsk
  rw [hsk] at hs0
  clear hsk HST
  have HA0 : Hid (0 ≤ a) := by show _ ≤ _; omega
  go_wp2_with fail
  refine hs0.mono ?_
  rintro e w1a ⟨rfl, b1a⟩
  have A1a : Hid (CBk w1a g0 36 #[.string h.prev, .string h.root, .int .i64 h.time, .int .i64 h.diff, .int .i64 h.nonce]) := A1.out.call b1a
  have B1a : Hid (CBk w1a (g0 + 1) 44 #[.slice (some ⟨s.g, 0, none⟩) s.n s.c, .slice (some ⟨s.sg, 0, none⟩) s.sn s.sc]) := B1.out.call b1a
  have L1a : Hid (Below w.heap.size w w1a) := L1.out.trans (b1a.mono L1.out.size)
  clear A1 B1 L1 b1a hs0 p0 p1
  have A1 := A1a
  have B1 := B1a
  have L1 := L1a
  clear A1a B1a L1a
  obtain ⟨p0, p1⟩ := B1.out.out2
  have h0 := hro _ L1.out
  clear hro
  cases hrk : rangeOkB s.ps with
  | false =>
    have HV : Hid (R = -1) := HNO.out (fun hh => by have h1 := hh.2.2.2.1; rw [hrk] at h1; cases h1)
    rw [hrk] at h0
    clear HNO HPN HPS HCL HCE hrr hrk
    go_wp2_with fail
    refine h0.mono ?_
    rintro e w2 ⟨rfl, b2⟩
    go_wp2_with fail
    go_ret
    exact ⟨by rw [HV.out]; rfl, L1.out.trans (b2.mono L1.out.size)⟩
  | true =>
  have HRK : Hid (rangeOkB s.ps = true) := hrk
  rw [hrk] at h0
  clear hrk
  go_wp2_with fail
  refine h0.mono ?_
  rintro e w2 ⟨rfl, b2⟩
  have A2 : Hid (CBk w2 g0 36 #[.string h.prev, .string h.root, .int .i64 h.time, .int .i64 h.diff, .int .i64 h.nonce]) := A1.out.call b2
  have B2 : Hid (CBk w2 (g0 + 1) 44 #[.slice (some ⟨s.g, 0, none⟩) s.n s.c, .slice (some ⟨s.sg, 0, none⟩) s.sn s.sc]) := B1.out.call b2
  have L2 : Hid (Below w.heap.size w w2) := L1.out.trans (b2.mono L1.out.size)
  clear A1 B1 L1 b2 h0 p0 p1
  obtain ⟨p0, p1⟩ := B2.out.out2
  have h0 := hrr _ L2.out
  clear hrr
  go_wp2_with fail
  refine h0.mono ?_
  rintro e w3 ⟨rfl, b3⟩
  have A3 : Hid (CBk w3 g0 36 #[.string h.prev, .string h.root, .int .i64 h.time, .int .i64 h.diff, .int .i64 h.nonce]) := A2.out.call b3
  have B3 : Hid (CBk w3 (g0 + 1) 44 #[.slice (some ⟨s.g, 0, none⟩) s.n s.c, .slice (some ⟨s.sg, 0, none⟩) s.sn s.sc]) := B2.out.call b3
  have L3 : Hid (Below w.heap.size w w3) := L2.out.trans (b3.mono L2.out.size)
  clear A2 B2 L2 b3 h0 p0 p1
  by_cases hrt : ¬ (⟨(rangeRoot s.ps).toArray⟩ : ByteArray) = root
  · have HV : Hid (R = -1) := HNO.out (fun hh => hrt hh.2.2.2.2)
    have hrt1 : ((⟨(rangeRoot s.ps).toArray⟩ : ByteArray).toList == root.toList) = false := by rw [sameR, decide_eq_false hrt]
    generalize (⟨(rangeRoot s.ps).toArray⟩ : ByteArray) = rt at hrt1 ⊢
    clear HNO HPN HPS HCL HCE hrt
    go_wp2_with fail
    go_ret
    exact ⟨by rw [HV.out]; rfl, L3.out⟩
  replace hrt := Classical.not_not.1 hrt
  have HRT : Hid ((⟨(rangeRoot s.ps).toArray⟩ : ByteArray) = root) := hrt
  have hrt1 : ((⟨(rangeRoot s.ps).toArray⟩ : ByteArray).toList == root.toList) = true := by rw [sameR, decide_eq_true hrt]
  have HPS2 : Hid (∀ k, placeP s.ps a = some k → R = if climbV (s.ps.getD k default) h (a - cntTo s.ps k).toNat s.ss < 0 then -1 else wrkTo s.ps k + climbV (s.ps.getD k default) h (a - cntTo s.ps k).toNat s.ss) := fun k hp => HPS.out k HOK.out HA0.out H8.out HRK.out HRT.out hp
  generalize (⟨(rangeRoot s.ps).toArray⟩ : ByteArray) = rt at hrt1 ⊢
  clear HNO HPS hrt HRT
  obtain ⟨p0, p1⟩ := B3.out.out2
  go_wp2_with fail
  clear p0 p1 hrt1 ha0
  go_loopw [2, 9, 42] (fun av ah i wr => ∃ (k : Nat), k ≤ s.n ∧ i = .int .i64 (k : Int) ∧ av = .int .i64 (a - cntTo s.ps k) ∧ ah = .int .i64 (wrkTo s.ps k) ∧ Hid (CBk wr g0 36 #[.string h.prev, .string h.root, .int .i64 h.time, .int .i64 h.diff, .int .i64 h.nonce]) ∧ Hid (CBk wr (g0 + 1) 44 #[.slice (some ⟨s.g, 0, none⟩) s.n s.c, .slice (some ⟨s.sg, 0, none⟩) s.sn s.sc]) ∧ Hid (Below w.heap.size w wr) ∧ Hid (cntTo s.ps k ≤ a ∧ ∀ j, j < k → ¬ a < cntTo s.ps (j + 1))) (fun _ _ i _ => s.n - (intOf i).toNat)
  case atStart => exact ⟨0, by omega, rfl, by show Value.int .i64 a = Value.int .i64 (a - 0); rw [Int.sub_zero], rfl, A3, B3, L3, ⟨HA0.out, fun j hj => by omega⟩⟩
  case round =>
    clear A3 B3 L3
    obtain ⟨k, hk, rfl, rfl, rfl, AR, BR, LR, HQ⟩ := hrel
    by_cases hlt : k < s.n
    · have hkl : k < s.ps.length := by rw [← HN.out.1]; exact hlt
      have HAr : Hid (AtP wr s.g s.ps) := (HS.out.below LR.out).p
      have q0 := AtP.c0 HAr.out k hkl
      have q1 := AtP.c1 HAr.out k hkl
      have q2 := AtP.c2 HAr.out k hkl
      have lk : (k : Int) < (s.n : Int) := by omega
      have lk0 : (0 : Int) ≤ (k : Int) := by omega
      have wk : IntKind.i64.wrap ((k : Int) + 1) = (k : Int) + 1 := by rw [IntKind.wrap_i64]; omega
      have HK1 : Hid (k + 1 ≤ s.n) := hlt
      have hri := rangeOk_at HRK.out k hkl
      have hci := cnt_in HRK.out k (by omega)
      have hwi := wrk_in HRK.out k (by omega)
      have hl20 := range_len HRK.out
      have hcq := HQ.out.1
      have hce := HCE.out k (a - cntTo s.ps k).toNat HOK.out
      have hcl := HCL.out k (a - cntTo s.ps k).toNat
      have HPL : Hid (a < cntTo s.ps (k + 1) → R = if climbV (s.ps.getD k default) h (a - cntTo s.ps k).toNat s.ss < 0 then -1 else wrkTo s.ps k + climbV (s.ps.getD k default) h (a - cntTo s.ps k).toNat s.ss) := fun hh => HPS2.out k (place_at hkl hh HQ.out.2)
      have HC1 : Hid (cntTo s.ps (k + 1) = cntTo s.ps k + (s.ps.getD k default).count) := rfl
      have HW1 : Hid (wrkTo s.ps (k + 1) = wrkTo s.ps k + (s.ps.getD k default).work) := rfl
      have HQ2 : Hid (¬ a < cntTo s.ps (k + 1) → ∀ j, j < k + 1 → ¬ a < cntTo s.ps (j + 1)) := by
        intro hh j hj
        rcases Nat.lt_or_ge j k with h' | h'
        · exact HQ.out.2 j h'
        · obtain rfl : j = k := by omega
          exact hh
      clear HQ hkl HAr
      generalize climbV (s.ps.getD k default) h (a - cntTo s.ps k).toNat s.ss = cv at hce hcl HPL
      generalize s.ps.getD k default = p at q0 q1 q2 hri hcl HC1 HW1
      generalize cntTo s.ps k = ck at hci hcq hcl HC1 HPL ⊢
      generalize wrkTo s.ps k = wv at hwi HW1 HPL ⊢
      have CS : Hid (CBk (wr.alloc (.cells #[.string p.sum, .int .i64 p.work, .int .i64 p.count] 67)) wr.heap.size 67 #[.string p.sum, .int .i64 p.work, .int .i64 p.count]) := CBk.new wr _ _
      have LA : Hid (Below wr.heap.size wr (wr.alloc (.cells #[.string p.sum, .int .i64 p.work, .int .i64 p.count] 67))) := (Below.refl _ wr).alloc (Nat.le_refl _) _
      obtain ⟨gs, hgs⟩ : ∃ gs, gs = wr.heap.size := ⟨_, rfl⟩
      rw [← hgs] at CS
      by_cases hin : a - ck < p.count
      · have HV : Hid (R = if cv < 0 then -1 else wv + cv) := HPL.out (by rw [HC1.out]; omega)
        obtain ⟨a', ha'⟩ : ∃ a' : Nat, a - ck = (a' : Int) := ⟨(a - ck).toNat, by omega⟩
        rw [ha'] at hin hcl ⊢
        rw [Int.toNat_natCast] at hcl
        have hw3 : IntKind.i64.wrap (wv + cv) = wv + cv := by rw [IntKind.wrap_i64]; omega
        have HA' : Hid (a' ≤ 20) := by show _ ≤ _; omega
        clear HPL HQ2 HPS2 HPN HC1 HW1 ha' hcq hci
        have A1 : Hid (CBk (wr.alloc (.cells #[.string p.sum, .int .i64 p.work, .int .i64 p.count] 67)) g0 36 #[.string h.prev, .string h.root, .int .i64 h.time, .int .i64 h.diff, .int .i64 h.nonce]) := AR.out.call LA.out
        have B1 : Hid (CBk (wr.alloc (.cells #[.string p.sum, .int .i64 p.work, .int .i64 p.count] 67)) (g0 + 1) 44 #[.slice (some ⟨s.g, 0, none⟩) s.n s.c, .slice (some ⟨s.sg, 0, none⟩) s.sn s.sc]) := BR.out.call LA.out
        have L1 : Hid (Below w.heap.size w (wr.alloc (.cells #[.string p.sum, .int .i64 p.work, .int .i64 p.count] 67))) := LR.out.trans (LA.out.mono LR.out.size)
        obtain ⟨e0, e1, e2, e3, e4⟩ := A1.out.cells5
        obtain ⟨p0, p1⟩ := B1.out.out2
        go_wp2_with fail
        generalize wr.alloc (.cells #[.string p.sum, .int .i64 p.work, .int .i64 p.count] 67) = wa at CS LA A1 B1 L1 ⊢
        clear e0 e1 e2 e3 e4 p0 p1 AR BR LR LA q0 q1 q2
        have hc1 := hcl wa HOK.out HA'.out H8S.out L1.out
        clear hcl
        refine hc1.mono ?_
        rintro e w4 ⟨rfl, b4⟩
        have L4 : Hid (Below w.heap.size w w4) := L1.out.trans (b4.mono L1.out.size)
        by_cases hcv : cv < 0
        · have HV2 : Hid (R = -1) := by show _ = _; rw [HV.out, if_pos hcv]
          clear HV
          go_wp2_with fail
          go_ret
          exact ⟨by rw [HV2.out]; rfl, L4.out⟩
        · have HV2 : Hid (R = wv + cv) := by show _ = _; rw [HV.out, if_neg hcv]
          clear HV
          go_wp2_with fail
          go_ret
          exact ⟨by rw [HV2.out]; rfl, L4.out⟩
      · have HQ3 : Hid (∀ j, j < k + 1 → ¬ a < cntTo s.ps (j + 1)) := HQ2.out (by rw [HC1.out]; omega)
        have hw1 : IntKind.i64.wrap (a - ck - p.count) = a - ck - p.count := by rw [IntKind.wrap_i64]; omega
        have hw2 : IntKind.i64.wrap (wv + p.work) = wv + p.work := by rw [IntKind.wrap_i64]; omega
        have HCC : Hid (ck + p.count ≤ a) := by show _ ≤ _; omega
        clear HPL HQ2 hcl hce hri hci hwi hcq
        go_wp2_with fail
        generalize wr.alloc (.cells #[.string p.sum, .int .i64 p.work, .int .i64 p.count] 67) = wa at CS LA ⊢
        have A1 : Hid (CBk wa g0 36 #[.string h.prev, .string h.root, .int .i64 h.time, .int .i64 h.diff, .int .i64 h.nonce]) := AR.out.call LA.out
        have B1 : Hid (CBk wa (g0 + 1) 44 #[.slice (some ⟨s.g, 0, none⟩) s.n s.c, .slice (some ⟨s.sg, 0, none⟩) s.sn s.sc]) := BR.out.call LA.out
        have L1 : Hid (Below w.heap.size w wa) := LR.out.trans (LA.out.mono LR.out.size)
        clear AR BR LR LA q0 q1 q2 hgs
        go_roundw
        case rel => exact ⟨k + 1, HK1.out, by go_num, by rw [HC1.out]; show Value.int .i64 _ = Value.int .i64 _; congr 1; omega, by rw [HW1.out], A1, B1, L1, ⟨by rw [HC1.out]; exact HCC.out, HQ3.out⟩⟩
        case measure => have := HK1.out; simp [intOf]; omega
    · obtain rfl : k = s.n := by omega
      have HV : Hid (R = -1) := HPN.out (place_no (fun j hj => HQ.out.2 j (by rw [HN.out.1]; exact hj)))
      clear HPN HPS2 HQ HCL HCE
      go_wp2_with fail
      go_ret
      exact ⟨by rw [HV.out]; rfl, LR.out⟩

end Go.Proofs.YtkajpkfhedfmaaaGreatDoor

set_option linter.unusedVariables false
namespace Go.Proofs.YtkajpkfhedfmaaaGreatDoor
open Go.RowKit Go.Deep

/-- Peaks, the last first, with one more. -/
def addR : List PeakV → PeakV → List PeakV
  | [], p => [p]
  | q :: r, p => if q.count = p.count then addR r (bothP q p) else p :: q :: r
def addP (ps : List PeakV) (p : PeakV) : List PeakV := (addR ps.reverse p).reverse
theorem addP_nil (p : PeakV) : addP [] p = [p] := rfl
theorem addP_yes {ps : List PeakV} {q p : PeakV} (h : q.count = p.count) : addP (ps ++ [q]) p = addP ps (bothP q p) := by simp [addP, addR, h]
theorem addP_no {ps : List PeakV} {q p : PeakV} (h : ¬ q.count = p.count) : addP (ps ++ [q]) p = ps ++ [q] ++ [p] := by simp [addP, addR, h]
theorem take_one {ps : List PeakV} {m : Nat} (h : m < ps.length) : ps.take (m + 1) = ps.take m ++ [ps.getD m default] := by
  rw [List.take_add_one, List.getElem?_eq_getElem h]
  simp [List.getElem?_eq_getElem h]
/-- A peak that is ok, and not too many heads in it and ahead of it. -/
structure Room (ps : List PeakV) (m : Nat) (q : PeakV) : Prop where
  ok : peakOkB q = true
  few : q.count + cntTo ps m ≤ 21
theorem cnt_pos {ps : List PeakV} (h : ∀ i, i < ps.length → peakOkB (ps.getD i default) = true) : ∀ m, m ≤ ps.length → 0 ≤ cntTo ps m
  | 0, _ => Int.le_refl _
  | m + 1, hm => by
    have := cnt_pos h m (by omega)
    have := peakOk_in (h m (by omega))
    rw [cntTo]
    omega
theorem Room.step {ps : List PeakV} {m : Nat} {q : PeakV} (hk : ∀ i, i < ps.length → peakOkB (ps.getD i default) = true) (hm : m < ps.length) (h : Room ps (m + 1) q) (he : (ps.getD m default).count = q.count) : Room ps m (bothP (ps.getD m default) q) := by
  have h1 := peakOk_in (hk m hm)
  have h2 := peakOk_in h.ok
  have h3 := h.few
  have h4 := cnt_pos hk m (by omega)
  rw [cntTo] at h3
  refine ⟨?_, ?_⟩
  · have hs := isSum_both (ps.getD m default) q
    simp only [peakOkB, hs, Bool.true_and, Bool.and_eq_true, decide_eq_true_eq]
    show (1 ≤ (ps.getD m default).count + q.count ∧ (ps.getD m default).count + q.count ≤ 20) ∧ (ps.getD m default).count + q.count ≤ (ps.getD m default).work + q.work ∧ (ps.getD m default).work + q.work ≤ ((ps.getD m default).count + q.count) * 8
    omega
  · show (ps.getD m default).count + q.count + cntTo ps m ≤ 21
    omega
abbrev PRow (B : Nat) (v : Value) (l : List PeakV) (w : World) : Prop := FRow pEnc 67 3 B v l w
theorem pEnc_one (p : PeakV) : ∀ u ∈ pEnc p, u.oneCell' = true := by
  intro u hu
  simp only [pEnc, List.mem_cons, List.not_mem_nil, or_false] at hu
  rcases hu with rfl | rfl | rfl <;> rfl
theorem pEncs_one (l : List PeakV) : ∀ u ∈ l.flatMap pEnc, u.oneCell' = true := by
  intro u hu
  obtain ⟨p, _, hp⟩ := List.mem_flatMap.1 hu
  exact pEnc_one p u hp
section
variable {P : Program} {w : World}
theorem wpList_append_any {ops : Array Oper} {rest : List Oper} {o : Oper} {a : Act} {Q : Exit → Act → World → Prop} (hgd : o.guard = none) (s x : Operand) (t : TypeId)
    (ho : o.op = .call { callee := .builtin .append, args := #[s, x], argTypes := #[t, t] })
    (base : Nat) (e : TypeId) (i : TypeInfo) (z : Value) (size bytes : Nat) (ht : P.underlying t = some (.slice e)) (hi : P.info? e = some i) (hz : i.zero = some z)
    (hsize : i.size = size) (hby : i.bytes = bytes) (hzs : z.cells.size = size) (hsz : 0 < size)
    (g0 c0 n : Nat) (xs : List Value) (hs : a.eval s = .slice (some ⟨g0, 0, none⟩) n c0) (hown : w.ownsRow base e size (.slice (some ⟨g0, 0, none⟩) n c0) n xs)
    (ad : Addr) (m c : Nat) (news : List Value) (hx : a.eval x = .slice (some ad) m c) (hl : news.length = m * size) (hnews : ∀ j u, news[j]? = some u → w.cell? (ad.add j) = some u) (h1 : ∀ u ∈ news, u.oneCell' = true)
    (h63 : n + m ≤ maxLen) (hbytes : (n + m) * bytes ≤ 140737488355328) (hbase : base ≤ w.heap.size)
    (h : ∀ g cap w', w'.ownsRow base e size (.slice (some ⟨g, 0, none⟩) (n + m) cap) (n + m) (xs ++ news) → w.grownBy w' (some g0) → Hid (g0 = g ∨ g = w.heap.size) → Hid (g < w'.heap.size) → wpList P ops Q rest (a.put o.dst (.slice (some ⟨g, 0, none⟩) (n + m) cap)) w') : wpList P ops Q (o :: rest) a w := by
  refine wpList_plain hgd fun _ hK => ?_
  obtain ⟨g, cap, w', hr, h2, h3, h4, h5⟩ := run_append_any (P := P) (w := w) t o.type base e i z size bytes ht hi hz hsize hby hzs hsz g0 c0 n xs hown ad m c news hl hnews h1 h63 hbytes hbase
  unfold Oper.wp execOp
  simp only [ho, resolve, invoke, builtin, Sem.run_bind, Sem.run_pure, Result.andThen_ok, List.map_toArray, List.map_cons, List.map_nil, hs, hx, hr]
  exact hK _ _ (h g cap w' h2 h3 h4 h5)
end

end Go.Proofs.YtkajpkfhedfmaaaGreatDoor

set_option linter.unusedVariables false
namespace Go.Proofs.YtkajpkfhedfmaaaGreatDoor
open Go.RowKit Go.Deep

theorem add0 (g j : Nat) : (⟨g, 0, none⟩ : Addr).add j = ⟨g, j, none⟩ := by unfold Addr.add; split <;> simp_all
theorem drewAlloc (w : World) (o : Obj) : (w.alloc o).drew = w.drew.alloc o := rfl
def sliceLen : Value → Nat
  | .slice _ n _ => n
  | _ => 0

end Go.Proofs.YtkajpkfhedfmaaaGreatDoor

set_option linter.unusedVariables false
namespace Go.Proofs.YtkajpkfhedfmaaaGreatDoor
open Go.RowKit Go.Deep

theorem addR_all {C : PeakV → Prop} (hb : ∀ a b, C (bothP a b)) : ∀ (r : List PeakV) (p : PeakV), (∀ q ∈ r, C q) → C p → ∀ q ∈ addR r p, C q
  | [], p, _, hp, q, hq => by rw [List.mem_singleton.1 hq]; exact hp
  | x :: r, p, hr, hp, q, hq => by
    unfold addR at hq
    split at hq
    · exact addR_all hb r _ (fun y hy => hr y (List.mem_cons_of_mem _ hy)) (hb _ _) q hq
    · rcases List.mem_cons.1 hq with rfl | h2
      · exact hp
      · exact hr q h2
theorem addP_all {C : PeakV → Prop} (hb : ∀ a b, C (bothP a b)) {ps : List PeakV} {p : PeakV} (hr : ∀ q ∈ ps, C q) (hp : C p) : ∀ q ∈ addP ps p, C q := by
  intro q hq
  exact addR_all hb ps.reverse p (fun y hy => hr y (List.mem_reverse.1 hy)) hp q (List.mem_reverse.1 hq)
theorem addR_len : ∀ (r : List PeakV) (p : PeakV), (addR r p).length ≤ r.length + 1
  | [], p => by simp [addR]
  | x :: r, p => by
    unfold addR
    split
    · have := addR_len r (bothP x p)
      simp
      omega
    · simp
theorem addP_len (ps : List PeakV) (p : PeakV) : (addP ps p).length ≤ ps.length + 1 := by
  have := addR_len ps.reverse p
  simpa [addP] using this
theorem getD_all {C : PeakV → Prop} {l : List PeakV} (h : ∀ q ∈ l, C q) (i : Nat) (hi : i < l.length) : C (l.getD i default) := by
  rw [List.getD_eq_getElem?_getD, List.getElem?_eq_getElem hi]
  exact h _ (List.getElem_mem hi)

theorem peaks_ok {ps : List PeakV} (h : rangeOkB ps = true) (i : Nat) (hi : i < ps.length) : peakOkB (ps.getD i default) = true := by
  rw [rangeOkB, Bool.and_eq_true, List.all_eq_true] at h
  have := h.1 i (List.mem_range.2 hi)
  simp only [stepOk, Bool.and_eq_true] at this
  exact this.1
theorem range_cnt {ps : List PeakV} (h : rangeOkB ps = true) : cntTo ps ps.length ≤ 20 := by
  rw [rangeOkB, Bool.and_eq_true, decide_eq_true_eq] at h
  exact h.2

theorem newsPeaks {w wx : World} {g : Nat} {ps : List PeakV} (hA : AtP w g ps) (hb : Below w.heap.size w wx) : ∀ j u, (ps.flatMap pEnc)[j]? = some u → wx.cell? ((⟨g, 0, none⟩ : Addr).add j) = some u := by
  intro j u hj
  have hat := hA.below hb hA.1
  have hjl : j < (ps.flatMap pEnc).length := by
    rcases Nat.lt_or_ge j (ps.flatMap pEnc).length with h' | h'
    · exact h'
    · rw [List.getElem?_eq_none h'] at hj; cases hj
  rw [flat_length 3 pEnc pEnc_len] at hjl
  have hq : j = j / 3 * 3 + j % 3 := by omega
  have hi3 : j / 3 < ps.length := by omega
  have h3 := hat.2 (j / 3) (j % 3) hi3 (Nat.mod_lt _ (by decide))
  have hf := flat_at 3 pEnc pEnc_len ps (j / 3) (j % 3) hi3 (Nat.mod_lt _ (by decide))
  rw [← hq] at h3 hf
  rw [add0, h3, ← hf]
  exact hj

def AddPost (B : Nat) (ps : List PeakV) (h : HeadV) (e : Ending) (w' : World) : Prop :=
  ((rangeOkB ps && headOkB h) = false ∧ e = .returned (.tuple #[.slice none 0 0, .bool false])) ∨
  ((rangeOkB ps && headOkB h) = true ∧ ∃ v, e = .returned (.tuple #[v, .bool (rangeOkB (addP ps (leafP h)))]) ∧ PRow B v (if rangeOkB (addP ps (leafP h)) then addP ps (leafP h) else ps) w')

end Go.Proofs.YtkajpkfhedfmaaaGreatDoor

set_option linter.unusedVariables false
namespace Go.Proofs.YtkajpkfhedfmaaaGreatDoor
open Go.RowKit Go.Deep

def sumC : List PeakV → Int
  | [] => 0
  | p :: r => p.count + sumC r
theorem cnt_sum (ps : List PeakV) : ∀ k, k ≤ ps.length → cntTo ps k = sumC (ps.take k).reverse
  | 0, _ => by simp [cntTo, sumC]
  | k + 1, hk => by
    rw [cntTo, cnt_sum ps k (by omega), take_one (by omega), List.reverse_append]
    simp [sumC, Int.add_comm]
theorem cnt_all (ps : List PeakV) : cntTo ps ps.length = sumC ps.reverse := by
  rw [cnt_sum ps ps.length (Nat.le_refl _), List.take_length]
theorem addR_sum : ∀ (r : List PeakV) (p : PeakV), sumC (addR r p) = sumC r + p.count
  | [], p => by simp [addR, sumC]
  | x :: r, p => by
    unfold addR
    split
    · rw [addR_sum r (bothP x p)]
      simp only [sumC, bothP]
      omega
    · simp only [sumC]
      omega
theorem addP_cnt (ps : List PeakV) (p : PeakV) : cntTo (addP ps p) (addP ps p).length = cntTo ps ps.length + p.count := by
  rw [cnt_all, cnt_all, addP, List.reverse_reverse, addR_sum]
theorem sumC_pos : ∀ (r : List PeakV), (∀ q ∈ r, peakOkB q = true) → 0 ≤ sumC r
  | [], _ => Int.le_refl _
  | x :: r, h => by
    have h1 := peakOk_in (h x (List.mem_cons_self ..))
    have h2 := sumC_pos r (fun q hq => h q (List.mem_cons_of_mem _ hq))
    simp only [sumC]
    omega
theorem bothP_ok {a b : PeakV} (ha : peakOkB a = true) (hb : peakOkB b = true) (h : a.count + b.count ≤ 20) : peakOkB (bothP a b) = true := by
  have h1 := peakOk_in ha
  have h2 := peakOk_in hb
  have hs := isSum_both a b
  simp only [peakOkB, hs, Bool.true_and, Bool.and_eq_true, decide_eq_true_eq]
  show (1 ≤ a.count + b.count ∧ a.count + b.count ≤ 20) ∧ a.count + b.count ≤ a.work + b.work ∧ a.work + b.work ≤ (a.count + b.count) * 8
  omega
theorem addR_ok : ∀ (r : List PeakV) (p : PeakV), (∀ q ∈ r, peakOkB q = true) → peakOkB p = true → sumC r + p.count ≤ 20 → ∀ q ∈ addR r p, peakOkB q = true
  | [], p, _, hp, _, q, hq => by rw [List.mem_singleton.1 hq]; exact hp
  | x :: r, p, hr, hp, hs, q, hq => by
    have h1 := hr x (List.mem_cons_self ..)
    have h2 := fun y hy => hr y (List.mem_cons_of_mem _ hy)
    have h3 := sumC_pos r h2
    simp only [sumC] at hs
    unfold addR at hq
    split at hq
    · exact addR_ok r (bothP x p) h2 (bothP_ok h1 hp (by omega)) (by simp only [bothP]; omega) q hq
    · rcases List.mem_cons.1 hq with rfl | h4
      · exact hp
      · exact hr q h4
theorem addP_ok {ps : List PeakV} {p : PeakV} (hr : ∀ q ∈ ps, peakOkB q = true) (hp : peakOkB p = true) (h : cntTo ps ps.length + p.count ≤ 20) : ∀ q ∈ addP ps p, peakOkB q = true := by
  intro q hq
  rw [cnt_all] at h
  exact addR_ok ps.reverse p (fun y hy => hr y (List.mem_reverse.1 hy)) hp h q (List.mem_reverse.1 hq)

/-- The peaks of the first heads. -/
def ofP (l : List HeadV) : Nat → List PeakV
  | 0 => []
  | k + 1 => addP (ofP l k) (leafP (l.getD k default))
theorem ofP_ok {l : List HeadV} (h : ∀ i, i < l.length → headOkB (l.getD i default) = true) (hl : l.length ≤ 20) : ∀ k, k ≤ l.length → (∀ q ∈ ofP l k, peakOkB q = true) ∧ cntTo (ofP l k) (ofP l k).length = (k : Int) ∧ (ofP l k).length ≤ k
  | 0, _ => ⟨fun q hq => by simp [ofP] at hq, rfl, Nat.le_refl _⟩
  | k + 1, hk => by
    obtain ⟨h1, h2, h3⟩ := ofP_ok h hl k (by omega)
    have hp : peakOkB (leafP (l.getD k default)) = true := fine_ok (fine_leaf (h k (by omega))) (by show (1 : Int) ≤ 20; decide)
    have hc : (leafP (l.getD k default)).count = 1 := rfl
    refine ⟨addP_ok h1 hp (by rw [h2, hc]; omega), ?_, ?_⟩
    · show cntTo (addP _ _) (addP _ _).length = _
      rw [addP_cnt, h2, hc]
      omega
    · have := addP_len (ofP l k) (leafP (l.getD k default))
      show (addP _ _).length ≤ _
      omega

end Go.Proofs.YtkajpkfhedfmaaaGreatDoor

set_option linter.unusedVariables false
namespace Go.Proofs.YtkajpkfhedfmaaaGreatDoor
open Go.RowKit Go.Deep

/-- The peak of the 2^j leaves from a on. -/
def treeT (f : Nat → PeakV) (a : Nat) : Nat → PeakV
  | 0 => f a
  | j + 1 => bothP (treeT f a j) (treeT f (a + 2 ^ j) j)
/-- The steps beside the way of leaf a + x in it, the lowest first. -/
def sibT (f : Nat → PeakV) (a : Nat) : Nat → Nat → List PeakV
  | 0, _ => []
  | j + 1, x => if x < 2 ^ j then sibT f a j x ++ [treeT f (a + 2 ^ j) j] else sibT f (a + 2 ^ j) j (x - 2 ^ j) ++ [treeT f a j]
/-- The same, a row at a time: 2^k leaves a place. -/
def sibR (f : Nat → PeakV) (a k : Nat) : Nat → Nat → List PeakV
  | 0, _ => []
  | j + 1, x => treeT f (a + (x + 1 - x % 2 * 2) * 2 ^ k) k :: sibR f a (k + 1) j (x / 2)
theorem sibR_top (f : Nat → PeakV) : ∀ (j a k x : Nat), x < 2 ^ (j + 1) → sibR f a k (j + 1) x = if x < 2 ^ j then sibR f a k j x ++ [treeT f (a + 2 ^ (j + k)) (j + k)] else sibR f (a + 2 ^ (j + k)) k j (x - 2 ^ j) ++ [treeT f a (j + k)]
  | 0, a, k, x, hx => by
    have h2 : x = 0 ∨ x = 1 := by have : x < 2 := by simpa using hx
                                  omega
    rcases h2 with rfl | rfl <;> simp [sibR]
  | j + 1, a, k, x, hx => by
    have e2 : 2 ^ (j + 1 + 1) = 2 * 2 ^ (j + 1) := Nat.pow_succ'
    have e1 : 2 ^ (j + 1) = 2 * 2 ^ j := Nat.pow_succ'
    have ek : j + 1 + k = j + (k + 1) := by omega
    rw [sibR, sibR_top f j a (k + 1) (x / 2) (by omega), ek]
    by_cases h : x < 2 ^ (j + 1)
    · rw [if_pos h, if_pos (by omega), sibR]
      rfl
    · rw [if_neg h, if_neg (by omega), sibR]
      have e3 : (x - 2 ^ (j + 1)) / 2 = x / 2 - 2 ^ j := by omega
      have e4 : x + 1 - x % 2 * 2 = 2 ^ (j + 1) + (x - 2 ^ (j + 1) + 1 - (x - 2 ^ (j + 1)) % 2 * 2) := by omega
      have e5 : a + (2 ^ (j + 1) + (x - 2 ^ (j + 1) + 1 - (x - 2 ^ (j + 1)) % 2 * 2)) * 2 ^ k = a + 2 ^ (j + (k + 1)) + (x - 2 ^ (j + 1) + 1 - (x - 2 ^ (j + 1)) % 2 * 2) * 2 ^ k := by
        rw [Nat.add_mul, ← Nat.pow_add, ← Nat.add_assoc, show j + 1 + k = j + (k + 1) from ek]
      rw [e3, e4, e5]
      rfl
theorem sibR_eq (f : Nat → PeakV) : ∀ (j a x : Nat), x < 2 ^ j → sibR f a 0 j x = sibT f a j x
  | 0, _, _, _ => rfl
  | j + 1, a, x, hx => by
    have e1 : 2 ^ (j + 1) = 2 * 2 ^ j := Nat.pow_succ'
    rw [sibR_top f j a 0 x hx, sibT, Nat.add_zero]
    by_cases h : x < 2 ^ j
    · rw [if_pos h, if_pos h, sibR_eq f j a x h]
    · rw [if_neg h, if_neg h, sibR_eq f j _ _ (by omega)]

/-- A row of peaks becomes the row above it. -/
def upP : List PeakV → List PeakV
  | p :: q :: r => bothP p q :: upP r
  | _ => []
def treeS : Nat → List PeakV → Nat → List PeakV
  | 0, _, _ => []
  | j + 1, row, x => row.getD (x + 1 - x % 2 * 2) default :: treeS j (upP row) (x / 2)
/-- m places of 2^k leaves each, from a on. -/
def rowT (f : Nat → PeakV) (a k : Nat) : Nat → List PeakV
  | 0 => []
  | m + 1 => treeT f a k :: rowT f (a + 2 ^ k) k m
theorem rowT_len (f : Nat → PeakV) : ∀ (m a k : Nat), (rowT f a k m).length = m
  | 0, _, _ => rfl
  | m + 1, a, k => by rw [rowT, List.length_cons, rowT_len f m]
theorem rowT_at (f : Nat → PeakV) : ∀ (m a k i : Nat), i < m → (rowT f a k m).getD i default = treeT f (a + i * 2 ^ k) k
  | m + 1, a, k, 0, _ => by simp [rowT]
  | m + 1, a, k, i + 1, h => by
    have := rowT_at f m (a + 2 ^ k) k i (by omega)
    rw [rowT, List.getD_cons_succ, this, Nat.add_mul, Nat.one_mul]
    congr 1
    omega
theorem upP_row (f : Nat → PeakV) : ∀ (m a k : Nat), upP (rowT f a k (2 * m)) = rowT f a (k + 1) m
  | 0, _, _ => rfl
  | m + 1, a, k => by
    have e1 : 2 ^ (k + 1) = 2 ^ k + 2 ^ k := by rw [Nat.pow_succ']; omega
    rw [show 2 * (m + 1) = 2 * m + 1 + 1 from by omega, rowT, rowT, upP, rowT, upP_row f m, treeT, e1, Nat.add_assoc]
theorem treeS_eq (f : Nat → PeakV) : ∀ (j a k x : Nat), x < 2 ^ j → treeS j (rowT f a k (2 ^ j)) x = sibR f a k j x
  | 0, _, _, _, _ => rfl
  | j + 1, a, k, x, hx => by
    have e1 : 2 ^ (j + 1) = 2 * 2 ^ j := Nat.pow_succ'
    rw [treeS, sibR, rowT_at f _ a k _ (by omega), e1, upP_row, treeS_eq f j a (k + 1) (x / 2) (by omega)]
/-- The specification's steps are those of the halves. -/
theorem treeS_sib (f : Nat → PeakV) (j a x : Nat) (hx : x < 2 ^ j) : treeS j (rowT f a 0 (2 ^ j)) x = sibT f a j x := by
  rw [treeS_eq f j a 0 x hx, sibR_eq f j a x hx]
end Go.Proofs.YtkajpkfhedfmaaaGreatDoor

set_option linter.unusedVariables false
namespace Go.Proofs.YtkajpkfhedfmaaaGreatDoor
open Go.RowKit Go.Deep

/-- A peak, and whether the leaf that is proved is in it. -/
abbrev NodeV := PeakV × Bool
def bothN (a b : NodeV) : NodeV := (bothP a.1 b.1, a.2 || b.2)
def noteN (a b : NodeV) : List PeakV := (if a.2 = true then [b.1] else []) ++ (if b.2 = true then [a.1] else [])
/-- A node pushed, the last one first: the stack, and what is noted. -/
def addN : List NodeV → NodeV → List NodeV
  | [], p => [p]
  | q :: r, p => if q.1.count = p.1.count then addN r (bothN q p) else p :: q :: r
def noteR : List NodeV → NodeV → List PeakV
  | [], _ => []
  | q :: r, p => if q.1.count = p.1.count then noteN q p ++ noteR r (bothN q p) else []
/-- The stack behind m leaves, the last node first; the notes. -/
def stkN (f : Nat → PeakV) (x : Nat) : Nat → List NodeV
  | 0 => []
  | m + 1 => addN (stkN f x m) (f m, decide (m = x))
def notesN (f : Nat → PeakV) (x : Nat) : Nat → List PeakV
  | 0 => []
  | m + 1 => notesN f x m ++ noteR (stkN f x m) (f m, decide (m = x))

/-- A node as its place and its height say. -/
def nodeT (f : Nat → PeakV) (x : Nat) (s : Nat × Nat) : NodeV := (treeT f s.1 s.2, decide (s.1 ≤ x ∧ x < s.1 + 2 ^ s.2))
/-- Places and heights, the last first: each ends where the one ahead of it in the list begins, and is higher. -/
def Shp : Nat → Nat → List (Nat × Nat) → Prop
  | e, _, [] => e = 0
  | e, j, s :: r => s.1 + 2 ^ s.2 = e ∧ j ≤ s.2 ∧ Shp s.1 (s.2 + 1) r
/-- What is noted for a leaf, as far as the halves go. -/
def sibS (f : Nat → PeakV) (x : Nat) : List (Nat × Nat) → List PeakV
  | [] => []
  | s :: r => if s.1 ≤ x ∧ x < s.1 + 2 ^ s.2 then sibT f s.1 s.2 (x - s.1) else sibS f x r
theorem treeT_cnt {f : Nat → PeakV} (hf : ∀ i, (f i).count = 1) : ∀ (j a : Nat), (treeT f a j).count = ((2 ^ j : Nat) : Int)
  | 0, a => by rw [treeT, hf]; rfl
  | j + 1, a => by
    have h1 := treeT_cnt hf j a
    have h2 := treeT_cnt hf j (a + 2 ^ j)
    have e1 : 2 ^ (j + 1) = 2 ^ j + 2 ^ j := by rw [Nat.pow_succ']; omega
    rw [treeT, e1]
    show (treeT f a j).count + (treeT f (a + 2 ^ j) j).count = _
    rw [h1, h2]
    omega
theorem pow_same {i j : Nat} (h : 2 ^ i = 2 ^ j) : i = j := by
  rcases Nat.lt_trichotomy i j with h' | h' | h'
  · have := Nat.pow_lt_pow_right (a := 2) (by decide) h'
    omega
  · exact h'
  · have := Nat.pow_lt_pow_right (a := 2) (by decide) h'
    omega
theorem node_both (f : Nat → PeakV) (x a j : Nat) : bothN (nodeT f x (a, j)) (nodeT f x (a + 2 ^ j, j)) = nodeT f x (a, j + 1) := by
  have e1 : 2 ^ (j + 1) = 2 ^ j + 2 ^ j := by rw [Nat.pow_succ']; omega
  simp only [bothN, nodeT, treeT, e1, Prod.mk.injEq, true_and]
  rw [← Bool.decide_or, decide_eq_decide]
  omega
theorem Shp.low {e j i : Nat} {r : List (Nat × Nat)} (h : Shp e j r) (hi : i ≤ j) : Shp e i r := by
  cases r with
  | nil => exact h
  | cons s r => exact ⟨h.1, Nat.le_trans hi h.2.1, h.2.2⟩
/-- No place of the list holds a leaf from its end on. -/
theorem sibS_no (f : Nat → PeakV) (x : Nat) : ∀ (r : List (Nat × Nat)) (e j : Nat), Shp e j r → e ≤ x → sibS f x r = []
  | [], _, _, _, _ => rfl
  | s :: r, e, j, h, hx => by
    obtain ⟨h1, h2, h3⟩ := h
    have : 0 < 2 ^ s.2 := Nat.two_pow_pos _
    rw [sibS, if_neg (by omega)]
    exact sibS_no f x r s.1 (s.2 + 1) h3 (by omega)
/-- One pushed on nodes as their places say: again nodes as their places say, and the notes grow to what the halves say. -/
theorem push_shp {f : Nat → PeakV} (hf : ∀ i, (f i).count = 1) (x : Nat) : ∀ (r : List (Nat × Nat)) (a j : Nat), Shp a j r →
    ∃ t, addN (r.map (nodeT f x)) (nodeT f x (a, j)) = t.map (nodeT f x) ∧ Shp (a + 2 ^ j) 0 t ∧
      sibS f x ((a, j) :: r) ++ noteR (r.map (nodeT f x)) (nodeT f x (a, j)) = sibS f x t
  | [], a, j, h => ⟨[(a, j)], rfl, ⟨rfl, Nat.zero_le _, h⟩, by simp [noteR]⟩
  | s :: r, a, j, h => by
    obtain ⟨h1, h2, h3⟩ := h
    obtain ⟨b, i⟩ := s
    dsimp only at h1 h2 h3
    have hp : 0 < 2 ^ i := Nat.two_pow_pos _
    by_cases hij : i = j
    · subst hij
      subst h1
      have e1 : 2 ^ (i + 1) = 2 ^ i + 2 ^ i := by rw [Nat.pow_succ']; omega
      obtain ⟨t, t1, t2, t3⟩ := push_shp hf x r b (i + 1) h3
      have hc : (nodeT f x (b, i)).1.count = (nodeT f x (b + 2 ^ i, i)).1.count := by
        show (treeT f b i).count = (treeT f (b + 2 ^ i) i).count
        rw [treeT_cnt hf, treeT_cnt hf]
      refine ⟨t, ?_, by rw [show b + 2 ^ i + 2 ^ i = b + 2 ^ (i + 1) from by omega]; exact t2, ?_⟩
      · rw [List.map_cons, addN, if_pos hc, node_both]
        exact t1
      · rw [List.map_cons, noteR, if_pos hc, node_both, ← t3, ← List.append_assoc]
        congr 1
        have ha : (nodeT f x (b, i)).2 = decide (b ≤ x ∧ x < b + 2 ^ i) := rfl
        have hb : (nodeT f x (b + 2 ^ i, i)).2 = decide (b + 2 ^ i ≤ x ∧ x < b + 2 ^ i + 2 ^ i) := rfl
        rw [noteN, ha, hb]
        simp only [sibS, decide_eq_true_eq]
        by_cases c1 : b + 2 ^ i ≤ x ∧ x < b + 2 ^ i + 2 ^ i
        · rw [if_pos c1, if_neg (by omega), if_pos c1, if_pos (by omega), sibT, if_neg (by omega), List.nil_append, show x - b - 2 ^ i = x - (b + 2 ^ i) from by omega]
          rfl
        · rw [if_neg c1, if_neg c1, List.append_nil]
          by_cases c2 : b ≤ x ∧ x < b + 2 ^ i
          · rw [if_pos c2, if_pos c2, if_pos (by omega), sibT, if_pos (by omega)]
            rfl
          · rw [if_neg c2, if_neg c2, if_neg (by omega), List.append_nil]
    · have hc : ¬ (nodeT f x (b, i)).1.count = (nodeT f x (a, j)).1.count := by
        show ¬ (treeT f b i).count = (treeT f a j).count
        rw [treeT_cnt hf, treeT_cnt hf]
        intro he
        exact hij (pow_same (by omega))
      refine ⟨(a, j) :: (b, i) :: r, ?_, ⟨rfl, Nat.zero_le _, h1, by show j + 1 ≤ i; omega, h3⟩, ?_⟩
      · rw [List.map_cons, addN, if_neg hc]
        rfl
      · rw [List.map_cons, noteR, if_neg hc, List.append_nil]
/-- The stack behind m leaves, and its notes. -/
theorem stk_shp {f : Nat → PeakV} (hf : ∀ i, (f i).count = 1) (x : Nat) : ∀ m, ∃ t, stkN f x m = t.map (nodeT f x) ∧ Shp m 0 t ∧ notesN f x m = sibS f x t
  | 0 => ⟨[], rfl, rfl, rfl⟩
  | m + 1 => by
    obtain ⟨t, t1, t2, t3⟩ := stk_shp hf x m
    obtain ⟨u, u1, u2, u3⟩ := push_shp hf x t m 0 t2
    have hn : ((f m, decide (m = x)) : NodeV) = nodeT f x (m, 0) := by
      simp only [nodeT, treeT, Prod.mk.injEq, true_and, decide_eq_decide]
      omega
    refine ⟨u, ?_, u2, ?_⟩
    · rw [stkN, t1, hn]
      exact u1
    · rw [notesN, t1, t3, hn, ← u3]
      congr 1
      by_cases hm : m = x
      · subst hm
        rw [sibS_no f m t m 0 t2 (Nat.le_refl _), sibS, if_pos (by simp), sibT]
      · rw [sibS, if_neg (by simp; omega)]
end Go.Proofs.YtkajpkfhedfmaaaGreatDoor

set_option linter.unusedVariables false
namespace Go.Proofs.YtkajpkfhedfmaaaGreatDoor
open Go.RowKit Go.Deep

theorem addN_fst : ∀ (r : List NodeV) (p : NodeV), (addN r p).map Prod.fst = addR (r.map Prod.fst) p.1
  | [], p => rfl
  | q :: r, p => by
    rw [addN, List.map_cons, addR]
    split
    · rw [addN_fst r (bothN q p)]
      rfl
    · rfl
def leafF (l : List HeadV) (i : Nat) : PeakV := leafP (l.getD i default)
theorem leafF_cnt (l : List HeadV) (i : Nat) : (leafF l i).count = 1 := rfl
theorem stk_ofP (l : List HeadV) (x : Nat) : ∀ m, (stkN (leafF l) x m).map Prod.fst = (ofP l m).reverse
  | 0 => rfl
  | m + 1 => by
    rw [stkN, addN_fst, stk_ofP l x m, ofP, addP, List.reverse_reverse]
    rfl
/-- The peaks of places and heights, the first first. -/
def peaksT (f : Nat → PeakV) (t : List (Nat × Nat)) : List PeakV := (t.map fun s => treeT f s.1 s.2).reverse
theorem peaksT_cons (f : Nat → PeakV) (s : Nat × Nat) (r : List (Nat × Nat)) : peaksT f (s :: r) = peaksT f r ++ [treeT f s.1 s.2] := by simp [peaksT]
theorem stk_peaks {l : List HeadV} {x m : Nat} {t : List (Nat × Nat)} (h : stkN (leafF l) x m = t.map (nodeT (leafF l) x)) : ofP l m = peaksT (leafF l) t := by
  have h1 := stk_ofP l x m
  rw [h, List.map_map] at h1
  have h2 := congrArg List.reverse h1
  rw [List.reverse_reverse] at h2
  exact h2.symm
theorem shp_cnt {f : Nat → PeakV} (hf : ∀ i, (f i).count = 1) : ∀ (t : List (Nat × Nat)) (e j : Nat), Shp e j t → cntTo (peaksT f t) (peaksT f t).length = (e : Int)
  | [], e, j, h => by
    obtain rfl : e = 0 := h
    rfl
  | s :: r, e, j, h => by
    obtain ⟨h1, h2, h3⟩ := h
    have h4 := shp_cnt hf r s.1 _ h3
    rw [cnt_all] at h4 ⊢
    rw [peaksT_cons, List.reverse_append]
    show (treeT f s.1 s.2).count + sumC (peaksT f r).reverse = _
    rw [h4, treeT_cnt hf]
    omega
theorem cnt_app (ps qs : List PeakV) : ∀ k, k ≤ ps.length → cntTo (ps ++ qs) k = cntTo ps k
  | 0, _ => rfl
  | k + 1, hk => by
    rw [cntTo, cntTo, cnt_app ps qs k (by omega)]
    congr 2
    rw [List.getD_eq_getElem?_getD, List.getD_eq_getElem?_getD, List.getElem?_append_left (by omega)]
theorem cnt_mono {ps : List PeakV} (h : ∀ q ∈ ps, 0 ≤ q.count) : ∀ (d k : Nat), k + d ≤ ps.length → cntTo ps k ≤ cntTo ps (k + d)
  | 0, k, _ => Int.le_refl _
  | d + 1, k, hd => by
    have h1 := cnt_mono h d k (by omega)
    have h2 : 0 ≤ (ps.getD (k + d) default).count := by
      rw [List.getD_eq_getElem?_getD, List.getElem?_eq_getElem (by omega)]
      exact h _ (List.getElem_mem _)
    rw [← Nat.add_assoc, cntTo]
    omega
theorem peaksT_pos {f : Nat → PeakV} (hf : ∀ i, (f i).count = 1) (t : List (Nat × Nat)) : ∀ q ∈ peaksT f t, 0 ≤ q.count := by
  intro q hq
  rw [peaksT, List.mem_reverse] at hq
  obtain ⟨s, _, rfl⟩ := List.mem_map.1 hq
  rw [treeT_cnt hf]
  exact Int.natCast_nonneg _
/-- The peak in which a leaf is: its place and height, and the notes for the leaf. -/
theorem shp_place {f : Nat → PeakV} (hf : ∀ i, (f i).count = 1) (x : Nat) : ∀ (t : List (Nat × Nat)) (e j : Nat), Shp e j t → x < e →
    ∃ (k a i : Nat), k < (peaksT f t).length ∧ (x : Int) < cntTo (peaksT f t) (k + 1) ∧ (∀ m, m < k → ¬ (x : Int) < cntTo (peaksT f t) (m + 1)) ∧ cntTo (peaksT f t) k = (a : Int) ∧ (peaksT f t).getD k default = treeT f a i ∧ a ≤ x ∧ x < a + 2 ^ i ∧ sibS f x t = sibT f a i (x - a)
  | [], e, j, h, hx => by
    obtain rfl : e = 0 := h
    omega
  | s :: r, e, j, h, hx => by
    obtain ⟨h1, h2, h3⟩ := h
    have hc := shp_cnt hf r s.1 _ h3
    have hl : (peaksT f (s :: r)).length = (peaksT f r).length + 1 := by rw [peaksT_cons, List.length_append]; rfl
    by_cases hs : s.1 ≤ x
    · have e0 : cntTo (peaksT f (s :: r)) (peaksT f r).length = (s.1 : Int) := by rw [peaksT_cons, cnt_app _ _ _ (Nat.le_refl _), hc]
      have e1 : (peaksT f (s :: r)).getD (peaksT f r).length default = treeT f s.1 s.2 := by
        rw [peaksT_cons, List.getD_eq_getElem?_getD, List.getElem?_append_right (Nat.le_refl _), Nat.sub_self]
        rfl
      refine ⟨(peaksT f r).length, s.1, s.2, by omega, ?_, ?_, e0, e1, hs, by omega, ?_⟩
      · rw [cntTo, e0, e1, treeT_cnt hf]
        generalize 2 ^ s.2 = P at h1 ⊢
        omega
      · intro m hm
        rw [peaksT_cons, cnt_app _ _ _ (by omega)]
        have := cnt_mono (peaksT_pos hf r) ((peaksT f r).length - (m + 1)) (m + 1) (by omega)
        rw [show m + 1 + ((peaksT f r).length - (m + 1)) = (peaksT f r).length from by omega, hc] at this
        omega
      · rw [sibS, if_pos (by omega)]
    · obtain ⟨k, a, i, k1, k2, k3, k4, k5, k6, k7, k8⟩ := shp_place hf x r s.1 _ h3 (by omega)
      refine ⟨k, a, i, by omega, ?_, ?_, ?_, ?_, k6, k7, ?_⟩
      · rw [peaksT_cons, cnt_app _ _ _ (by omega)]; exact k2
      · intro m hm
        rw [peaksT_cons, cnt_app _ _ _ (by omega)]
        exact k3 m hm
      · rw [peaksT_cons, cnt_app _ _ _ (by omega)]; exact k4
      · rw [peaksT_cons, List.getD_eq_getElem?_getD, List.getElem?_append_left k1, ← List.getD_eq_getElem?_getD]
        exact k5
      · rw [sibS, if_neg (by omega)]; exact k8
/-- What RangeProof tells of heads that are ok and a place among them: the peaks, and the steps that were noted; the specification finds the same in the tree of the place's peak. -/
theorem proof_same (l : List HeadV) (x m : Nat) (hx : x < m) : ∃ (k a i : Nat), placeP (ofP l m) (x : Int) = some k ∧ cntTo (ofP l m) k = (a : Int) ∧ ((ofP l m).getD k default).count = ((2 ^ i : Nat) : Int) ∧ a ≤ x ∧ x < a + 2 ^ i ∧ notesN (leafF l) x m = treeS i (rowT (leafF l) a 0 (2 ^ i)) (x - a) := by
  obtain ⟨t, t1, t2, t3⟩ := stk_shp (leafF_cnt l) x m
  have hp := stk_peaks t1
  obtain ⟨k, a, i, k1, k2, k3, k4, k5, k6, k7, k8⟩ := shp_place (leafF_cnt l) x t m 0 t2 hx
  rw [hp]
  refine ⟨k, a, i, place_at k1 k2 k3, k4, by rw [k5, treeT_cnt (leafF_cnt l)], k6, k7, ?_⟩
  rw [t3, k8, treeS_sib _ _ _ _ (by omega)]
end Go.Proofs.YtkajpkfhedfmaaaGreatDoor

set_option linter.unusedVariables false
namespace Go.Proofs.YtkajpkfhedfmaaaGreatDoor
open Go.RowKit Go.Deep

theorem sizeAlloc (w : World) (o : Obj) : w.heap.size ≤ (w.alloc o).heap.size := by simp
theorem grownOff {w w' : World} {o : Obj} {g : Nat} (h : (w.alloc o).grownBy w' (some g)) : ∀ c, c < w.heap.size → c ≠ g → w'.heap[c]? = w.heap[c]? := fun c hc hne =>
  (h.block c (Nat.lt_of_lt_of_le hc (sizeAlloc w o)) (by simpa using hne)).trans (Below.heap_alloc _ _ _ hc)
/-- A stack in memory: its block, its row of peaks. -/
structure StkW (w0 wr : World) (g r c M : Nat) (l : List PeakV) : Prop where
  s : CBk wr g 79 #[.slice (some ⟨r, 0, none⟩) M c, .func (.func 61) #[] #[], .func (.func 62) #[] #[]]
  row : wr.ownsRow w0.heap.size 67 3 (.slice (some ⟨r, 0, none⟩) M c) M (l.flatMap pEnc)
  len : l.length = M
  b : Below w0.heap.size w0 wr
  rg : r ≠ g
  lo : w0.heap.size ≤ g
def Stk (w0 wr : World) (g : Nat) (l : List PeakV) : Prop := ∃ r c M, StkW w0 wr g r c M l
theorem StkW.frow {w0 wr : World} {g r c M : Nat} {l : List PeakV} (h : StkW w0 wr g r c M l) : PRow w0.heap.size (.slice (some ⟨r, 0, none⟩) M c) l wr := FRow.of h.row h.len.symm
theorem StkW.at {w0 wr : World} {g r c M : Nat} {l : List PeakV} (h : StkW w0 wr g r c M l) : AtP wr r l ∧ M = l.length ∧ w0.heap.size ≤ r ∧ M ≤ c := FRow.at pEnc_len h.frow
theorem StkW.call {w0 wr w' : World} {g r c M : Nat} {l : List PeakV} (h : StkW w0 wr g r c M l) (hb : Below wr.heap.size wr w') : StkW w0 w' g r c M l :=
  ⟨h.s.call hb, (FRow.below h.frow hb).2 |> (fun x => by rw [h.len] at x; exact x), h.len, h.b.trans (hb.mono h.b.size), h.rg, h.lo⟩
theorem StkW.drew {w0 wr : World} {g r c M : Nat} {l : List PeakV} (h : StkW w0 wr g r c M l) : StkW w0 wr.drew g r c M l := h.call (Below.refl _ _).drew
theorem StkW.outs {w0 wr : World} {g r c M : Nat} {l : List PeakV} (h : StkW w0 wr g r c M l) : wr.cell? ⟨g, 0, none⟩ = some (.slice (some ⟨r, 0, none⟩) M c) ∧ wr.cell? ⟨g, 1, none⟩ = some (.func (.func 61) #[] #[]) ∧ wr.cell? ⟨g, 2, none⟩ = some (.func (.func 62) #[] #[]) := ⟨h.s.cell 0, h.s.cell 1, h.s.cell 2⟩
theorem rowKeep {B r c M g3 i : Nat} {xs : List Value} {wx : World} {v : Value} (hx : wx.ownsRow B 67 3 (.slice (some ⟨r, 0, none⟩) M c) M xs) (hne : r ≠ g3) : (wx.setCell ⟨g3, i, none⟩ v).ownsRow B 67 3 (.slice (some ⟨r, 0, none⟩) M c) M xs := by
  obtain ⟨h1, h2⟩ := hx
  refine ⟨h1, ?_⟩
  rcases h2 with h3 | ⟨g', cap', cur, hv, hB, hg, h4⟩
  · exact .inl h3
  · refine .inr ⟨g', cap', cur, hv, hB, ?_, h4⟩
    simp only [Value.slice.injEq, Option.some.injEq, Addr.mk.injEq, and_true] at hv
    have : g3 ≠ g' := by have := hv.1; omega
    simp [World.setCell, Array.getElem?_modify, hg, this]
theorem PushK {w0 wr w6 : World} {o : Obj} {g r c M : Nat} {l : List PeakV} (h : StkW w0 wr g r c M l) (hg : (wr.drew.alloc o).grownBy w6 (some r)) : CBk w6 g 79 #[.slice (some ⟨r, 0, none⟩) M c, .func (.func 61) #[] #[], .func (.func 62) #[] #[]] :=
  (grownOff hg g h.s.lt h.rg.symm).trans h.s
/-- Behind a store into a block of no other's. -/
theorem StkW.store {w0 wr : World} {g r c M : Nat} {l : List PeakV} (h : StkW w0 wr g r c M l) {g3 i : Nat} (v : Value) (h1 : g3 ≠ g) (h2 : r ≠ g3) (h3 : w0.heap.size ≤ g3) : StkW w0 (wr.setCell ⟨g3, i, none⟩ v) g r c M l :=
  ⟨h.s.other h1 v, rowKeep h.row h2, h.len, h.b.setCell (p := ⟨g3, i, none⟩) h3 v, h.rg, h.lo⟩
/-- The stack while one is pushed: the one's block beside it. -/
structure PushW (w0 wr : World) (g g3 r c M : Nat) (l : List PeakV) (q : PeakV) : Prop where
  k : StkW w0 wr g r c M l
  o : CBk wr g3 67 #[.string q.sum, .int .i64 q.work, .int .i64 q.count]
  n1 : g < g3
  n2 : r < g3
theorem PushW.call {w0 wr w' : World} {g g3 r c M : Nat} {l : List PeakV} {q : PeakV} (h : PushW w0 wr g g3 r c M l q) (hb : Below wr.heap.size wr w') : PushW w0 w' g g3 r c M l q := ⟨h.k.call hb, h.o.call hb, h.n1, h.n2⟩
theorem PushW.drew {w0 wr : World} {g g3 r c M : Nat} {l : List PeakV} {q : PeakV} (h : PushW w0 wr g g3 r c M l q) : PushW w0 wr.drew g g3 r c M l q := h.call (Below.refl _ _).drew
theorem PushW.two {w0 wr : World} {g g3 r c M : Nat} {l : List PeakV} {q : PeakV} (h : PushW w0 wr g g3 r c M l q) : (wr.cell? ⟨g, 0, none⟩ = some (.slice (some ⟨r, 0, none⟩) M c) ∧ wr.cell? ⟨g, 1, none⟩ = some (.func (.func 61) #[] #[]) ∧ wr.cell? ⟨g, 2, none⟩ = some (.func (.func 62) #[] #[])) ∧ (wr.cell? ⟨g3, 0, none⟩ = some (.string q.sum) ∧ wr.cell? ⟨g3, 1, none⟩ = some (.int .i64 q.work) ∧ wr.cell? ⟨g3, 2, none⟩ = some (.int .i64 q.count)) := ⟨h.k.outs, h.o.cell 0, h.o.cell 1, h.o.cell 2⟩
theorem PushW.all {w0 wr : World} {g g3 r c M m : Nat} {l : List PeakV} {q t : PeakV} (h : PushW w0 wr g g3 r c M l q) (hm : m < l.length) (ht : l.getD m default = t) : (wr.cell? ⟨g, 0, none⟩ = some (.slice (some ⟨r, 0, none⟩) M c) ∧ wr.cell? ⟨g, 1, none⟩ = some (.func (.func 61) #[] #[]) ∧ wr.cell? ⟨g, 2, none⟩ = some (.func (.func 62) #[] #[])) ∧ (wr.cell? ⟨r, m * 3, none⟩ = some (.string t.sum) ∧ wr.cell? ⟨r, m * 3 + 1, none⟩ = some (.int .i64 t.work) ∧ wr.cell? ⟨r, m * 3 + 2, none⟩ = some (.int .i64 t.count)) ∧ (wr.cell? ⟨g3, 0, none⟩ = some (.string q.sum) ∧ wr.cell? ⟨g3, 1, none⟩ = some (.int .i64 q.work) ∧ wr.cell? ⟨g3, 2, none⟩ = some (.int .i64 q.count)) := by
  have h1 := h.k.at.1
  refine ⟨h.k.outs, ?_, h.o.cell 0, h.o.cell 1, h.o.cell 2⟩
  rw [← ht]
  exact ⟨AtP.c0 h1 m hm, AtP.c1 h1 m hm, AtP.c2 h1 m hm⟩
theorem PushW.grown {w0 wr w6 : World} {o : Obj} {g g3 r c M : Nat} {l : List PeakV} {q : PeakV} (h : PushW w0 wr g g3 r c M l q) (hg : (wr.drew.alloc o).grownBy w6 (some r)) : CBk w6 g 79 #[.slice (some ⟨r, 0, none⟩) M c, .func (.func 61) #[] #[], .func (.func 62) #[] #[]] := PushK h.k hg
theorem PushW.grownTwo {w0 wr w6 : World} {o : Obj} {g g3 r c M : Nat} {l : List PeakV} {q : PeakV} (h : PushW w0 wr g g3 r c M l q) (hg : (wr.drew.alloc o).grownBy w6 (some r)) : (w6.cell? ⟨g, 0, none⟩ = some (.slice (some ⟨r, 0, none⟩) M c) ∧ w6.cell? ⟨g, 1, none⟩ = some (.func (.func 61) #[] #[]) ∧ w6.cell? ⟨g, 2, none⟩ = some (.func (.func 62) #[] #[])) ∧ (w6.cell? ⟨g3, 0, none⟩ = some (.string q.sum) ∧ w6.cell? ⟨g3, 1, none⟩ = some (.int .i64 q.work) ∧ w6.cell? ⟨g3, 2, none⟩ = some (.int .i64 q.count)) := by
  have h1 : CBk w6 g 79 #[.slice (some ⟨r, 0, none⟩) M c, .func (.func 61) #[] #[], .func (.func 62) #[] #[]] := PushK h.k hg
  have h2 : CBk w6 g3 67 #[.string q.sum, .int .i64 q.work, .int .i64 q.count] := (grownOff hg g3 h.o.lt (by have := h.n2; omega)).trans h.o
  exact ⟨⟨h1.cell 0, h1.cell 1, h1.cell 2⟩, h2.cell 0, h2.cell 1, h2.cell 2⟩
/-- Behind the store of another one. -/
theorem PushW.put {w0 wr : World} {g g3 r c M : Nat} {l : List PeakV} {q : PeakV} (h : PushW w0 wr g g3 r c M l q) (x : PeakV) : PushW w0 (((wr.setCell ⟨g3, 0, none⟩ (.string (x).sum)).setCell ⟨g3, 1, none⟩ (.int .i64 (x).work)).setCell ⟨g3, 2, none⟩ (.int .i64 (x).count)) g g3 r c M l x := by
  have h1 := h.n1
  have h2 := h.n2
  have h3 := h.k.lo
  exact ⟨((h.k.store _ (by omega) (by omega) (by omega)).store _ (by omega) (by omega) (by omega)).store _ (by omega) (by omega) (by omega), h.o.set3, h1, h2⟩
/-- Behind the store of a shorter row. -/
theorem PushW.pop {w0 wr : World} {g g3 r c m : Nat} {l : List PeakV} {q : PeakV} (h : PushW w0 wr g g3 r c (m + 1) l q) : PushW w0 (wr.setCell ⟨g, 0, none⟩ (.slice (some ⟨r, 0, none⟩) m c)) g g3 r c m (l.take m) q := by
  have h1 := h.n1
  have h2 := h.n2
  have h3 := h.k.lo
  have h4 := h.k.len
  have hml : m < l.length := by omega
  have e1 : l = l.take m ++ [l.getD m default] := by
    rw [← take_one hml, ← h4, List.take_length]
  have hl : ((l.take m).flatMap pEnc).length = m * 3 := by
    rw [flat_length 3 pEnc pEnc_len, List.length_take]
    omega
  have h5 : wr.ownsRow w0.heap.size 67 3 (.slice (some ⟨r, 0, none⟩) (m + 1) c) (m + 1) ((l.take m).flatMap pEnc ++ pEnc (l.getD m default)) := by
    have := h.k.row
    rw [e1, List.flatMap_append] at this
    have hmin : min m l.length = m := by omega
    simpa [List.take_append_of_le_length, List.length_take, hmin] using this
  have h6 := ownsRow_pop hl h5
  refine ⟨⟨h.k.s.set 0 _, rowKeep h6 h.k.rg, by rw [List.length_take]; omega, h.k.b.setCell (p := ⟨g, 0, none⟩) h3 _, h.k.rg, h3⟩, h.o.other (by omega) _, h1, h2⟩

def PushRes (w0 : World) (g : Nat) (l : List PeakV) (e : Ending) (w' : World) : Prop := e = .returned (.tuple #[]) ∧ Stk w0 w' g l
theorem push_res {w0 w' : World} {g r c M : Nat} {l : List PeakV} (h : StkW w0 w' g r c M l) : PushRes w0 g l (.returned (.tuple #[])) w' := ⟨rfl, r, c, M, h⟩
set_option maxHeartbeats 8000000 in
set_option maxRecDepth 100000 in
theorem implPush (w0 : World) (g : Nat) (ps : List PeakV) (p : PeakV) (w : World) (hs : Stk w0 w g ps) (hm : ps.length ≤ 1048576) (hk : ∀ i, i < ps.length → peakOkB (ps.getD i default) = true) (hr : Room ps ps.length p) (hK : RowG w0 shaK) (hP : TabP w0) :
    Calls Tryz.prog 30 #[.pointer (some ⟨g, 0, none⟩), peakVal p] w fun e w' => PushRes w0 g (addP ps p) e w' := by
  obtain ⟨r, c, n, h0⟩ := hs
  obtain ⟨i0, hi, hz0, hz1, hz2⟩ := info3 infoPeak
  have HN : Hid (n = ps.length) := h0.len.symm
  have HM0 : Hid (n ≤ 1048576) := by show _ ≤ _; have := h0.len; omega
  have HK : Hid (RowG w0 shaK) := hK
  have HP : Hid (TabP w0) := hP
  have HKP : Hid (∀ i, i < ps.length → peakOkB (ps.getD i default) = true) := hk
  have HR0 : Hid (Room ps n p) := by show Room _ _ _; rw [HN.out]; exact hr
  have HAD : Hid (addP (ps.take n) p = addP ps p) := by show _ = _; rw [HN.out, List.take_length]
  generalize addP ps p = A at HAD ⊢
  unfold peakVal
  have PZ : Hid (PushW w0 (w.alloc (.cells #[.string p.sum, .int .i64 p.work, .int .i64 p.count] 67)) g w.heap.size r c n ps p) := by
    have hb : Below w.heap.size w (w.alloc (.cells #[.string p.sum, .int .i64 p.work, .int .i64 p.count] 67)) := (Below.refl _ w).alloc (Nat.le_refl _) _
    exact ⟨h0.call hb, CBk.new w _ _, h0.s.lt, h0.at.1.1⟩
  have P0 : Hid (PushW w0 (w.alloc (.cells #[.string p.sum, .int .i64 p.work, .int .i64 p.count] 67)) g w.heap.size r c n (ps.take n) p) := by
    have e : ps.take n = ps := by rw [HN.out, List.take_length]
    rw [e]
    exact PZ.out
  clear hm hk hr hK hP h0 PZ
  obtain ⟨⟨a0, a1, a2⟩, x0⟩ := P0.out.two
  have hw0 : IntKind.i64.wrap ((n : Int) - 1) = (n : Int) - 1 := by have := HM0.out; rw [IntKind.wrap_i64]; omega
  go_enter Tryz.func30, Tryz.ntmps30
  go_wp2_with fail
  clear a0 a1 a2 x0 hw0
  generalize w.alloc (.cells #[.string p.sum, .int .i64 p.work, .int .i64 p.count] 67) = W0 at P0 ⊢
  obtain ⟨g3, hg3⟩ : ∃ g3, g3 = w.heap.size := ⟨_, rfl⟩
  rw [← hg3] at P0 ⊢
  clear hg3
  clear w
  go_loopw [4] (fun last wr => ∃ (m : Nat) (q : PeakV), m ≤ n ∧ last = .int .i64 ((m : Int) - 1) ∧ Hid (PushW w0 wr g g3 r c m (ps.take m) q) ∧ Hid (addP (ps.take m) q = A) ∧ Hid (Room ps m q)) (fun last _ => (intOf last + 1).toNat)
  case atStart => exact ⟨n, p, Nat.le_refl _, rfl, P0, HAD, HR0⟩
  case round =>
    clear P0 HAD HR0
    obtain ⟨m, q, hmn, rfl, PW, HAD, HRM⟩ := hrel
    cases m with
    | zero =>
      have e0 : ((0 : Nat) : Int) - 1 = -1 := rfl
      rw [e0]
      have hd0 : decide ((0 : Int) ≤ -1) = false := by decide
      have HRV : Hid (A = ps.take 0 ++ [q]) := by show _ = _; rw [← HAD.out, List.take_zero, addP_nil]; rfl
      obtain ⟨M, hM⟩ : ∃ M, M = 0 := ⟨_, rfl⟩
      have HM : Hid (M = 0) := hM
      rw [← hM] at PW HRV
      clear hM hmn HAD HRM
      obtain ⟨⟨a0, a1, a2⟩, d0, d1, d2⟩ := PW.out.two
      go_wp2_with fail
      go_big_region
      have PW1 : Hid (PushW w0 wr.drew g g3 r c M (ps.take M) q) := PW.out.drew
      have HLA : Hid ((ps.take M).length = M) := PW1.out.k.len
      have hx1 : M + 1 ≤ maxLen := by have h1 := HLA.out; rw [List.length_take] at h1; have h2 := HM0.out; have h3 := HN.out; unfold maxLen; omega
      have hx2 : (M + 1) * 32 ≤ 140737488355328 := by have h1 := HLA.out; rw [List.length_take] at h1; have h2 := HM0.out; have h3 := HN.out; omega
      have HRD : Hid (wr.drew.ownsRow w0.heap.size 67 3 (.slice (some ⟨r, 0, none⟩) M c) M ((ps.take M).flatMap pEnc)) := PW1.out.k.row
      have HZ : Hid (w0.heap.size ≤ wr.drew.heap.size ∧ g3 < wr.drew.heap.size ∧ g < g3 ∧ r < g3 ∧ r ≠ g ∧ w0.heap.size ≤ g ∧ w0.heap.size ≤ r) := ⟨PW1.out.k.b.size, PW1.out.o.lt, PW1.out.n1, PW1.out.n2, PW1.out.k.rg, PW1.out.k.lo, PW1.out.k.at.2.2.1⟩
      have PX : Hid (PushW w0 wr.drew.drew g g3 r c M (ps.take M) q) := PW1.out.drew
      have PA : Hid (PushW w0 (wr.drew.drew.alloc (.cells (pEnc q).toArray 67)) g g3 r c M (ps.take M) q) := PX.out.call ((Below.refl _ _).alloc (Nat.le_refl _) _)
      have hu := pEnc_one q
      have HCN : Hid (∀ j u, (pEnc q)[j]? = some u → (wr.drew.drew.alloc (.cells (pEnc q).toArray 67)).cell? ((⟨wr.drew.heap.size, 0, none⟩ : Addr).add j) = some u) := cells_new wr.drew.drew 67 (pEnc q)
      have HFd : Hid ((wr.drew.drew.alloc (.cells (pEnc q).toArray 67)).ownsRow w0.heap.size 67 3 (.slice (some ⟨r, 0, none⟩) M c) M ((ps.take M).flatMap pEnc)) := PA.out.k.row
      have HBZ : Hid (w0.heap.size ≤ (wr.drew.drew.alloc (.cells (pEnc q).toArray 67)).heap.size) := PA.out.k.b.size
      have HGT6 : Hid (∀ w6, (wr.drew.drew.alloc (.cells (pEnc q).toArray 67)).grownBy w6 (some r) → CBk w6 g 79 #[.slice (some ⟨r, 0, none⟩) M c, .func (.func 61) #[] #[], .func (.func 62) #[] #[]]) := fun w6 h => PW1.out.grown h
      have ba0 : (wr.alloc (.cells #[.string q.sum, .int .i64 q.work, .int .i64 q.count] 67)).cell? ⟨g, 0, none⟩ = some (.slice (some ⟨r, 0, none⟩) M c) := (Below.cell ((Below.refl _ wr).alloc (Nat.le_refl _) _) (p := ⟨g, 0, none⟩) PW.out.k.s.lt).trans PW.out.k.outs.1
      clear a0 a1 a2 d0 d1 d2
      obtain ⟨⟨a0, a1, a2⟩, d0, d1, d2⟩ := PX.out.two
      go_wp2_with fail
      go_region_law (refine step_append_any rfl (.tmp 56) (.tmp 58) 31 rfl w0.heap.size 67 i0 (.agg #[.string ⟨#[]⟩, .int .i64 0, .int .i64 0]) 3 32 Tryz.underlying31 hi hz0 hz1 hz2 rfl (by decide) r c M ((ps.take M).flatMap pEnc) (by simp [Act.eval]) HFd.out ⟨wr.drew.heap.size, 0, none⟩ 1 1 (pEnc q) (by simp [Act.eval]) rfl HCN.out hu hx1 hx2 HBZ.out ?_; intro g6 c6 w6 hown6 hgrow6 hat6 hlt6; have C6 : Hid (CBk w6 g 79 #[.slice (some ⟨r, 0, none⟩) M c, .func (.func 61) #[] #[], .func (.func 62) #[] #[]]) := HGT6.out w6 hgrow6; have q6 : w6.cell? ⟨g, 0, none⟩ = some (.slice (some ⟨r, 0, none⟩) M c) := C6.out.cell 0; have z6 : w6.frozen? ⟨g, 0, none⟩ = false := C6.out.frozen 0)
      all_goals
        have K6 : Hid (StkW w0 (w6.setCell ⟨g, 0, none⟩ (.slice (some ⟨g6, 0, none⟩) (M + 1) c6)) g g6 c6 (M + 1) A) := by
          have hz := HZ.out
          have hne : g6 ≠ g := by
            have h1 : r = g6 ∨ g6 = wr.drew.heap.size ∨ wr.drew.heap.size ≤ g6 := by
              rcases hat6.out with h1 | h1
              · exact .inl h1
              · right; right; rw [h1]; simp
            omega
          refine ⟨C6.out.set 0 _, rowKeep ?_ hne, ?_, ?_, hne, hz.2.2.2.2.2.1⟩
          · rw [HRV.out, List.flatMap_append]
            simpa using hown6
          · rw [HRV.out, List.length_append, HLA.out]
            rfl
          · exact (PA.out.k.b.grown hgrow6 PA.out.k.b.size (fun j hj => by cases hj; exact hz.2.2.2.2.2.2)).setCell (p := ⟨g, 0, none⟩) hz.2.2.2.2.2.1 _
        clear PX PA C6 HRD hown6 hgrow6 hat6 hlt6
        go_wp2_with fail
        exact bodyPost_ret (results_none rfl _ _ _) rfl (push_res K6.out)
    | succ m =>
      have e0 : ((m + 1 : Nat) : Int) - 1 = (m : Int) := by omega
      rw [e0]
      have hml : m < ps.length := by rw [← HN.out]; omega
      have hgt : (ps.take (m + 1)).getD m default = ps.getD m default := by simp
      have hlen : m < (ps.take (m + 1)).length := by rw [List.length_take]; omega
      have HKM : Hid (peakOkB (ps.getD m default) = true) := HKP.out m hml
      have HS : Hid ((ps.getD m default).count = q.count → Room ps m (bothP (ps.getD m default) q)) := fun he => HRM.out.step HKP.out hml he
      have HYES : Hid ((ps.getD m default).count = q.count → addP (ps.take m) (bothP (ps.getD m default) q) = A) := fun he => by
        rw [← HAD.out, take_one hml, addP_yes he]
      have HNO : Hid (¬ (ps.getD m default).count = q.count → A = ps.take (m + 1) ++ [q]) := fun he => by
        rw [← HAD.out, take_one hml, addP_no he]
      have HTT : Hid ((ps.take (m + 1)).take m = ps.take m) := by show _ = _; rw [List.take_take]; congr 1; omega
      have HLL : Hid (m < (ps.take (m + 1)).length) := hlen
      have HGT : Hid ((ps.take (m + 1)).getD m default = ps.getD m default) := hgt
      have hd0 : decide ((0 : Int) ≤ (m : Int)) = true := decide_eq_true (by omega)
      have hd1 : (0 : Int) ≤ (m : Int) := by omega
      have lm1 : (m : Int) < ((m + 1 : Nat) : Int) := by omega
      obtain ⟨M, hM⟩ : ∃ M, M = m + 1 := ⟨_, rfl⟩
      have HM : Hid (M = m + 1) := hM
      rw [← hM] at lm1
      rw [← hM] at PW HNO HLL HGT hmn
      have HTT : Hid ((ps.take M).take m = ps.take m) := by rw [hM]; exact HTT.out
      have HMN : Hid (M ≤ n) := hmn
      have hdn : decide (0 ≤ m) = true := decide_eq_true (by omega)
      have ltm : m < M := by omega
      clear hM hlen hgt hml HAD hmn
      generalize ps.getD m default = t at HKM HS HYES HNO HGT
      obtain ⟨⟨a0, a1, a2⟩, ⟨q0, q1, q2⟩, d0, d1, d2⟩ := PW.out.all HLL.out HGT.out
      have hal := fun w' => implPeakAlike t q w'
      unfold peakVal at hal
      have PD : Hid (PushW w0 wr.drew g g3 r c M (ps.take M) q) := PW.out.drew
      by_cases he : t.count = q.count
      · have heb : (t.count == q.count) = true := by simpa using he
        rw [heb] at hal
        have HRM2 : Hid (Room ps m (bothP t q)) := HS.out he
        have HAD2 : Hid (addP (ps.take m) (bothP t q) = A) := HYES.out he
        have HBO : Hid (∀ w', Below w0.heap.size w0 w' → Calls Tryz.prog 62 #[.agg #[.string t.sum, .int .i64 t.work, .int .i64 t.count], .agg #[.string q.sum, .int .i64 q.work, .int .i64 q.count]] w' fun e w'' => e = .returned (.agg #[.string (bothP t q).sum, .int .i64 (bothP t q).work, .int .i64 (bothP t q).count]) ∧ Below w'.heap.size w' w'') := fun w' hb => implPeakBoth t q w' HKM.out HRM.out.ok (HK.out.below hb HK.out.lt) (TabP.below HP.out hb (Nat.le_refl _))
        clear HS HYES HNO he heb HRM HKM
        go_wp2_with fail
        go_region_held3 (fun w' => (w'.cell? ⟨g, 0, none⟩ = some (.slice (some ⟨r, 0, none⟩) M c) ∧ w'.cell? ⟨g, 1, none⟩ = some (.func (.func 61) #[] #[]) ∧ w'.cell? ⟨g, 2, none⟩ = some (.func (.func 62) #[] #[])) ∧ (w'.cell? ⟨r, m * 3, none⟩ = some (.string t.sum) ∧ w'.cell? ⟨r, m * 3 + 1, none⟩ = some (.int .i64 t.work) ∧ w'.cell? ⟨r, m * 3 + 2, none⟩ = some (.int .i64 t.count)) ∧ (w'.cell? ⟨g3, 0, none⟩ = some (.string q.sum) ∧ w'.cell? ⟨g3, 1, none⟩ = some (.int .i64 q.work) ∧ w'.cell? ⟨g3, 2, none⟩ = some (.int .i64 q.count)))
          (first | exact PW.out.all HLL.out HGT.out | exact PD.out.all HLL.out HGT.out | exact P5.out.all HLL.out HGT.out)
          (first | (go_at_call 61; refine (hal _).mono ?_; rintro e w5 ⟨rfl, b5⟩; have P5 : Hid (PushW w0 w5 g g3 r c M (ps.take M) q) := PD.out.call b5))
        clear a0 a1 a2 q0 q1 q2 d0 d1 d2 PW PD b5
        obtain ⟨⟨a0, a1, a2⟩, ⟨q0, q1, q2⟩, d0, d1, d2⟩ := P5.out.all HLL.out HGT.out
        have hlt4 : (m : Int) < (M : Int) := lm1
        go_wp2_with fail
        go_region_with (go_at_call 62; refine (HBO.out _ (P5.out.drew.k.b)).mono ?_; rintro e w6 ⟨rfl, b6⟩; have P6 : Hid (PushW w0 w6 g g3 r c M (ps.take M) q) := P5.out.drew.call b6; obtain ⟨m0, m1, m2⟩ := P6.out.o.cells3; obtain ⟨f0, f1, f2⟩ := P6.out.o.free3)
        all_goals
          have P7 : Hid _ := P6.out.put (bothP t q)
          generalize bothP t q = nq at P7 HRM2 HAD2
          clear a0 a1 a2 q0 q1 q2 d0 d1 d2 m0 m1 m2 f0 f1 f2 b6 P6 P5 HBO
          generalize (((w6.setCell ⟨g3, 0, none⟩ (.string (nq).sum)).setCell ⟨g3, 1, none⟩ (.int .i64 (nq).work)).setCell ⟨g3, 2, none⟩ (.int .i64 (nq).count)) = w7 at P7 ⊢
          clear w6
          obtain ⟨⟨a0, a1, a2⟩, d0, d1, d2⟩ := P7.out.two
          have z0 := P7.out.k.s.frozen 0
          have lmc : (m : Int) ≤ (c : Int) := by have := P7.out.k.at.2.2.2; omega
          have hc0 : ¬ c = 0 := by have := P7.out.k.at.2.2.2; omega
          have P8 : Hid (PushW w0 (w7.setCell ⟨g, 0, none⟩ (.slice (some ⟨r, 0, none⟩) m c)) g g3 r c m (ps.take m) nq) := by
            have h1 := P7.out
            rw [HM.out] at h1
            have h2 := h1.pop
            rwa [show (ps.take (m + 1)).take m = ps.take m from by rw [← HM.out]; exact HTT.out] at h2
          have hw2 : IntKind.i64.wrap ((m : Int) - 1) = (m : Int) - 1 := by have := HMN.out; have := HM0.out; rw [IntKind.wrap_i64]; omega
          clear P7
          go_wp2_with fail
          go_roundw
          case rel => exact ⟨m, nq, by have := HM.out; have := HMN.out; omega, rfl, P8, HAD2, HRM2⟩
          case measure => have := HM.out; simp [intOf] <;> omega
      · have heb : (t.count == q.count) = false := by simpa using he
        rw [heb] at hal
        have HRV : Hid (A = ps.take M ++ [q]) := HNO.out he
        clear HS HYES HNO he heb HRM HKM HTT
        go_wp2_with fail
        go_region_held3 (fun w' => (w'.cell? ⟨g, 0, none⟩ = some (.slice (some ⟨r, 0, none⟩) M c) ∧ w'.cell? ⟨g, 1, none⟩ = some (.func (.func 61) #[] #[]) ∧ w'.cell? ⟨g, 2, none⟩ = some (.func (.func 62) #[] #[])) ∧ (w'.cell? ⟨r, m * 3, none⟩ = some (.string t.sum) ∧ w'.cell? ⟨r, m * 3 + 1, none⟩ = some (.int .i64 t.work) ∧ w'.cell? ⟨r, m * 3 + 2, none⟩ = some (.int .i64 t.count)) ∧ (w'.cell? ⟨g3, 0, none⟩ = some (.string q.sum) ∧ w'.cell? ⟨g3, 1, none⟩ = some (.int .i64 q.work) ∧ w'.cell? ⟨g3, 2, none⟩ = some (.int .i64 q.count)))
          (first | exact PW.out.all HLL.out HGT.out | exact PD.out.all HLL.out HGT.out | exact P5.out.all HLL.out HGT.out)
          (first | (go_at_call 61; refine (hal _).mono ?_; rintro e w5 ⟨rfl, b5⟩; have P5 : Hid (PushW w0 w5 g g3 r c M (ps.take M) q) := PD.out.call b5))
        clear a0 a1 a2 q0 q1 q2 d0 d1 d2 PW PD b5
        have HLA : Hid ((ps.take M).length = M) := P5.out.k.len
        have hx1 : M + 1 ≤ maxLen := by have h1 := HLA.out; rw [List.length_take] at h1; have h2 := HM0.out; have h3 := HN.out; unfold maxLen; omega
        have hx2 : (M + 1) * 32 ≤ 140737488355328 := by have h1 := HLA.out; rw [List.length_take] at h1; have h2 := HM0.out; have h3 := HN.out; omega
        have HRD : Hid (w5.ownsRow w0.heap.size 67 3 (.slice (some ⟨r, 0, none⟩) M c) M ((ps.take M).flatMap pEnc)) := P5.out.k.row
        have HZ : Hid (w0.heap.size ≤ w5.heap.size ∧ g3 < w5.heap.size ∧ g < g3 ∧ r < g3 ∧ r ≠ g ∧ w0.heap.size ≤ g ∧ w0.heap.size ≤ r) := ⟨P5.out.k.b.size, P5.out.o.lt, P5.out.n1, P5.out.n2, P5.out.k.rg, P5.out.k.lo, P5.out.k.at.2.2.1⟩
        have PX : Hid (PushW w0 w5.drew g g3 r c M (ps.take M) q) := P5.out.drew
        have PA : Hid (PushW w0 (w5.drew.alloc (.cells (pEnc q).toArray 67)) g g3 r c M (ps.take M) q) := PX.out.call ((Below.refl _ _).alloc (Nat.le_refl _) _)
        have hu := pEnc_one q
        have HCN : Hid (∀ j u, (pEnc q)[j]? = some u → (w5.drew.alloc (.cells (pEnc q).toArray 67)).cell? ((⟨w5.heap.size, 0, none⟩ : Addr).add j) = some u) := cells_new w5.drew 67 (pEnc q)
        have HFd : Hid ((w5.drew.alloc (.cells (pEnc q).toArray 67)).ownsRow w0.heap.size 67 3 (.slice (some ⟨r, 0, none⟩) M c) M ((ps.take M).flatMap pEnc)) := PA.out.k.row
        have HBZ : Hid (w0.heap.size ≤ (w5.drew.alloc (.cells (pEnc q).toArray 67)).heap.size) := PA.out.k.b.size
        have HGT6 : Hid (∀ w6, (w5.drew.alloc (.cells (pEnc q).toArray 67)).grownBy w6 (some r) → CBk w6 g 79 #[.slice (some ⟨r, 0, none⟩) M c, .func (.func 61) #[] #[], .func (.func 62) #[] #[]]) := fun w6 h => P5.out.grown h
        have ba0 : (w5.alloc (.cells #[.string q.sum, .int .i64 q.work, .int .i64 q.count] 67)).cell? ⟨g, 0, none⟩ = some (.slice (some ⟨r, 0, none⟩) M c) := (Below.cell ((Below.refl _ w5).alloc (Nat.le_refl _) _) (p := ⟨g, 0, none⟩) P5.out.k.s.lt).trans P5.out.k.outs.1
        obtain ⟨⟨a0, a1, a2⟩, d0, d1, d2⟩ := PX.out.two
        go_wp2_with fail
        go_region_law (refine step_append_any rfl (.tmp 56) (.tmp 58) 31 rfl w0.heap.size 67 i0 (.agg #[.string ⟨#[]⟩, .int .i64 0, .int .i64 0]) 3 32 Tryz.underlying31 hi hz0 hz1 hz2 rfl (by decide) r c M ((ps.take M).flatMap pEnc) (by simp [Act.eval]) HFd.out ⟨w5.heap.size, 0, none⟩ 1 1 (pEnc q) (by simp [Act.eval]) rfl HCN.out hu hx1 hx2 HBZ.out ?_; intro g6 c6 w6 hown6 hgrow6 hat6 hlt6; have C6 : Hid (CBk w6 g 79 #[.slice (some ⟨r, 0, none⟩) M c, .func (.func 61) #[] #[], .func (.func 62) #[] #[]]) := HGT6.out w6 hgrow6; have q6 : w6.cell? ⟨g, 0, none⟩ = some (.slice (some ⟨r, 0, none⟩) M c) := C6.out.cell 0; have z6 : w6.frozen? ⟨g, 0, none⟩ = false := C6.out.frozen 0)
        all_goals
          have K6 : Hid (StkW w0 (w6.setCell ⟨g, 0, none⟩ (.slice (some ⟨g6, 0, none⟩) (M + 1) c6)) g g6 c6 (M + 1) A) := by
            have hz := HZ.out
            have hne : g6 ≠ g := by
              have h1 : r = g6 ∨ g6 = w5.heap.size ∨ w5.heap.size ≤ g6 := by
                rcases hat6.out with h1 | h1
                · exact .inl h1
                · right; right; rw [h1]; simp
              omega
            refine ⟨C6.out.set 0 _, rowKeep ?_ hne, ?_, ?_, hne, hz.2.2.2.2.2.1⟩
            · rw [HRV.out, List.flatMap_append]
              simpa using hown6
            · rw [HRV.out, List.length_append, HLA.out]
              rfl
            · exact (PA.out.k.b.grown hgrow6 PA.out.k.b.size (fun j hj => by cases hj; exact hz.2.2.2.2.2.2)).setCell (p := ⟨g, 0, none⟩) hz.2.2.2.2.2.1 _
          clear PX PA C6 HRD hown6 hgrow6 hat6 hlt6
          go_wp2_with fail
          exact bodyPost_ret (results_none rfl _ _ _) rfl (push_res K6.out)

end Go.Proofs.YtkajpkfhedfmaaaGreatDoor

set_option linter.unusedVariables false
namespace Go.Proofs.YtkajpkfhedfmaaaGreatDoor
open Go.RowKit Go.Deep

def nodeVal (a : NodeV) : Value := .agg #[.string a.1.sum, .int .i64 a.1.work, .int .i64 a.1.count, .bool a.2]
/-- A node's block. -/
def NBk (w : World) (g : Nat) (a : NodeV) : Prop := CBk w g 119 #[.string a.1.sum, .int .i64 a.1.work, .int .i64 a.1.count, .bool a.2]
theorem NBk.cells {w : World} {g : Nat} {a : NodeV} (h : NBk w g a) : w.cell? ⟨g, 0, none⟩ = some (.string a.1.sum) ∧ w.cell? ⟨g, 1, none⟩ = some (.int .i64 a.1.work) ∧ w.cell? ⟨g, 2, none⟩ = some (.int .i64 a.1.count) ∧ w.cell? ⟨g, 3, none⟩ = some (.bool a.2) := ⟨CBk.cell h 0, CBk.cell h 1, CBk.cell h 2, CBk.cell h 3⟩

set_option maxHeartbeats 1000000 in
set_option maxRecDepth 100000 in
theorem implNodeAlike (a b : NodeV) (w : World) :
    Calls Tryz.prog 66 #[nodeVal a, nodeVal b] w fun e w' => e = .returned (.bool (a.1.count == b.1.count)) ∧ Below w.heap.size w w' := by
  unfold nodeVal
  have hal := fun w' => implPeakAlike a.1 b.1 w'
  unfold peakVal at hal
  obtain ⟨⟨xs, xw, xc⟩, xy⟩ := a
  obtain ⟨⟨ys, yw, yc⟩, yy⟩ := b
  dsimp only at hal ⊢
  have L0 : Hid (Below w.heap.size w ((w.alloc (.cells #[.string xs, .int .i64 xw, .int .i64 xc, .bool xy] 119)).alloc (.cells #[.string ys, .int .i64 yw, .int .i64 yc, .bool yy] 119))) := ((Below.refl _ w).alloc (Nat.le_refl _) _).alloc (by simp) _
  go_enter Tryz.func66, Tryz.ntmps66
  go_wp2_with fail
  refine (hal _).mono ?_
  rintro e w1 ⟨rfl, b1⟩
  have L1 : Hid (Below w.heap.size w w1) := L0.out.trans (b1.mono L0.out.size)
  clear L0 b1 hal
  go_wp2_with fail
  go_ret
  exact ⟨rfl, L1.out⟩
end Go.Proofs.YtkajpkfhedfmaaaGreatDoor

set_option linter.unusedVariables false
namespace Go.Proofs.YtkajpkfhedfmaaaGreatDoor
open Go.RowKit Go.Deep

/-- A block of peaks that may be written. -/
def PBk (w : World) (g n : Nat) : Prop := ∃ cur : Array Value, w.heap[g]? = some (.cells cur 67 (0, 0)) ∧ n * 3 ≤ cur.size
theorem PBk.lt {w : World} {g n : Nat} (h : PBk w g n) : g < w.heap.size := by
  obtain ⟨cur, h1, _⟩ := h
  rcases Nat.lt_or_ge g w.heap.size with h' | h'
  · exact h'
  · simp [Array.getElem?_eq_none h'] at h1
theorem PBk.keep {w w' : World} {g n : Nat} (h : PBk w g n) (hk : w'.heap[g]? = w.heap[g]?) : PBk w' g n := by
  obtain ⟨cur, h1, h2⟩ := h
  exact ⟨cur, hk.trans h1, h2⟩
theorem PBk.below {w w' : World} {g n B : Nat} (h : PBk w g n) (hb : Below B w w') (hg : g < B) : PBk w' g n := h.keep (hb.block g hg)
theorem PBk.cell {w : World} {g n : Nat} (h : PBk w g n) (i : Nat) (hi : i < n * 3) : (∃ v, w.cell? ⟨g, i, none⟩ = some v) ∧ w.frozen? ⟨g, i, none⟩ = false := by
  obtain ⟨cur, h1, h2⟩ := h
  refine ⟨?_, Lib.frozen_of_heap h1 i⟩
  rw [Lib.cell_of_heap h1]
  have hic : i < cur.size := by omega
  exact ⟨cur[i], Array.getElem?_eq_getElem hic⟩
theorem PBk.set {w : World} {g n : Nat} (h : PBk w g n) (i : Nat) (v : Value) : PBk (w.setCell ⟨g, i, none⟩ v) g n := by
  obtain ⟨cur, h1, h2⟩ := h
  exact ⟨cur.setIfInBounds i v, by simp [World.setCell, Array.getElem?_modify, h1], by simpa using h2⟩
theorem PBk.of {w : World} {g : Nat} {l : List PeakV} (h : RowP w g l) : PBk w g l.length := ⟨_, h, by simp [flat_length 3 pEnc pEnc_len]⟩
theorem PBk.frow {B : Nat} {v : Value} {l : List PeakV} {w : World} (h : PRow B v l w) : ∃ g cap, v = .slice (some ⟨g, 0, none⟩) l.length cap ∧ AtP w g l ∧ PBk w g l.length ∧ B ≤ g := by
  obtain ⟨g, cap, cur, rfl, h1, h2, h3, h4, h5⟩ := h.block
  refine ⟨g, cap, rfl, (FRow.at pEnc_len h).1, ⟨cur, h3, ?_⟩, h1⟩
  have := congrArg List.length h4
  rw [List.length_take, flat_length 3 pEnc pEnc_len] at this
  rw [← Array.length_toList]
  omega
theorem cellSetOther {w : World} {g i j : Nat} {v : Value} (h : i ≠ j) : (w.setCell ⟨g, i, none⟩ v).cell? ⟨g, j, none⟩ = w.cell? ⟨g, j, none⟩ := by
  simp [World.setCell, World.cell?, Array.getElem?_modify]
  cases hh : w.heap[g]? with
  | none => simp
  | some o => cases o <;> simp [h]
theorem PBk.cellSet {w : World} {g n : Nat} (h : PBk w g n) (i : Nat) (hi : i < n * 3) (v : Value) : (w.setCell ⟨g, i, none⟩ v).cell? ⟨g, i, none⟩ = some v := by
  obtain ⟨cur, h1, h2⟩ := h
  have : (w.setCell ⟨g, i, none⟩ v).heap[g]? = some (.cells (cur.setIfInBounds i v) 67 (0, 0)) := by simp [World.setCell, Array.getElem?_modify, h1]
  rw [Lib.cell_of_heap this]
  have : i < cur.size := by omega
  simp [this]
/-- A list that holds its marks, so far. -/
def MkP (w : World) (g k n : Nat) : Prop := ∀ i, i < n → w.cell? ⟨g, i * 3, none⟩ = some (.string (mkS (k + 3 * i))) ∧ w.cell? ⟨g, i * 3 + 1, none⟩ = some (.int .i64 (((k + 3 * i : Nat) : Int) + 1)) ∧ w.cell? ⟨g, i * 3 + 2, none⟩ = some (.int .i64 (((k + 3 * i : Nat) : Int) + 1 + 1))
theorem MkP.below {w w' : World} {g k n B : Nat} (h : MkP w g k n) (hb : Below B w w') (hg : g < B) : MkP w' g k n := fun i hi =>
  ⟨(hb.cell (p := ⟨g, i * 3, none⟩) hg).trans (h i hi).1, (hb.cell (p := ⟨g, i * 3 + 1, none⟩) hg).trans (h i hi).2.1, (hb.cell (p := ⟨g, i * 3 + 2, none⟩) hg).trans (h i hi).2.2⟩
theorem MkP.step {w : World} {g k j n : Nat} (h : MkP w g k j) (hb : PBk w g n) (hj : j < n) : MkP (((w.setCell ⟨g, j * 3, none⟩ (.string (mkS (k + 3 * j)))).setCell ⟨g, j * 3 + 1, none⟩ (.int .i64 (((k + 3 * j : Nat) : Int) + 1))).setCell ⟨g, j * 3 + 2, none⟩ (.int .i64 (((k + 3 * j : Nat) : Int) + 1 + 1))) g k (j + 1) := by
  intro i hi
  rcases Nat.lt_or_ge i j with h' | h'
  · obtain ⟨h1, h2, h3⟩ := h i h'
    refine ⟨?_, ?_, ?_⟩
    · rw [cellSetOther (by omega), cellSetOther (by omega), cellSetOther (by omega)]; exact h1
    · rw [cellSetOther (by omega), cellSetOther (by omega), cellSetOther (by omega)]; exact h2
    · rw [cellSetOther (by omega), cellSetOther (by omega), cellSetOther (by omega)]; exact h3
  · obtain rfl : i = j := by omega
    refine ⟨?_, ?_, ?_⟩
    · rw [cellSetOther (by omega), cellSetOther (by omega)]; exact hb.cellSet _ (by omega) _
    · rw [cellSetOther (by omega)]; exact (hb.set _ _).cellSet _ (by omega) _
    · exact ((hb.set _ _).set _ _).cellSet _ (by omega) _
/-- What writing marks leaves. -/
def MPPost (g n k : Nat) (w : World) (e : Ending) (w' : World) : Prop := e = .returned (.int .i64 ((k + 3 * n : Nat) : Int)) ∧ MkP w' g k n ∧ (∀ c, c < w.heap.size → c ≠ g → w'.heap[c]? = w.heap[c]?) ∧ Below 0 w w' ∧ PBk w' g n
theorem setOff {w wr : World} {g j : Nat} {v : Value} (h : ∀ c, c < w.heap.size → c ≠ g → wr.heap[c]? = w.heap[c]?) : ∀ c, c < w.heap.size → c ≠ g → (wr.setCell ⟨g, j, none⟩ v).heap[c]? = w.heap[c]? := fun c hc hne => by
  rw [← h c hc hne]
  simp [World.setCell, Array.getElem?_modify, Ne.symm hne]
/-- A list of peaks that was handed back: nothing, or a row that stands in a block of its own. -/
def Pks (B : Nat) (v : Value) (l : List PeakV) (w : World) : Prop := (v = .slice none 0 0 ∧ l = []) ∨ ∃ g cap, v = .slice (some ⟨g, 0, none⟩) l.length cap ∧ AtP w g l ∧ PBk w g l.length ∧ B ≤ g
theorem Pks.below {B : Nat} {v : Value} {l : List PeakV} {w w' : World} (h : Pks B v l w) (hb : Below w.heap.size w w') : Pks B v l w' := by
  rcases h with h | ⟨g, cap, h1, h2, h3, h4⟩
  · exact .inl h
  · exact .inr ⟨g, cap, h1, h2.below hb h2.1, h3.below hb h3.lt, h4⟩
theorem Pks.mono {B C : Nat} {v : Value} {l : List PeakV} {w : World} (h : Pks B v l w) (hc : C ≤ B) : Pks C v l w := by
  rcases h with h | ⟨g, cap, h1, h2, h3, h4⟩
  · exact .inl h
  · exact .inr ⟨g, cap, h1, h2, h3, Nat.le_trans hc h4⟩
/-- The block of a value that is a row. -/
def blkOf : Value → Nat → Prop
  | .slice (some a) _ _, g => a.block = g
  | _, _ => False
theorem Pks.blk {B : Nat} {v : Value} {l : List PeakV} {w : World} (h : Pks B v l w) {g : Nat} (hv : blkOf v g) : g < w.heap.size ∧ B ≤ g := by
  rcases h with ⟨rfl, _⟩ | ⟨g', c', rfl, h2, _, h4⟩
  · exact absurd hv (by simp [blkOf])
  · have : g' = g := hv
    subst this
    exact ⟨h2.1, h4⟩
theorem Pks.keep {B : Nat} {v : Value} {l : List PeakV} {w w' : World} (h : Pks B v l w) (hs : w.heap.size ≤ w'.heap.size) (hk : ∀ g, blkOf v g → w'.heap[g]? = w.heap[g]?) : Pks B v l w' := by
  rcases h with h | ⟨g, cap, rfl, h2, h3, h4⟩
  · exact .inl h
  · refine .inr ⟨g, cap, rfl, ⟨Nat.lt_of_lt_of_le h2.1 hs, fun i j hi hj => ?_⟩, h3.keep (hk g rfl), h4⟩
    have := h2.2 i j hi hj
    rw [← this]
    exact World.cell?_of_block (a := ⟨g, i * 3 + j, none⟩) (hk g rfl)
/-- A list of peaks that holds its marks. -/
def HeldP (v : Value) (n : Nat) (w : World) : Prop := (v = .slice none 0 0 ∧ n = 0) ∨ ∃ g cap, v = .slice (some ⟨g, 0, none⟩) n cap ∧ g < w.heap.size ∧ MkP w g 1 n
theorem HeldP.below {v : Value} {n : Nat} {w w' : World} (h : HeldP v n w) (hb : Below w.heap.size w w') : HeldP v n w' := by
  rcases h with h | ⟨g, cap, h1, h2, h3⟩
  · exact .inl h
  · exact .inr ⟨g, cap, h1, Nat.lt_of_lt_of_le h2 hb.size, h3.below hb h2⟩
end Go.Proofs.YtkajpkfhedfmaaaGreatDoor

