/-
  At every range, root and more peaks the program's PrefixCheck answers what the specification answers; the arguments stand. The package variables that the row lists are as the program's text lays them.
-/
import Derived.Test.YtoojimfimlpplaaDoorPart1
import Derived.Test.YtoojimfimlpplaaDoorPart2
import Derived.Test.YtoojimfimlpplaaDoorPart3
import Derived.Test.YtoojimfimlpplaaDoorPart4
import Derived.Test.YtoojimfimlpplaaDoorPart5
import Derived.Test.YtoojimfimlpplaaDoorPart6
import Derived.Test.YtoojimfimlpplaaDoorPart7
import Derived.Test.YtoojimfimlpplaaDoorCards
import Derived.Test.YtoojimfimlpplaaDoorTie
import Derived.WalkKit
import Derived.ProofKit
import Derived.OpenShut
import Derived.ShutString
import Derived.ChangeOld
import Derived.ChangeVars
import Derived.Below
import Derived.Carry
import Derived.Deep.DeepHandedRow
import Derived.Lib.LaidTab
set_option linter.unusedVariables false
namespace Go.Proofs.YtoojimfimlpplaaDoor
open Go.RowKit Go.Deep

set_option maxHeartbeats 4000000 in
set_option maxRecDepth 100000 in
theorem implPrefixCheck (g n cap : Nat) (ps : List PeakV) (root : ByteArray) (g2 n2 cap2 : Nat) (ms : List PeakV) (w : World) (hA : AtP w g ps) (hn : n = ps.length) (hm : n ≤ 1048576) (hA2 : AtP w g2 ms) (hn2 : n2 = ms.length) (hm2 : n2 ≤ 1048576) (hK : RowG w shaK) (hP : TabP w) :
    Calls Tryd.prog 17 #[.slice (some ⟨g, 0, none⟩) n cap, .string root, .slice (some ⟨g2, 0, none⟩) n2 cap2] w fun e w' => e = .returned (.bool (prefixB ps root ms)) ∧ Below w.heap.size w w' := by
  have HA2 : Hid (AtP w g2 ms) := hA2
  have HN2 : Hid (n2 = ms.length) := hn2
  have HM : Hid (n ≤ 1048576) := hm
  have HM2 : Hid (n2 ≤ 1048576) := hm2
  have hok := implRangeOk g n cap ps w hA hn (by omega)
  have HST : Hid (∀ w', Below w.heap.size w w' → Calls Tryd.prog 36 #[.slice (some ⟨g2, 0, none⟩) n2 cap2] w' fun e w'' => e = .returned (.bool (stepsB ms)) ∧ Below w'.heap.size w' w'') := fun w' hb => implStepsOk g2 n2 cap2 ms w' (hA2.below hb hA2.1) hn2 hm2
  have HPS : Hid (rangeOkB ps = true → ∀ (w' : World), Below w.heap.size w w' → Calls Tryd.prog 37 #[.slice (some ⟨g, 0, none⟩) n cap] w' fun e w'' => StackRes w' ps e w'') := fun hr w' hb => implPeakStack g n cap ps w' (hA.below hb hA.1) hn hm (fun i hi => by rw [sum_size (peakOk_sum (peaks_ok hr i hi))]; decide)
  have HPU : Hid (rangeOkB ps = true → stepsB ms = true → ∀ k, k < n2 → ∀ (w' : World) (g4 : Nat), Stk w w' g4 (moreP ps ms k) → Calls Tryd.prog 38 #[.pointer (some ⟨g4, 0, none⟩), peakVal (ms.getD k default)] w' fun e w'' => PushRes w g4 (moreP ps ms (k + 1)) e w'') := fun hr hs k hk w' g4 h4 => by
    have h1 := more_wide hr hs k (by omega)
    have := h1.n
    have := steps_len hs
    exact implPushW w g4 _ _ w' h4 (by omega) (fun i hi => h1.at i hi) (more_room hr hs k (by omega)) hK hP
  have HRR : Hid (∀ (g4 c4 M : Nat) (A : List PeakV) w', AtP w' g4 A → M = A.length → M ≤ 1048576 → Below w.heap.size w w' → Calls Tryd.prog 39 #[.slice (some ⟨g4, 0, none⟩) M c4] w' fun e w'' => e = .returned (.string ⟨(rangeRoot A).toArray⟩) ∧ Below w'.heap.size w' w'') := fun g4 c4 M A w' ha hl hm hb => implRangeRoot g4 M c4 A w' ha hl hm (hK.below hb hK.lt) (TabP.below hP hb (Nat.le_refl _))
  have HNO : Hid ((rangeOkB ps && stepsB ms) = false → prefixB ps root ms = false) := prefix_no
  have HBAD : Hid (rangeOkB (moreP ps ms n2) = false → prefixB ps root ms = false) := by rw [hn2]; exact prefix_bad
  have HYES : Hid (rangeOkB ps = true → stepsB ms = true → rangeOkB (moreP ps ms n2) = true → prefixB ps root ms = decide ((⟨(rangeRoot (moreP ps ms n2)).toArray⟩ : ByteArray) = root)) := by rw [hn2]; exact prefix_yes
  have HLN : Hid (rangeOkB ps = true → stepsB ms = true → (moreP ps ms n2).length ≤ 1048576 ∧ n2 ≤ 8) := fun hr hs => by
    have h1 := (more_wide hr hs n2 (by omega)).n
    have := steps_len hs
    exact ⟨by omega, by omega⟩
  generalize prefixB ps root ms = R at HNO HBAD HYES ⊢
  clear hA hn hm hA2 hn2 hm2 hK hP
  go_enter Tryd.func17, Tryd.ntmps17
  go_wp2_with fail
  cases hrk : rangeOkB ps with
  | false =>
    have HV : Hid (R = false) := HNO.out (by rw [hrk]; rfl)
    rw [hrk] at hok
    clear HNO HBAD HYES HPU HPS HST HLN hrk
    refine hok.mono ?_
    rintro e w1 ⟨rfl, b1⟩
    go_wp2_with fail
    go_ret
    exact ⟨by rw [HV.out]; rfl, b1⟩
  | true =>
  have HRK : Hid (rangeOkB ps = true) := hrk
  rw [hrk] at hok
  clear hrk
  refine hok.mono ?_
  rintro e w1 ⟨rfl, b1⟩
  have B1 : Hid (Below w.heap.size w w1) := b1
  have hst := HST.out w1 b1
  clear hok b1
  go_wp2_with fail
  cases hsk : stepsB ms with
  | false =>
    have HV : Hid (R = false) := HNO.out (by rw [HRK.out, hsk]; rfl)
    rw [hsk] at hst
    clear HNO HBAD HYES HPU HPS HST HLN hsk
    refine hst.mono ?_
    rintro e w2 ⟨rfl, b2⟩
    go_wp2_with fail
    go_ret
    exact ⟨by rw [HV.out]; rfl, B1.out.trans (b2.mono B1.out.size)⟩
  | true =>
  have HSK : Hid (stepsB ms = true) := hsk
  have HN8 : Hid (n2 ≤ 8) := (HLN.out HRK.out hsk).2
  have HLA : Hid ((moreP ps ms n2).length ≤ 1048576) := (HLN.out HRK.out hsk).1
  rw [hsk] at hst
  clear hsk HLN
  refine hst.mono ?_
  rintro e w2 ⟨rfl, b2⟩
  have B2 : Hid (Below w.heap.size w w2) := B1.out.trans (b2.mono B1.out.size)
  have hps := HPS.out HRK.out w2 B2.out
  clear hst B1 b2 HST HPS
  go_wp2_with fail
  refine Calls.mono hps ?_
  rintro e w3 ⟨g4, rfl, hs3⟩
  have S3 : Hid (Stk w w3 g4 (moreP ps ms 0)) := hs3.lower B2.out
  clear hps hs3 B2
  have HPU2 : Hid (∀ k, k < n2 → ∀ (w' : World) (g4 : Nat), Stk w w' g4 (moreP ps ms k) → Calls Tryd.prog 38 #[.pointer (some ⟨g4, 0, none⟩), peakVal (ms.getD k default)] w' fun e w'' => PushRes w g4 (moreP ps ms (k + 1)) e w'') := HPU.out HRK.out HSK.out
  have HYES2 : Hid (rangeOkB (moreP ps ms n2) = true → R = decide ((⟨(rangeRoot (moreP ps ms n2)).toArray⟩ : ByteArray) = root)) := HYES.out HRK.out HSK.out
  clear HPU HNO HYES
  unfold peakVal at HPU2
  go_wp2_with fail
  go_loopw [22] (fun i wr => ∃ k : Nat, k ≤ n2 ∧ i = .int .i64 (k : Int) ∧ Hid (Stk w wr g4 (moreP ps ms k))) (fun i _ => n2 - (intOf i).toNat)
  case atStart => exact ⟨0, by omega, rfl, S3⟩
  case round =>
    clear S3
    obtain ⟨k, hk, rfl, SK⟩ := hrel
    by_cases hlt : k < n2
    · have hkl : k < ms.length := by rw [← HN2.out]; exact hlt
      have HAr := HA2.out.below SK.out.b HA2.out.1
      have c0 := AtP.c0 HAr k hkl
      have c1 := AtP.c1 HAr k hkl
      have c2 := AtP.c2 HAr k hkl
      have lk : (k : Int) < (n2 : Int) := by omega
      have lk0 : (0 : Int) ≤ (k : Int) := by omega
      have wk : IntKind.i64.wrap ((k : Int) + 1) = (k : Int) + 1 := by have := HN8.out; rw [IntKind.wrap_i64]; omega
      have HK1 : Hid (k + 1 ≤ n2) := hlt
      have HPUk : Hid _ := HPU2.out k hlt
      clear hkl HAr
      generalize ms.getD k default = p at HPUk c0 c1 c2
      have SA : Hid (Stk w (wr.alloc (.cells #[.string p.sum, .int .i64 p.work, .int .i64 p.count] 50)) g4 (moreP ps ms k)) := SK.out.call ((Below.refl _ wr).alloc (Nat.le_refl _) _)
      have hpu := HPUk.out _ _ SA.out
      clear HPUk SK
      go_wp2_with fail
      refine Calls.mono hpu ?_
      rintro e w4 ⟨rfl, hs4⟩
      have S4 : Hid (Stk w w4 g4 (moreP ps ms (k + 1))) := hs4
      clear hs4 hpu SA c0 c1 c2
      go_wp2_with fail
      go_roundw
      case rel => exact ⟨k + 1, HK1.out, by go_num, S4⟩
      case measure => have := HK1.out; simp [intOf]; omega
    · obtain rfl : k = n2 := by omega
      obtain ⟨r, c, M, hw⟩ := id SK.out
      have SW : Hid (StkW w wr g4 r c M (moreP ps ms k)) := hw
      clear hw SK HPU2
      generalize moreP ps ms k = A at SW HBAD HYES2 HLA
      have hok5 := implRangeOk r M c A wr SW.out.at.1 SW.out.at.2.1 (by have := SW.out.at.2.1; have := HLA.out; omega)
      obtain ⟨a0, a1, a2⟩ := SW.out.outs
      go_wp2_with fail
      cases hra : rangeOkB A with
      | false =>
        have HV : Hid (R = false) := HBAD.out hra
        rw [hra] at hok5
        clear HBAD HYES2 hra
        refine hok5.mono ?_
        rintro e w5 ⟨rfl, b5⟩
        have B5 : Hid (Below w.heap.size w w5) := SW.out.b.trans (b5.mono SW.out.b.size)
        clear b5 a0 a1 a2 hok5 SW
        go_wp2_with fail
        go_ret
        exact ⟨by rw [HV.out]; rfl, B5.out⟩
      | true =>
        have HV : Hid (R = decide ((⟨(rangeRoot A).toArray⟩ : ByteArray) = root)) := HYES2.out hra
        rw [hra] at hok5
        clear HBAD HYES2 hra
        refine hok5.mono ?_
        rintro e w5 ⟨rfl, b5⟩
        have S5 : Hid (StkW w w5 g4 r c M A) := SW.out.call b5
        have hrr := HRR.out r c M A w5 S5.out.at.1 S5.out.at.2.1 (by have := S5.out.at.2.1; have := HLA.out; omega) S5.out.b
        clear b5 a0 a1 a2 hok5 SW HRR
        obtain ⟨a0, a1, a2⟩ := S5.out.outs
        generalize (⟨(rangeRoot A).toArray⟩ : ByteArray) = rt at hrr HV
        go_wp2_with fail
        refine hrr.mono ?_
        rintro e w6 ⟨rfl, b6⟩
        have B6 : Hid (Below w.heap.size w w6) := S5.out.b.trans (b6.mono S5.out.b.size)
        have hsr := sameR rt root
        clear b6 a0 a1 a2 hrr S5
        go_wp2_with fail
        go_ret
        exact ⟨by rw [HV.out, ← hsr]; rfl, B6.out⟩

end Go.Proofs.YtoojimfimlpplaaDoor

set_option linter.unusedVariables false
namespace Go.Proofs.YtoojimfimlpplaaDoor
open Go.RowKit Go.Deep

set_option maxHeartbeats 2000000 in
set_option maxRecDepth 100000 in
theorem specL11Add (B g n cap : Nat) (ps : List PeakV) (g2 n2 cap2 : Nat) (ms : List PeakV) (w : World) (hR : PRow B (.slice (some ⟨g, 0, none⟩) n cap) ps w) (hB : B ≤ w.heap.size) (hA2 : AtP w g2 ms) (hn2 : n2 = ms.length) (hr : rangeOkB ps = true) (hs : stepsB ms = true) :
    Calls Tryd.prog 32 #[.slice (some ⟨g, 0, none⟩) n cap, .slice (some ⟨g2, 0, none⟩) n2 cap2] w fun e w' => ∃ v, e = .returned v ∧ PRow B v (moreP ps ms n2) w' ∧ Below w.heap.size w w' := by
  have HA2 : Hid (AtP w g2 ms) := hA2
  have HN2 : Hid (n2 = ms.length) := hn2
  have HM2 : Hid (n2 ≤ 8) := by show _ ≤ _; have := steps_len hs; omega
  have HLO : Hid (B ≤ w.heap.size) := hB
  have HAD : Hid (∀ k, k < n2 → ∀ (g4 M c4 : Nat) (w' : World), PRow B (.slice (some ⟨g4, 0, none⟩) M c4) (moreP ps ms k) w' → Calls Tryd.prog 46 #[.slice (some ⟨g4, 0, none⟩) M c4, peakVal (ms.getD k default)] w' fun e w'' => ∃ v, e = .returned v ∧ PRow w'.heap.size v (moreP ps ms (k + 1)) w'' ∧ Below w'.heap.size w' w'') := fun k hk g4 M c4 w' h4 => by
    have h1 := more_wide hr hs k (by omega)
    have h2 := h1.n
    have h3 := steps_len hs
    have h5 := FRow.at pEnc_len h4
    have h6 := more_room hr hs k (by omega)
    rw [← h5.2.1] at h6
    exact specL5AddW g4 M c4 _ _ w' h5.1 h5.2.1 (by have := h5.2.1; omega) (fun i hi => h1.at i hi) h6
  have R0 : Hid (PRow B (.slice (some ⟨g, 0, none⟩) n cap) (moreP ps ms 0) w) := hR
  clear hR hA2 hn2 hr hs hB
  unfold peakVal at HAD
  go_enter Tryd.func32, Tryd.ntmps32
  go_wp2_with fail
  go_loopw [0, 5] (fun out i wr => ∃ (k : Nat), k ≤ n2 ∧ i = .int .i64 (k : Int) ∧ Hid (PRow B out (moreP ps ms k) wr) ∧ Hid (Below w.heap.size w wr)) (fun _ i _ => n2 - (intOf i).toNat)
  case atStart => exact ⟨0, by omega, rfl, R0, Below.refl _ w⟩
  case round =>
    clear R0
    obtain ⟨k, hk, rfl, R, HB⟩ := hrel
    by_cases hlt : k < n2
    · have hkl : k < ms.length := by rw [← HN2.out]; exact hlt
      have HAr := HA2.out.below HB.out HA2.out.1
      have c0 := AtP.c0 HAr k hkl
      have c1 := AtP.c1 HAr k hkl
      have c2 := AtP.c2 HAr k hkl
      have lk : (k : Int) < (n2 : Int) := by omega
      have lk0 : (0 : Int) ≤ (k : Int) := by omega
      have wk : IntKind.i64.wrap ((k : Int) + 1) = (k : Int) + 1 := by have := HM2.out; rw [IntKind.wrap_i64]; omega
      have HK1 : Hid (k + 1 ≤ n2) := hlt
      have had0 := HAD.out k hlt
      obtain ⟨⟨g4, cc, rfl⟩, -⟩ := id R.out
      have had := had0 g4 _ cc wr R.out
      clear hkl HAr had0
      generalize ms.getD k default = p at had c0 c1 c2
      generalize moreP ps ms k = A at R had
      go_wp2_with fail
      refine had.mono ?_
      rintro e w4 ⟨v, rfl, R4, b4⟩
      have B4 : Hid (Below w.heap.size w w4) := HB.out.trans (b4.mono HB.out.size)
      have R5 : Hid (PRow B v (moreP ps ms (k + 1)) w4) := R4.mono (Nat.le_trans HLO.out HB.out.size)
      clear had b4 R4 R HB c0 c1 c2
      go_wp2_with fail
      go_roundw
      case rel => exact ⟨k + 1, HK1.out, by go_num, R5, B4⟩
      case measure => have := HK1.out; simp [intOf]; omega
    · obtain rfl : k = n2 := by omega
      go_wp2_with fail
      go_ret
      exact ⟨_, rfl, R.out, HB.out⟩

set_option maxHeartbeats 4000000 in
set_option maxRecDepth 100000 in
theorem specPrefixCheck (g n cap : Nat) (ps : List PeakV) (root : ByteArray) (g2 n2 cap2 : Nat) (ms : List PeakV) (w : World) (hA : AtP w g ps) (hn : n = ps.length) (hm : n ≤ 1048576) (hz : ∀ i, i < ps.length → (ps.getD i default).sum.size ≤ maxLen) (hA2 : AtP w g2 ms) (hn2 : n2 = ms.length) (hm2 : n2 ≤ 1048576) (hz2 : ∀ i, i < ms.length → (ms.getD i default).sum.size ≤ maxLen) :
    Calls Tryd.prog 15 #[.slice (some ⟨g, 0, none⟩) n cap, .string root, .slice (some ⟨g2, 0, none⟩) n2 cap2] w fun e w' => e = .returned (.bool (prefixB ps root ms)) ∧ Below w.heap.size w w' := by
  obtain ⟨i0, hi, hz0, hz1, hz22⟩ := info3 infoPeak
  have HA : Hid (AtP w g ps) := hA
  have HA2 : Hid (AtP w g2 ms) := hA2
  have HN : Hid (n = ps.length) := hn
  have HN2 : Hid (n2 = ms.length) := hn2
  have HM2 : Hid (n2 ≤ 1048576) := hm2
  have hpk := fun (p : PeakV) (w' : World) (hp : p.sum.size ≤ maxLen) => specPeakOk p w' hp
  have HZ2 : Hid (∀ i, i < ms.length → (ms.getD i default).sum.size ≤ maxLen) := hz2
  have HOK : Hid (∀ w', Below w.heap.size w w' → Calls Tryd.prog 31 #[.slice (some ⟨g, 0, none⟩) n cap] w' fun e w'' => e = .returned (.bool (rangeOkB ps)) ∧ Below w'.heap.size w' w'') := fun w' hb => specL5Ok g n cap ps w' (hA.below hb hA.1) hn (by omega) hz
  have HAD : Hid (rangeOkB ps = true → stepsB ms = true → ∀ (g4 c4 : Nat) (w' : World), PRow w.heap.size (.slice (some ⟨g4, 0, none⟩) n c4) ps w' → Below w.heap.size w w' → Calls Tryd.prog 32 #[.slice (some ⟨g4, 0, none⟩) n c4, .slice (some ⟨g2, 0, none⟩) n2 cap2] w' fun e w'' => ∃ v, e = .returned v ∧ PRow w.heap.size v (moreP ps ms n2) w'' ∧ Below w'.heap.size w' w'') := fun hr hs g4 c4 w' h4 hb => specL11Add w.heap.size g4 n c4 ps g2 n2 cap2 ms w' h4 hb.size (hA2.below hb hA2.1) hn2 hr hs
  have HSZ : Hid (rangeOkB ps = true → stepsB ms = true → (moreP ps ms n2).length ≤ 1048576 ∧ ∀ i, i < (moreP ps ms n2).length → ((moreP ps ms n2).getD i default).sum.size ≤ maxLen) := fun hr hs => by
    have h1 := more_wide hr hs n2 (by omega)
    have h2 := steps_len hs
    exact ⟨by have := h1.n; omega, fun i hi => by rw [sum_size (wide_sum (h1.at i hi))]; decide⟩
  have HNO : Hid ((rangeOkB ps && stepsB ms) = false → prefixB ps root ms = false) := prefix_no
  have HBAD : Hid (rangeOkB (moreP ps ms n2) = false → prefixB ps root ms = false) := by rw [hn2]; exact prefix_bad
  have HYES : Hid (rangeOkB ps = true → stepsB ms = true → rangeOkB (moreP ps ms n2) = true → prefixB ps root ms = decide ((⟨(rangeRoot (moreP ps ms n2)).toArray⟩ : ByteArray) = root)) := by rw [hn2]; exact prefix_yes
  generalize prefixB ps root ms = R at HNO HBAD HYES ⊢
  have HPL : Hid ((ps.flatMap pEnc).length = n * 3) := by show _ = _; rw [flat_length 3 pEnc pEnc_len, hn]
  have HU : Hid (∀ u ∈ ps.flatMap pEnc, u.oneCell' = true) := pEncs_one ps
  have hy1 : 0 + n ≤ maxLen := by unfold maxLen; omega
  have hy2 : (0 + n) * 32 ≤ 140737488355328 := by omega
  clear hA hn hm hz hA2 hn2 hm2 hz2
  go_enter Tryd.func15, Tryd.ntmps15
  go_wp2_with fail
  go_loopw [7] (fun i wr => ∃ (k : Nat), k ≤ n2 ∧ i = .int .i64 (k : Int) ∧ Hid (Below w.heap.size w wr) ∧ Hid (∀ j, j < k → peakOkB (ms.getD j default) = true)) (fun i _ => n2 - (intOf i).toNat)
  case atStart => exact ⟨0, by omega, rfl, Below.refl _ w, fun j hj => absurd hj (Nat.not_lt_zero _)⟩
  case round =>
    obtain ⟨k, hk, rfl, HB, HQ⟩ := hrel
    by_cases hlt : k < n2
    · have hkl : k < ms.length := by rw [← HN2.out]; exact hlt
      have HAr := HA2.out.below HB.out HA2.out.1
      have c0 := AtP.c0 HAr k hkl
      have c1 := AtP.c1 HAr k hkl
      have c2 := AtP.c2 HAr k hkl
      have lk : (k : Int) < (n2 : Int) := by omega
      have lk0 : (0 : Int) ≤ (k : Int) := by omega
      have wk : IntKind.i64.wrap ((k : Int) + 1) = (k : Int) + 1 := by have := HM2.out; rw [IntKind.wrap_i64]; omega
      have HK1 : Hid (k + 1 ≤ n2) := hlt
      have hpk1 := fun w' => hpk (ms.getD k default) w' (HZ2.out k hkl)
      have HBK : Hid (peakOkB (ms.getD k default) = false → R = false) := fun hf => HNO.out (by rw [steps_bad hkl hf, Bool.and_false])
      have HQ2 : Hid (peakOkB (ms.getD k default) = true → ∀ j, j < k + 1 → peakOkB (ms.getD j default) = true) := by
        intro h j hj
        rcases Nat.lt_or_ge j k with h' | h'
        · exact HQ.out j h'
        · obtain rfl : j = k := by omega
          exact h
      clear HAr HQ hpk hkl
      generalize peakOkB (ms.getD k default) = ok at hpk1 HBK HQ2
      generalize ms.getD k default = p at hpk1 c0 c1 c2
      cases ok with
      | false =>
        have HV : Hid (R = false) := HBK.out rfl
        clear HBK HQ2 HNO HBAD HYES HOK HAD HSZ
        go_wp2_with fail
        refine (hpk1 _).mono ?_
        rintro e w1 ⟨rfl, b1⟩
        have HB1 : Hid (Below w.heap.size w w1) := HB.out.trans (b1.mono HB.out.size)
        clear b1 hpk1
        go_wp2_with fail
        go_ret
        exact ⟨by rw [HV.out]; rfl, HB1.out⟩
      | true =>
        have HQ3 : Hid (∀ j, j < k + 1 → peakOkB (ms.getD j default) = true) := HQ2.out rfl
        clear HBK HQ2
        go_wp2_with fail
        refine (hpk1 _).mono ?_
        rintro e w1 ⟨rfl, b1⟩
        have HB1 : Hid (Below w.heap.size w w1) := HB.out.trans (b1.mono HB.out.size)
        clear b1 hpk1
        go_wp2_with fail
        go_roundw
        case rel => exact ⟨k + 1, HK1.out, by go_num, HB1, HQ3⟩
        case measure => have := HK1.out; simp [intOf]; omega
    · obtain rfl : k = n2 := by omega
      have hok := HOK.out _ HB.out
      clear hpk
      go_wp2_with fail
      cases hrk : rangeOkB ps with
      | false =>
        have HV : Hid (R = false) := HNO.out (by rw [hrk]; rfl)
        rw [hrk] at hok
        clear HNO HBAD HYES HOK HAD HSZ hrk
        refine hok.mono ?_
        rintro e w1 ⟨rfl, b1⟩
        have HB1 : Hid (Below w.heap.size w w1) := HB.out.trans (b1.mono HB.out.size)
        clear b1 hok
        go_wp2_with fail
        go_ret
        exact ⟨by rw [HV.out]; rfl, HB1.out⟩
      | true =>
      have HRK : Hid (rangeOkB ps = true) := hrk
      rw [hrk] at hok
      clear hrk
      refine hok.mono ?_
      rintro e w1 ⟨rfl, b1⟩
      have HB1 : Hid (Below w.heap.size w w1) := HB.out.trans (b1.mono HB.out.size)
      clear b1 hok HB HOK
      by_cases h8 : (8 : Int) < (k : Int)
      · have HV : Hid (R = false) := HNO.out (by rw [steps_long (by have := HN2.out; omega), Bool.and_false])
        clear HNO HBAD HYES HAD HSZ
        go_wp2_with fail
        go_ret
        exact ⟨by rw [HV.out]; rfl, HB1.out⟩
      have HSK : Hid (stepsB ms = true) := steps_good (by have := HN2.out; omega) (fun i hi => HQ.out i (by have := HN2.out; omega))
      have R0 : Hid (PRow w1.heap.size (.slice (some ⟨w1.heap.size, 0, none⟩) 0 0) [] (w1.alloc (.cells #[] 50))) := frow_new pEnc 50 3 w1
      have B2 : Hid (Below w.heap.size w (w1.alloc (.cells #[] 50))) := HB1.out.alloc HB1.out.size _
      have HNW := newsPeaks HA.out B2.out
      have hzz : w1.heap.size ≤ (w1.alloc (.cells #[] 50)).heap.size := by simp
      have HAD2 : Hid _ := HAD.out HRK.out HSK.out
      have HSZ2 : Hid _ := HSZ.out HRK.out HSK.out
      have HYES2 : Hid _ := HYES.out HRK.out HSK.out
      clear HAD HSZ HYES HNO HQ
      go_wp2_with (at_builtin; refine wpList_append_any rfl _ _ 24 rfl w1.heap.size 50 i0 (.agg #[.string ⟨#[]⟩, .int .i64 0, .int .i64 0]) 3 32 Tryd.underlying24 hi hz0 hz1 hz22 rfl (by decide) w1.heap.size 0 0 [] (by rfl) R0.out.2 ⟨g, 0, none⟩ n cap (ps.flatMap pEnc) (by rfl) HPL.out HNW HU.out hy1 hy2 hzz ?_; intro g5 c5 w2 hown2 hgrow2 hat2 hlt2)
      have B3 : Hid (Below w.heap.size w w2) := B2.out.grown hgrow2 B2.out.size (fun j hj => by cases hj; exact HB1.out.size)
      have R3 : Hid (PRow w.heap.size (.slice (some ⟨g5, 0, none⟩) n c5) ps w2) := by
        rw [Nat.zero_add, List.nil_append] at hown2
        exact (FRow.of (by exact hown2) HN.out).mono HB1.out.size
      have had := HAD2.out g5 c5 w2 R3.out B3.out
      clear R0 B2 HNW hown2 hgrow2 hat2 hlt2 hzz HAD2
      go_wp2_with fail
      refine had.mono ?_
      rintro e w3 ⟨v, rfl, r3, b3⟩
      have B4 : Hid (Below w.heap.size w w3) := B3.out.trans (b3.mono B3.out.size)
      have R4 : Hid (PRow w.heap.size v (moreP ps ms k) w3) := r3
      clear had r3 b3 B3 R3
      generalize moreP ps ms k = A at R4 HBAD HYES2 HSZ2
      obtain ⟨⟨g6, c6, rfl⟩, -⟩ := id R4.out
      have hok6 := specL5Ok g6 A.length c6 A w3 (FRow.at pEnc_len R4.out).1 rfl (by have := HSZ2.out.1; omega) HSZ2.out.2
      go_wp2_with fail
      cases hra : rangeOkB A with
      | false =>
        have HV : Hid (R = false) := HBAD.out hra
        rw [hra] at hok6
        clear HBAD HYES2 hra
        refine hok6.mono ?_
        rintro e w5 ⟨rfl, b5⟩
        have B5 : Hid (Below w.heap.size w w5) := B4.out.trans (b5.mono B4.out.size)
        clear b5 hok6
        go_wp2_with fail
        go_ret
        exact ⟨by rw [HV.out]; rfl, B5.out⟩
      | true =>
        have HV : Hid (R = decide ((⟨(rangeRoot A).toArray⟩ : ByteArray) = root)) := HYES2.out hra
        have HRA : Hid (rangeOkB A = true) := hra
        rw [hra] at hok6
        clear HBAD HYES2 hra
        refine hok6.mono ?_
        rintro e w5 ⟨rfl, b5⟩
        have B5 : Hid (Below w.heap.size w w5) := B4.out.trans (b5.mono B4.out.size)
        have R5 : Hid (PRow w.heap.size (.slice (some ⟨g6, 0, none⟩) A.length c6) A w5) := R4.out.below b5
        have hrr := specL5Root g6 A.length c6 A w5 (FRow.at pEnc_len R5.out).1 rfl HRA.out
        rw [← rr_yes HRA.out] at hrr
        clear b5 hok6 R4 B4
        generalize (⟨(rangeRoot A).toArray⟩ : ByteArray) = rt at hrr HV
        go_wp2_with fail
        refine hrr.mono ?_
        rintro e w6 ⟨rfl, b6⟩
        have B6 : Hid (Below w.heap.size w w6) := B5.out.trans (b6.mono B5.out.size)
        have hsr := sameR rt root
        clear b6 hrr B5 R5
        go_wp2_with fail
        go_ret
        exact ⟨by rw [HV.out, ← hsr]; rfl, B6.out⟩

end Go.Proofs.YtoojimfimlpplaaDoor

set_option linter.unusedVariables false
namespace Go.Proofs.YtoojimfimlpplaaDoor
open Go.ChangeShapes Go.WideShapes Go.ChangeAt Go.RowKit Go.Deep

set_option maxHeartbeats 8000000 in
set_option maxRecDepth 100000 in
theorem walk_FnExactPrefixCheck (a : Option Addr) (len cap : Nat) (ps : List PeakV) (root : ByteArray) (b : Option Addr) (ln2 cap2 : Nat) (ms : List PeakV) (w : World) (h0 : IsPeaks w a len cap ps) (hr : root.size ≤ maxLen) (h2 : IsPeaks w b ln2 cap2 ms) (hK : RowG w shaK) (hP : TabP w) :
    Calls Tryd.prog 4 #[.slice a len cap, .string root, .slice b ln2 cap2] w fun e w' => e = .returned (.bool true) ∧ Below w.heap.size w w' := by
  have HLN : Hid (ps.length = len) := h0.len
  have HLM : Hid (ms.length = ln2) := h2.len
  have HSZ : Hid (∀ w1, Below w.heap.size w w1 → Calls Tryd.prog 14 #[.slice a len cap, .int .i64 1048576] w1 fun e w' => Below w1.heap.size w1 w' ∧ (e = .returned (.int .i64 (-1)) ∨ ∃ r : Nat, e = .returned (.int .i64 (r : Int)) ∧ r ≤ 1048576 ∧ len ≤ 1048576 ∧ ∀ i, i < len → (ps.getD i default).sum.size ≤ 1048576)) := fun w1 hb => szPeaksR 1048576 (Nat.le_refl _) a len cap ps w1 (peaks_below h0 hb)
  have HSM : Hid (∀ (r : Nat) w1, r ≤ 1048576 → Below w.heap.size w w1 → Calls Tryd.prog 14 #[.slice b ln2 cap2, .int .i64 (r : Int)] w1 fun e w' => Below w1.heap.size w1 w' ∧ (e = .returned (.int .i64 (-1)) ∨ ∃ q : Nat, e = .returned (.int .i64 (q : Int)) ∧ q ≤ 1048576 ∧ ln2 ≤ 1048576 ∧ ∀ i, i < ln2 → (ms.getD i default).sum.size ≤ 1048576)) := fun r w1 h hb => szPeaksR r h b ln2 cap2 ms w1 (peaks_below h2 hb)
  have HTO : Hid (len ≤ 1048576 → ∀ w1, Below w.heap.size w w1 → Calls Tryd.prog 16 #[.slice a len cap] w1 fun e w' => e = .returned (.slice (some ⟨w1.heap.size, 0, none⟩) len len) ∧ RowP w' w1.heap.size ps ∧ Below w1.heap.size w1 w') := fun hn w1 hb => toPeaks a len cap ps w1 w h0 hb hn
  have HTM : Hid (ln2 ≤ 1048576 → ∀ w1, Below w.heap.size w w1 → Calls Tryd.prog 16 #[.slice b ln2 cap2] w1 fun e w' => e = .returned (.slice (some ⟨w1.heap.size, 0, none⟩) ln2 ln2) ∧ RowP w' w1.heap.size ms ∧ Below w1.heap.size w1 w') := fun hn w1 hb => toPeaks b ln2 cap2 ms w1 w h2 hb hn
  have HSP : Hid (len ≤ 1048576 → ln2 ≤ 1048576 → (∀ i, i < len → (ps.getD i default).sum.size ≤ 1048576) → (∀ i, i < ln2 → (ms.getD i default).sum.size ≤ 1048576) → ∀ g g2 w1, RowP w1 g ps → RowP w1 g2 ms → Calls Tryd.prog 15 #[.slice (some ⟨g, 0, none⟩) len len, .string root, .slice (some ⟨g2, 0, none⟩) ln2 ln2] w1 fun e w' => e = .returned (.bool (prefixB ps root ms)) ∧ Below w1.heap.size w1 w') := fun hn hm hs hs2 g g2 w1 hr hr2 =>
    specPrefixCheck g len len ps root g2 ln2 ln2 ms w1 (hr.at 3 pEnc_len) HLN.out.symm hn (fun i hi => by have := hs i (by rw [← HLN.out]; exact hi); unfold maxLen; omega) (hr2.at 3 pEnc_len) HLM.out.symm hm (fun i hi => by have := hs2 i (by rw [← HLM.out]; exact hi); unfold maxLen; omega)
  have HIM : Hid (len ≤ 1048576 → ln2 ≤ 1048576 → ∀ g g2 w1, RowP w1 g ps → RowP w1 g2 ms → Below w.heap.size w w1 → Calls Tryd.prog 17 #[.slice (some ⟨g, 0, none⟩) len len, .string root, .slice (some ⟨g2, 0, none⟩) ln2 ln2] w1 fun e w' => e = .returned (.bool (prefixB ps root ms)) ∧ Below w1.heap.size w1 w') := fun hn hm g g2 w1 hr hr2 hb =>
    implPrefixCheck g len len ps root g2 ln2 ln2 ms w1 (hr.at 3 pEnc_len) HLN.out.symm hn (hr2.at 3 pEnc_len) HLM.out.symm hm (hK.below hb hK.lt) (TabP.below hP hb (Nat.le_refl _))
  generalize prefixB ps root ms = R at HSP HIM
  clear h0 h2 hK hP
  have B0 : Hid (Below w.heap.size w w) := Below.refl _ w
  by_cases hrz : (1048576 : Int) < (root.size : Int)
  · clear HSZ HSM HTO HTM HSP HIM
    go_enter Tryd.func4, Tryd.ntmps4
    go_wp2_with fail
    go_ret
    exact ⟨rfl, B0.out⟩
  go_enter Tryd.func4, Tryd.ntmps4
  go_wp2_with fail
  refine (HSZ.out _ B0.out).mono ?_
  rintro e w1 ⟨b1, rfl | ⟨r, rfl, hr1, hn, hs⟩⟩
  · clear HSM HTO HTM HSP HIM
    go_wp2_with fail
    go_ret
    exact ⟨rfl, b1⟩
  have B1 : Hid (Below w.heap.size w w1) := b1
  have HS : Hid (∀ i, i < len → (ps.getD i default).sum.size ≤ 1048576) := hs
  clear B0 b1 HSZ hs
  have hr0 : ¬ (r : Int) < 0 := by omega
  go_wp2_with fail
  refine (HSM.out r _ hr1 B1.out).mono ?_
  rintro e w2 ⟨b2, rfl | ⟨q, rfl, hq1, hm, hs2⟩⟩
  · have B2 : Hid (Below w.heap.size w w2) := B1.out.trans (b2.mono B1.out.size)
    clear HTO HTM HSP HIM
    go_wp2_with fail
    go_ret
    exact ⟨rfl, B2.out⟩
  have B2 : Hid (Below w.heap.size w w2) := B1.out.trans (b2.mono B1.out.size)
  have hsp := HSP.out hn (by omega) HS.out hs2
  have hto := HTO.out hn
  have htm := HTM.out (by omega)
  have him := HIM.out hn (by omega)
  have HM9 : Hid (ln2 ≤ 1048576) := by show _ ≤ _; omega
  have HN9 : Hid (len ≤ 1048576) := hn
  clear HSP HTO HTM HIM
  have HSP : Hid _ := hsp
  have HTO : Hid _ := hto
  have HTM : Hid _ := htm
  have HIM : Hid _ := him
  have hq0 : ¬ (q : Int) < 0 := by omega
  clear B1 b2 HSM hr0 hr1 hq1 hm hs2 hsp hto htm him HS
  go_wp2_with fail
  refine (HTO.out _ B2.out).mono ?_
  rintro e w3 ⟨rfl, r3, b3⟩
  have B3 : Hid (Below w.heap.size w w3) := B2.out.trans (b3.mono B2.out.size)
  obtain ⟨g3, hg3⟩ : ∃ g3, g3 = w2.heap.size := ⟨_, rfl⟩
  rw [← hg3] at r3 ⊢
  have R3 : Hid (RowP w3 g3 ps) := r3
  clear hg3 B2 b3 r3
  go_wp2_with fail
  refine (HTM.out _ B3.out).mono ?_
  rintro e w4 ⟨rfl, r4, b4⟩
  have B4 : Hid (Below w.heap.size w w4) := B3.out.trans (b4.mono B3.out.size)
  have R4 : Hid (RowP w4 g3 ps) := R3.out.below b4 R3.out.lt
  have hsp := HSP.out _ _ _ R4.out r4
  clear B3 b4 R3 R4 r4
  go_wp2_with fail
  refine hsp.mono ?_
  rintro e w5 ⟨rfl, b5⟩
  have B5 : Hid (Below w.heap.size w w5) := B4.out.trans (b5.mono B4.out.size)
  clear B4 b5 hsp HSP
  go_wp2_with fail
  refine (HTO.out _ B5.out).mono ?_
  rintro e w6 ⟨rfl, r6, b6⟩
  have B6 : Hid (Below w.heap.size w w6) := B5.out.trans (b6.mono B5.out.size)
  obtain ⟨g6, hg6⟩ : ∃ g6, g6 = w5.heap.size := ⟨_, rfl⟩
  rw [← hg6] at r6 ⊢
  have R6 : Hid (RowP w6 g6 ps) := r6
  clear hg6 B5 b6 r6
  go_wp2_with fail
  refine (HTM.out _ B6.out).mono ?_
  rintro e w7 ⟨rfl, r7, b7⟩
  have B7 : Hid (Below w.heap.size w w7) := B6.out.trans (b7.mono B6.out.size)
  obtain ⟨g7, hg7⟩ : ∃ g7, g7 = w6.heap.size := ⟨_, rfl⟩
  rw [← hg7] at r7 ⊢
  have R7 : Hid (RowP w7 g6 ps) := R6.out.below b7 R6.out.lt
  have S7 : Hid (RowP w7 g7 ms) := r7
  have him := HIM.out _ _ _ R7.out S7.out B7.out
  clear hg7 B6 b7 r7 R6 HIM
  go_wp2_with fail
  refine him.mono ?_
  rintro e w8 ⟨rfl, b8⟩
  have B8 : Hid (Below w.heap.size w w8) := B7.out.trans (b8.mono B7.out.size)
  have R8 : Hid (RowP w8 g6 ps) := R7.out.below b8 R7.out.lt
  have S8 : Hid (RowP w8 g7 ms) := S7.out.below b8 S7.out.lt
  have hbb : (R != R) = false := by cases R <;> rfl
  clear B7 b8 R7 S7 him
  go_wp2_with fail
  refine (HTO.out _ B8.out).mono ?_
  rintro e w9 ⟨rfl, r9, b9⟩
  have B9 : Hid (Below w.heap.size w w9) := B8.out.trans (b9.mono B8.out.size)
  have R9 : Hid (RowP w9 g6 ps) := R8.out.below b9 R8.out.lt
  have S9 : Hid (RowP w9 g7 ms) := S8.out.below b9 S8.out.lt
  have heq := eqPeaks g6 w8.heap.size len len len ps w9 (R9.out.at 3 pEnc_len) (r9.at 3 pEnc_len) HLN.out.symm (by have := HN9.out; omega)
  clear B8 b9 R8 S8 R9 r9
  go_wp2_with fail
  refine heq.mono ?_
  rintro e w10 ⟨rfl, b10⟩
  have B10 : Hid (Below w.heap.size w w10) := B9.out.trans (b10.mono B9.out.size)
  have S10 : Hid (RowP w10 g7 ms) := S9.out.below b10 S9.out.lt
  clear B9 b10 S9 heq
  go_wp2_with fail
  refine (HTM.out _ B10.out).mono ?_
  rintro e w11 ⟨rfl, r11, b11⟩
  have B11 : Hid (Below w.heap.size w w11) := B10.out.trans (b11.mono B10.out.size)
  have S11 : Hid (RowP w11 g7 ms) := S10.out.below b11 S10.out.lt
  have heq := eqPeaks g7 w10.heap.size ln2 ln2 ln2 ms w11 (S11.out.at 3 pEnc_len) (r11.at 3 pEnc_len) HLM.out.symm (by have := HM9.out; omega)
  clear B10 b11 S10 S11 r11
  go_wp2_with fail
  refine heq.mono ?_
  rintro e w12 ⟨rfl, b12⟩
  have B12 : Hid (Below w.heap.size w w12) := B11.out.trans (b12.mono B11.out.size)
  clear B11 b12 heq
  go_wp2_with fail
  go_ret
  exact ⟨rfl, B12.out⟩

end Go.Proofs.YtoojimfimlpplaaDoor

namespace Go.Proofs.YtoojimfimlpplaaDoor
open Go.ChangeShapes Go.WideShapes Go.ChangeAt Go.RowKit
open Go.ChangeMaps (open_string shut_string)
set_option linter.unusedVariables false

theorem own_fnExactPrefixCheck : ownKnob Tryd.prog.godebug = none := by kernel_rfl
theorem laid_fnExactPrefixCheck : laidOutB Tryd.prog = true := by kernel_rfl
theorem table_fnExactPrefixCheck {W : World} (h : laidMetH Tryd.prog Rows.fnExactPrefixCheckRow.laid W) : RowG W shaK ∧ TabP W := tabs_of_laid h

theorem met_fnExactPrefixCheck (os : Os) : laidMet Tryd.prog Rows.fnExactPrefixCheckRow.laid ((laidWorld os).forCall (fun _ _ => 0) ⟨#[], #[.slice none 0 0, .string ByteArray.empty, .slice none 0 0], []⟩).memory :=
  laidMet_of_run' 8 (by kernel_rfl) (by kernel_rfl)
theorem reads_fnExactPrefixCheck (os : Os) {H : Type} (enc : TypeId × Value → H) : ∃ places, DataW.whole enc Tryd.prog ((laidWorld os).forCall (fun _ _ => 0) ⟨#[], #[.slice none 0 0, .string ByteArray.empty, .slice none 0 0], []⟩).memory Tryd.f4.params.toList Rows.fnExactPrefixCheckSpec.vars false (#[.slice none 0 0, .string ByteArray.empty, .slice none 0 0] : Array Value).toList 8 = some ([.nil, .lit (.string []), .nil], [Rows.laid_loop_example_cordillera_impl_sumRounds], places) :=
  ⟨MemPlace.row ⟨0, 0, none⟩ 64, by kernel_rfl⟩

set_option maxRecDepth 100000 in
theorem lifted_fnExactPrefixCheck (os : Os) (started : os.Started) (H : Type) (enc : TypeId × Value → H) (F : Stop.Interp) :
    ReturnsInHanded {} Tryd.checked os 4 .any ((OpenSpec.ofChange Rows.fnExactPrefixCheckSpec).preRow enc Tryd.prog Tryd.f4 Rows.fnExactPrefixCheckRow.domain false Rows.fnExactPrefixCheckRow.laid) (((OpenSpec.ofChange Rows.fnExactPrefixCheckSpec).at F).post enc Tryd.prog Tryd.f4 false true false false) := by
  obtain ⟨places, hx⟩ := reads_fnExactPrefixCheck os enc
  refine returnsInHanded_of_row (C := Tryd.checked) (s := OpenSpec.ofChange Rows.fnExactPrefixCheckSpec) own_fnExactPrefixCheck started (by kernel_rfl) Tryd.func4
    (witness_row_at (enc := enc) (C := Tryd.checked) false (laidWorld os) #[.slice none 0 0, .string ByteArray.empty, .slice none 0 0] rfl (by kernel_rfl) (by kernel_rfl) (by kernel_rfl)
      (OpenSpec.preRow_of_cond 8 hx (by kernel_rfl) (fun k hk => by cases hk) (by kernel_rfl) (met_fnExactPrefixCheck os))) ?_
  intro W base args ds gs before hval0 hW _ _ _ hL _ _
  have hval : ∀ (j : Nat) t v, Tryd.f4.params[j]? = some t → args[j]? = some v → Value.okWide Tryd.prog W .any base t v := hval0
  have hW' := hW
  obtain ⟨p, q, hA0, hV, rfl, hfz, hnd⟩ := hW
  have hA : DataW.TrodAll enc Tryd.prog W 0 (fun _ => true) true Tryd.f4.params.toList args.toList ds p := hA0
  rw [Tryd.params4] at hA hval
  obtain ⟨v0, vs0, d0, ds0, p0, q0, hargs, rfl, rfl, h0, r0⟩ := trodAll_cons hA
  obtain ⟨v1, vs1, d1, ds1, p1, q1, rfl, rfl, rfl, h1, r1⟩ := trodAll_cons r0
  obtain ⟨v2, vs2, d2, ds2, p2, q2, rfl, rfl, rfl, h2, r2⟩ := trodAll_cons r1
  obtain ⟨rfl, rfl, rfl⟩ := trodAll_nil r2
  obtain rfl : args = #[v0, v1, v2] := by cases args; simp_all
  obtain ⟨gv, tv, cv, fv, dv, pv, rfl, hgv, htv, hvv, hdv, rfl⟩ := trodVars_one hV
  obtain ⟨a0, len0, cap0, rfl⟩ := okWide_slice Tryd.underlying33 (hval 0 33 v0 rfl rfl)
  have k0 := h0
  have lt0 : ∀ x ∈ p0, x.block < W.heap.size := by obtain ⟨m, hm⟩ := k0; exact DataW.trod_lt m _ _ _ hm
  obtain ⟨z0, w0⟩ := open_peaks h0
  obtain ⟨a1, rfl, rfl, rfl, w1⟩ := open_string Tryd.underlying9 (hval 1 9 v1 rfl rfl) h1
  obtain ⟨a2, len2, cap2, rfl⟩ := okWide_slice Tryd.underlying33 (hval 2 33 v2 rfl rfl)
  have k2 := h2
  have lt2 : ∀ x ∈ p2, x.block < W.heap.size := by obtain ⟨m, hm⟩ := k2; exact DataW.trod_lt m _ _ _ hm
  obtain ⟨z2, w2⟩ := open_peaks h2
  clear hA0 hval0
  refine (walk_FnExactPrefixCheck a0 len0 cap0 z0 a1 a2 len2 cap2 z2 W w0 w1 w2 (table_fnExactPrefixCheck hL).1 (table_fnExactPrefixCheck hL).2).mono fun e W' ⟨he, bel⟩ => ?_
  subst he
  obtain ⟨pv', hpv⟩ := varsBack laid_fnExactPrefixCheck hgv htv hvv hdv bel
  exact ⟨_, rfl, _, _, _, [], _, pv', hW', trodAll_mk1 (shut_bool Tryd.underlying4 _), (trodAll_cons_mk (Below.trod laid_fnExactPrefixCheck (by kernel_rfl) (of_decide_eq_true (by kernel_rfl)) k0 bel lt0) (trodAll_cons_mk (shut_string Tryd.underlying9 w1) (trodAll_cons_mk (Below.trod laid_fnExactPrefixCheck (by kernel_rfl) (of_decide_eq_true (by kernel_rfl)) k2 bel lt2) trodAll_mk0))), hpv, bel.frame _, fun h => by cases h⟩

theorem fnExactPrefixCheck_said : Rows.FnExactPrefixCheckSaid :=
  OpenClaim.holds_of_cond 4 Tryd.f4 rfl rfl rfl rfl rfl rfl rfl ⟨rfl, rfl, rfl, rfl, rfl⟩ rfl rfl rfl rfl rfl (by kernel_rfl) Tryd.func4 (by kernel_rfl)
    (of_decide_eq_true (by kernel_rfl)) (by unfold Func.isWrapper; first | (rw [if_pos (by decide +kernel)]; kernel_rfl) | (rw [if_neg (by decide +kernel)]; exact ⟨rfl, rfl⟩))
    (fun os started H enc _ F => by rw [OpenClaim.pre_eq_preRow]; exact lifted_fnExactPrefixCheck os started H enc F)
theorem plain_fnExactPrefixCheck (f : FuncId) (fn : Func) (hf : Tryd.pinned.checked.prog.funcNamed "loop.example/cordillera/laws.FnExactPrefixCheck" = some f) (hfn : Tryd.pinned.checked.prog.funcs[f]? = some fn) :
    false = Tryd.pinned.checked.prog.looks [] ∧ ∀ (j : Nat) t, fn.params[j]? = some t → Tryd.pinned.checked.prog.wantsStandIn t = false := by
  obtain rfl : f = 4 := Option.some.inj ((show Tryd.prog.funcNamed "loop.example/cordillera/laws.FnExactPrefixCheck" = some 4 by kernel_rfl).symm.trans hf) |>.symm
  obtain rfl : fn = Tryd.f4 := (Option.some.inj (Tryd.func4.symm.trans hfn)).symm
  refine ⟨by kernel_rfl, fun j t ht => ?_⟩
  rw [Tryd.params4] at ht
  have hall : ∀ t ∈ (#[33, 9, 33] : Array TypeId), Tryd.prog.wantsStandIn t = false := by
    intro t ht
    simp only [List.mem_toArray, List.mem_cons, List.not_mem_nil, or_false] at ht
    rcases ht with rfl | rfl | rfl <;> kernel_rfl
  exact hall t (Array.mem_of_getElem? ht)
theorem fnExactPrefixCheck_holds : Rows.FnExactPrefixCheckCardSaid :=
  Claim7.holds_tied_plain_at .later [] _ _ _ _ fnExactPrefixCheck_said (fun _ h => by cases h) (by kernel_rfl) (fun _ h => by cases h) fnExactPrefixCheck_row_tie rfl ⟨rfl, rfl⟩ (by kernel_rfl) rfl plain_fnExactPrefixCheck (by kernel_rfl)
#print axioms fnExactPrefixCheck_holds
end Go.Proofs.YtoojimfimlpplaaDoor

