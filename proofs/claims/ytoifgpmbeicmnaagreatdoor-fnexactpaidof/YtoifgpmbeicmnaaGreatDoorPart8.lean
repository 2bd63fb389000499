/-
  Texts that the last part needs, joined.
-/
import Derived.Test.YtoifgpmbeicmnaaGreatDoorPart1
import Derived.Test.YtoifgpmbeicmnaaGreatDoorPart2
import Derived.Test.YtoifgpmbeicmnaaGreatDoorPart3
import Derived.Test.YtoifgpmbeicmnaaGreatDoorPart4
import Derived.Test.YtoifgpmbeicmnaaGreatDoorPart5
import Derived.Test.YtoifgpmbeicmnaaGreatDoorPart6
import Derived.Test.YtoifgpmbeicmnaaGreatDoorPart7
import Derived.WalkKit
import Derived.Below
import Derived.ProofKit
import Derived.OpenShut
import Derived.ShutString
import Derived.ChangeOld
import Derived.ChangeArms
import Derived.WideShapes
import Derived.BigRegion
import Derived.Deep.RegionWith
import Derived.Deep.OwnRows
import Derived.Laws.Rows
import Derived.Deep.RegionHeld3
import Derived.Deep.AppendLies
set_option linter.unusedVariables false
namespace Go.Proofs.YtoifgpmbeicmnaaGreatDoor
open Go.RowKit Go.Deep

set_option maxHeartbeats 2000000 in
set_option maxRecDepth 100000 in
theorem specL5PeakN (g n cap : Nat) (ps : List PeakV) (a : Int) (w : World) (h : AtP w g ps) (hn : n = ps.length) (hm : n ≤ 1048576) (hl20 : ps.length ≤ 20) (hpk : ∀ i, i < ps.length → peakOkB (ps.getD i default) = true) (hcn : ∀ k, k ≤ ps.length → 0 ≤ cntTo ps k ∧ cntTo ps k ≤ 20) :
    Calls Tryz.prog 68 #[.slice (some ⟨g, 0, none⟩) n cap, .int .i64 a] w fun e w' => PlacePost ps a e ∧ w = w' := by
  have HA : Hid (AtP w g ps) := h
  have HN : Hid (n = ps.length) := hn
  have HPK : Hid (∀ i, i < ps.length → peakOkB (ps.getD i default) = true) := hpk
  have HCN : Hid (∀ k, k ≤ ps.length → 0 ≤ cntTo ps k ∧ cntTo ps k ≤ 20) := hcn
  have HY : Hid (∀ k e, placeP ps a = some k → e = .returned (.tuple #[.int .i64 (k : Int), .int .i64 (cntTo ps k)]) → PlacePost ps a e) := fun k e h1 h2 => .inl ⟨k, h1, h2⟩
  have HX : Hid (∀ x e, placeP ps a = none → e = .returned (.tuple #[.int .i64 (-1), .int .i64 x]) → PlacePost ps a e) := fun x e h1 h2 => .inr ⟨h1, x, h2⟩
  generalize PlacePost ps a = Q at HY HX ⊢
  clear h hn hpk hcn
  go_enter Tryz.func68, Tryz.ntmps68
  go_wp2_with fail
  go_loopw [6, 7] (fun f i wr => ∃ k : Nat, k ≤ n ∧ i = .int .i64 (k : Int) ∧ f = .int .i64 (cntTo ps k) ∧ Hid (w = wr) ∧ Hid (∀ j, j < k → ¬ a < cntTo ps (j + 1))) (fun _ i _ => n - (intOf i).toNat)
  case atStart => exact ⟨0, by omega, rfl, rfl, rfl, fun j hj => by omega⟩
  case round =>
    obtain ⟨k, hk, rfl, rfl, HW, HQ⟩ := hrel
    by_cases hlt : k < n
    · have hkl : k < ps.length := by rw [← HN.out]; exact hlt
      have HAr : Hid (AtP wr g ps) := by rw [← HW.out]; exact HA.out
      have q2 := AtP.c2 HAr.out k hkl
      have lk : (k : Int) < (n : Int) := by omega
      have lk0 : (0 : Int) ≤ (k : Int) := by omega
      have wk : IntKind.i64.wrap ((k : Int) + 1) = (k : Int) + 1 := by rw [IntKind.wrap_i64]; omega
      have HK1 : Hid (k + 1 ≤ n) := hlt
      have hri := peakOk_in (HPK.out k hkl)
      have hci := HCN.out k (by omega)
      have hw1 : IntKind.i64.wrap (cntTo ps k + (ps.getD k default).count) = cntTo ps k + (ps.getD k default).count := by rw [IntKind.wrap_i64]; omega
      have HC1 : Hid (cntTo ps (k + 1) = cntTo ps k + (ps.getD k default).count) := rfl
      have HYk : Hid (∀ e, a < cntTo ps (k + 1) → e = .returned (.tuple #[.int .i64 (k : Int), .int .i64 (cntTo ps k)]) → Q e) := fun e h1 h2 => HY.out k e (place_at hkl h1 HQ.out) h2
      have HQ2 : Hid (¬ a < cntTo ps (k + 1) → ∀ j, j < k + 1 → ¬ a < cntTo ps (j + 1)) := by
        intro hh j hj
        rcases Nat.lt_or_ge j k with h' | h'
        · exact HQ.out j h'
        · obtain rfl : j = k := by omega
          exact hh
      clear HQ hkl HAr hri hci
      generalize (ps.getD k default).count = c at q2 hw1 HC1
      generalize cntTo ps k = ck at hw1 HC1 HYk ⊢
      by_cases hin : a < ck + c
      · have HV : Hid (∀ e, e = .returned (.tuple #[.int .i64 (k : Int), .int .i64 ck]) → Q e) := fun e he => HYk.out e (by rw [HC1.out]; exact hin) he
        clear HY HX HYk HQ2 HC1
        go_wp2_with fail
        go_ret2
        exact ⟨HV.out _ rfl, HW.out⟩
      · have HQ3 : Hid (∀ j, j < k + 1 → ¬ a < cntTo ps (j + 1)) := HQ2.out (by rw [HC1.out]; exact hin)
        clear HYk HQ2
        go_wp2_with fail
        go_roundw
        case rel => exact ⟨k + 1, HK1.out, by go_num, by rw [HC1.out], HW, HQ3⟩
        case measure => have := HK1.out; simp [intOf]; omega
    · obtain rfl : k = n := by omega
      have HV : Hid (∀ x e, e = .returned (.tuple #[.int .i64 (-1), .int .i64 x]) → Q e) := fun x e he => HX.out x e (place_no (fun j hj => HQ.out j (by rw [HN.out]; exact hj))) he
      generalize cntTo ps k = ck at ⊢
      clear HY HX HQ
      go_wp2_with fail
      go_ret2
      exact ⟨HV.out _ _ rfl, HW.out⟩


/-- The place of a leaf among the range's peaks: its peak, where that begins, and its steps. -/
theorem proof_place {l : List HeadV} (hok : ∀ i, i < l.length → headOkB (l.getD i default) = true) (hl : l.length ≤ 20) (x m : Nat) (hx : x < m) (hm : m ≤ l.length) : ∃ (k a i : Nat), placeP (ofP l m) (x : Int) = some k ∧ k < (ofP l m).length ∧ cntTo (ofP l m) k = (a : Int) ∧ ((ofP l m).getD k default).count = ((2 ^ i : Nat) : Int) ∧ a ≤ x ∧ x < a + 2 ^ i ∧ a + 2 ^ i ≤ m ∧ notesN (leafF l) x m = treeS i (rowT (leafF l) a 0 (2 ^ i)) (x - a) := by
  obtain ⟨t, t1, t2, t3⟩ := stk_shp (leafF_cnt l) x m
  have hp := stk_peaks t1
  obtain ⟨k, a, i, k1, k2, k3, k4, k5, k6, k7, k8⟩ := shp_place (leafF_cnt l) x t m 0 t2 hx
  have hc := shp_cnt (leafF_cnt l) t m 0 t2
  have hmo := cnt_mono (peaksT_pos (leafF_cnt l) t) ((peaksT (leafF l) t).length - (k + 1)) (k + 1) (by omega)
  rw [show k + 1 + ((peaksT (leafF l) t).length - (k + 1)) = (peaksT (leafF l) t).length from by omega, hc, cntTo, k4, k5, treeT_cnt (leafF_cnt l)] at hmo
  rw [hp]
  refine ⟨k, a, i, place_at k1 k2 k3, k1, k4, by rw [k5, treeT_cnt (leafF_cnt l)], k6, k7, by omega, ?_⟩
  rw [t3, k8, treeS_sib _ _ _ _ (by omega)]
theorem ofP_in {l : List HeadV} (hok : ∀ i, i < l.length → headOkB (l.getD i default) = true) (hl : l.length ≤ 20) (m : Nat) (hm : m ≤ l.length) : ∀ k, k ≤ (ofP l m).length → 0 ≤ cntTo (ofP l m) k ∧ cntTo (ofP l m) k ≤ 20 := by
  obtain ⟨h1, h2, h3⟩ := ofP_ok hok hl m hm
  intro k hk
  have hpos : ∀ q ∈ ofP l m, 0 ≤ q.count := fun q hq => by have := peakOk_in (h1 q hq); omega
  have a1 := cnt_mono hpos k 0 (by omega)
  have a2 := cnt_mono hpos ((ofP l m).length - k) k (by omega)
  rw [show k + ((ofP l m).length - k) = (ofP l m).length from by omega, h2] at a2
  rw [Nat.zero_add] at a1
  have a3 : cntTo (ofP l m) 0 = 0 := rfl
  omega
theorem spec_fin {w wr : World} {g4 : Nat} {vp vs : Value} {ps ss : List PeakV} (h4 : CBk wr g4 28 #[.slice none 0 0, .slice none 0 0]) (hp : wr.ownsRow w.heap.size 71 3 vp ps.length (ps.flatMap pEnc)) (hs : wr.ownsRow w.heap.size 71 3 vs ss.length (ss.flatMap pEnc)) (hb : Below w.heap.size w wr) (hg : w.heap.size ≤ g4) :
    CBk ((wr.setCell ⟨g4, 0, none⟩ vp).setCell ⟨g4, 1, none⟩ vs) g4 28 #[vp, vs] ∧ ((wr.setCell ⟨g4, 0, none⟩ vp).setCell ⟨g4, 1, none⟩ vs).ownsRow w.heap.size 71 3 vp ps.length (ps.flatMap pEnc) ∧ ((wr.setCell ⟨g4, 0, none⟩ vp).setCell ⟨g4, 1, none⟩ vs).ownsRow w.heap.size 71 3 vs ss.length (ss.flatMap pEnc) ∧ Below w.heap.size w ((wr.setCell ⟨g4, 0, none⟩ vp).setCell ⟨g4, 1, none⟩ vs) := by
  have h6 := h4.set 0 vp
  exact ⟨h6.set 1 vs, own_set (own_set hp h4 ftne) h6 ftne, own_set (own_set hs h4 ftne) h6 ftne, (hb.setCell (p := ⟨g4, 0, none⟩) hg _).setCell (p := ⟨g4, 1, none⟩) hg _⟩
theorem prf_spec {l : List HeadV} {X : Nat} {w w' : World} {vp vs : Value} (hk : headsB l = true) (hx : X < l.length) (hp : w'.ownsRow w.heap.size 71 3 vp (ofP l l.length).length ((ofP l l.length).flatMap pEnc)) (hs : w'.ownsRow w.heap.size 71 3 vs (notesN (leafF l) X l.length).length ((notesN (leafF l) X l.length).flatMap pEnc)) (hb : Below w.heap.size w w') : PrfPost l (X : Int) w (.returned (.agg #[vp, vs])) w' := by
  have e : proofL l (X : Int) = (ofP l l.length, notesN (leafF l) X l.length) := by rw [proofL, if_pos ⟨hk, by omega, by omega⟩]; rfl
  exact ⟨_, _, rfl, by rw [e]; exact pks_own hp, by rw [e]; exact pks_own hs, hb⟩

set_option maxHeartbeats 8000000 in
set_option maxRecDepth 100000 in
theorem specL5Proof (g n cap : Nat) (l : List HeadV) (X : Nat) (w : World) (hA : AtHead w g l) (hn : n = l.length) (hk : headsB l = true) (hX : X < l.length) :
    Calls Tryz.prog 38 #[.slice (some ⟨g, 0, none⟩) n cap, .int .i64 (X : Int)] w fun e w' => PrfPost l (X : Int) w e w' := by
  have hl20 := heads_len hk
  have hok := heads_at hk
  have HA : Hid (AtHead w g l) := hA
  have HN : Hid (n = l.length) := hn
  have HL : Hid (l.length ≤ 20) := hl20
  have HOF : Hid (∀ w', Below w.heap.size w w' → Calls Tryz.prog 67 #[.slice (some ⟨g, 0, none⟩) n cap] w' fun e w'' => ∃ v, e = .returned v ∧ PRow w'.heap.size v (ofP l n) w'' ∧ Below w'.heap.size w' w'') := fun w' hb => specL5Of g n cap l w' (hA.below hb hA.1) hn (by omega) hok
  have HLF : Hid (∀ b, b < l.length → ∀ w', Calls Tryz.prog 69 #[headVal (l.getD b default)] w' fun e w'' => e = .returned (peakVal (leafP (l.getD b default))) ∧ Below w'.heap.size w' w'') := fun b hb w' => specL5Leaf _ w' (hok b hb)
  obtain ⟨k, a, i, p1, p2, p3, p4, p5, p6, p7, p8⟩ := proof_place hok hl20 X n (by omega) (by omega)
  obtain ⟨o1, o2, o3⟩ := ofP_ok hok hl20 n (by omega)
  have HPK : Hid (∀ (g' c' : Nat) (w' : World), AtP w' g' (ofP l n) → Calls Tryz.prog 68 #[.slice (some ⟨g', 0, none⟩) (ofP l n).length c', .int .i64 (X : Int)] w' fun e w'' => e = .returned (.tuple #[.int .i64 (k : Int), .int .i64 (a : Int)]) ∧ w' = w'') := fun g' c' w' h => by
    refine (specL5PeakN g' (ofP l n).length c' (ofP l n) (X : Int) w' h rfl (by omega) (by omega) (fun i hi => getD_all (C := fun q => peakOkB q = true) o1 i hi) (ofP_in hok hl20 n (by omega))).mono ?_
    rintro e w'' ⟨hp, hw⟩
    rcases hp with ⟨k', h1, h2⟩ | ⟨h1, _⟩
    · rw [p1] at h1
      cases h1
      rw [h2, p3]
      exact ⟨rfl, hw⟩
    · rw [p1] at h1
      cases h1
  have HTR : Hid (∀ (g' c' : Nat) (w' : World), AtP w' g' (rowT (leafF l) a 0 (2 ^ i)) → Calls Tryz.prog 70 #[.slice (some ⟨g', 0, none⟩) (2 ^ i) c', .int .i64 ((X - a : Nat) : Int)] w' fun e w'' => ∃ v, e = .returned v ∧ PRow w'.heap.size v (notesN (leafF l) X n) w'' ∧ Below w'.heap.size w' w'') := fun g' c' w' h => by
    rw [p8]
    exact specL5Tree g' (2 ^ i) c' (X - a) i a l w' h rfl (by omega) (by omega) hl20 hok
  have HQ : Hid (∀ (vp vs : Value) (w' : World), w'.ownsRow w.heap.size 71 3 vp (ofP l n).length ((ofP l n).flatMap pEnc) → w'.ownsRow w.heap.size 71 3 vs (notesN (leafF l) X n).length ((notesN (leafF l) X n).flatMap pEnc) → Below w.heap.size w w' → PrfPost l (X : Int) w (.returned (.agg #[vp, vs])) w') := fun vp vs w' h1 h2 h3 => prf_spec hk hX (by rw [← hn]; exact h1) (by rw [← hn]; exact h2) h3
  generalize PrfPost l (X : Int) w = Q at HQ ⊢
  have HP4 : Hid (((ofP l n).getD k default).count = ((2 ^ i : Nat) : Int)) := p4
  have HP2 : Hid (k < (ofP l n).length ∧ (ofP l n).length ≤ 20) := ⟨p2, by omega⟩
  generalize notesN (leafF l) X n = N at HTR HQ
  have HI : Hid (a + 2 ^ i ≤ n ∧ a ≤ X ∧ X < n ∧ n ≤ 20) := ⟨p7, p5, by omega, by omega⟩
  generalize 2 ^ i = P at HTR HP4 HI
  clear p1 p2 p3 p4 p5 p6 p7 p8 o1 o2 o3 hA hn hk hX hl20 hok
  generalize hps : ofP l n = ps at HOF HPK HQ HP4 HP2
  clear hps
  have L0 : Hid (Below w.heap.size w (w.alloc (.cells #[.slice none 0 0, .slice none 0 0] 28))) := (Below.refl _ w).alloc (Nat.le_refl _) _
  have T0 : Hid (CBk (w.alloc (.cells #[.slice none 0 0, .slice none 0 0] 28)) w.heap.size 28 #[.slice none 0 0, .slice none 0 0]) := CBk.new w _ _
  obtain ⟨g4, hg4⟩ : ∃ g4, g4 = w.heap.size := ⟨_, rfl⟩
  have HG4 : Hid (w.heap.size ≤ g4) := Nat.le_of_eq hg4.symm
  obtain ⟨i0, hi, hz0, hz1, hz2⟩ := info3 infoPeak
  go_enter Tryz.func38, Tryz.ntmps38
  go_wp2_with fail
  have hof := HOF.out _ L0.out
  rw [← hg4] at T0 ⊢
  clear hg4
  refine hof.mono ?_
  rintro e w1 ⟨v, rfl, r1, b1⟩
  have B1 : Hid (Below w.heap.size w w1) := L0.out.trans (b1.mono L0.out.size)
  have T1 : Hid (CBk w1 g4 28 #[.slice none 0 0, .slice none 0 0]) := T0.out.call b1
  have R1 : Hid (PRow w.heap.size v ps w1) := r1.mono L0.out.size
  clear hof HOF r1 b1 T0 L0
  obtain ⟨⟨gv, cv, rfl⟩, -⟩ := id R1.out
  have hpk := HPK.out gv cv w1 (FRow.at pEnc_len R1.out).1
  clear HPK
  go_wp2_with fail
  refine hpk.mono ?_
  rintro e w2 ⟨rfl, hw⟩
  subst hw
  clear hpk
  go_upto_region 5 with fail
  have R3 : Hid (PRow w1.heap.size (.slice (some ⟨w1.heap.size, 0, none⟩) 0 0) (rowT (leafF l) a 0 0) (w1.alloc (.cells #[] 71))) := frow_new pEnc 71 3 w1
  have B3 : Hid (Below w1.heap.size w1 (w1.alloc (.cells #[] 71))) := (Below.refl _ w1).alloc (Nat.le_refl _) _
  generalize w1.alloc (.cells #[] 71) = W3 at R3 B3 ⊢
  have lk : (k : Int) < (ps.length : Int) := by have := HP2.out.1; omega
  have lk0 : (0 : Int) ≤ (k : Int) := by omega
  have wk : IntKind.i64.wrap ((a : Int) + (P : Int)) = (a : Int) + (P : Int) := by have := HI.out; rw [IntKind.wrap_i64]; omega
  go_loopw [8, 9] (fun lv ii wr => ∃ (m b g8 c8 : Nat), ii = .int .i64 (b : Int) ∧ lv = .slice (some ⟨g8, 0, none⟩) m c8 ∧ Hid (b = a + m ∧ m ≤ P) ∧ Hid (PRow w1.heap.size (.slice (some ⟨g8, 0, none⟩) m c8) (rowT (leafF l) a 0 m) wr) ∧ Hid (Below w1.heap.size w1 wr)) (fun _ ii _ => n - (intOf ii).toNat)
  case atStart => exact ⟨0, a, _, _, rfl, rfl, ⟨rfl, Nat.zero_le _⟩, R3, B3⟩
  case round =>
    clear R3 B3
    obtain ⟨m, b, g8, c8, rfl, rfl, HM, RW, HB⟩ := hrel
    have q2 : wr.cell? ⟨gv, k * 3 + 2, none⟩ = some (.int .i64 (P : Int)) := by
      have h1 := AtP.c2 (FRow.at pEnc_len (FRow.below R1.out HB.out)).1 k HP2.out.1
      rw [HP4.out] at h1
      exact h1
    by_cases hlt : m < P
    · have hbl : b < l.length := by have h1 := HI.out; have h2 := HM.out; have h3 := HN.out; omega
      have HBW : Hid (Below w.heap.size w wr) := B1.out.trans (HB.out.mono B1.out.size)
      have HAr := HA.out.below HBW.out HA.out.1
      have c0 := AtHead.c0 HAr b hbl
      have c1 := AtHead.c1 HAr b hbl
      have c2 := AtHead.c2 HAr b hbl
      have c3 := AtHead.c3 HAr b hbl
      have c4 := AtHead.c4 HAr b hbl
      have lb : (b : Int) < (a : Int) + (P : Int) := by have h2 := HM.out; omega
      have lbn : (b : Int) < (n : Int) := by have h3 := HN.out; omega
      have lb0 : (0 : Int) ≤ (b : Int) := by omega
      have wb : IntKind.i64.wrap ((b : Int) + 1) = (b : Int) + 1 := by have h1 := HI.out; have h3 := HN.out; rw [IntKind.wrap_i64]; omega
      have HK1 : Hid (m + 1 ≤ P ∧ b + 1 = a + (m + 1) ∧ b < n) := ⟨hlt, by have h2 := HM.out; omega, by have h3 := HN.out; omega⟩
      have hlf := HLF.out b hbl
      have HS : Hid (rowT (leafF l) a 0 (m + 1) = rowT (leafF l) a 0 m ++ [leafP (l.getD b default)]) := by
        show _ = _
        have h2 : a + m * 2 ^ 0 = b := by have h2 := HM.out.1; rw [Nat.pow_zero, Nat.mul_one]; omega
        rw [rowT_snoc, h2]
        rfl
      have hx1 : m + 1 ≤ maxLen := by have h1 := HI.out; unfold maxLen; omega
      have hx2 : (m + 1) * 32 ≤ 140737488355328 := by have h1 := HI.out; omega
      generalize leafP (l.getD b default) = p at hlf HS
      generalize l.getD b default = h at c0 c1 c2 c3 c4 hlf
      unfold headVal peakVal at hlf
      have hu := pEnc_one p
      clear HAr hbl
      go_wp2_with fail
      refine (hlf _).mono ?_
      rintro e w3 ⟨rfl, b3⟩
      have HB3 : Hid (Below w1.heap.size w1 w3) := HB.out.trans (b3.mono HB.out.size)
      have R3 : Hid (PRow w1.heap.size (.slice (some ⟨g8, 0, none⟩) m c8) (rowT (leafF l) a 0 m) w3) := FRow.below RW.out b3
      have hsz := HB3.out.size
      have HRW : Hid (w3.ownsRow w1.heap.size 71 3 (.slice (some ⟨g8, 0, none⟩) m c8) m ((rowT (leafF l) a 0 m).flatMap pEnc)) := by
        have h1 := prow_own R3.out
        rwa [rowT_len] at h1
      clear hlf b3 RW HB HBW c0 c1 c2 c3 c4 q2 R3 HM
      go_wp2_with (at_builtin; refine wp_appN rfl _ _ 26 rfl w1.heap.size 71 i0 (.agg #[.string ⟨#[]⟩, .int .i64 0, .int .i64 0]) 3 32 1 Tryz.underlying26 hi hz0 hz1 hz2 rfl (by decide) (by decide) _ _ _ rfl HRW.out (pEnc p) (by first | rfl | simp [Act.eval]) rfl hu hx1 hx2 hsz ?_; intro g7 c7 w7 hown7 hb7 hkeep7)
      have R7 : Hid (PRow w1.heap.size (.slice (some ⟨g7, 0, none⟩) (m + 1) c7) (rowT (leafF l) a 0 (m + 1)) w7) := by
        have h1 : PRow w1.heap.size (.slice (some ⟨g7, 0, none⟩) (m + 1) c7) (rowT (leafF l) a 0 (m + 1)) w7 := by
          refine FRow.of ?_ (rowT_len _ _ _ _).symm
          rw [HS.out, List.flatMap_append]
          simpa using hown7
        exact h1
      have B7 : Hid (Below w1.heap.size w1 w7) := HB3.out.trans hb7
      clear hown7 hb7 hkeep7 HB3 HRW hsz hu hx1 hx2 HS
      go_wp2_with fail
      go_roundw
      case rel => exact ⟨m + 1, b + 1, g7, c7, by go_num, rfl, ⟨HK1.out.2.1, HK1.out.1⟩, R7, B7⟩
      case measure => have := HK1.out; simp [intOf]; omega
    · obtain rfl : m = P := by have := HM.out; omega
      have lb : ¬ (b : Int) < (a : Int) + (m : Int) := by have h2 := HM.out; omega
      have lbn : ¬ b < a + m := by have h2 := HM.out; omega
      have hws : IntKind.i64.wrap ((X : Int) - (a : Int)) = ((X - a : Nat) : Int) := by have h1 := HI.out; rw [IntKind.wrap_i64]; omega
      have htr := HTR.out g8 c8 wr (FRow.at pEnc_len RW.out).1
      have HBW : Hid (Below w.heap.size w wr) := B1.out.trans (HB.out.mono B1.out.size)
      have TR : Hid (CBk wr g4 28 #[.slice none 0 0, .slice none 0 0]) := T1.out.call HB.out
      have RR : Hid (PRow w.heap.size (.slice (some ⟨gv, 0, none⟩) ps.length cv) ps wr) := FRow.below R1.out HB.out
      clear HTR RW HB HA HLF R1 T1
      obtain ⟨y, hy⟩ : ∃ y, y = X - a := ⟨_, rfl⟩
      rw [← hy] at htr hws
      clear hy
      go_wp2_with fail
      refine htr.mono ?_
      rintro e w5 ⟨vs, rfl, r5, b5⟩
      have B5 : Hid (Below w.heap.size w w5) := HBW.out.trans (b5.mono HBW.out.size)
      have T5 : Hid (CBk w5 g4 28 #[.slice none 0 0, .slice none 0 0]) := TR.out.call b5
      have R5 : Hid (PRow w.heap.size (.slice (some ⟨gv, 0, none⟩) ps.length cv) ps w5) := FRow.below RR.out b5
      have S5 : Hid (PRow w.heap.size vs N w5) := r5.mono HBW.out.size
      obtain ⟨⟨gw, cw, rfl⟩, -⟩ := id S5.out
      obtain ⟨hf1, hf2, hf3, hf4⟩ := spec_fin T5.out (prow_own R5.out) (prow_own S5.out) B5.out HG4.out
      have HF1 : Hid (CBk ((w5.setCell ⟨g4, 0, none⟩ (.slice (some ⟨gv, 0, none⟩) ps.length cv)).setCell ⟨g4, 1, none⟩ (.slice (some ⟨gw, 0, none⟩) N.length cw)) g4 28 #[.slice (some ⟨gv, 0, none⟩) ps.length cv, .slice (some ⟨gw, 0, none⟩) N.length cw]) := hf1
      have HFQ : Hid (Q (.returned (.agg #[.slice (some ⟨gv, 0, none⟩) ps.length cv, .slice (some ⟨gw, 0, none⟩) N.length cw])) ((w5.setCell ⟨g4, 0, none⟩ (.slice (some ⟨gv, 0, none⟩) ps.length cv)).setCell ⟨g4, 1, none⟩ (.slice (some ⟨gw, 0, none⟩) N.length cw))) := HQ.out _ _ _ hf2 hf3 hf4
      obtain ⟨e0, e1, f0, f1⟩ := T5.out.pairF
      clear hf1 hf2 hf3 hf4 HQ r5 b5 R5 S5 TR RR htr
      go_wp2_with fail
      exact bodyPost_ret (results_cell_row (p := 4) rfl _ _ g4 28 #[.slice (some ⟨gv, 0, none⟩) ps.length cv, .slice (some ⟨gw, 0, none⟩) N.length cw] (0, 0) _ rfl HF1.out Tryz.underlying28 rfl (by kernel_rfl)) rfl HFQ.out
end Go.Proofs.YtoifgpmbeicmnaaGreatDoor

set_option linter.unusedVariables false
namespace Go.Proofs.YtoifgpmbeicmnaaGreatDoor
open Go.RowKit Go.Deep

theorem pks_slice {B : Nat} {v : Value} {l : List PeakV} {w : World} (h : Pks B v l w) : ∃ a n c, v = .slice a n c := by
  rcases h with ⟨rfl, _⟩ | ⟨g, cap, rfl, _⟩
  · exact ⟨_, _, _, rfl⟩
  · exact ⟨_, _, _, rfl⟩
/-- Behind the store of an answer into a block of before. -/
theorem pks_store {B g4 j : Nat} {v u : Value} {l : List PeakV} {w : World} (h : Pks B v l w) (hg : g4 < B) : Pks B v l (w.setCell ⟨g4, j, none⟩ u) :=
  h.keep (by simp) (fun g hv => by
    have h1 := (h.blk hv).2
    have hne : g4 ≠ g := by omega
    simp [World.setCell, Array.getElem?_modify, hne])
end Go.Proofs.YtoifgpmbeicmnaaGreatDoor

set_option linter.unusedVariables false
namespace Go.Proofs.YtoifgpmbeicmnaaGreatDoor
open Go.RowKit

def bsum (t : List UInt8) : ByteArray := ⟨(sumB t).toArray⟩
theorem bsum_size (t : List UInt8) : (bsum t).size = 16 := by simp [bsum, ByteArray.size, sumB, hexOf]
def rootItemB (s : ByteArray) : ByteArray := bsum ([105, 116, 101, 109, 32] ++ s.data.toList)
def bothB (a b : ByteArray) : ByteArray := bsum ([98, 111, 116, 104, 32] ++ a.data.toList ++ [32] ++ b.data.toList)
def upR : List ByteArray → List ByteArray
  | a :: b :: r => bothB a b :: upR r
  | l => l
theorem upR_append : ∀ (l m : List ByteArray), l.length % 2 = 0 → upR (l ++ m) = upR l ++ upR m
  | [], m, _ => by simp [upR]
  | [a], m, h => by simp at h
  | a :: b :: r, m, h => by
    have ih := upR_append r m (by simp at h; omega)
    simp [upR, ih]
theorem upR_short {l : List ByteArray} (h : l.length ≤ 1) : upR l = l := by
  match l, h with
  | [], _ => rfl
  | [a], _ => rfl
theorem upR_length : ∀ l : List ByteArray, (upR l).length = (l.length + 1) / 2
  | [] => by simp [upR]
  | [a] => by simp [upR]
  | a :: b :: r => by
    have := upR_length r
    simp [upR, this]
    omega
theorem upR_16 : ∀ l : List ByteArray, (∀ s ∈ l, s.size = 16) → ∀ s ∈ upR l, s.size = 16
  | [], _ => by simp [upR]
  | [a], h => by simpa [upR] using h
  | a :: b :: r, h => by
    intro s hs
    rcases List.mem_cons.1 hs with rfl | hs
    · exact bsum_size _
    · exact upR_16 r (fun x hx => h x (by simp [hx])) s hs
theorem take_two (l : List ByteArray) (k : Nat) (hk : k + 1 < l.length) (he : k % 2 = 0) : upR (l.take (k + 2)) = upR (l.take k) ++ [bothB (l.getD k ByteArray.empty) (l.getD (k + 1) ByteArray.empty)] := by
  have e : l.take (k + 2) = l.take k ++ [l.getD k ByteArray.empty, l.getD (k + 1) ByteArray.empty] := by
    rw [show k + 2 = (k + 1) + 1 from rfl, List.take_add_one, List.take_add_one, List.getElem?_eq_getElem (by omega), List.getElem?_eq_getElem hk, List.append_assoc]
    simp [List.getElem?_eq_getElem hk, List.getElem?_eq_getElem (show k < l.length by omega)]
  rw [e, upR_append _ _ (by simp; omega)]
  rfl
theorem take_last (l : List ByteArray) (k : Nat) (hk : k + 1 = l.length) (he : k % 2 = 0) : upR l = upR (l.take k) ++ [l.getD k ByteArray.empty] := by
  have e : l = l.take k ++ [l.getD k ByteArray.empty] := by
    conv => lhs; rw [← List.take_append_drop k l]
    congr 1
    rw [List.drop_eq_getElem_cons (by omega), List.drop_eq_nil_of_le (by omega)]
    simp [List.getElem?_eq_getElem (show k < l.length by omega)]
  conv => lhs; rw [e]
  rw [upR_append _ _ (by simp; omega)]
  rfl
theorem take_rest (l : List ByteArray) (k : Nat) (hk : l.length ≤ k + 1) (he : k % 2 = 0) (hkl : k ≤ l.length) : upR l = upR (l.take k) ++ l.drop k := by
  conv => lhs; rw [← List.take_append_drop k l]
  rw [upR_append _ _ (by simp; omega), upR_short (l := l.drop k) (by simp; omega)]
def topR : Nat → List ByteArray → List ByteArray
  | 0, r => r
  | f + 1, r => if r.length ≤ 1 then r else topR f (upR r)
theorem topR_done (f : Nat) {r : List ByteArray} (h : r.length ≤ 1) : topR f r = r := by
  cases f with
  | zero => rfl
  | succ f => simp [topR, h]
theorem topR_step (f : Nat) {r : List ByteArray} (h : ¬ r.length ≤ 1) (hf : r.length ≤ f) : topR f r = topR (f - 1) (upR r) := by
  cases f with
  | zero => omega
  | succ f => simp [topR, h]
theorem topR_more (f g : Nat) : ∀ (r : List ByteArray), r.length ≤ f → r.length ≤ g → topR f r = topR g r := by
  induction f generalizing g with
  | zero => intro r hf hg; rw [topR_done 0 (by omega), topR_done g (by omega)]
  | succ f ih =>
    intro r hf hg
    by_cases h : r.length ≤ 1
    · rw [topR_done _ h, topR_done _ h]
    · rw [topR_step _ h hf, topR_step _ h hg]
      have := upR_length r
      exact ih _ _ (by omega) (by omega)
theorem topR_up {r : List ByteArray} (h : ¬ r.length ≤ 1) : topR r.length r = topR (upR r).length (upR r) := by
  rw [topR_step _ h (Nat.le_refl _)]
  have := upR_length r
  exact topR_more _ _ _ (by omega) (Nat.le_refl _)
/-- What a row comes to. -/
def rootR (r : List ByteArray) : ByteArray := (topR r.length r).getD 0 ByteArray.empty
theorem rootR_up {r : List ByteArray} (h : ¬ r.length ≤ 1) : rootR r = rootR (upR r) := by rw [rootR, topR_up h]; rfl
theorem rootR_one {r : List ByteArray} (h : r.length ≤ 1) : rootR r = r.getD 0 ByteArray.empty := by rw [rootR, topR_done _ h]

end Go.Proofs.YtoifgpmbeicmnaaGreatDoor

set_option linter.unusedVariables false
namespace Go.Proofs.YtoifgpmbeicmnaaGreatDoor
open Go.ChangeShapes Go.WideShapes Go.ChangeAt Go.RowKit Go.Deep

structure SideV where
  sum : ByteArray
  left : Bool
instance : Inhabited SideV := ⟨⟨⟨#[]⟩, false⟩⟩
def enSide (p : SideV) : List Value := [.string p.sum, .bool p.left]
theorem enSide_len (p : SideV) : (enSide p).length = 2 := rfl
/-- Its texts can be held. -/
def wfSide (p : SideV) : Prop := p.sum.size ≤ maxLen
/-- Its texts are small. -/
def smallSide (p : SideV) : Prop := p.sum.size ≤ 1048576
abbrev IsSides (w : World) (a : Option Addr) (len cap : Nat) (l : List SideV) : Prop := IsFlat enSide wfSide 2 w a len cap l
abbrev RowSide (w : World) (g : Nat) (l : List SideV) : Prop := RowF enSide 89 w g l
abbrev AtSide (w : World) (g : Nat) (l : List SideV) : Prop := AtF enSide 2 w g l
theorem AtSide.c0 {w : World} {g : Nat} {l : List SideV} (h : AtSide w g l) (i : Nat) (hi : i < l.length) : w.cell? ⟨g, i * 2, none⟩ = some (.string (l.getD i default).sum) := h.2 i 0 hi (by decide)
theorem AtSide.c1 {w : World} {g : Nat} {l : List SideV} (h : AtSide w g l) (i : Nat) (hi : i < l.length) : w.cell? ⟨g, i * 2 + 1, none⟩ = some (.bool (l.getD i default).left) := h.2 i 1 hi (by decide)
theorem cellsSide {w : World} {x : Addr} {p : SideV} (h : ∀ j, j < 2 → w.cell? (x.add j) = (enSide p)[j]?) : w.cell? x = some (.string p.sum) ∧ w.cell? ⟨x.block, x.off + 1, none⟩ = some (.bool p.left) := by
  exact ⟨h 0 (by decide), h 1 (by decide)⟩
theorem partsSide {cs : List Value} {a0 a1 : Value} (hl : cs.length = 2) (h0 : (cs.drop 0).take 1 = [a0]) (h1 : (cs.drop 1).take 1 = [a1]) : cs = [a0, a1] := by
  match cs, hl with
  | [x0, x1], _ =>
    simp at h0 h1
    subst h0 h1
    rfl
theorem oneSide_b : Tryz.prog.cellsOf 4 = 1 := by kernel_rfl
theorem oneSide_s : Tryz.prog.cellsOf 9 = 1 := by kernel_rfl
theorem alloc3_midS (w : World) (o1 o2 o3 : Obj) : (((w.alloc o1).alloc o2).alloc o3).heap[w.heap.size + 1]? = some o2 := by
  have e : w.heap.size + 1 = (w.alloc o1).heap.size := by simp
  rw [e, Below.heap_alloc _ _ _ (by simp)]
  exact heap_alloc_new _ _
set_option maxHeartbeats 1000000 in
set_option maxRecDepth 100000 in
theorem eqSideA (p : SideV) (w : World) :
    Calls Tryz.prog 58 #[.agg #[.string p.sum, .bool p.left], .agg #[.string p.sum, .bool p.left]] w fun e w' => e = .returned (.bool true) ∧ Below w.heap.size w w' := by
  go_enter Tryz.func58, Tryz.ntmps58
  go_wp2
  go_ret
  exact ⟨rfl, ((Below.refl _ w).alloc (Nat.le_refl _) _).alloc (by simp) _⟩

theorem infoSide : (Tryz.prog.info? 89).map (fun i => (i.zero, i.size, i.bytes)) = some (some (.agg #[.string ⟨#[]⟩, .bool false]), 2, 24) := by kernel_rfl
def zeroSide : SideV := ⟨⟨#[]⟩, false⟩
theorem makeSide (n : Nat) (hn : n ≤ 1099511627776) (w : World) : (Instr.makeSlice 29 (.int .i64 (n : Int)) (.int .i64 (n : Int))).run Tryz.prog w = .ok (.slice (some ⟨w.heap.size, 0, none⟩) n n) (w.alloc (.cells ((List.replicate n zeroSide).flatMap enSide).toArray 89)) := by
  obtain ⟨i, hi, hz, hs, hb⟩ := info_parts infoSide
  have hb' : (i.bytes : Int) * (n : Int) ≤ 281474976710656 := by rw [hb]; omega
  have hr := run_make (P := Tryz.prog) w 29 89 i _ Tryz.underlying29 hi hz .i64 .i64 (n : Int) (n : Int) (by omega) (by omega) hb' (by omega)
  simp only [Int.toNat_natCast, hs, Value.cells] at hr
  rw [← made_flat 2 enSide enSide_len (by decide) zeroSide n]
  exact hr
theorem RowSide.put {w : World} {g : Nat} {l : List SideV} (h : RowSide w g l) (i : Nat) (hi : i < l.length) (p : SideV) :
    RowSide ((w.setCell ⟨g, i * 2, none⟩ (.string p.sum)).setCell ⟨g, i * 2 + 1, none⟩ (.bool p.left)) g (l.set i p) := by
  show _ = _
  rw [← flat_put 2 enSide enSide_len l i p hi]
  exact (rowSet (rowSet h _) _)

set_option maxHeartbeats 1000000 in
set_option maxRecDepth 100000 in
theorem eqSides (g1 g2 n c1 c2 : Nat) (ps : List SideV) (w : World) (h1 : AtSide w g1 ps) (h2 : AtSide w g2 ps) (hn : n = ps.length) (hm : n ≤ 1073741824) :
    Calls Tryz.prog 25 #[.slice (some ⟨g1, 0, none⟩) n c1, .slice (some ⟨g2, 0, none⟩) n c2] w fun e w' => e = .returned (.bool true) ∧ Below w.heap.size w w' := by
  have HA : Hid (AtSide w g1 ps ∧ AtSide w g2 ps ∧ Below w.heap.size w w) := ⟨h1, h2, Below.refl _ w⟩
  have HN : Hid (n = ps.length) := hn
  clear h1 h2 hn
  go_enter Tryz.func25, Tryz.ntmps25
  go_wp2_with fail
  go_loopw [5] (fun i wr => ∃ k : Nat, k ≤ n ∧ i = .int .i64 (k : Int) ∧ Hid (AtSide wr g1 ps ∧ AtSide wr g2 ps ∧ Below w.heap.size w wr)) (fun i _ => n - (intOf i).toNat)
  case atStart => exact ⟨0, by omega, rfl, HA⟩
  case round =>
    clear HA
    obtain ⟨k, hk, rfl, HA⟩ := hrel
    by_cases hlt : k < n
    · have hkz : k < ps.length := by rw [← HN.out]; exact hlt
      have d0 := AtSide.c0 HA.out.1 k hkz
      have e0 := AtSide.c0 HA.out.2.1 k hkz
      have d1 := AtSide.c1 HA.out.1 k hkz
      have e1 := AtSide.c1 HA.out.2.1 k hkz
      have HK : Hid (k + 1 ≤ n) := hlt
      generalize ps.getD k default = p at d0 e0 d1 e1
      have lk : (k : Int) < (n : Int) := by omega
      clear hkz
      go_wp2_with fail
      go_region_with (go_at_call 58; refine (eqSideA p _).mono ?_; rintro e w1 ⟨rfl, b1⟩)
      all_goals
        have HA1 : Hid (AtSide w1 g1 ps ∧ AtSide w1 g2 ps ∧ Below w.heap.size w w1) := ⟨HA.out.1.drew.below b1 HA.out.1.1, HA.out.2.1.drew.below b1 HA.out.2.1.1, HA.out.2.2.drew.trans (b1.mono HA.out.2.2.size)⟩
        clear b1
        go_wp2_with fail
        go_roundw
        case rel => exact ⟨k + 1, HK.out, by go_num, HA1⟩
        case measure => have := HK.out; simp [intOf]; omega
    · go_wp2_with fail
      go_ret
      exact ⟨rfl, HA.out.2.2⟩

end Go.Proofs.YtoifgpmbeicmnaaGreatDoor

set_option linter.unusedVariables false
namespace Go.Proofs.YtoifgpmbeicmnaaGreatDoor
open Go.RowKit

/-- A sum, and whether the item that is proved is below it. -/
abbrev NodeB := ByteArray × Bool
def bothNB (a b : NodeB) : NodeB := (bothB a.1 b.1, a.2 || b.2)
def noteNB (a b : NodeB) : List SideV := (if a.2 = true then [⟨b.1, false⟩] else []) ++ (if b.2 = true then [⟨a.1, true⟩] else [])
def upN : List NodeB → List NodeB
  | a :: b :: r => bothNB a b :: upN r
  | l => l
def noteU : List NodeB → List SideV
  | a :: b :: r => noteNB a b ++ noteU r
  | _ => []
def mkN : List ByteArray → Nat → Nat → List NodeB
  | [], _, _ => []
  | s :: r, o, x => (s, decide (o = x)) :: mkN r (o + 1) x
theorem mkN_len : ∀ (ss : List ByteArray) (o x : Nat), (mkN ss o x).length = ss.length
  | [], _, _ => rfl
  | s :: r, o, x => by rw [mkN, List.length_cons, mkN_len r, List.length_cons]
theorem mkN_snoc : ∀ (ss : List ByteArray) (s : ByteArray) (o x : Nat), mkN (ss ++ [s]) o x = mkN ss o x ++ [(s, decide (o + ss.length = x))]
  | [], s, o, x => by simp [mkN]
  | a :: r, s, o, x => by
    rw [List.cons_append, mkN, mkN_snoc r s (o + 1) x, mkN, List.cons_append, List.length_cons]
    congr 4
    rw [show o + 1 + r.length = o + (r.length + 1) from by omega]
theorem mkN_fst : ∀ (ss : List ByteArray) (o x : Nat), (mkN ss o x).map Prod.fst = ss
  | [], _, _ => rfl
  | s :: r, o, x => by rw [mkN, List.map_cons, mkN_fst r]
theorem upN_fst : ∀ l : List NodeB, (upN l).map Prod.fst = upR (l.map Prod.fst)
  | [] => rfl
  | [a] => rfl
  | a :: b :: r => by
    rw [upN, List.map_cons, upN_fst r]
    rfl
theorem upN_len (l : List NodeB) : (upN l).length = (l.length + 1) / 2 := by
  have h := upR_length (l.map Prod.fst)
  rw [← upN_fst, List.length_map, List.length_map] at h
  exact h
theorem upN_mk : ∀ (ss : List ByteArray) (o x : Nat), x < 2 * o + ss.length → upN (mkN ss (2 * o) x) = mkN (upR ss) o (x / 2)
  | [], _, _, _ => rfl
  | [a], o, x, h => by
    have e : decide (2 * o = x) = decide (o = x / 2) := by
      simp only [List.length_singleton] at h
      rw [decide_eq_decide]
      omega
    show [(a, decide (2 * o = x))] = [(a, decide (o = x / 2))]
    rw [e]
  | a :: b :: r, o, x, h => by
    have ih := upN_mk r (o + 1) x (by simp only [List.length_cons] at h; omega)
    have e : (decide (2 * o = x) || decide (2 * o + 1 = x)) = decide (o = x / 2) := by
      rw [← Bool.decide_or, decide_eq_decide]
      omega
    show bothNB (a, decide (2 * o = x)) (b, decide (2 * o + 1 = x)) :: upN (mkN r (2 * (o + 1)) x) = (bothB a b, decide (o = x / 2)) :: mkN (upR r) (o + 1) (x / 2)
    rw [ih, bothNB, e]
/-- The side beside the marked one of a row that begins at place 2 * o. -/
def sideV (ss : List ByteArray) (o x : Nat) : List SideV := if 2 * o ≤ x then (if x + 1 - x % 2 * 2 < 2 * o + ss.length then [⟨ss.getD (x + 1 - x % 2 * 2 - 2 * o) ByteArray.empty, decide (x + 1 - x % 2 * 2 < x)⟩] else []) else []
theorem sideV_low {ss : List ByteArray} {o x : Nat} (h : ¬ 2 * o ≤ x) : sideV ss o x = [] := by rw [sideV, if_neg h]
theorem noteU_mk : ∀ (ss : List ByteArray) (o x : Nat), x < 2 * o + ss.length → noteU (mkN ss (2 * o) x) = sideV ss o x
  | [], o, x, h => by
    rw [sideV_low (by simp only [List.length_nil] at h; omega)]
    rfl
  | [a], o, x, h => by
    simp only [List.length_singleton] at h
    by_cases hx : 2 * o ≤ x
    · obtain rfl : x = 2 * o := by omega
      rw [sideV, if_pos (Nat.le_refl _), if_neg (by simp only [List.length_singleton]; omega)]
      rfl
    · rw [sideV_low hx]
      rfl
  | a :: b :: r, o, x, h => by
    have ih := noteU_mk r (o + 1) x (by simp only [List.length_cons] at h; omega)
    show noteNB (a, decide (2 * o = x)) (b, decide (2 * o + 1 = x)) ++ noteU (mkN r (2 * (o + 1)) x) = sideV (a :: b :: r) o x
    rw [ih]
    simp only [List.length_cons] at h
    by_cases h0 : x = 2 * o
    · subst h0
      have e1 : 2 * o + 1 - 2 * o % 2 * 2 = 2 * o + 1 := by omega
      rw [sideV_low (by omega), sideV, if_pos (Nat.le_refl _), e1, if_pos (by simp only [List.length_cons]; omega), show 2 * o + 1 - 2 * o = 1 from by omega, decide_eq_false (show ¬ 2 * o + 1 < 2 * o by omega), noteNB, decide_eq_true rfl, decide_eq_false (show ¬ 2 * o + 1 = 2 * o by omega)]
      rfl
    · by_cases h1 : x = 2 * o + 1
      · subst h1
        have e1 : 2 * o + 1 + 1 - (2 * o + 1) % 2 * 2 = 2 * o := by omega
        rw [sideV_low (by omega), sideV, if_pos (show 2 * o ≤ 2 * o + 1 by omega), e1, if_pos (by simp only [List.length_cons]; omega), Nat.sub_self, decide_eq_true (show 2 * o < 2 * o + 1 by omega), noteNB, decide_eq_true rfl, decide_eq_false (show ¬ 2 * o = 2 * o + 1 by omega)]
        rfl
      · rw [noteNB, decide_eq_false (show ¬ 2 * o = x by omega), decide_eq_false (show ¬ 2 * o + 1 = x by omega)]
        show sideV r (o + 1) x = sideV (a :: b :: r) o x
        by_cases h2 : 2 * (o + 1) ≤ x
        · rw [sideV, sideV, if_pos h2, if_pos (show 2 * o ≤ x by omega)]
          simp only [List.length_cons]
          by_cases h3 : x + 1 - x % 2 * 2 < 2 * o + (r.length + 1 + 1)
          · rw [if_pos h3, if_pos (by omega)]
            have e2 : x + 1 - x % 2 * 2 - 2 * o = (x + 1 - x % 2 * 2 - 2 * (o + 1)) + 1 + 1 := by omega
            rw [e2, List.getD_cons_succ, List.getD_cons_succ]
          · rw [if_neg h3, if_neg (by omega)]
        · rw [sideV_low h2, sideV_low (by omega)]
/-- All sides of the marked one, row by row. -/
def sidesR : Nat → List ByteArray → Nat → List SideV
  | 0, _, _ => []
  | f + 1, ss, x => if ss.length ≤ 1 then [] else sideV ss 0 x ++ sidesR f (upR ss) (x / 2)
def noteT : Nat → List NodeB → List SideV
  | 0, _ => []
  | f + 1, r => if r.length ≤ 1 then [] else noteU r ++ noteT f (upN r)
theorem noteT_mk : ∀ (f : Nat) (ss : List ByteArray) (x : Nat), x < ss.length → noteT f (mkN ss 0 x) = sidesR f ss x
  | 0, _, _, _ => rfl
  | f + 1, ss, x, h => by
    have h1 := upN_mk ss 0 x (by omega)
    have h2 := noteU_mk ss 0 x (by omega)
    have h3 := upR_length ss
    rw [noteT, sidesR, mkN_len]
    split
    · rfl
    · rw [show (0 : Nat) = 2 * 0 from rfl, h2, h1, noteT_mk f (upR ss) (x / 2) (by omega)]
theorem noteT_done {f : Nat} {r : List NodeB} (h : r.length ≤ 1) : noteT f r = [] := by
  cases f with
  | zero => rfl
  | succ f => rw [noteT, if_pos h]
theorem noteT_step {f : Nat} {r : List NodeB} (h : ¬ r.length ≤ 1) : noteT (f + 1) r = noteU r ++ noteT f (upN r) := by rw [noteT, if_neg h]
theorem sidesR_done {f : Nat} {r : List ByteArray} {x : Nat} (h : r.length ≤ 1) : sidesR f r x = [] := by
  cases f with
  | zero => rfl
  | succ f => rw [sidesR, if_pos h]
theorem sidesR_step {f : Nat} {r : List ByteArray} {x : Nat} (h : ¬ r.length ≤ 1) : sidesR (f + 1) r x = sideV r 0 x ++ sidesR f (upR r) (x / 2) := by rw [sidesR, if_neg h]
theorem upN_append : ∀ (l m : List NodeB), l.length % 2 = 0 → upN (l ++ m) = upN l ++ upN m
  | [], m, _ => by simp [upN]
  | [a], m, h => by simp at h
  | a :: b :: r, m, h => by
    have ih := upN_append r m (by simp at h; omega)
    simp [upN, ih]
theorem noteU_append : ∀ (l m : List NodeB), l.length % 2 = 0 → noteU (l ++ m) = noteU l ++ noteU m
  | [], m, _ => by simp [noteU]
  | [a], m, h => by simp at h
  | a :: b :: r, m, h => by
    have ih := noteU_append r m (by simp at h; omega)
    simp [noteU, ih]
theorem takeB_two (l : List NodeB) (k : Nat) (hk : k + 1 < l.length) (he : k % 2 = 0) : upN (l.take (k + 2)) = upN (l.take k) ++ [bothNB (l.getD k default) (l.getD (k + 1) default)] ∧ noteU (l.take (k + 2)) = noteU (l.take k) ++ noteNB (l.getD k default) (l.getD (k + 1) default) := by
  have e : l.take (k + 2) = l.take k ++ [l.getD k default, l.getD (k + 1) default] := by
    rw [show k + 2 = (k + 1) + 1 from rfl, List.take_add_one, List.take_add_one, List.getElem?_eq_getElem (by omega), List.getElem?_eq_getElem hk, List.append_assoc]
    simp [List.getElem?_eq_getElem hk, List.getElem?_eq_getElem (show k < l.length by omega)]
  rw [e, upN_append _ _ (by simp; omega), noteU_append _ _ (by simp; omega)]
  exact ⟨rfl, by simp [noteU]⟩
theorem takeB_rest (l : List NodeB) (k : Nat) (hk : l.length ≤ k + 1) (he : k % 2 = 0) (hkl : k ≤ l.length) : upN l = upN (l.take k) ++ l.drop k ∧ noteU l = noteU (l.take k) := by
  have hd : (l.drop k).length ≤ 1 := by simp; omega
  have e1 : upN (l.drop k) = l.drop k := by
    match l.drop k, hd with
    | [], _ => rfl
    | [a], _ => rfl
  have e2 : noteU (l.drop k) = [] := by
    match l.drop k, hd with
    | [], _ => rfl
    | [a], _ => rfl
  constructor
  · conv => lhs; rw [← List.take_append_drop k l]
    rw [upN_append _ _ (by simp; omega), e1]
  · conv => lhs; rw [← List.take_append_drop k l]
    rw [noteU_append _ _ (by simp; omega), e2, List.append_nil]
theorem noteNB_len (a b : NodeB) : (noteNB a b).length ≤ 2 := by
  unfold noteNB
  rw [List.length_append]
  split <;> split <;> simp
theorem noteU_len : ∀ l : List NodeB, (noteU l).length ≤ 2 * (l.length / 2)
  | [] => Nat.le_refl _
  | [a] => Nat.zero_le _
  | a :: b :: r => by
    have h1 := noteNB_len a b
    have h2 := noteU_len r
    rw [noteU, List.length_append, List.length_cons, List.length_cons]
    omega
theorem noteT_len : ∀ (f : Nat) (r : List NodeB), (noteT f r).length ≤ 2 * r.length
  | 0, _ => Nat.zero_le _
  | f + 1, r => by
    rw [noteT]
    split
    · exact Nat.zero_le _
    · have h1 := noteU_len r
      have h2 := noteT_len f (upN r)
      have h3 := upN_len r
      rw [List.length_append]
      omega
end Go.Proofs.YtoifgpmbeicmnaaGreatDoor

set_option linter.unusedVariables false
namespace Go.Proofs.YtoifgpmbeicmnaaGreatDoor
open Go.RowKit

set_option maxHeartbeats 1000000 in
set_option maxRecDepth 100000 in
theorem specRow (g n cap : Nat) (ss : List ByteArray) (w : World) (h : AtS w g ss) (hn : n = ss.length) (hm : n ≤ 1000000) (hs : ∀ i, i < ss.length → (ss.getD i ByteArray.empty).size ≤ 1048576) :
    Calls Tryz.prog 71 #[.slice (some ⟨g, 0, none⟩) n cap] w fun e w' => ∃ v, e = .returned v ∧ SRow w.heap.size v (ss.map rootItemB) w' ∧ Below w.heap.size w w' := by
  obtain ⟨i0, hi, hz0, hz1, hz2⟩ := info_parts infoStr
  have HA : Hid (AtS w g ss) := h
  have HN : Hid (n = ss.length) := hn
  have HS : Hid (∀ i, i < ss.length → (ss.getD i ByteArray.empty).size ≤ 1048576) := hs
  clear h hn hs
  go_enter Tryz.func71, Tryz.ntmps71
  go_wp2_with fail
  have HW0 : Hid (SRow w.heap.size (.slice (some ⟨w.heap.size, 0, none⟩) 0 0) ((ss.take 0).map rootItemB) (w.alloc (.cells #[] 9))) := srow_new w
  have HB0 : Hid (Below w.heap.size w (w.alloc (.cells #[] 9))) := (Below.refl _ w).alloc (Nat.le_refl _) _
  go_loopw [3, 4] (fun v i wr => ∃ k : Nat, k ≤ n ∧ i = .int .i64 (k : Int) ∧ Hid (SRow w.heap.size v ((ss.take k).map rootItemB) wr) ∧ Hid (Below w.heap.size w wr)) (fun _ i _ => n - (intOf i).toNat)
  case atStart => exact ⟨0, by omega, rfl, HW0, HB0⟩
  case round =>
    clear HW0 HB0
    obtain ⟨k, hk, rfl, HR, HB⟩ := hrel
    obtain ⟨⟨g3, c3, rfl⟩, hrow⟩ := HR.out
    by_cases hlt : k < n
    · have hkl : k < ss.length := by rw [← HN.out]; exact hlt
      have hc : wr.cell? ⟨g, k, none⟩ = some (.string (ss.getD k ByteArray.empty)) := by
        rw [HB.out.cell (p := ⟨g, k, none⟩) HA.out.1]
        exact HA.out.2 k hkl
      have hsz := HS.out k hkl
      obtain ⟨z, hz⟩ : ∃ z, z = ss.getD k ByteArray.empty := ⟨_, rfl⟩
      rw [← hz] at hc hsz
      have HE : Hid ((ss.take (k + 1)).map rootItemB = (ss.take k).map rootItemB ++ [rootItemB z]) := by
        show _ = _
        rw [List.take_add_one, List.getElem?_eq_getElem hkl, List.map_append, hz, List.getD_eq_getElem?_getD, List.getElem?_eq_getElem hkl]
        rfl
      have hlen : ((ss.take k).map rootItemB).length = k := by simp; omega
      rw [hlen] at hrow ⊢
      have HRW : Hid (wr.ownsRow w.heap.size 9 1 (.slice (some ⟨g3, 0, none⟩) k c3) k (((ss.take k).map rootItemB).map Value.string)) := hrow
      have HLN : Hid (((ss.take k).map rootItemB).length = k) := hlen
      have HK : Hid (k + 1 ≤ n) := hlt
      have lk : (k : Int) < (n : Int) := by omega
      have hsum := specSum ((⟨#[105, 116, 101, 109, 32]⟩ : ByteArray) ++ z) wr (by
        simp only [ByteArray.size_append]
        have e1 : (⟨#[105, 116, 101, 109, 32]⟩ : ByteArray).size = 5 := rfl
        omega)
      have et : ((⟨#[105, 116, 101, 109, 32]⟩ : ByteArray) ++ z).data.toList = [105, 116, 101, 109, 32] ++ z.data.toList := by simp
      rw [et] at hsum
      have er : (⟨(sumB ([105, 116, 101, 109, 32] ++ z.data.toList)).toArray⟩ : ByteArray) = rootItemB z := rfl
      rw [er] at hsum
      generalize rootItemB z = rz at hsum HE
      clear hz hrow hlen hkl et er
      have hx1 : k + 1 ≤ maxLen := by unfold maxLen; omega
      have hx2 : (k + 1) * 16 ≤ 140737488355328 := by omega
      go_wp2_with fail
      refine hsum.mono ?_
      rintro e w1 ⟨rfl, b1⟩
      have HRW1 : Hid (w1.ownsRow w.heap.size 9 1 (.slice (some ⟨g3, 0, none⟩) k c3) k (((ss.take k).map rootItemB).map Value.string)) := by
        refine World.ownsRow.kept HRW.out ⟨b1.os, b1.tape, b1.output, b1.size, fun j hj _ => b1.block j hj⟩ (.inr (fun e => by cases e)) (row := none)
      have HB1 : Hid (Below w.heap.size w w1) := HB.out.trans (b1.mono HB.out.size)
      have hsz1 := HB1.out.size
      clear b1 hsum
      go_wp2_with (at_builtin; refine wp_app1 rfl _ _ 42 rfl w.heap.size 9 i0 (.string ⟨#[]⟩) 16 Tryz.underlying42 hi hz0 hz1 hz2 rfl _ _ _ rfl HRW1.out (.string rz) rfl rfl hx1 hx2 hsz1 ?_; intro g4 c4 w4 hown4 hb4 _)
      go_roundw
      case rel =>
        refine ⟨k + 1, HK.out, by go_num, ⟨⟨g4, c4, ?_⟩, ?_⟩, HB1.out.trans hb4⟩
        · rw [HE.out, List.length_append, HLN.out]; rfl
        · rw [HE.out, List.length_append, HLN.out, List.map_append]; exact hown4
      case measure => have := HK.out; simp [intOf]; omega
    · have HE : Hid ((ss.take k).map rootItemB = ss.map rootItemB) := by
        show _ = _
        rw [List.take_of_length_le (by rw [← HN.out]; omega)]
      clear hrow
      go_wp2_with fail
      go_ret
      refine ⟨_, rfl, ?_, HB.out⟩
      have := HR.out
      rw [HE.out] at this ⊢
      exact this

end Go.Proofs.YtoifgpmbeicmnaaGreatDoor

set_option linter.unusedVariables false
namespace Go.Proofs.YtoifgpmbeicmnaaGreatDoor
open Go.RowKit

def sliceLen2 : Value → Nat
  | .slice _ n _ => n
  | _ => 0
theorem row_below {B n : Nat} {e : TypeId} {v : Value} {xs : List Value} {w w1 : World} (h : w.ownsRow B e 1 v n xs) (b1 : Below w.heap.size w w1) : w1.ownsRow B e 1 v n xs := by
  refine ⟨h.1, ?_⟩
  rcases h.2 with h2 | ⟨g, cap, cur, hv, h2, h3, h4⟩
  · exact .inl h2
  · exact .inr ⟨g, cap, cur, hv, h2, by rw [b1.block g (Array.getElem?_eq_some_iff.1 h3).1]; exact h3, h4⟩
theorem bothSum (a b : ByteArray) (w : World) (ha : a.size = 16) (hb : b.size = 16) :
    Calls Tryz.prog 90 #[.string ((⟨#[98, 111, 116, 104, 32]⟩ : ByteArray) ++ a ++ (⟨#[32]⟩ : ByteArray) ++ b)] w fun e w' => e = .returned (.string (bothB a b)) ∧ Below w.heap.size w w' := by
  have hsum := specSum ((⟨#[98, 111, 116, 104, 32]⟩ : ByteArray) ++ a ++ (⟨#[32]⟩ : ByteArray) ++ b) w (by
    simp only [ByteArray.size_append]
    have e1 : (⟨#[98, 111, 116, 104, 32]⟩ : ByteArray).size = 5 := rfl
    have e2 : (⟨#[32]⟩ : ByteArray).size = 1 := rfl
    omega)
  have et : ((⟨#[98, 111, 116, 104, 32]⟩ : ByteArray) ++ a ++ (⟨#[32]⟩ : ByteArray) ++ b).data.toList = [98, 111, 116, 104, 32] ++ a.data.toList ++ [32] ++ b.data.toList := by simp
  rw [et] at hsum
  exact hsum

set_option maxHeartbeats 4000000 in
set_option maxRecDepth 100000 in
theorem specUp (g n cap : Nat) (ss : List ByteArray) (w : World) (h : AtS w g ss) (hn : n = ss.length) (hm : n ≤ 1000000) (hs : ∀ s ∈ ss, s.size = 16) :
    Calls Tryz.prog 72 #[.slice (some ⟨g, 0, none⟩) n cap] w fun e w' => ∃ v, e = .returned v ∧ SRow w.heap.size v (upR ss) w' ∧ Below w.heap.size w w' := by
  obtain ⟨i0, hi, hz0, hz1, hz2⟩ := info_parts infoStr
  have HA : Hid (AtS w g ss) := h
  have HN : Hid (n = ss.length) := hn
  have HS : Hid (∀ i, i < ss.length → (ss.getD i ByteArray.empty).size = 16) := by
    intro i hi
    refine hs _ ?_
    simp [List.getElem?_eq_getElem hi]
  clear h hn hs
  go_enter Tryz.func72, Tryz.ntmps72
  go_wp2_with fail
  have HW0 : Hid (SRow w.heap.size (.slice (some ⟨w.heap.size, 0, none⟩) 0 0) (upR (ss.take 0)) (w.alloc (.cells #[] 9))) := srow_new w
  have HB0 : Hid (Below w.heap.size w (w.alloc (.cells #[] 9))) := (Below.refl _ w).alloc (Nat.le_refl _) _
  go_loopw [3, 4] (fun v i wr => ∃ k : Nat, k ≤ n + 1 ∧ i = .int .i64 (k : Int) ∧ Hid (k % 2 = 0) ∧ Hid (SRow w.heap.size v (upR (ss.take k)) wr) ∧ Hid (Below w.heap.size w wr)) (fun _ i _ => n + 2 - (intOf i).toNat)
  case atStart => exact ⟨0, by omega, rfl, rfl, HW0, HB0⟩
  case round =>
    clear HW0 HB0
    obtain ⟨k, hk, rfl, HE2, HR, HB⟩ := hrel
    obtain ⟨⟨g3, c3, rfl⟩, hrow⟩ := HR.out
    obtain ⟨ml, hml⟩ : ∃ ml, ml = (upR (ss.take k)).length := ⟨_, rfl⟩
    have hmk : ml ≤ k := by
      rw [hml, upR_length]
      simp
      omega
    rw [← hml] at hrow ⊢
    have HML : Hid (ml = (upR (ss.take k)).length) := hml
    have HRW : Hid (wr.ownsRow w.heap.size 9 1 (.slice (some ⟨g3, 0, none⟩) ml c3) ml ((upR (ss.take k)).map Value.string)) := hrow
    clear hml hrow
    have hx1 : ml + 1 ≤ maxLen := by unfold maxLen; omega
    have hx2 : (ml + 1) * 16 ≤ 140737488355328 := by omega
    have hszr := HB.out.size
    by_cases hlt : k < n
    · have hkl : k < ss.length := by rw [← HN.out]; exact hlt
      have hc : wr.cell? ⟨g, k, none⟩ = some (.string (ss.getD k ByteArray.empty)) := by
        rw [HB.out.cell (p := ⟨g, k, none⟩) HA.out.1]
        exact HA.out.2 k hkl
      have lk : (k : Int) < (n : Int) := by omega
      by_cases hlt2 : k + 1 < n
      · have hkl2 : k + 1 < ss.length := by rw [← HN.out]; exact hlt2
        have hc2 : wr.cell? ⟨g, k + 1, none⟩ = some (.string (ss.getD (k + 1) ByteArray.empty)) := by
          rw [HB.out.cell (p := ⟨g, k + 1, none⟩) HA.out.1]
          exact HA.out.2 (k + 1) hkl2
        have hs1 := HS.out k hkl
        have hs2 := HS.out (k + 1) hkl2
        have HE : Hid (upR (ss.take (k + 2)) = upR (ss.take k) ++ [bothB (ss.getD k ByteArray.empty) (ss.getD (k + 1) ByteArray.empty)]) := take_two ss k hkl2 HE2.out
        generalize ss.getD k ByteArray.empty = a at hc hs1 HE
        generalize ss.getD (k + 1) ByteArray.empty = b at hc2 hs2 HE
        have lk2 : (k : Int) + 1 < (n : Int) := by omega
        have HK : Hid (k + 2 ≤ n + 1) := by show _ ≤ _; omega
        have hw1 : IntKind.i64.wrap ((k : Int) + 1) = (k : Int) + 1 := by rw [IntKind.wrap_i64]; omega
        have l0 : (0 : Int) ≤ (k : Int) + 1 := by omega
        have l1 : (0 : Int) ≤ (k : Int) := by omega
        have hgw : g < wr.heap.size := Nat.lt_of_lt_of_le HA.out.1 hszr
        have hne : g ≠ g3 := by
          rcases HRW.out.2 with ⟨h2, _⟩ | ⟨g', cap', cur, hv, h2, _⟩
          · cases h2
          · simp only [Value.slice.injEq, Option.some.injEq, Addr.mk.injEq, and_true] at hv
            have := HA.out.1
            omega
        clear hkl hkl2
        go_wp2_with fail
        go_region_held3 (fun w' => w'.cell? ⟨g, k, none⟩ = some (.string a) ∧ w'.cell? ⟨g, k + 1, none⟩ = some (.string b)) (first | go_keep | (exact ⟨(b1.cell (p := ⟨g, k, none⟩) hgw).trans hc, (b1.cell (p := ⟨g, k + 1, none⟩) hgw).trans hc2⟩) | (have hfar : w4.heap[g]? = w1.heap[g]? := (hgrow4.block g (by simp; omega) (by simpa [Value.ownBlock] using hne)).trans (Below.heap_alloc _ _ _ (by omega)); exact ⟨(World.cell?_of_block (a := ⟨g, k, none⟩) hfar).trans ((b1.cell (p := ⟨g, k, none⟩) hgw).trans hc), (World.cell?_of_block (a := ⟨g, k + 1, none⟩) hfar).trans ((b1.cell (p := ⟨g, k + 1, none⟩) hgw).trans hc2)⟩))
          (first
            | (go_at_call 90; refine (bothSum a b _ hs1 hs2).mono ?_; rintro e w1 ⟨rfl, b0⟩; have b1 : Below wr.heap.size wr w1 := ((Below.refl wr.heap.size wr).drew).trans b0; have hb1s : wr.heap.size ≤ w1.heap.size := b1.size; clear b0)
            | ((refine step_append_lies _ (by rfl) _ _ 42 (by rfl) w.heap.size 9 i0 (.string ⟨#[]⟩) 1 16 Tryz.underlying42 hi hz0 hz1 hz2 rfl (by decide) _ ml _ (by rfl) (World.ownsRow.alloc (row_below HRW.out b1) _) ⟨w1.heap.size, 0, none⟩ 1 1 [.string (bothB a b)] (by rfl) rfl (cell_one_new _ _ _) (by simp [Value.oneCell']) (by decide) hx1 hx2 (by simp; omega) _ rfl ?_; intro g4 c4 w4 hown4 hgrow4 hat4 hlt4)))
        have hb4 : Below w.heap.size w w4 := ((HB.out.trans (b1.mono hszr)).alloc (by omega) _).grown hgrow4 (by simp; omega) (fun j hj => by
          rcases HRW.out.2 with ⟨h2, _⟩ | ⟨g', cap', cur, hv, h2, _⟩
          · cases h2
          · simp only [Value.slice.injEq, Option.some.injEq, Addr.mk.injEq, and_true] at hv
            have : g3 = j := by simpa [Value.ownBlock] using hj
            omega)
        have HR4 : Hid (SRow w.heap.size (.slice (some ⟨g4, 0, none⟩) (ml + 1) c4) (upR (ss.take (k + 2))) w4) := by
          refine ⟨⟨g4, c4, ?_⟩, ?_⟩
          · rw [HE.out, List.length_append, ← HML.out]; rfl
          · rw [HE.out, List.length_append, ← HML.out, List.map_append]; exact hown4
        clear hown4 hgrow4 hat4 hlt4 b1
        go_wp2_with fail
        go_roundw
        case rel => exact ⟨k + 2, HK.out, by go_num, by have := HE2.out; show _ = _; omega, HR4, hb4⟩
        case measure => have := HK.out; simp [intOf]; omega
      · have hkn : k + 1 = ss.length := by have := HN.out; omega
        have hs1 := HS.out k hkl
        have HE : Hid (upR ss = upR (ss.take k) ++ [ss.getD k ByteArray.empty]) := take_last ss k hkn HE2.out
        have HEE : Hid (ss.take (k + 2) = ss) := List.take_of_length_le (by omega)
        generalize ss.getD k ByteArray.empty = a at hc hs1 HE
        have lk2 : ¬ (k : Int) + 1 < (n : Int) := by omega
        have HK : Hid (k + 2 ≤ n + 1) := by show _ ≤ _; omega
        have l1 : (0 : Int) ≤ (k : Int) := by omega
        clear hkl hkn
        go_wp2_with (at_builtin; refine wp_app1 rfl _ _ 42 rfl w.heap.size 9 i0 (.string ⟨#[]⟩) 16 Tryz.underlying42 hi hz0 hz1 hz2 rfl _ _ _ rfl HRW.out (.string a) rfl rfl hx1 hx2 hszr ?_; intro g4 c4 w4 hown4 hb4 _)
        have HR4 : Hid (SRow w.heap.size (.slice (some ⟨g4, 0, none⟩) (ml + 1) c4) (upR (ss.take (k + 2))) w4) := by
          rw [HEE.out]
          refine ⟨⟨g4, c4, ?_⟩, ?_⟩
          · rw [HE.out, List.length_append, ← HML.out]; rfl
          · rw [HE.out, List.length_append, ← HML.out, List.map_append]; exact hown4
        clear hown4
        go_roundw
        case rel => exact ⟨k + 2, HK.out, by go_num, by have := HE2.out; show _ = _; omega, HR4, HB.out.trans hb4⟩
        case measure => have := HK.out; simp [intOf]; omega
    · have HE : Hid (upR (ss.take k) = upR ss) := by
        show _ = _
        rw [List.take_of_length_le (by rw [← HN.out]; omega)]
      go_wp2_with fail
      go_ret
      refine ⟨_, rfl, ?_, HB.out⟩
      have := HR.out
      rw [HML.out, HE.out]
      rw [HE.out] at this
      exact this


end Go.Proofs.YtoifgpmbeicmnaaGreatDoor

set_option linter.unusedVariables false
namespace Go.Proofs.YtoifgpmbeicmnaaGreatDoor
open Go.RowKit

set_option maxHeartbeats 1000000 in
set_option maxRecDepth 100000 in
theorem implRootItem (z : ByteArray) (w : World) (hz : z.size ≤ 1048576) (hK : RowG w shaK) :
    Calls Tryz.prog 53 #[.string z] w fun e w' => e = .returned (.string (rootItemB z)) ∧ Below w.heap.size w w' := by
  have hsum := implSum ((⟨#[105, 116, 101, 109, 32]⟩ : ByteArray) ++ z) w (by
    simp only [ByteArray.size_append]
    have e1 : (⟨#[105, 116, 101, 109, 32]⟩ : ByteArray).size = 5 := rfl
    omega) hK
  have et : ((⟨#[105, 116, 101, 109, 32]⟩ : ByteArray) ++ z).data.toList = [105, 116, 101, 109, 32] ++ z.data.toList := by simp
  rw [et] at hsum
  have er : (⟨(sumB ([105, 116, 101, 109, 32] ++ z.data.toList)).toArray⟩ : ByteArray) = rootItemB z := rfl
  rw [er] at hsum
  generalize rootItemB z = rz at hsum
  clear et er hK
  go_enter Tryz.func53, Tryz.ntmps53
  go_wp2_with fail
  refine hsum.mono ?_
  rintro e w1 ⟨rfl, b1⟩
  go_wp2_with fail
  go_ret
  exact ⟨rfl, b1⟩

set_option maxHeartbeats 1000000 in
set_option maxRecDepth 100000 in
theorem implRootBoth (a b : ByteArray) (w : World) (ha : a.size = 16) (hb : b.size = 16) (hK : RowG w shaK) :
    Calls Tryz.prog 56 #[.string a, .string b] w fun e w' => e = .returned (.string (bothB a b)) ∧ Below w.heap.size w w' := by
  have hsum := implSum ((⟨#[98, 111, 116, 104, 32]⟩ : ByteArray) ++ a ++ (⟨#[32]⟩ : ByteArray) ++ b) w (by
    simp only [ByteArray.size_append]
    have e1 : (⟨#[98, 111, 116, 104, 32]⟩ : ByteArray).size = 5 := rfl
    have e2 : (⟨#[32]⟩ : ByteArray).size = 1 := rfl
    omega) hK
  have et : ((⟨#[98, 111, 116, 104, 32]⟩ : ByteArray) ++ a ++ (⟨#[32]⟩ : ByteArray) ++ b).data.toList = [98, 111, 116, 104, 32] ++ a.data.toList ++ [32] ++ b.data.toList := by simp
  rw [et] at hsum
  have er : (⟨(sumB ([98, 111, 116, 104, 32] ++ a.data.toList ++ [32] ++ b.data.toList)).toArray⟩ : ByteArray) = bothB a b := rfl
  rw [er] at hsum
  generalize bothB a b = rz at hsum
  clear et er hK
  go_enter Tryz.func56, Tryz.ntmps56
  go_wp2_with fail
  refine hsum.mono ?_
  rintro e w1 ⟨rfl, b1⟩
  go_wp2_with fail
  go_ret
  exact ⟨rfl, b1⟩

theorem drop_news {w : World} {g : Nat} {ss : List ByteArray} (h : AtS w g ss) (k r off : Nat) (hk : k + r = ss.length) (ho : 0 < r → off = k) : ∀ j u, ((ss.drop k).map Value.string)[j]? = some u → w.cell? ((⟨g, off, none⟩ : Addr).add j) = some u := by
  intro j u hu
  have hj : j < r := by
    have := (List.getElem?_eq_some_iff.1 hu).1
    simp at this
    omega
  have e := ho (by omega)
  subst e
  have hc := h.2 (off + j) (by omega)
  have e2 : ((ss.drop off).map Value.string)[j]? = some (.string (ss.getD (off + j) ByteArray.empty)) := by
    rw [List.getElem?_map, List.getElem?_drop, List.getElem?_eq_getElem (by omega)]
    simp [List.getElem?_eq_getElem (show off + j < ss.length by omega)]
  rw [e2] at hu
  rw [← hu, ← hc]
  rcases j with _ | j
  · simp [Addr.add]
  · simp [Addr.add]

set_option maxHeartbeats 4000000 in
set_option maxRecDepth 100000 in
theorem implAbove (g n cap : Nat) (ss : List ByteArray) (w : World) (h : AtS w g ss) (hn : n = ss.length) (hc : n ≤ cap) (hm : n ≤ 1000000) (hs : ∀ s ∈ ss, s.size = 16) (hK : RowG w shaK) :
    Calls Tryz.prog 121 #[.slice (some ⟨g, 0, none⟩) n cap, .func (.func 56) #[] #[]] w fun e w' => ∃ v, e = .returned v ∧ SRow w.heap.size v (upR ss) w' ∧ Below w.heap.size w w' := by
  obtain ⟨i0, hi, hz0, hz1, hz2⟩ := info_parts infoStr
  have HA : Hid (AtS w g ss) := h
  have HN : Hid (n = ss.length) := hn
  have HKG : Hid (RowG w shaK) := hK
  have HS : Hid (∀ i, i < ss.length → (ss.getD i ByteArray.empty).size = 16) := by
    intro i hi
    refine hs _ ?_
    simp [List.getElem?_eq_getElem hi]
  obtain ⟨m2, hm2⟩ : ∃ m2, m2 = (n + 1) / 2 := ⟨_, rfl⟩
  have hmk := makeCapS m2 (by omega)
  have hq : ((n : Int) + 1) / 2 = (m2 : Int) := by omega
  have HW0 : Hid (SRow w.heap.size (.slice (some ⟨w.heap.size, 0, none⟩) 0 m2) (upR (ss.take 0)) (w.alloc (.cells (sCells (List.replicate m2 ⟨#[]⟩)) 9))) := srow_cap w m2 (by omega)
  have HB0 : Hid (Below w.heap.size w (w.alloc (.cells (sCells (List.replicate m2 ⟨#[]⟩)) 9))) := (Below.refl _ w).alloc (Nat.le_refl _) _
  clear h hn hs hK hm2
  go_enter Tryz.func121, Tryz.ntmps121
  go_wp2_with fail
  clear hmk hq
  go_loopw [0, 5] (fun rv av wr => ∃ (k r off c1 ml c3 g3 : Nat), rv = .slice (some ⟨g, off, none⟩) r c1 ∧ av = .slice (some ⟨g3, 0, none⟩) ml c3 ∧ r ≤ c1 ∧ r ≤ n ∧ ml ≤ n ∧ Hid (k + r = n ∧ k % 2 = 0 ∧ (0 < r → off = k) ∧ ml = (upR (ss.take k)).length) ∧ Hid (SRow w.heap.size av (upR (ss.take k)) wr) ∧ Hid (Below w.heap.size w wr)) (fun rv _ _ => sliceLen2 rv)
  case atStart => exact ⟨0, n, 0, cap, 0, m2, w.heap.size, rfl, rfl, hc, Nat.le_refl _, Nat.zero_le _, ⟨by omega, rfl, fun _ => rfl, rfl⟩, HW0, HB0⟩
  case round =>
    clear HW0 HB0
    obtain ⟨k, r, off, c1, ml, c3, g3, rfl, rfl, hrc, hrn, hmln, HX, HR, HB⟩ := hrel
    have HRW : Hid (wr.ownsRow w.heap.size 9 1 (.slice (some ⟨g3, 0, none⟩) ml c3) ml ((upR (ss.take k)).map Value.string)) := by
      have := HR.out.2
      rw [← HX.out.2.2.2] at this
      exact this
    have hszr := HB.out.size
    have hgw : g < wr.heap.size := Nat.lt_of_lt_of_le HA.out.1 hszr
    have hne : g ≠ g3 := by
      rcases HRW.out.2 with ⟨h2, _⟩ | ⟨g', cap', cur, hv, h2, _⟩
      · cases h2
      · simp only [Value.slice.injEq, Option.some.injEq, Addr.mk.injEq, and_true] at hv
        have := HA.out.1
        omega
    have hx1 : ml + 1 ≤ maxLen := by unfold maxLen; omega
    have hx2 : (ml + 1) * 16 ≤ 140737488355328 := by omega
    by_cases h1 : 1 < r
    · obtain rfl : off = k := HX.out.2.2.1 (by omega)
      have hkl2 : off + 1 < ss.length := by have := HX.out.1; have := HN.out; omega
      have hkl : off < ss.length := by omega
      have hc0 : wr.cell? ⟨g, off, none⟩ = some (.string (ss.getD off ByteArray.empty)) := by
        rw [HB.out.cell (p := ⟨g, off, none⟩) HA.out.1]
        exact HA.out.2 off hkl
      have hc2 : wr.cell? ⟨g, off + 1, none⟩ = some (.string (ss.getD (off + 1) ByteArray.empty)) := by
        rw [HB.out.cell (p := ⟨g, off + 1, none⟩) HA.out.1]
        exact HA.out.2 (off + 1) hkl2
      have hs1 := HS.out off hkl
      have hs2 := HS.out (off + 1) hkl2
      have HE : Hid (upR (ss.take (off + 2)) = upR (ss.take off) ++ [bothB (ss.getD off ByteArray.empty) (ss.getD (off + 1) ByteArray.empty)]) := take_two ss off hkl2 HX.out.2.1
      generalize ss.getD off ByteArray.empty = a at hc0 hs1 HE
      generalize ss.getD (off + 1) ByteArray.empty = b at hc2 hs2 HE
      have h1' : (1 : Int) < (r : Int) := by omega
      have h0' : (0 : Int) < (r : Int) := by omega
      have h0'' : 0 < r := by omega
      have hKr : RowG wr shaK := HKG.out.below HB.out HKG.out.lt
      have HKr : Hid (RowG wr.drew shaK) := hKr.drew
      have hr2 : (2 : Int) ≤ (r : Int) ∧ (r : Int) ≤ (c1 : Int) := by omega
      clear hkl hkl2 hKr
      go_wp2_with fail
      go_region_held3 (fun w' => w'.cell? ⟨g, off, none⟩ = some (.string a) ∧ w'.cell? ⟨g, off + 1, none⟩ = some (.string b)) (first | go_keep | (exact ⟨(b1.cell (p := ⟨g, off, none⟩) hgw).trans hc0, (b1.cell (p := ⟨g, off + 1, none⟩) hgw).trans hc2⟩) | (have hfar : w4.heap[g]? = w1.heap[g]? := (hgrow4.block g (by simp; omega) (by simpa [Value.ownBlock] using hne)).trans (Below.heap_alloc _ _ _ (by omega)); exact ⟨(World.cell?_of_block (a := ⟨g, off, none⟩) hfar).trans ((b1.cell (p := ⟨g, off, none⟩) hgw).trans hc0), (World.cell?_of_block (a := ⟨g, off + 1, none⟩) hfar).trans ((b1.cell (p := ⟨g, off + 1, none⟩) hgw).trans hc2)⟩))
        (first
          | (go_at_call 56; refine (implRootBoth a b _ hs1 hs2 HKr.out).mono ?_; rintro e w1 ⟨rfl, b0⟩; have b1 : Below wr.heap.size wr w1 := ((Below.refl wr.heap.size wr).drew).trans b0; have hb1s : wr.heap.size ≤ w1.heap.size := b1.size; clear b0)
          | ((refine step_append_lies _ (by rfl) _ _ 42 (by rfl) w.heap.size 9 i0 (.string ⟨#[]⟩) 1 16 Tryz.underlying42 hi hz0 hz1 hz2 rfl (by decide) _ ml _ (by rfl) (World.ownsRow.alloc (row_below HRW.out b1) _) ⟨w1.heap.size, 0, none⟩ 1 1 [.string (bothB a b)] (by rfl) rfl (cell_one_new _ _ _) (by simp [Value.oneCell']) (by decide) hx1 hx2 (by simp; omega) _ rfl ?_; intro g4 c4 w4 hown4 hgrow4 hat4 hlt4)))
      have hb4 : Below w.heap.size w w4 := ((HB.out.trans (b1.mono hszr)).alloc (by omega) _).grown hgrow4 (by simp; omega) (fun j hj => by
        rcases HRW.out.2 with ⟨h2, _⟩ | ⟨g', cap', cur, hv, h2, _⟩
        · cases h2
        · simp only [Value.slice.injEq, Option.some.injEq, Addr.mk.injEq, and_true] at hv
          have : g3 = j := by simpa [Value.ownBlock] using hj
          omega)
      have HLN : Hid (ml + 1 = (upR (ss.take (off + 2))).length) := by
        show _ = _
        rw [HE.out, List.length_append, ← HX.out.2.2.2]; rfl
      have HR4 : Hid (SRow w.heap.size (.slice (some ⟨g4, 0, none⟩) (ml + 1) c4) (upR (ss.take (off + 2))) w4) := by
        refine ⟨⟨g4, c4, ?_⟩, ?_⟩
        · rw [← HLN.out]
        · rw [← HLN.out, HE.out, List.map_append]; exact hown4
      have HML : Hid (ml + 1 ≤ n) := by
        have h3 := upR_length (ss.take (off + 2))
        have h4 := HLN.out
        have h5 := HX.out.1
        have h6 : (ss.take (off + 2)).length ≤ off + 2 := by simp; omega
        show _ ≤ _
        omega
      clear hown4 hgrow4 hat4 hlt4 b1
      by_cases hc12 : c1 = 2
      · obtain rfl : r = 2 := by omega
        subst hc12
        go_wp2_with fail
        go_roundw
        case rel =>
          refine ⟨off + 2, 0, _, _, ml + 1, c4, g4, rfl, rfl, by omega, by omega, HML.out, ⟨by have := HX.out.1; omega, by have := HX.out.2.1; omega, fun h => by omega, HLN.out⟩, HR4, hb4⟩
        case measure => simp [sliceLen2]
      · have hc12' : ¬ (c1 : Int) = 2 := by omega
        go_wp2_with fail
        go_roundw
        case rel =>
          refine ⟨off + 2, r - 2, _, _, ml + 1, c4, g4, rfl, rfl, by omega, by omega, HML.out, ⟨by have := HX.out.1; omega, by have := HX.out.2.1; omega, fun h => rfl, HLN.out⟩, HR4, hb4⟩
        case measure => simp [sliceLen2]; omega
    · have h1' : ¬ (1 : Int) < (r : Int) := by omega
      have HE : Hid (upR ss = upR (ss.take k) ++ ss.drop k) := take_rest ss k (by have := HX.out.1; have := HN.out; omega) HX.out.2.1 (by have := HX.out.1; have := HN.out; omega)
      have hnews := drop_news (HA.out.below HB.out HA.out.1) k r off (by have := HX.out.1; have := HN.out; omega) HX.out.2.2.1
      have HLD : Hid (((ss.drop k).map Value.string).length = r * 1) := by
        have := HX.out.1
        have := HN.out
        show _ = _
        simp
        omega
      have h1c : ∀ u ∈ (ss.drop k).map Value.string, u.oneCell' = true := by
        intro u hu
        obtain ⟨x, _, rfl⟩ := List.mem_map.1 hu
        rfl
      have hx3 : ml + r ≤ maxLen := by unfold maxLen; omega
      have hx4 : (ml + r) * 16 ≤ 140737488355328 := by omega
      have HNE : Hid ((upR ss).map Value.string = (upR (ss.take k)).map Value.string ++ (ss.drop k).map Value.string ∧ (upR ss).length = ml + r) := by
        have h3 := HX.out.1
        have h4 := HN.out
        rw [HE.out]
        refine ⟨by rw [List.map_append], ?_⟩
        rw [List.length_append, ← HX.out.2.2.2]
        simp
        omega
      generalize (ss.drop k).map Value.string = news at hnews HLD h1c HNE
      go_wp2_with (at_builtin; refine wpList_append_own _ rfl _ _ 42 rfl w.heap.size 9 i0 (.string ⟨#[]⟩) 1 16 Tryz.underlying42 hi hz0 hz1 hz2 rfl (by decide) (.slice (some ⟨g3, 0, none⟩) ml c3) ml _ rfl HRW.out ⟨g, off, none⟩ r c1 news rfl HLD.out hnews h1c hx3 hx4 hszr ?_; intro v' w4 hown4 hgrow4 hnil4)
      have hb4 : Below w.heap.size w w4 := HB.out.grown hgrow4 hszr (fun j hj => by
        rcases HRW.out.2 with ⟨h2, _⟩ | ⟨g', cap', cur, hv, h2, _⟩
        · cases h2
        · simp only [Value.slice.injEq, Option.some.injEq, Addr.mk.injEq, and_true] at hv
          have : g3 = j := by simpa [Value.ownBlock] using hj
          omega)
      obtain ⟨g4, c4, rfl⟩ : ∃ g4 c4, v' = .slice (some ⟨g4, 0, none⟩) (ml + r) c4 := by
        rcases hown4.2 with ⟨h2, _⟩ | ⟨g', cap', cur, hv, _⟩
        · have := (hnil4.1 h2).1
          cases this
        · exact ⟨g', cap', hv⟩
      have HR4 : Hid (SRow w.heap.size (.slice (some ⟨g4, 0, none⟩) (ml + r) c4) (upR ss) w4) := by
        refine ⟨⟨g4, c4, ?_⟩, ?_⟩
        · rw [HNE.out.2]
        · rw [HNE.out.2, HNE.out.1]; exact hown4
      clear hown4 hgrow4 hnil4
      go_wp2_with fail
      go_ret
      exact ⟨_, rfl, HR4.out, hb4⟩


set_option maxHeartbeats 1000000 in
set_option maxRecDepth 100000 in
theorem implTop (g n cap : Nat) (ss : List ByteArray) (w : World) (h : AtS w g ss) (hn : n = ss.length) (hc : n ≤ cap) (hm : n ≤ 1000000) (h0 : n ≠ 0) (hs : ∀ s ∈ ss, s.size = 16) (hK : RowG w shaK) :
    Calls Tryz.prog 103 #[.slice (some ⟨g, 0, none⟩) n cap, .func (.func 56) #[] #[]] w fun e w' => e = .returned (.string (rootR ss)) ∧ Below w.heap.size w w' := by
  obtain ⟨R, hR⟩ : ∃ R, R = rootR ss := ⟨_, rfl⟩
  rw [← hR]
  have HT0 : Hid (rootR ss = R) := hR.symm
  have HA0 : Hid (AtS w g ss) := h
  have HN0 : Hid (n = ss.length ∧ n ≠ 0) := ⟨hn, h0⟩
  have H60 : Hid (∀ s ∈ ss, s.size = 16) := hs
  have HKG : Hid (RowG w shaK) := hK
  clear hR h hn hs hK h0
  go_enter Tryz.func103, Tryz.ntmps103
  go_wp2_with fail
  go_loopw [0] (fun v wr => ∃ (rs : List ByteArray) (g2 c2 m : Nat), v = .slice (some ⟨g2, 0, none⟩) m c2 ∧ m ≤ n ∧ m ≤ c2 ∧ Hid (m = rs.length ∧ m ≠ 0) ∧ Hid (AtS wr g2 rs) ∧ Hid (∀ s ∈ rs, s.size = 16) ∧ Hid (rootR rs = R) ∧ Hid (Below w.heap.size w wr)) (fun v _ => sliceLen2 v)
  case atStart => exact ⟨ss, g, cap, n, rfl, Nat.le_refl _, hc, HN0, HA0, H60, HT0, Below.refl _ _⟩
  case round =>
    obtain ⟨rs, g2, c2, m, rfl, hmn, hmc, HM, HA, H6, HT, HB⟩ := hrel
    by_cases h1 : 1 < m
    · have h1' : (1 : Int) < (m : Int) := by omega
      have hup := implAbove g2 m c2 rs wr HA.out HM.out.1 hmc (by omega) H6.out (HKG.out.below HB.out HKG.out.lt)
      have HU : Hid (rootR (upR rs) = R) := by
        show _ = _
        rw [← HT.out]
        exact (rootR_up (by have := HM.out.1; omega)).symm
      have HUL : Hid ((upR rs).length < m ∧ (upR rs).length ≠ 0) := by
        have := upR_length rs
        have := HM.out.1
        exact ⟨by omega, by omega⟩
      have HU6 : Hid (∀ s ∈ upR rs, s.size = 16) := upR_16 rs H6.out
      go_wp2_with fail
      refine hup.mono ?_
      rintro e w2 ⟨v2, rfl, hr2, b2⟩
      have hle : ∃ g3 c3, v2 = .slice (some ⟨g3, 0, none⟩) (upR rs).length c3 ∧ (upR rs).length ≤ c3 := by
        obtain ⟨⟨g3, c3, rfl⟩, _, h5⟩ := hr2
        rcases h5 with ⟨h5, _⟩ | ⟨g', cap', cur, hv, _, _, h6, _⟩
        · cases h5
        · simp only [Value.slice.injEq, Option.some.injEq, Addr.mk.injEq, and_true] at hv
          obtain ⟨rfl, _, rfl⟩ := hv
          exact ⟨g3, c3, rfl, h6⟩
      obtain ⟨g3, c3, rfl, hlc⟩ := hle
      have HA2 : Hid (AtS w2 g3 (upR rs)) := hr2.at.1
      have HB2 : Hid (Below w.heap.size w w2) := HB.out.trans (b2.mono HB.out.size)
      clear hup hr2 b2
      obtain ⟨mm, hmm⟩ : ∃ mm, mm = (upR rs).length := ⟨_, rfl⟩
      rw [← hmm] at HUL hlc ⊢
      have HMM : Hid (mm = (upR rs).length) := hmm
      clear hmm
      go_wp2_with fail
      go_roundw
      case rel => exact ⟨upR rs, g3, c3, mm, rfl, by have := HUL.out; omega, hlc, ⟨HMM.out, HUL.out.2⟩, HA2, HU6, HU, HB2⟩
      case measure => have := HUL.out; simp [sliceLen2]; omega
    · have h1' : ¬ (1 : Int) < (m : Int) := by omega
      have hm1 : m = 1 := by have := HM.out.2; omega
      subst hm1
      have hc0 := HA.out.2 0 (by rw [← HM.out.1]; omega)
      have HV : Hid (rs.getD 0 ByteArray.empty = R) := by
        show _ = _
        rw [← HT.out, rootR_one (by rw [← HM.out.1]; omega)]
      generalize rs.getD 0 ByteArray.empty = z at hc0 HV
      go_wp2_with fail
      go_ret
      rw [← HV.out]
      exact ⟨rfl, HB.out⟩

end Go.Proofs.YtoifgpmbeicmnaaGreatDoor

