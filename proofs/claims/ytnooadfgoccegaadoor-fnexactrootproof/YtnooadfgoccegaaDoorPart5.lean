/-
  RootProof answers as the specification at every list of items and every place, field by field, writes into no argument, and its answer owns its memory; for every input, no condition; the table of the program as its text lays it.
-/
import Derived.Test.YtnooadfgoccegaaDoorPart1
import Derived.Test.YtnooadfgoccegaaDoorPart2
import Derived.Test.YtnooadfgoccegaaDoorPart3
import Derived.Test.YtnooadfgoccegaaDoorPart4
import Derived.Deep.Cut
import Derived.Lib.AppendIntMem
import Derived.Deep.RegionWith
import Derived.Test.YtnooadfgoccegaaDoorCards
import Derived.Test.YtnooadfgoccegaaDoorTie
import Derived.WalkKit
import Derived.ProofKit
import Derived.OpenShut
import Derived.ShutString
import Derived.ChangeOld
import Derived.ChangeVars
import Derived.Below
import Derived.Carry
import Derived.Deep.DeepHandedRow
import Derived.Lib.LaidTab
import Derived.SliceStrings
set_option linter.unusedVariables false
namespace Go.Proofs.YtnooadfgoccegaaDoor
open Go.RowKit Go.Deep

def lenS : Value → Nat
  | .slice _ n _ => n
  | _ => 0
theorem own_atS {w : World} {B g m c : Nat} {rs : List ByteArray} (h : w.ownsRow B 9 1 (.slice (some ⟨g, 0, none⟩) m c) m (rs.map Value.string)) (hm : m = rs.length) : AtS w g rs := by
  subst hm
  exact (SRow.at (B := B) (cap := c) ⟨⟨g, c, rfl⟩, h⟩).1
theorem stn2 : (39 : TypeId) ≠ 9 := by decide
theorem sts2 : (9 : TypeId) ≠ 39 := by decide
theorem sidesR_len (f : Nat) (ss : List ByteArray) (x : Nat) (h : x < ss.length) : (sidesR f ss x).length ≤ 2 * ss.length := by
  rw [← noteT_mk f ss x h]
  have := noteT_len f (mkN ss 0 x)
  rwa [mkN_len] at this
theorem srow_side (w : World) : (w.alloc (.cells #[] 39)).ownsRow w.heap.size 39 2 (.slice (some ⟨w.heap.size, 0, none⟩) 0 0) 0 (([] : List SideV).flatMap enSide) := (frow_new enSide 39 2 w).2
set_option maxHeartbeats 8000000 in
set_option maxRecDepth 100000 in
theorem specL3Proof (g n cap : Nat) (ss : List ByteArray) (X : Nat) (w : World) (h : AtS w g ss) (hn : n = ss.length) (hm : n ≤ 40) (hX : X < ss.length) (hs : ∀ i, i < ss.length → (ss.getD i ByteArray.empty).size ≤ 1048576) :
    Calls Tryd.prog 15 #[.slice (some ⟨g, 0, none⟩) n cap, .int .i64 (X : Int)] w fun e w' => ∃ v, e = .returned v ∧ Sds w.heap.size v (sidesR n (ss.map rootItemB) X) w' ∧ Below w.heap.size w w' := by
  obtain ⟨i0, hi, hz0, hz1, hz2⟩ := info3 infoSide
  have hb0 : Below w.heap.size w (w.alloc (.cells #[] 39)) := (Below.refl _ w).alloc (Nat.le_refl _) _
  have O0 : Hid ((w.alloc (.cells #[] 39)).ownsRow w.heap.size 39 2 (.slice (some ⟨w.heap.size, 0, none⟩) 0 0) 0 (([] : List SideV).flatMap enSide)) := srow_side w
  have B0 : Hid (Below w.heap.size w (w.alloc (.cells #[] 39))) := hb0
  have hrow := specRow g n cap ss (w.alloc (.cells #[] 39)) (h.below hb0 h.1) hn (by omega) hs
  have H6 : Hid (∀ s ∈ ss.map rootItemB, s.size = 16) := rootItemB_16 ss
  have HLN : Hid ((ss.map rootItemB).length = n) := by show _ = _; rw [List.length_map]; exact hn.symm
  have HX : Hid (X < n ∧ n ≤ 40) := ⟨by omega, hm⟩
  obtain ⟨N, hN⟩ : ∃ N, N = sidesR n (ss.map rootItemB) X := ⟨_, rfl⟩
  have HNL : Hid (N.length ≤ 80) := by
    show _ ≤ _
    have h1 := sidesR_len n (ss.map rootItemB) X (by rw [List.length_map]; exact hX)
    rw [← hN, List.length_map] at h1
    omega
  have HT0 : Hid (sidesR n (ss.map rootItemB) X = N) := hN.symm
  rw [← hN]
  generalize ss.map rootItemB = r0 at hrow H6 HLN HT0
  clear hN
  obtain ⟨Q, hQ⟩ : ∃ Q : Ending → World → Prop, Q = fun e w' => ∃ v, e = .returned v ∧ Sds w.heap.size v N w' ∧ Below w.heap.size w w' := ⟨_, rfl⟩
  have HQ : Hid (∀ (v : Value) (w' : World), w'.ownsRow w.heap.size 39 2 v N.length (N.flatMap enSide) → Below w.heap.size w w' → Q (.returned v) w') := fun v w' h1 h2 => by rw [hQ]; exact ⟨v, rfl, sds_own h1, h2⟩
  show Calls _ _ _ _ (fun e w' => ∃ v, e = .returned v ∧ Sds w.heap.size v N w' ∧ Below w.heap.size w w')
  rw [← hQ]
  clear hQ h hn hm hX hs hb0
  go_enter Tryd.func15, Tryd.ntmps15
  go_wp2_with fail
  refine hrow.mono ?_
  rintro e w1 ⟨v1, rfl, hr1, b1⟩
  obtain ⟨⟨g1, c1, rfl⟩, hr1'⟩ := hr1
  rw [HLN.out] at hr1' ⊢
  have R1 : Hid (w1.ownsRow w.heap.size 9 1 (.slice (some ⟨g1, 0, none⟩) n c1) n (r0.map Value.string)) := ownE_mono hr1' B0.out.size
  have O1 : Hid (w1.ownsRow w.heap.size 39 2 (.slice (some ⟨w.heap.size, 0, none⟩) 0 0) 0 (([] : List SideV).flatMap enSide)) := ownE_below O0.out b1
  have B1 : Hid (Below w.heap.size w w1) := B0.out.trans (b1.mono B0.out.size)
  clear hrow hr1' b1 O0 B0
  go_wp2_with fail
  go_loopw [1, 5, 6] (fun at5 out row wr => ∃ (y f m c2 g2 m5 g5 c5 : Nat) (rs : List ByteArray) (o : List SideV), at5 = .int .i64 (y : Int) ∧ out = .slice (some ⟨g5, 0, none⟩) m5 c5 ∧ row = .slice (some ⟨g2, 0, none⟩) m c2 ∧ m ≤ 40 ∧ Hid (m = rs.length ∧ y < m ∧ m ≤ f ∧ o.length = m5) ∧ Hid (wr.ownsRow w.heap.size 39 2 (.slice (some ⟨g5, 0, none⟩) m5 c5) m5 (o.flatMap enSide)) ∧ Hid (wr.ownsRow w.heap.size 9 1 (.slice (some ⟨g2, 0, none⟩) m c2) m (rs.map Value.string)) ∧ Hid (∀ s ∈ rs, s.size = 16) ∧ Hid (o ++ sidesR f rs y = N) ∧ Hid (Below w.heap.size w wr)) (fun _ _ row _ => lenS row)
  case atStart => exact ⟨X, n, n, c1, g1, 0, w.heap.size, 0, r0, [], rfl, rfl, rfl, HX.out.2, ⟨HLN.out.symm, HX.out.1, Nat.le_refl _, rfl⟩, O1, R1, H6, HT0, B1⟩
  case round =>
    clear O1 R1 H6 HT0 B1
    obtain ⟨y, f, m, c2, g2, m5, g5, c5, rs, o, rfl, rfl, rfl, hm40, HM, OW, RW, H6, HT, HB⟩ := hrel
    by_cases h1 : 1 < m
    · have hn1 : (1 : Int) < (m : Int) := by omega
      obtain ⟨f', hf'⟩ : ∃ f', f = f' + 1 := ⟨f - 1, by have := HM.out; omega⟩
      subst hf'
      obtain ⟨q, hq⟩ : ∃ q, q = y % 2 := ⟨_, rfl⟩
      obtain ⟨z, hz⟩ : ∃ z, z = y + 1 - q * 2 := ⟨_, rfl⟩
      have hml : ¬ rs.length ≤ 1 := by rw [← HM.out.1]; omega
      have HS : Hid (sidesR (f' + 1) rs y = (if z < m then [⟨rs.getD z ByteArray.empty, decide (z < y)⟩] else []) ++ sidesR f' (upR rs) (y / 2)) := by
        show _ = _
        rw [sidesR_step hml, sideV, if_pos (by omega), ← hq, ← hz, ← HM.out.1]
        simp
      have hym := HM.out.2.1
      have hq2 : q < 2 := by omega
      have hr1 : Int.tmod (y : Int) 2 = (q : Int) := by rw [hq]; rfl
      have hr2 : (y : Int) % 2 = (q : Int) := by omega
      have hw1 : IntKind.i64.wrap ((y : Int) + 1) = (y : Int) + 1 := by rw [IntKind.wrap_i64]; omega
      have hw2 : IntKind.i64.wrap ((q : Int) * 2) = (q : Int) * 2 := by rw [IntKind.wrap_i64]; omega
      have hw3 : IntKind.i64.wrap ((y : Int) + 1 - (q : Int) * 2) = (z : Int) := by rw [IntKind.wrap_i64]; omega
      have hwq : IntKind.i64.wrap (q : Int) = (q : Int) := by rw [IntKind.wrap_i64]; omega
      have hd1 : Int.tdiv (y : Int) 2 = ((y / 2 : Nat) : Int) := rfl
      have HUL : Hid (y / 2 < (upR rs).length ∧ (upR rs).length ≤ f' ∧ (upR rs).length < m) := by
        have h3 := upR_length rs
        have h4 := HM.out
        exact ⟨by omega, by omega, by omega⟩
      have HM1 : Hid (m ≤ 40 ∧ y < m) := ⟨hm40, hym⟩
      have HU6 : Hid (∀ s ∈ upR rs, s.size = 16) := upR_16 rs H6.out
      have HML : Hid (m = rs.length) := HM.out.1
      have HOL : Hid (o.length = m5) := HM.out.2.2.2
      have HO80 : Hid (m5 ≤ 80) := by
        show _ ≤ _
        have h2 := congrArg List.length HT.out
        rw [List.length_append] at h2
        have h3 := HNL.out
        have h4 := HOL.out
        omega
      have HUP : Hid (∀ w', AtS w' g2 rs → Calls Tryd.prog 25 #[.slice (some ⟨g2, 0, none⟩) m c2] w' fun e w'' => ∃ v, e = .returned v ∧ SRow w'.heap.size v (upR rs) w'' ∧ Below w'.heap.size w' w'') := fun w' h => specUp g2 m c2 rs w' h HM.out.1 (by omega) H6.out
      clear hq hz hml HM H6
      by_cases hzm : z < m
      · have lz1 : (z : Int) < (m : Int) := by omega
        have lz0 : (0 : Int) ≤ (z : Int) := by omega
        have c0 : wr.cell? ⟨g2, z, none⟩ = some (.string (rs.getD z ByteArray.empty)) := (own_atS RW.out HML.out).2 z (by rw [← HML.out]; exact hzm)
        have HT2 : Hid ((o ++ [⟨rs.getD z ByteArray.empty, decide (z < y)⟩]) ++ sidesR f' (upR rs) (y / 2) = N) := by
          show _ = _
          rw [← HT.out, HS.out, if_pos hzm, List.append_assoc]
        generalize rs.getD z ByteArray.empty = t at c0 HT2
        have hu := enSide_one (⟨t, decide (z < y)⟩ : SideV)
        have hx1 : m5 + 1 ≤ maxLen := by have := HO80.out; unfold maxLen; omega
        have hx2 : (m5 + 1) * 24 ≤ 140737488355328 := by have := HO80.out; omega
        have hsz := HB.out.size
        clear HS HT
        go_upto_region 7 with (at_builtin; refine wp_appN rfl _ _ 24 rfl w.heap.size 39 i0 (.agg #[.string ⟨#[]⟩, .bool false]) 2 24 1 Tryd.underlying24 hi hz0 hz1 hz2 rfl (by decide) (by decide) _ _ _ rfl OW.out (enSide ⟨t, decide (z < y)⟩) (by first | rfl | simp [Act.eval]) rfl hu hx1 hx2 hsz ?_; intro g7 c7 w7 hown7 hb7 hkeep7)
        obtain ⟨o7, ho7⟩ : ∃ o7, o7 = o ++ [⟨t, decide (z < y)⟩] := ⟨_, rfl⟩
        have O7 : Hid (w7.ownsRow w.heap.size 39 2 (.slice (some ⟨g7, 0, none⟩) (m5 + 1) c7) (m5 + 1) (o7.flatMap enSide)) := by
          have h5 : w7.ownsRow w.heap.size 39 2 (.slice (some ⟨g7, 0, none⟩) (m5 + 1) c7) (m5 + 1) (o7.flatMap enSide) := by
            rw [ho7, List.flatMap_append]
            simpa using hown7
          exact h5
        have HO7 : Hid (o7.length = m5 + 1) := by show _ = _; rw [ho7, List.length_append, HOL.out]; rfl
        have HT7 : Hid (o7 ++ sidesR f' (upR rs) (y / 2) = N) := by show _ = _; rw [ho7]; exact HT2.out
        have R7 : Hid (w7.ownsRow w.heap.size 9 1 (.slice (some ⟨g2, 0, none⟩) m c2) m (rs.map Value.string)) := ownE_keep RW.out (fun b hv hlt => by
          obtain ⟨⟨cur, hc⟩, _⟩ := ownE_is RW.out hv
          exact hkeep7 b hlt (ownE_ne OW.out hc sts2))
        have B7 : Hid (Below w.heap.size w w7) := HB.out.trans hb7
        have hup := HUP.out w7 (own_atS R7.out HML.out)
        clear ho7 hown7 hb7 hkeep7 OW RW HB c0 hu hx1 hx2 hsz HT2 HUP hr1 hr2 hw1 hw2 hw3 hwq lz1 lz0 hzm
        go_wp2_with fail
        refine hup.mono ?_
        rintro e w9 ⟨v9, rfl, hr9, b9⟩
        obtain ⟨⟨g9, c9, rfl⟩, hr9'⟩ := hr9
        have R9 : Hid (w9.ownsRow w.heap.size 9 1 (.slice (some ⟨g9, 0, none⟩) (upR rs).length c9) (upR rs).length ((upR rs).map Value.string)) := ownE_mono hr9' B7.out.size
        have O9 : Hid (w9.ownsRow w.heap.size 39 2 (.slice (some ⟨g7, 0, none⟩) (m5 + 1) c7) (m5 + 1) (o7.flatMap enSide)) := ownE_below O7.out b9
        have B9 : Hid (Below w.heap.size w w9) := B7.out.trans (b9.mono B7.out.size)
        clear hup b9 hr9' R7 O7 B7
        obtain ⟨mm, hmm⟩ : ∃ mm, mm = (upR rs).length := ⟨_, rfl⟩
        rw [← hmm] at R9 HUL ⊢
        have HMM : Hid (mm = (upR rs).length) := hmm
        clear hmm
        go_wp2_with fail
        go_roundw
        case rel => exact ⟨y / 2, f', mm, c9, g9, (m5 + 1), g7, c7, upR rs, o7, congrArg (Value.int .i64) (by omega), rfl, rfl, by have h1 := HUL.out; have h2 := HM1.out; omega, ⟨HMM.out, HUL.out.1, HUL.out.2.1, HO7.out⟩, O9, R9, HU6, HT7, B9⟩
        case measure => have h1 := HUL.out; simp [lenS]; omega
      · have lz1 : ¬ (z : Int) < (m : Int) := by omega
        have HT7 : Hid (o ++ sidesR f' (upR rs) (y / 2) = N) := by
          show _ = _
          rw [← HT.out, HS.out, if_neg hzm]
          rfl
        have O7 : Hid (wr.ownsRow w.heap.size 39 2 (.slice (some ⟨g5, 0, none⟩) m5 c5) m5 (o.flatMap enSide)) := OW.out
        have R7 : Hid (wr.ownsRow w.heap.size 9 1 (.slice (some ⟨g2, 0, none⟩) m c2) m (rs.map Value.string)) := RW.out
        have B7 : Hid (Below w.heap.size w wr) := HB.out
        have HO7 : Hid (o.length = m5) := HOL.out
        have hup := HUP.out wr (own_atS RW.out HML.out)
        clear HS HT OW RW HB HUP
        generalize o = o7 at HT7 O7 HO7
        go_wp2_with fail
        refine hup.mono ?_
        rintro e w9 ⟨v9, rfl, hr9, b9⟩
        obtain ⟨⟨g9, c9, rfl⟩, hr9'⟩ := hr9
        have R9 : Hid (w9.ownsRow w.heap.size 9 1 (.slice (some ⟨g9, 0, none⟩) (upR rs).length c9) (upR rs).length ((upR rs).map Value.string)) := ownE_mono hr9' B7.out.size
        have O9 : Hid (w9.ownsRow w.heap.size 39 2 (.slice (some ⟨g5, 0, none⟩) m5 c5) m5 (o7.flatMap enSide)) := ownE_below O7.out b9
        have B9 : Hid (Below w.heap.size w w9) := B7.out.trans (b9.mono B7.out.size)
        clear hup b9 hr9' R7 O7 B7
        obtain ⟨mm, hmm⟩ : ∃ mm, mm = (upR rs).length := ⟨_, rfl⟩
        rw [← hmm] at R9 HUL ⊢
        have HMM : Hid (mm = (upR rs).length) := hmm
        clear hmm
        go_wp2_with fail
        go_roundw
        case rel => exact ⟨y / 2, f', mm, c9, g9, m5, g5, c5, upR rs, o7, congrArg (Value.int .i64) (by omega), rfl, rfl, by have h1 := HUL.out; have h2 := HM1.out; omega, ⟨HMM.out, HUL.out.1, HUL.out.2.1, HO7.out⟩, O9, R9, HU6, HT7, B9⟩
        case measure => have h1 := HUL.out; simp [lenS]; omega
    · have hn1 : ¬ (1 : Int) < (m : Int) := by omega
      have HTN : Hid (o = N) := by
        have h2 := HT.out
        rwa [sidesR_done (by rw [← HM.out.1]; omega), List.append_nil] at h2
      have HFQ : Hid (Q (.returned (.slice (some ⟨g5, 0, none⟩) m5 c5)) wr) := HQ.out _ wr (by rw [← HTN.out, HM.out.2.2.2]; exact OW.out) HB.out
      clear HT HM OW RW H6 HB
      go_wp2_with fail
      exact HFQ.out
set_option maxHeartbeats 4000000 in
set_option maxRecDepth 100000 in
theorem specRootProof (g n cap : Nat) (ss : List ByteArray) (x : Int) (w : World) (h : AtS w g ss) (hn : n = ss.length) (hm : n ≤ 1048576) (hs : ∀ i, i < ss.length → (ss.getD i ByteArray.empty).size ≤ 1048576) :
    Calls Tryd.prog 5 #[.slice (some ⟨g, 0, none⟩) n cap, .int .i64 x] w fun e w' => RpPost ss x w e w' := by
  have hit := specItems g n cap ss w h hn (by omega) (fun i hi => by have := hs i hi; unfold maxLen; omega)
  have HN : Hid (n = ss.length) := hn
  have HPF : Hid (∀ X : Nat, itemsOkB ss = true → X < ss.length → x = (X : Int) → Calls Tryd.prog 15 #[.slice (some ⟨g, 0, none⟩) n cap, .int .i64 x] w fun e w'' => RpPost ss x w e w'') := fun X h1 h2 h3 => by
    subst h3
    have h4 := itemsOk_len h1
    have h5 := specL3Proof g n cap ss X w h hn (by omega) h2 hs
    rw [hn, ← rproof_yes h1 h2] at h5
    rw [hn]
    exact h5
  have HNO : Hid (¬ (itemsOkB ss = true ∧ 0 ≤ x ∧ x < (n : Int)) → RpPost ss x w (.returned (.slice none 0 0)) w) := fun h1 => ⟨_, rfl, .inl ⟨rfl, rproof_no (by rw [← hn]; exact h1)⟩, Below.refl _ _⟩
  have hw : IntKind.i64.wrap ((n : Int) - 1) = (n : Int) - 1 := by rw [IntKind.wrap_i64]; omega
  have HID : Hid (∀ v w', RpPost ss x w (.returned v) w' → RpPost ss x w (.returned v) w') := fun v w' h => h
  unfold RpPost at HPF
  have HYES : Hid (∀ (v : Value) (w' : World), Sds w.heap.size v (rproofL ss x) w' → Below w.heap.size w w' → RpPost ss x w (.returned v) w') := fun v w' h1 h2 => ⟨v, rfl, h1, h2⟩
  generalize RpPost ss x w = Q at HNO HYES HID ⊢
  clear h hn hm hs HID
  cases hok : itemsOkB ss with
  | false =>
    have HV : Hid (Q (.returned (.slice none 0 0)) w) := HNO.out (fun h => by rw [hok] at h; cases h.1)
    rw [hok] at hit
    clear HNO HYES HPF hok
    go_enter Tryd.func5, Tryd.ntmps5
    go_wp2_with (go_at_call 13; refine hit.mono ?_; rintro e w1 ⟨rfl, rfl⟩)
    exact HV.out
  | true =>
    rw [hok] at hit
    by_cases hx : 0 ≤ x ∧ x ≤ (n : Int) - 1
    · have hd : inB x 0 ((n : Int) - 1) = true := inB_yes hx
      obtain ⟨X, hX⟩ : ∃ X : Nat, x = (X : Int) := ⟨x.toNat, by omega⟩
      have hpf := HPF.out X hok (by have := HN.out; omega) hX
      clear HNO HPF hok hX X
      go_enter Tryd.func5, Tryd.ntmps5
      go_wp2_with (first | (go_at_call 13; refine hit.mono ?_; rintro e w1 ⟨rfl, rfl⟩) | (go_at_call 14; refine (specIn _ _ _ _).mono ?_; rintro e w5 ⟨rfl, rfl⟩; rw [hd]))
      refine hpf.mono ?_
      rintro e w9 ⟨v, rfl, hs9, b9⟩
      have HFQ : Hid (Q (.returned v) w9) := HYES.out v w9 hs9 b9
      clear hpf hs9 b9
      go_wp2_with fail
      exact HFQ.out
    · have hd : inB x 0 ((n : Int) - 1) = false := inB_no hx
      have HV : Hid (Q (.returned (.slice none 0 0)) w) := HNO.out (fun h => hx ⟨h.2.1, by omega⟩)
      clear HNO HPF HYES hok hx
      go_enter Tryd.func5, Tryd.ntmps5
      go_wp2_with (first | (go_at_call 13; refine hit.mono ?_; rintro e w1 ⟨rfl, rfl⟩) | (go_at_call 14; refine (specIn _ _ _ _).mono ?_; rintro e w5 ⟨rfl, rfl⟩; rw [hd]))
      exact HV.out
end Go.Proofs.YtnooadfgoccegaaDoor

set_option linter.unusedVariables false
namespace Go.Proofs.YtnooadfgoccegaaDoor
open Go.RowKit

def mkD : Nat → Nat → List UInt8 → List UInt8
  | 0, _, out => out
  | f + 1, k, out => if k = 0 then out else mkD f (k / 10) (UInt8.ofNat (48 + k % 10) :: out)
/-- The text of a number's mark. -/
def mkS (k : Nat) : ByteArray := if k = 0 then ⟨#[109, 48]⟩ else ⟨(109 :: mkD 19 k []).toArray⟩
theorem mkD_zero (f : Nat) (out : List UInt8) : mkD f 0 out = out := by cases f <;> simp [mkD]

set_option maxHeartbeats 1000000 in
set_option maxRecDepth 100000 in
theorem markText (k : Nat) (hk : k ≤ 1000000000000000000) (w : World) :
    Calls Tryd.prog 22 #[.int .i64 (k : Int)] w fun e w' => e = .returned (.string (mkS k)) ∧ Below w.heap.size w w' := by
  by_cases h0 : k = 0
  · subst h0
    have HV : Hid (mkS 0 = ⟨#[109, 48]⟩) := rfl
    generalize mkS 0 = R at HV ⊢
    go_enter Tryd.func22, Tryd.ntmps22
    go_wp2_with fail
    go_ret
    exact ⟨by rw [HV.out]; rfl, Below.refl _ _⟩
  have HV : Hid (∀ out, out = mkD 19 k [] → mkS k = (⟨#[109]⟩ : ByteArray) ++ ⟨out.toArray⟩) := by
    intro out ho
    rw [mkS, if_neg h0, ← ho]
    apply ByteArray.ext
    simp
  generalize mkS k = R at HV ⊢
  have hle : ¬ (k : Int) ≤ 0 := by omega
  have hk19 : k < 10 ^ 19 := by omega
  go_enter Tryd.func22, Tryd.ntmps22
  go_wp2_with fail
  go_loopw [0, 3] (fun i o wr => ∃ (f n : Nat) (out : List UInt8), i = .int .i64 (n : Int) ∧ o = .string ⟨out.toArray⟩ ∧ n ≤ 1000000000000000000 ∧ Hid (n < 10 ^ f ∧ out.length + f ≤ 19 ∧ mkD f n out = mkD 19 k []) ∧ Hid (Below w.heap.size w wr)) (fun i _ _ => (intOf i).toNat)
  case atStart => exact ⟨19, k, [], rfl, rfl, hk, ⟨hk19, by decide, rfl⟩, Below.refl _ _⟩
  case round =>
    obtain ⟨f, n, out, rfl, rfl, hn, HF, HB⟩ := hrel
    by_cases hz : n = 0
    · subst hz
      have HR : Hid (R = (⟨#[109]⟩ : ByteArray) ++ ⟨out.toArray⟩) := HV.out out (by have := HF.out.2.2; rw [mkD_zero] at this; exact this)
      have hol : out.length ≤ 19 := by have := HF.out.2.1; omega
      clear HV HF hk19 hle h0 hk
      go_wp2_with fail
      go_ret
      exact ⟨by rw [HR.out]; rfl, HB.out⟩
    · obtain ⟨f, rfl⟩ : ∃ f', f = f' + 1 := by
        cases f with
        | zero => have := HF.out.1; simp at this; omega
        | succ f' => exact ⟨f', rfl⟩
      have hn0 : (0 : Int) < (n : Int) := by omega
      have e1 : (n : Int).tdiv 10 = ((n / 10 : Nat) : Int) := by rw [Int.tdiv_eq_ediv_of_nonneg (by omega)]; omega
      have e3 : (n : Int) / 10 = ((n / 10 : Nat) : Int) := by omega
      have e4 : (n : Int) % 10 = ((n % 10 : Nat) : Int) := by omega
      have e2 : (n : Int).tmod 10 = ((n % 10 : Nat) : Int) := by rw [Int.tmod_eq_emod_of_nonneg (by omega)]; omega
      have hcv := convOne _ wr.heap.size (48 + n % 10) (by omega) (cellOne wr (.int .u8 ((48 + n % 10 : Nat) : Int)))
      have e5 : ((48 + n % 10 : Nat) : Int) = 48 + ((n % 10 : Nat) : Int) := by omega
      rw [e5] at hcv
      have HF2 : Hid (n / 10 < 10 ^ f ∧ (UInt8.ofNat (48 + n % 10) :: out).length + f ≤ 19 ∧ mkD f (n / 10) (UInt8.ofNat (48 + n % 10) :: out) = mkD 19 k []) := by
        refine ⟨?_, ?_, ?_⟩
        · have := HF.out.1
          rw [Nat.pow_succ] at this
          omega
        · have := HF.out.2.1
          simp
          omega
        · have := HF.out.2.2
          rw [mkD, if_neg hz] at this
          exact this
      have hq : n / 10 ≤ 1000000000000000000 := by omega
      have HME : Hid (n / 10 < n) := by show _ < _; omega
      have hol : out.length ≤ 19 := by have := HF.out.2.1; omega
      have lm : ((n % 10 : Nat) : Int) < 10 := by omega
      have lm0 : (0 : Int) ≤ ((n % 10 : Nat) : Int) := by omega
      generalize n / 10 = q at e1 e3 HF2 hq HME
      generalize n % 10 = r at e2 e4 e5 hcv HF2 lm lm0
      have hwq : IntKind.i64.wrap (q : Int) = (q : Int) := by rw [IntKind.wrap_i64]; omega
      have hw48 : IntKind.i64.wrap (48 + (r : Int)) = 48 + (r : Int) := by rw [IntKind.wrap_i64]; omega
      have hw8 : IntKind.u8.wrap (48 + (r : Int)) = 48 + (r : Int) := by rw [IntKind.wrap_u8]; omega
      generalize UInt8.ofNat (48 + r) = u at hcv HF2
      have HEQ : Hid ((⟨#[u]⟩ : ByteArray) ++ ⟨out.toArray⟩ = ⟨(u :: out).toArray⟩) := by
        show _ = _
        apply ByteArray.ext
        simp
      have HB2 : Hid (Below w.heap.size w (wr.alloc (.cells #[.int .u8 (48 + (r : Int))] 5))) := HB.out.alloc HB.out.size _
      clear HV HF hk19 hle h0 hk hz e5
      go_wp2_with fail
      go_roundw
      case rel => exact ⟨f, q, u :: out, rfl, by show Value.string _ = Value.string _; rw [← HEQ.out], hq, HF2, HB2⟩
      case measure => have := HME.out; simp [intOf]; omega

end Go.Proofs.YtnooadfgoccegaaDoor

set_option linter.unusedVariables false
namespace Go.Proofs.YtnooadfgoccegaaDoor
open Go.RowKit Go.Deep

theorem SdBk.lt {w : World} {g n : Nat} (h : SdBk w g n) : g < w.heap.size := by
  obtain ⟨cur, h1, _⟩ := h
  rcases Nat.lt_or_ge g w.heap.size with h' | h'
  · exact h'
  · simp [Array.getElem?_eq_none h'] at h1
theorem SdBk.keep {w w' : World} {g n : Nat} (h : SdBk w g n) (hk : w'.heap[g]? = w.heap[g]?) : SdBk w' g n := by
  obtain ⟨cur, h1, h2⟩ := h
  exact ⟨cur, hk.trans h1, h2⟩
theorem SdBk.below {w w' : World} {g n B : Nat} (h : SdBk w g n) (hb : Below B w w') (hg : g < B) : SdBk w' g n := h.keep (hb.block g hg)
theorem SdBk.cell {w : World} {g n : Nat} (h : SdBk w g n) (i : Nat) (hi : i < n * 2) : (∃ v, w.cell? ⟨g, i, none⟩ = some v) ∧ w.frozen? ⟨g, i, none⟩ = false := by
  obtain ⟨cur, h1, h2⟩ := h
  refine ⟨?_, Lib.frozen_of_heap h1 i⟩
  rw [Lib.cell_of_heap h1]
  have hic : i < cur.size := by omega
  exact ⟨cur[i], Array.getElem?_eq_getElem hic⟩
theorem SdBk.set {w : World} {g n : Nat} (h : SdBk w g n) (i : Nat) (v : Value) : SdBk (w.setCell ⟨g, i, none⟩ v) g n := by
  obtain ⟨cur, h1, h2⟩ := h
  exact ⟨cur.setIfInBounds i v, by simp [World.setCell, Array.getElem?_modify, h1], by simpa using h2⟩
theorem cellSetOtherS {w : World} {g i j : Nat} {v : Value} (h : i ≠ j) : (w.setCell ⟨g, i, none⟩ v).cell? ⟨g, j, none⟩ = w.cell? ⟨g, j, none⟩ := by
  simp [World.setCell, World.cell?, Array.getElem?_modify]
  cases hh : w.heap[g]? with
  | none => simp
  | some o => cases o <;> simp [h]
theorem SdBk.cellSet {w : World} {g n : Nat} (h : SdBk w g n) (i : Nat) (hi : i < n * 2) (v : Value) : (w.setCell ⟨g, i, none⟩ v).cell? ⟨g, i, none⟩ = some v := by
  obtain ⟨cur, h1, h2⟩ := h
  have : (w.setCell ⟨g, i, none⟩ v).heap[g]? = some (.cells (cur.setIfInBounds i v) 39 (0, 0)) := by simp [World.setCell, Array.getElem?_modify, h1]
  rw [Lib.cell_of_heap this]
  have : i < cur.size := by omega
  simp [this]
def b3 (m : Nat) : Bool := decide (m % 3 = 0)
theorem b3_int (m : Nat) : (((m % 3 : Nat) : Int) == 0) = b3 m := by
  rw [b3, Bool.eq_iff_iff]
  simp only [beq_iff_eq, decide_eq_true_eq]
  omega
/-- A list that holds its marks, so far. -/
def MkSd (w : World) (g k n : Nat) : Prop := ∀ i, i < n → w.cell? ⟨g, i * 2, none⟩ = some (.string (mkS (k + 2 * i))) ∧ w.cell? ⟨g, i * 2 + 1, none⟩ = some (.bool (b3 (k + 2 * i + 1)))
theorem MkSd.below {w w' : World} {g k n B : Nat} (h : MkSd w g k n) (hb : Below B w w') (hg : g < B) : MkSd w' g k n := fun i hi =>
  ⟨(hb.cell (p := ⟨g, i * 2, none⟩) hg).trans (h i hi).1, (hb.cell (p := ⟨g, i * 2 + 1, none⟩) hg).trans (h i hi).2⟩
theorem MkSd.step {w : World} {g k j n : Nat} (h : MkSd w g k j) (hb : SdBk w g n) (hj : j < n) : MkSd ((w.setCell ⟨g, j * 2, none⟩ (.string (mkS (k + 2 * j)))).setCell ⟨g, j * 2 + 1, none⟩ (.bool (b3 (k + 2 * j + 1)))) g k (j + 1) := by
  intro i hi
  rcases Nat.lt_or_ge i j with h' | h'
  · obtain ⟨h1, h2⟩ := h i h'
    refine ⟨?_, ?_⟩
    · rw [cellSetOtherS (by omega), cellSetOtherS (by omega)]; exact h1
    · rw [cellSetOtherS (by omega), cellSetOtherS (by omega)]; exact h2
  · obtain rfl : i = j := by omega
    refine ⟨?_, ?_⟩
    · rw [cellSetOtherS (by omega)]; exact hb.cellSet _ (by omega) _
    · exact (hb.set _ _).cellSet _ (by omega) _
theorem setOffS {w wr : World} {g j : Nat} {v : Value} (h : ∀ c, c < w.heap.size → c ≠ g → wr.heap[c]? = w.heap[c]?) : ∀ c, c < w.heap.size → c ≠ g → (wr.setCell ⟨g, j, none⟩ v).heap[c]? = w.heap[c]? := fun c hc hne => by
  rw [← h c hc hne]
  simp [World.setCell, Array.getElem?_modify, Ne.symm hne]
def MSdPost (g n k : Nat) (w : World) (e : Ending) (w' : World) : Prop := e = .returned (.int .i64 ((k + 2 * n : Nat) : Int)) ∧ MkSd w' g k n ∧ (∀ c, c < w.heap.size → c ≠ g → w'.heap[c]? = w.heap[c]?) ∧ Below 0 w w' ∧ SdBk w' g n
set_option maxHeartbeats 2000000 in
set_option maxRecDepth 100000 in
theorem markSides (g n cap k : Nat) (w : World) (h : SdBk w g n) (hn : n ≤ 1048576) (hk : k ≤ 1000000000) :
    Calls Tryd.prog 11 #[.slice (some ⟨g, 0, none⟩) n cap, .int .i64 (k : Int)] w fun e w' => MSdPost g n k w e w' := by
  have H0 : Hid (SdBk w g n) := h
  clear h
  have HQ : Hid (∀ e w', e = .returned (.int .i64 ((k + 2 * n : Nat) : Int)) → MkSd w' g k n → (∀ c, c < w.heap.size → c ≠ g → w'.heap[c]? = w.heap[c]?) → Below 0 w w' → SdBk w' g n → MSdPost g n k w e w') := fun e w' h1 h2 h3 h4 h5 => ⟨h1, h2, h3, h4, h5⟩
  generalize MSdPost g n k w = Q at HQ ⊢
  go_enter Tryd.func11, Tryd.ntmps11
  go_wp2_with fail
  go_loopw [1, 5] (fun m i wr => ∃ j : Nat, j ≤ n ∧ i = .int .i64 (j : Int) ∧ m = .int .i64 ((k + 2 * j : Nat) : Int) ∧ Hid (SdBk wr g n ∧ MkSd wr g k j ∧ (∀ c, c < w.heap.size → c ≠ g → wr.heap[c]? = w.heap[c]?) ∧ Below 0 w wr)) (fun _ i _ => n - (intOf i).toNat)
  case atStart => exact ⟨0, by omega, rfl, rfl, H0.out, fun i hi => by omega, fun c _ _ => rfl, Below.refl _ _⟩
  case round =>
    clear H0
    obtain ⟨j, hj, rfl, rfl, HS⟩ := hrel
    by_cases hlt : j < n
    · have hmk := markText (k + 2 * j) (by omega) wr
      have lj : (j : Int) < (n : Int) := by omega
      have lj0 : (0 : Int) ≤ (j : Int) := by omega
      have HK1 : Hid (j + 1 ≤ n) := hlt
      have hgl := HS.out.1.lt
      obtain ⟨m, hm⟩ : ∃ m, m = k + 2 * j := ⟨_, rfl⟩
      have HM : Hid (m = k + 2 * j) := hm
      have HM1 : Hid (((m : Int) + 1 + 1) = ((k + 2 * (j + 1) : Nat) : Int)) := by show _ = _; omega
      rw [← hm] at hmk ⊢
      have wk : IntKind.i64.wrap ((m : Int) + 1) = (m : Int) + 1 := by rw [IntKind.wrap_i64]; omega
      have wk2 : IntKind.i64.wrap ((m : Int) + 1 + 1) = (m : Int) + 1 + 1 := by rw [IntKind.wrap_i64]; omega
      have wj : IntKind.i64.wrap ((j : Int) + 1) = (j : Int) + 1 := by rw [IntKind.wrap_i64]; omega
      obtain ⟨r3, hr3⟩ : ∃ r3, r3 = (m + 1) % 3 := ⟨_, rfl⟩
      have ht1 : Int.tmod ((m : Int) + 1) 3 = (r3 : Int) := by rw [hr3]; rfl
      have ht2 : ((m : Int) + 1) % 3 = (r3 : Int) := by omega
      have hwr : IntKind.i64.wrap (r3 : Int) = (r3 : Int) := by rw [IntKind.wrap_i64]; omega
      have hbb : ((r3 : Int) == 0) = b3 (m + 1) := by rw [hr3]; exact b3_int (m + 1)
      clear hm hr3
      go_wp2_with fail
      refine hmk.mono ?_
      rintro e w1 ⟨rfl, b1⟩
      have HS1 : Hid (SdBk w1 g n) := HS.out.1.below b1 hgl
      obtain ⟨⟨v0, q0⟩, z0⟩ := HS1.out.cell (j * 2) (by omega)
      obtain ⟨⟨v1, q1⟩, z1⟩ := HS1.out.cell (j * 2 + 1) (by omega)
      have HC1 : Hid (MkSd w1 g k j) := HS.out.2.1.below b1 hgl
      have HU1 : Hid (∀ c, c < w.heap.size → c ≠ g → w1.heap[c]? = w.heap[c]?) := fun c hc hne => (b1.block c (Nat.lt_of_lt_of_le hc HS.out.2.2.2.size)).trans (HS.out.2.2.1 c hc hne)
      have HX1 : Hid (Below 0 w w1) := HS.out.2.2.2.trans (b1.mono (Nat.zero_le _))
      have HN : Hid (SdBk ((w1.setCell ⟨g, j * 2, none⟩ (.string (mkS m))).setCell ⟨g, j * 2 + 1, none⟩ (.bool (b3 (m + 1)))) g n ∧ MkSd ((w1.setCell ⟨g, j * 2, none⟩ (.string (mkS m))).setCell ⟨g, j * 2 + 1, none⟩ (.bool (b3 (m + 1)))) g k (j + 1) ∧ (∀ c, c < w.heap.size → c ≠ g → ((w1.setCell ⟨g, j * 2, none⟩ (.string (mkS m))).setCell ⟨g, j * 2 + 1, none⟩ (.bool (b3 (m + 1)))).heap[c]? = w.heap[c]?) ∧ Below 0 w ((w1.setCell ⟨g, j * 2, none⟩ (.string (mkS m))).setCell ⟨g, j * 2 + 1, none⟩ (.bool (b3 (m + 1))))) := by
        refine ⟨(HS1.out.set _ _).set _ _, ?_, setOffS (setOffS HU1.out), (HX1.out.setCell (p := ⟨g, j * 2, none⟩) (Nat.zero_le _) _).setCell (p := ⟨g, j * 2 + 1, none⟩) (Nat.zero_le _) _⟩
        have := HC1.out.step HS1.out hlt
        rw [← HM.out] at this
        exact this
      clear hmk HS HS1 HC1 HU1 HX1 b1
      generalize mkS m = ms at HN ⊢
      generalize b3 (m + 1) = bb at HN hbb
      go_wp2_with fail
      go_roundw
      case rel => exact ⟨j + 1, HK1.out, by go_num, by show Value.int .i64 _ = Value.int .i64 _; rw [HM1.out], HN⟩
      case measure => have := HK1.out; simp [intOf]; omega
    · obtain rfl : j = n := by omega
      go_wp2_with fail
      exact HQ.out _ _ rfl HS.out.2.1 HS.out.2.2.1 HS.out.2.2.2 HS.out.1

set_option maxHeartbeats 2000000 in
set_option maxRecDepth 100000 in
theorem heldSides (g n cap k : Nat) (w : World) (hg : g < w.heap.size) (h : MkSd w g k n) (hn : n ≤ 1048576) (hk : k ≤ 1000000000) :
    Calls Tryd.prog 12 #[.slice (some ⟨g, 0, none⟩) n cap, .int .i64 (k : Int)] w fun e w' => e = .returned (.int .i64 ((k + 2 * n : Nat) : Int)) ∧ Below w.heap.size w w' := by
  have H0 : Hid (MkSd w g k n) := h
  clear h
  obtain ⟨kn, hkn⟩ : ∃ kn, kn = k + 2 * n := ⟨_, rfl⟩
  rw [← hkn]
  have HKN : Hid (kn = k + 2 * n) := hkn
  clear hkn
  go_enter Tryd.func12, Tryd.ntmps12
  go_wp2_with fail
  go_loopw [1, 5] (fun m i wr => ∃ j : Nat, j ≤ n ∧ i = .int .i64 (j : Int) ∧ m = .int .i64 ((k + 2 * j : Nat) : Int) ∧ Hid (Below w.heap.size w wr)) (fun _ i _ => n - (intOf i).toNat)
  case atStart => exact ⟨0, by omega, rfl, rfl, Below.refl _ _⟩
  case round =>
    obtain ⟨j, hj, rfl, rfl, HB⟩ := hrel
    by_cases hlt : j < n
    · have HMK : Hid (MkSd wr g k n) := H0.out.below HB.out hg
      have HGR : Hid (g < wr.heap.size) := Nat.lt_of_lt_of_le hg HB.out.size
      have c0 := (HMK.out j hlt).1
      have lj : (j : Int) < (n : Int) := by omega
      have lj0 : (0 : Int) ≤ (j : Int) := by omega
      have HK1 : Hid (j + 1 ≤ n) := hlt
      have hmk := fun w' => markText (k + 2 * j) (by omega) w'
      obtain ⟨m, hm⟩ : ∃ m, m = k + 2 * j := ⟨_, rfl⟩
      have HM1 : Hid (((m : Int) + 1 + 1) = ((k + 2 * (j + 1) : Nat) : Int)) := by show _ = _; omega
      have HCC : Hid (∀ w', Below wr.heap.size wr w' → w'.cell? ⟨g, j * 2, none⟩ = some (.string (mkS m)) ∧ w'.cell? ⟨g, j * 2 + 1, none⟩ = some (.bool (b3 (m + 1)))) := fun w' hb => by
        have := HMK.out.below hb HGR.out j hlt
        rw [← hm] at this
        exact this
      rw [← hm] at hmk c0 ⊢
      have wk : IntKind.i64.wrap ((m : Int) + 1) = (m : Int) + 1 := by rw [IntKind.wrap_i64]; omega
      have wk2 : IntKind.i64.wrap ((m : Int) + 1 + 1) = (m : Int) + 1 + 1 := by rw [IntKind.wrap_i64]; omega
      have wj : IntKind.i64.wrap ((j : Int) + 1) = (j : Int) + 1 := by rw [IntKind.wrap_i64]; omega
      obtain ⟨r3, hr3⟩ : ∃ r3, r3 = (m + 1) % 3 := ⟨_, rfl⟩
      have ht1 : Int.tmod ((m : Int) + 1) 3 = (r3 : Int) := by rw [hr3]; rfl
      have ht2 : ((m : Int) + 1) % 3 = (r3 : Int) := by omega
      have hwr : IntKind.i64.wrap (r3 : Int) = (r3 : Int) := by rw [IntKind.wrap_i64]; omega
      have hbb : ((r3 : Int) == 0) = b3 (m + 1) := by rw [hr3]; exact b3_int (m + 1)
      generalize mkS m = ms at hmk c0 HCC
      generalize b3 (m + 1) = bb at HCC hbb
      clear hm hr3
      go_wp2_with fail
      go_region_with (go_at_call 22; refine (hmk _).mono ?_; rintro e w1 ⟨rfl, b1⟩; obtain ⟨q0, q1⟩ := HCC.out w1 ((Below.refl _ wr).drew.trans b1))
      all_goals
        have HB1 : Hid (Below w.heap.size w w1) := HB.out.drew.trans (b1.mono HB.out.size)
        clear b1 HCC HMK
        go_wp2_with fail
        go_roundw
        case rel => exact ⟨j + 1, HK1.out, by go_num, by show Value.int .i64 _ = Value.int .i64 _; rw [HM1.out], HB1⟩
        case measure => have := HK1.out; simp [intOf]; omega
    · obtain rfl : j = n := by omega
      have hv := HKN.out
      rw [← hv]
      go_wp2_with fail
      go_ret
      exact ⟨rfl, HB.out⟩
end Go.Proofs.YtnooadfgoccegaaDoor

set_option linter.unusedVariables false
namespace Go.Proofs.YtnooadfgoccegaaDoor
open Go.RowKit Go.Deep

theorem Sds.below {B : Nat} {v : Value} {l : List SideV} {w w' : World} (h : Sds B v l w) (hb : Below w.heap.size w w') : Sds B v l w' := by
  rcases h with h | ⟨g, cap, h1, h2, h3, h4⟩
  · exact .inl h
  · exact .inr ⟨g, cap, h1, h2.below hb h2.1, h3.below hb h3.lt, h4⟩
theorem Sds.mono {B C : Nat} {v : Value} {l : List SideV} {w : World} (h : Sds B v l w) (hc : C ≤ B) : Sds C v l w := by
  rcases h with h | ⟨g, cap, h1, h2, h3, h4⟩
  · exact .inl h
  · exact .inr ⟨g, cap, h1, h2, h3, Nat.le_trans hc h4⟩
/-- The block of a value that is a row. -/
def blkS : Value → Nat → Prop
  | .slice (some a) _ _, g => a.block = g
  | _, _ => False
theorem Sds.blk {B : Nat} {v : Value} {l : List SideV} {w : World} (h : Sds B v l w) {g : Nat} (hv : blkS v g) : g < w.heap.size ∧ B ≤ g := by
  rcases h with ⟨rfl, _⟩ | ⟨g', c', rfl, h2, _, h4⟩
  · exact absurd hv (by simp [blkS])
  · have : g' = g := hv
    subst this
    exact ⟨h2.1, h4⟩
theorem Sds.keep {B : Nat} {v : Value} {l : List SideV} {w w' : World} (h : Sds B v l w) (hs : w.heap.size ≤ w'.heap.size) (hk : ∀ g, blkS v g → w'.heap[g]? = w.heap[g]?) : Sds B v l w' := by
  rcases h with h | ⟨g, cap, rfl, h2, h3, h4⟩
  · exact .inl h
  · refine .inr ⟨g, cap, rfl, ⟨Nat.lt_of_lt_of_le h2.1 hs, fun i j hi hj => ?_⟩, h3.keep (hk g rfl), h4⟩
    have := h2.2 i j hi hj
    rw [← this]
    exact World.cell?_of_block (a := ⟨g, i * 2 + j, none⟩) (hk g rfl)
theorem sds_slice {B : Nat} {v : Value} {l : List SideV} {w : World} (h : Sds B v l w) : ∃ a n c, v = .slice a n c := by
  rcases h with ⟨rfl, _⟩ | ⟨g, cap, rfl, _⟩
  · exact ⟨_, _, _, rfl⟩
  · exact ⟨_, _, _, rfl⟩
theorem eqSidesNil (a b : Option Addr) (c d : Nat) (w : World) : Calls Tryd.prog 8 #[.slice a 0 c, .slice b 0 d] w fun e w' => e = .returned (.bool true) ∧ w' = w := by
  go_enter Tryd.func8, Tryd.ntmps8
  go_wp2_with fail
  go_loopw [5] (fun i wr => i = .int .i64 0 ∧ Hid (wr = w)) (fun _ _ => 0)
  case atStart => exact ⟨rfl, rfl⟩
  case round =>
    obtain ⟨rfl, HW⟩ := hrel
    go_wp2_with fail
    go_ret
    exact ⟨rfl, HW.out⟩
theorem sdsEq {B C : Nat} {u v : Value} {l : List SideV} {w : World} (h1 : Sds B u l w) (h2 : Sds C v l w) (hn : l.length ≤ 1048576) : Calls Tryd.prog 8 #[u, v] w fun e w' => e = .returned (.bool true) ∧ Below w.heap.size w w' := by
  have fin : ∀ (a b : Option Addr) (c d : Nat), Calls Tryd.prog 8 #[.slice a 0 c, .slice b 0 d] w fun e w' => e = .returned (.bool true) ∧ Below w.heap.size w w' := fun a b c d => (eqSidesNil a b c d w).mono fun e w' ⟨he, hw⟩ => ⟨he, by rw [hw]; exact Below.refl _ _⟩
  rcases h1 with ⟨rfl, hs⟩ | ⟨g1, c1, rfl, a1, b1, _⟩
  · rcases h2 with ⟨rfl, _⟩ | ⟨g2, c2, rfl, a2, b2, _⟩
    · exact fin none none 0 0
    · subst hs
      exact fin none (some ⟨g2, 0, none⟩) 0 c2
  · rcases h2 with ⟨rfl, hs⟩ | ⟨g2, c2, rfl, a2, b2, _⟩
    · subst hs
      exact fin (some ⟨g1, 0, none⟩) none c1 0
    · exact eqSides g1 g2 l.length c1 c2 l w a1 a2 rfl (by omega)
theorem markSidesNil (k : Nat) (w : World) : Calls Tryd.prog 11 #[.slice none 0 0, .int .i64 (k : Int)] w fun e w' => e = .returned (.int .i64 (k : Int)) ∧ w' = w := by
  go_enter Tryd.func11, Tryd.ntmps11
  go_wp2_with fail
  go_loopw [1, 5] (fun m i wr => m = .int .i64 (k : Int) ∧ i = .int .i64 0 ∧ Hid (wr = w)) (fun _ _ _ => 0)
  case atStart => exact ⟨rfl, rfl, rfl⟩
  case round =>
    obtain ⟨rfl, rfl, HW⟩ := hrel
    go_wp2_with fail
    go_ret
    exact ⟨rfl, HW.out⟩
theorem heldSidesNil (k : Nat) (w : World) : Calls Tryd.prog 12 #[.slice none 0 0, .int .i64 (k : Int)] w fun e w' => e = .returned (.int .i64 (k : Int)) ∧ w' = w := by
  go_enter Tryd.func12, Tryd.ntmps12
  go_wp2_with fail
  go_loopw [1, 5] (fun m i wr => m = .int .i64 (k : Int) ∧ i = .int .i64 0 ∧ Hid (wr = w)) (fun _ _ _ => 0)
  case atStart => exact ⟨rfl, rfl, rfl⟩
  case round =>
    obtain ⟨rfl, rfl, HW⟩ := hrel
    go_wp2_with fail
    go_ret
    exact ⟨rfl, HW.out⟩
/-- A list of sides that holds its marks from k on. -/
def HeldS (v : Value) (n k : Nat) (w : World) : Prop := (v = .slice none 0 0 ∧ n = 0) ∨ ∃ g cap, v = .slice (some ⟨g, 0, none⟩) n cap ∧ g < w.heap.size ∧ MkSd w g k n
theorem HeldS.below {v : Value} {n k : Nat} {w w' : World} (h : HeldS v n k w) (hb : Below w.heap.size w w') : HeldS v n k w' := by
  rcases h with h | ⟨g, cap, h1, h2, h3⟩
  · exact .inl h
  · exact .inr ⟨g, cap, h1, Nat.lt_of_lt_of_le h2 hb.size, h3.below hb h2⟩
theorem sdsMark {B : Nat} {v : Value} {l : List SideV} {w : World} (k : Nat) (hk : k ≤ 1000000000) (h : Sds B v l w) (hn : l.length ≤ 1048576) : Calls Tryd.prog 11 #[v, .int .i64 (k : Int)] w fun e w' => e = .returned (.int .i64 ((k + 2 * l.length : Nat) : Int)) ∧ HeldS v l.length k w' ∧ Below 0 w w' ∧ ∀ b, b < w.heap.size → ¬ blkS v b → w'.heap[b]? = w.heap[b]? := by
  rcases h with ⟨rfl, rfl⟩ | ⟨g, cap, rfl, a, b, hB⟩
  · exact (markSidesNil k w).mono fun e w' ⟨he, hw⟩ => ⟨he, .inl ⟨rfl, rfl⟩, by rw [hw]; exact Below.refl _ _, fun b _ _ => by rw [hw]⟩
  · refine (markSides g l.length cap k w b (by omega) hk).mono ?_
    rintro e w' ⟨rfl, hc, hu, hfr, hb⟩
    exact ⟨rfl, .inr ⟨g, cap, rfl, hb.lt, hc⟩, hfr, fun c hc1 hc2 => hu c hc1 (fun he => hc2 (by rw [he]; rfl))⟩
theorem sdsHeld {v : Value} {n k : Nat} {w : World} (h : HeldS v n k w) (hn : n ≤ 1048576) (hk : k ≤ 1000000000) : Calls Tryd.prog 12 #[v, .int .i64 (k : Int)] w fun e w' => e = .returned (.int .i64 ((k + 2 * n : Nat) : Int)) ∧ Below w.heap.size w w' := by
  rcases h with ⟨rfl, rfl⟩ | ⟨g, cap, rfl, hg, hc⟩
  · exact (heldSidesNil k w).mono fun e w' ⟨he, hw⟩ => ⟨he, by rw [hw]; exact Below.refl _ _⟩
  · exact heldSides g n cap k w hg hc (by omega) hk
theorem rproofL_len (ss : List ByteArray) (x : Int) : (rproofL ss x).length ≤ 1048576 := by
  unfold rproofL
  split
  · rename_i h
    have h1 := itemsOk_len h.1
    have h2 := sidesR_len ss.length (ss.map rootItemB) x.toNat (by rw [List.length_map]; omega)
    rw [List.length_map] at h2
    omega
  · exact Nat.zero_le _
end Go.Proofs.YtnooadfgoccegaaDoor

set_option linter.unusedVariables false
namespace Go.Proofs.YtnooadfgoccegaaDoor
open Go.RowKit Go.Deep

def ButT (b : Nat) (w w' : World) : Prop := w.heap.size ≤ w'.heap.size ∧ ∀ c, c < w.heap.size → c ≠ b → w'.heap[c]? = w.heap[c]?
theorem ButT.refl (b : Nat) (w : World) : ButT b w w := ⟨Nat.le_refl _, fun _ _ _ => rfl⟩
theorem ButT.trans {b : Nat} {u v w : World} (h : ButT b u v) (k : ButT b v w) : ButT b u w :=
  ⟨Nat.le_trans h.1 k.1, fun c hc hb => (k.2 c (Nat.lt_of_lt_of_le hc h.1) hb).trans (h.2 c hc hb)⟩
theorem Below.butT {b : Nat} {w w' : World} (h : Below w.heap.size w w') : ButT b w w' := ⟨h.size, fun c hc _ => h.block c hc⟩
/-- A block of texts that may be written. -/
def TBk (w : World) (g n : Nat) : Prop := ∃ cur : Array Value, w.heap[g]? = some (.cells cur 9 (0, 0)) ∧ n ≤ cur.size ∧ ∀ i, i < n → ∃ s, cur[i]? = some (.string s)
theorem TBk.lt {w : World} {g n : Nat} (h : TBk w g n) : g < w.heap.size := by
  obtain ⟨cur, h1, _⟩ := h
  rcases Nat.lt_or_ge g w.heap.size with h' | h'
  · exact h'
  · simp [Array.getElem?_eq_none h'] at h1
theorem TBk.keep {w w' : World} {g n : Nat} (h : TBk w g n) (hk : w'.heap[g]? = w.heap[g]?) : TBk w' g n := by
  obtain ⟨cur, h1, h2⟩ := h
  exact ⟨cur, hk.trans h1, h2⟩
theorem TBk.below {w w' : World} {g n B : Nat} (h : TBk w g n) (hb : Below B w w') (hg : g < B) : TBk w' g n := h.keep (hb.block g hg)
theorem TBk.cell {w : World} {g n : Nat} (h : TBk w g n) (i : Nat) (hi : i < n) : (∃ s, w.cell? ⟨g, i, none⟩ = some (.string s)) ∧ w.frozen? ⟨g, i, none⟩ = false := by
  obtain ⟨cur, h1, h2, h3⟩ := h
  exact ⟨by rw [Lib.cell_of_heap h1]; exact h3 i hi, Lib.frozen_of_heap h1 i⟩
theorem TBk.set {w : World} {g n : Nat} (h : TBk w g n) (i : Nat) (s : ByteArray) : TBk (w.setCell ⟨g, i, none⟩ (.string s)) g n := by
  obtain ⟨cur, h1, h2, h3⟩ := h
  refine ⟨cur.setIfInBounds i (.string s), ?_, by simpa using h2, fun j hj => ?_⟩
  · simp [World.setCell, Array.getElem?_modify, h1]
  · rw [Array.getElem?_setIfInBounds]
    split
    · split
      · exact ⟨s, rfl⟩
      · omega
    · exact h3 j hj
theorem TBk.of {w : World} {g : Nat} {l : List ByteArray} (h : RowS w g l) : TBk w g l.length :=
  ⟨_, h, by simp [sCells], fun i hi => ⟨l[i], by simp [sCells, hi]⟩⟩
theorem cell_set_otherT {w : World} {g i j : Nat} {v : Value} (h : i ≠ j) : (w.setCell ⟨g, i, none⟩ v).cell? ⟨g, j, none⟩ = w.cell? ⟨g, j, none⟩ := by
  simp [World.setCell, World.cell?, Array.getElem?_modify]
  cases hh : w.heap[g]? with
  | none => simp
  | some o => cases o <;> simp [h]

/-- What writing marks into a list of texts leaves. -/
def MTPost (g n k : Nat) (w : World) (e : Ending) (w' : World) : Prop := e = .returned (.int .i64 ((k + n : Nat) : Int)) ∧ TBk w' g n ∧ (∀ i, i < n → w'.cell? ⟨g, i, none⟩ = some (.string (mkS (k + i)))) ∧ ButT g w w' ∧ (∀ m, TBk w g m → TBk w' g m) ∧ Below 0 w w'
set_option maxHeartbeats 1000000 in
set_option maxRecDepth 100000 in
theorem markTxs (g n cap k : Nat) (w : World) (h : TBk w g n) (hn : n ≤ 1000000000000) (hk : k ≤ 100000000000000000) :
    Calls Tryd.prog 10 #[.slice (some ⟨g, 0, none⟩) n cap, .int .i64 (k : Int)] w fun e w' => MTPost g n k w e w' := by
  have H0 : Hid (TBk w g n) := h
  clear h
  have HQ : Hid (∀ e w', e = .returned (.int .i64 ((k + n : Nat) : Int)) → TBk w' g n → (∀ i, i < n → w'.cell? ⟨g, i, none⟩ = some (.string (mkS (k + i)))) → ButT g w w' → (∀ m, TBk w g m → TBk w' g m) → Below 0 w w' → MTPost g n k w e w') := fun e w' h1 h2 h3 h4 h5 h6 => ⟨h1, h2, h3, h4, h5, h6⟩
  generalize MTPost g n k w = Q at HQ ⊢
  go_enter Tryd.func10, Tryd.ntmps10
  go_wp2_with fail
  go_loopw [1, 5] (fun m i wr => ∃ j : Nat, j ≤ n ∧ i = .int .i64 (j : Int) ∧ m = .int .i64 ((k + j : Nat) : Int) ∧ Hid (TBk wr g n ∧ (∀ i, i < j → wr.cell? ⟨g, i, none⟩ = some (.string (mkS (k + i)))) ∧ ButT g w wr ∧ (∀ m, TBk w g m → TBk wr g m) ∧ Below 0 w wr)) (fun _ i _ => n - (intOf i).toNat)
  case atStart => exact ⟨0, by omega, rfl, rfl, H0.out, fun i hi => by omega, ButT.refl _ _, fun m h => h, Below.refl _ _⟩
  case round =>
    clear H0
    obtain ⟨j, hj, rfl, rfl, HS⟩ := hrel
    by_cases hlt : j < n
    · have hmk := markText (k + j) (by omega) wr
      have lj : (j : Int) < (n : Int) := by omega
      have lj0 : (0 : Int) ≤ (j : Int) := by omega
      have HK1 : Hid (j + 1 ≤ n) := hlt
      have hgl := HS.out.1.lt
      obtain ⟨m, hm⟩ : ∃ m, m = k + j := ⟨_, rfl⟩
      have HM : Hid (m = k + j) := hm
      have HM1 : Hid (((m : Int) + 1) = ((k + (j + 1) : Nat) : Int)) := by show _ = _; omega
      rw [← hm] at hmk ⊢
      have wk : IntKind.i64.wrap ((m : Int) + 1) = (m : Int) + 1 := by rw [IntKind.wrap_i64]; omega
      have wj : IntKind.i64.wrap ((j : Int) + 1) = (j : Int) + 1 := by rw [IntKind.wrap_i64]; omega
      clear hm
      go_wp2_with fail
      refine hmk.mono ?_
      rintro e w1 ⟨rfl, b1⟩
      have HS1 : Hid (TBk w1 g n) := HS.out.1.below b1 hgl
      obtain ⟨⟨so, q0⟩, z0⟩ := HS1.out.cell j hlt
      have HC1 : Hid (∀ i, i < j → w1.cell? ⟨g, i, none⟩ = some (.string (mkS (k + i)))) := fun i hi => (b1.cell (p := ⟨g, i, none⟩) hgl).trans (HS.out.2.1 i hi)
      have HU1 : Hid (ButT g w w1) := HS.out.2.2.1.trans (Below.butT b1)
      have HW1 : Hid (∀ m, TBk w g m → TBk w1 g m) := fun m h => (HS.out.2.2.2.1 m h).below b1 hgl
      have HX1 : Hid (Below 0 w w1) := HS.out.2.2.2.2.trans (b1.mono (Nat.zero_le _))
      have HN : Hid (TBk (w1.setCell ⟨g, j, none⟩ (.string (mkS m))) g n ∧ (∀ i, i < j + 1 → (w1.setCell ⟨g, j, none⟩ (.string (mkS m))).cell? ⟨g, i, none⟩ = some (.string (mkS (k + i)))) ∧ ButT g w (w1.setCell ⟨g, j, none⟩ (.string (mkS m))) ∧ (∀ q, TBk w g q → TBk (w1.setCell ⟨g, j, none⟩ (.string (mkS m))) g q) ∧ Below 0 w (w1.setCell ⟨g, j, none⟩ (.string (mkS m)))) := by
        refine ⟨HS1.out.set j _, fun i hi => ?_, ?_, fun q hq => (HW1.out q hq).set j _, HX1.out.setCell (p := ⟨g, j, none⟩) (Nat.zero_le _) _⟩
        · rcases Nat.lt_or_ge i j with h' | h'
          · rw [cell_set_otherT (by omega)]
            exact HC1.out i h'
          · obtain rfl : i = j := by omega
            obtain ⟨cur, h1, h2, _⟩ := HS1.out
            have : (w1.setCell ⟨g, i, none⟩ (.string (mkS m))).heap[g]? = some (.cells (cur.setIfInBounds i (.string (mkS m))) 9 (0, 0)) := by simp [World.setCell, Array.getElem?_modify, h1]
            rw [Lib.cell_of_heap this, HM.out]
            simp [show i < cur.size by omega]
        · refine ⟨Nat.le_trans HU1.out.1 ((Below.refl 0 w1).setCell (p := ⟨g, j, none⟩) (Nat.zero_le _) _).size, fun c hc hne => ?_⟩
          rw [← HU1.out.2 c hc hne]
          simp [World.setCell, Array.getElem?_modify, Ne.symm hne]
      clear hmk HS HS1 HC1 HU1 HW1 HX1 b1
      generalize mkS m = ms at HN ⊢
      go_wp2_with fail
      go_roundw
      case rel => exact ⟨j + 1, HK1.out, by go_num, by show Value.int .i64 _ = Value.int .i64 _; rw [HM1.out], HN⟩
      case measure => have := HK1.out; simp [intOf]; omega
    · obtain rfl : j = n := by omega
      go_wp2_with fail
      exact HQ.out _ _ rfl HS.out.1 HS.out.2.1 HS.out.2.2.1 HS.out.2.2.2.1 HS.out.2.2.2.2

end Go.Proofs.YtnooadfgoccegaaDoor

set_option linter.unusedVariables false
namespace Go.Proofs.YtnooadfgoccegaaDoor
open Go.RowKit Go.Deep

set_option maxHeartbeats 8000000 in
set_option maxRecDepth 100000 in
theorem walk_FnExactRootProof (a0 : Option Addr) (len0 cap0 : Nat) (z0 : List ByteArray) (x : Int) (w : World) (h0 : IsTexts w a0 len0 cap0 z0) (hK : RowG w shaK) :
    Calls Tryd.prog 3 #[.slice a0 len0 cap0, .int .i64 x] w fun e w' => e = .returned (.bool true) ∧ Below w.heap.size w w' := by
  have H0 : Hid (IsTexts w a0 len0 cap0 z0) := h0
  have HLn : Hid (len0 = (z0.take len0).length) := h0.len
  have HIM : Hid (∀ g w1, AtS w1 g (z0.take len0) → Below w.heap.size w w1 → Calls Tryd.prog 7 #[.slice (some ⟨g, 0, none⟩) len0 len0, .int .i64 x] w1 fun e w' => RpPost (z0.take len0) x w1 e w') := fun g w1 hr hb =>
    implRootProof g len0 len0 (z0.take len0) x w1 hr HLn.out (hK.below hb hK.lt)
  have HSP : Hid (len0 ≤ 1048576 → (∀ i, i < (z0.take len0).length → ((z0.take len0).getD i ByteArray.empty).size ≤ 1048576) → ∀ g w1, AtS w1 g (z0.take len0) → Calls Tryd.prog 5 #[.slice (some ⟨g, 0, none⟩) len0 len0, .int .i64 x] w1 fun e w' => RpPost (z0.take len0) x w1 e w') := fun hl hs g w1 hr =>
    specRootProof g len0 len0 (z0.take len0) x w1 hr HLn.out hl hs
  have HML : Hid ((rproofL (z0.take len0) x).length ≤ 1048576) := rproofL_len _ x
  unfold RpPost at HSP HIM
  generalize rproofL (z0.take len0) x = l at HSP HIM HML
  clear h0 hK
  go_enter Tryd.func3, Tryd.ntmps3
  go_wp2_with fail
  refine (szStrs a0 len0 cap0 z0 w H0.out).mono ?_
  rintro e w1 ⟨rfl, rfl | ⟨r, rfl, hl2, hsz⟩⟩
  · clear HSP HIM
    go_wp2_with fail
    go_ret
    exact ⟨rfl, Below.refl _ _⟩
  have HSZ : ∀ i, i < (z0.take len0).length → ((z0.take len0).getD i ByteArray.empty).size ≤ 1048576 := by
    intro i hi
    have hil : i < len0 := by rw [HLn.out]; exact hi
    have := hsz i hil
    rw [List.getD_eq_getElem?_getD, List.getElem?_take_of_lt hil, ← List.getD_eq_getElem?_getD]
    exact this
  have HSP1 : Hid _ := HSP.out hl2 HSZ
  have HTO : Hid (∀ w1, Below w.heap.size w w1 → Calls Tryd.prog 6 #[.slice a0 len0 cap0] w1 fun e w' => e = .returned (.slice (some ⟨w1.heap.size, 0, none⟩) len0 len0) ∧ RowS w' w1.heap.size (z0.take len0) ∧ Below w1.heap.size w1 w') := fun w1 hb => toStrs a0 len0 cap0 z0 w1 w H0.out hb hl2
  have hl3 : len0 ≤ 1073741824 := by omega
  clear hsz HSP HSZ H0
  go_wp2_with fail
  refine (HTO.out _ (Below.refl _ w)).mono ?_
  rintro e w3 ⟨rfl, r3, b3⟩
  have B3 : Hid (Below w.heap.size w w3) := b3
  have hsp := HSP1.out _ _ r3.at
  clear b3 r3 HSP1
  go_wp2_with fail
  refine Calls.mono hsp ?_
  rintro e w5 ⟨v5, rfl, p5, b5⟩
  have B5 : Hid (Below w.heap.size w w5) := B3.out.trans (b5.mono B3.out.size)
  have P5 : Hid (Sds 0 v5 l w5) := p5.mono (Nat.zero_le _)
  clear B3 b5 p5 hsp
  go_wp2_with fail
  refine (HTO.out _ B5.out).mono ?_
  rintro e w7 ⟨rfl, r7, b7⟩
  have HV5 : Hid (∀ g, blkS v5 g → g < w5.heap.size) := fun g hg => (P5.out.blk hg).1
  have HG5 : Hid (w.heap.size ≤ w5.heap.size) := B5.out.size
  have B7 : Hid (Below w.heap.size w w7) := B5.out.trans (b7.mono B5.out.size)
  have P7 : Hid (Sds 0 v5 l w7) := P5.out.below b7
  obtain ⟨g8, hg8⟩ : ∃ g8, g8 = w5.heap.size := ⟨_, rfl⟩
  rw [← hg8] at r7 HV5 HG5 ⊢
  clear hg8
  have R7 : Hid (RowS w7 g8 (z0.take len0)) := r7
  have him := HIM.out _ _ r7.at B7.out
  clear B5 P5 b7 r7
  go_wp2_with fail
  refine Calls.mono him ?_
  rintro e w8 ⟨v8, rfl, p8, b8⟩
  have A8 : Hid (Below w.heap.size w w8) := B7.out.trans (b8.mono B7.out.size)
  have P8 : Hid (Sds 0 v5 l w8) := P7.out.below b8
  have R8 : Hid (RowS w8 g8 (z0.take len0)) := R7.out.below b8 R7.out.lt
  have Q8 : Hid (Sds (g8 + 1) v8 l w8) := p8.mono R7.out.lt
  clear B7 P7 R7 b8 p8 him
  go_wp2_with fail
  refine (sdsEq Q8.out P8.out HML.out).mono ?_
  rintro e w9 ⟨rfl, b9⟩
  have A9 : Hid (Below w.heap.size w w9) := A8.out.trans (b9.mono A8.out.size)
  have P9 : Hid (Sds 0 v5 l w9) := P8.out.below b9
  have R9 : Hid (RowS w9 g8 (z0.take len0)) := R8.out.below b9 R8.out.lt
  have Q9 : Hid (Sds (g8 + 1) v8 l w9) := Q8.out.below b9
  clear A8 P8 R8 b9 Q8
  go_wp2_with fail
  refine (HTO.out _ A9.out).mono ?_
  rintro e w10 ⟨rfl, r10, b10⟩
  have A10 : Hid (Below w.heap.size w w10) := A9.out.trans (b10.mono A9.out.size)
  have P10 : Hid (Sds 0 v5 l w10) := P9.out.below b10
  have R10 : Hid (RowS w10 g8 (z0.take len0)) := R9.out.below b10 R9.out.lt
  have Q10 : Hid (Sds (g8 + 1) v8 l w10) := Q9.out.below b10
  have heq := eqStrs g8 w9.heap.size len0 len0 len0 (z0.take len0) w10 R10.out.at r10.at HLn.out hl3
  clear A9 P9 R9 b10 Q9 r10
  go_wp2_with fail
  refine heq.mono ?_
  rintro e w11 ⟨rfl, b11⟩
  have A11 : Hid (Below w.heap.size w w11) := A10.out.trans (b11.mono A10.out.size)
  have P11 : Hid (Sds 0 v5 l w11) := P10.out.below b11
  have R11 : Hid (RowS w11 g8 (z0.take len0)) := R10.out.below b11 R10.out.lt
  have Q11 : Hid (Sds (g8 + 1) v8 l w11) := Q10.out.below b11
  have hmk := markTxs g8 len0 len0 1 w11 (by have := TBk.of R11.out; rw [← HLn.out] at this; exact this) (by omega) (by decide)
  clear A10 P10 R10 b11 Q10 heq
  go_wp2_with fail
  refine hmk.mono ?_
  rintro e w12 ⟨rfl, _, _, k12, _, f12⟩
  have A12 : Hid (Below w.heap.size w w12) := A11.out.trans ⟨f12.os, f12.tape, f12.output, f12.size, fun c hc => k12.2 c (Nat.lt_of_lt_of_le hc A11.out.size) (by have := HG5.out; omega)⟩
  have P12 : Hid (Sds 0 v5 l w12) := P11.out.keep f12.size (fun g hg => k12.2 g (P11.out.blk hg).1 (by have := HV5.out g hg; omega))
  have Q12 : Hid (Sds (g8 + 1) v8 l w12) := Q11.out.keep f12.size (fun g hg => k12.2 g (Q11.out.blk hg).1 (by have := (Q11.out.blk hg).2; omega))
  clear A11 P11 R11 Q11 hmk k12 f12
  obtain ⟨kk, hkk⟩ : ∃ kk, kk = 1 + len0 := ⟨_, rfl⟩
  rw [← hkk]
  clear hkk
  have hk0 : ¬ (kk : Int) < 0 := by omega
  go_wp2_with fail
  refine (sdsEq Q12.out P12.out HML.out).mono ?_
  rintro e w13 ⟨rfl, b13⟩
  have A13 : Hid (Below w.heap.size w w13) := A12.out.trans (b13.mono A12.out.size)
  have P13 : Hid (Sds 0 v5 l w13) := P12.out.below b13
  have Q13 : Hid (Sds (g8 + 1) v8 l w13) := Q12.out.below b13
  have hmk := sdsMark 1 (by decide) Q13.out HML.out
  have e1 : ((1 : Nat) : Int) = 1 := rfl
  rw [e1] at hmk
  clear A12 P12 b13 Q12 hk0 e1
  obtain ⟨mm, hmm⟩ : ∃ mm, mm = 1 + 2 * l.length := ⟨_, rfl⟩
  rw [← hmm] at hmk
  have HMM : Hid (mm = 1 + 2 * l.length) := hmm
  clear hmm
  go_wp2_with fail
  refine hmk.mono ?_
  rintro e w14 ⟨rfl, hh14, f14, k14⟩
  have hold : ∀ c, c ≤ g8 → c < w13.heap.size → w14.heap[c]? = w13.heap[c]? := fun c hc hlt => k14 c hlt (fun hb => by have := (Q13.out.blk hb).2; omega)
  have A14 : Hid (Below w.heap.size w w14) := A13.out.trans ⟨f14.os, f14.tape, f14.output, f14.size, fun c hc => hold c (by have := HG5.out; omega) (Nat.lt_of_lt_of_le hc A13.out.size)⟩
  have P14 : Hid (Sds 0 v5 l w14) := P13.out.keep f14.size (fun g hg => hold g (by have := HV5.out g hg; omega) (P13.out.blk hg).1)
  have H14 : Hid (HeldS v8 l.length 1 w14) := hh14
  have hhe := sdsHeld hh14 HML.out (by decide)
  rw [← HMM.out] at hhe
  have e1 : ((1 : Nat) : Int) = 1 := rfl
  rw [e1] at hhe
  clear A13 P13 Q13 hmk hh14 f14 k14 hold e1
  go_wp2_with fail
  refine hhe.mono ?_
  rintro e w15 ⟨rfl, b15⟩
  have A15 : Hid (Below w.heap.size w w15) := A14.out.trans (b15.mono A14.out.size)
  have P15 : Hid (Sds 0 v5 l w15) := P14.out.below b15
  have H15 : Hid (HeldS v8 l.length 1 w15) := H14.out.below b15
  have hm0 : ¬ (mm : Int) < 0 := by omega
  clear A14 P14 H14 b15 hhe
  go_wp2_with fail
  refine (HTO.out _ A15.out).mono ?_
  rintro e w16 ⟨rfl, r16, b16⟩
  have A16 : Hid (Below w.heap.size w w16) := A15.out.trans (b16.mono A15.out.size)
  have P16 : Hid (Sds 0 v5 l w16) := P15.out.below b16
  have H16 : Hid (HeldS v8 l.length 1 w16) := H15.out.below b16
  have him := HIM.out _ _ r16.at A16.out
  clear A15 P15 H15 b16 r16
  go_wp2_with fail
  refine Calls.mono him ?_
  rintro e w18 ⟨v18, rfl, p18, b18⟩
  have A18 : Hid (Below w.heap.size w w18) := A16.out.trans (b18.mono A16.out.size)
  have P18 : Hid (Sds 0 v5 l w18) := P16.out.below b18
  have H18 : Hid (HeldS v8 l.length 1 w18) := H16.out.below b18
  have heq := sdsEq p18 P18.out HML.out
  clear A16 P16 H16 b18 p18 him
  go_wp2_with fail
  refine heq.mono ?_
  rintro e w19 ⟨rfl, b19⟩
  have A19 : Hid (Below w.heap.size w w19) := A18.out.trans (b19.mono A18.out.size)
  have hhe := sdsHeld (H18.out.below b19) HML.out (by decide)
  rw [← HMM.out] at hhe
  have e1 : ((1 : Nat) : Int) = 1 := rfl
  rw [e1] at hhe
  clear A18 P18 H18 b19 heq e1
  go_wp2_with fail
  refine hhe.mono ?_
  rintro e w20 ⟨rfl, b20⟩
  have A20 : Hid (Below w.heap.size w w20) := A19.out.trans (b20.mono A19.out.size)
  clear A19 b20 hhe
  go_wp2_with fail
  go_ret
  exact ⟨rfl, A20.out⟩

end Go.Proofs.YtnooadfgoccegaaDoor

namespace Go.Proofs.YtnooadfgoccegaaDoor
open Go.ChangeShapes Go.WideShapes Go.ChangeAt Go.RowKit
open Go.ChangeMaps (open_string shut_string)
set_option linter.unusedVariables false

theorem own_fnExactRootProof : ownKnob Tryd.prog.godebug = none := by kernel_rfl
theorem laid_fnExactRootProof : laidOutB Tryd.prog = true := by kernel_rfl
theorem table_fnExactRootProof {W : World} (h : laidMetH Tryd.prog Rows.fnExactRootProofRow.laid W) : RowG W shaK := rowG_of_laid h

theorem met_fnExactRootProof (os : Os) : laidMet Tryd.prog Rows.fnExactRootProofRow.laid ((laidWorld os).forCall (fun _ _ => 0) ⟨#[], #[.slice none 0 0, .int .i64 0], []⟩).memory :=
  laidMet_of_run' 8 (by kernel_rfl) (by kernel_rfl)
theorem reads_fnExactRootProof (os : Os) {H : Type} (enc : TypeId × Value → H) : ∃ places, DataW.whole enc Tryd.prog ((laidWorld os).forCall (fun _ _ => 0) ⟨#[], #[.slice none 0 0, .int .i64 0], []⟩).memory Tryd.f3.params.toList Rows.fnExactRootProofSpec.vars false (#[.slice none 0 0, .int .i64 0] : Array Value).toList 8 = some ([.nil, .lit (.int .i64 0)], [Rows.laid_loop_example_cordillera_impl_sumRounds], places) :=
  ⟨MemPlace.row ⟨0, 0, none⟩ 64, by kernel_rfl⟩

set_option maxRecDepth 100000 in
theorem lifted_fnExactRootProof (os : Os) (started : os.Started) (H : Type) (enc : TypeId × Value → H) (F : Stop.Interp) :
    ReturnsInHanded {} Tryd.checked os 3 .any ((OpenSpec.ofChange Rows.fnExactRootProofSpec).preRow enc Tryd.prog Tryd.f3 Rows.fnExactRootProofRow.domain false Rows.fnExactRootProofRow.laid) (((OpenSpec.ofChange Rows.fnExactRootProofSpec).at F).post enc Tryd.prog Tryd.f3 false true false false) := by
  obtain ⟨places, hx⟩ := reads_fnExactRootProof os enc
  refine returnsInHanded_of_row (C := Tryd.checked) (s := OpenSpec.ofChange Rows.fnExactRootProofSpec) own_fnExactRootProof started (by kernel_rfl) Tryd.func3
    (witness_row_at (enc := enc) (C := Tryd.checked) false (laidWorld os) #[.slice none 0 0, .int .i64 0] rfl (by kernel_rfl) (by kernel_rfl) (by kernel_rfl)
      (OpenSpec.preRow_of_cond 8 hx (by kernel_rfl) (fun k hk => by cases hk) (by kernel_rfl) (met_fnExactRootProof os))) ?_
  intro W base args ds gs before hval0 hW _ _ _ hL _ _
  have hval : ∀ (j : Nat) t v, Tryd.f3.params[j]? = some t → args[j]? = some v → Value.okWide Tryd.prog W .any base t v := hval0
  have hW' := hW
  obtain ⟨p, q, hA0, hV, rfl, hfz, hnd⟩ := hW
  have hA : DataW.TrodAll enc Tryd.prog W 0 (fun _ => true) true Tryd.f3.params.toList args.toList ds p := hA0
  rw [Tryd.params3] at hA hval
  obtain ⟨v0, vs0, d0, ds0, p0, q0, hargs, rfl, rfl, h0, r0⟩ := trodAll_cons hA
  obtain ⟨v1, vs1, d1, ds1, p1, q1, rfl, rfl, rfl, h1, r1⟩ := trodAll_cons r0
  obtain ⟨rfl, rfl, rfl⟩ := trodAll_nil r1
  obtain rfl : args = #[v0, v1] := by cases args; simp_all
  obtain ⟨gv, tv, cv, fv, dv, pv, rfl, hgv, htv, hvv, hdv, rfl⟩ := trodVars_one hV
  obtain ⟨a0, len0, cap0, rfl⟩ := okWide_slice Tryd.underlying22 (hval 0 22 v0 rfl rfl)
  have k0 := h0
  have lt0 : ∀ x ∈ p0, x.block < W.heap.size := by obtain ⟨m, hm⟩ := k0; exact DataW.trod_lt m _ _ _ hm
  obtain ⟨z0, w0⟩ : ∃ zs, IsTexts W a0 len0 cap0 zs := by
    obtain ⟨fuel, hf⟩ := h0
    rcases open_strings Tryd.underlying22 Tryd.underlying9 (by kernel_rfl) hf with ⟨hcs, _⟩ | ⟨x, l, c, zs, hcs, _, hl, hm, hz, _, hcell, hwz⟩
    · simp [Value.cells] at hcs
      obtain ⟨rfl, rfl, rfl⟩ := hcs
      exact ⟨[], .inl ⟨rfl, rfl, rfl, rfl⟩⟩
    · simp [Value.cells] at hcs
      obtain ⟨rfl, rfl, rfl⟩ := hcs
      exact ⟨zs, .inr ⟨_, rfl, hl, hm, by simpa using hz, hcell, hwz⟩⟩
  obtain ⟨a1, rfl, rfl, rfl, w1⟩ := open_int Tryd.underlying3 (hval 1 3 v1 rfl rfl) h1
  clear hA0 hval0
  refine (walk_FnExactRootProof a0 len0 cap0 z0 a1 W w0 (table_fnExactRootProof hL)).mono fun e W' ⟨he, bel⟩ => ?_
  subst he
  obtain ⟨pv', hpv⟩ := varsBack laid_fnExactRootProof hgv htv hvv hdv bel
  exact ⟨_, rfl, _, _, _, [], _, pv', hW', trodAll_mk1 (shut_bool Tryd.underlying4 _), (trodAll_cons_mk (Below.trod laid_fnExactRootProof (by kernel_rfl) (of_decide_eq_true (by kernel_rfl)) k0 bel lt0) (trodAll_cons_mk (shut_int Tryd.underlying3 w1) trodAll_mk0)), hpv, bel.frame _, fun h => by cases h⟩

theorem fnExactRootProof_said : Rows.FnExactRootProofSaid :=
  OpenClaim.holds_of_cond 3 Tryd.f3 rfl rfl rfl rfl rfl rfl rfl ⟨rfl, rfl, rfl, rfl, rfl⟩ rfl rfl rfl rfl rfl (by kernel_rfl) Tryd.func3 (by kernel_rfl)
    (of_decide_eq_true (by kernel_rfl)) (by unfold Func.isWrapper; first | (rw [if_pos (by decide +kernel)]; kernel_rfl) | (rw [if_neg (by decide +kernel)]; exact ⟨rfl, rfl⟩))
    (fun os started H enc _ F => by rw [OpenClaim.pre_eq_preRow]; exact lifted_fnExactRootProof os started H enc F)
theorem plain_fnExactRootProof (f : FuncId) (fn : Func) (hf : Tryd.pinned.checked.prog.funcNamed "loop.example/cordillera/laws.FnExactRootProof" = some f) (hfn : Tryd.pinned.checked.prog.funcs[f]? = some fn) :
    false = Tryd.pinned.checked.prog.looks [] ∧ ∀ (j : Nat) t, fn.params[j]? = some t → Tryd.pinned.checked.prog.wantsStandIn t = false := by
  obtain rfl : f = 3 := Option.some.inj ((show Tryd.prog.funcNamed "loop.example/cordillera/laws.FnExactRootProof" = some 3 by kernel_rfl).symm.trans hf) |>.symm
  obtain rfl : fn = Tryd.f3 := (Option.some.inj (Tryd.func3.symm.trans hfn)).symm
  refine ⟨by kernel_rfl, fun j t ht => ?_⟩
  rw [Tryd.params3] at ht
  have hall : ∀ t ∈ (#[22, 3] : Array TypeId), Tryd.prog.wantsStandIn t = false := by
    intro t ht
    simp only [List.mem_toArray, List.mem_cons, List.not_mem_nil, or_false] at ht
    rcases ht with rfl | rfl <;> kernel_rfl
  exact hall t (Array.mem_of_getElem? ht)
theorem fnExactRootProof_holds : Rows.FnExactRootProofCardSaid :=
  Claim7.holds_tied_plain_at .later [] _ _ _ _ fnExactRootProof_said (fun _ h => by cases h) (by kernel_rfl) (fun _ h => by cases h) fnExactRootProof_row_tie rfl ⟨rfl, rfl⟩ (by kernel_rfl) rfl plain_fnExactRootProof (by kernel_rfl)
#print axioms fnExactRootProof_holds
end Go.Proofs.YtnooadfgoccegaaDoor

