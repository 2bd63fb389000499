/-
  Texts that the last part needs, joined.
-/
import Derived.Test.YtpddholoehmjkaaGreatDoorPart1
import Derived.Test.YtpddholoehmjkaaGreatDoorPart2
import Derived.Test.YtpddholoehmjkaaGreatDoorPart3
import Derived.Test.YtpddholoehmjkaaGreatDoorPart4
import Derived.Test.YtpddholoehmjkaaGreatDoorPart5
import Derived.Test.YtpddholoehmjkaaGreatDoorPart6
import Derived.Test.YtpddholoehmjkaaGreatDoorPart7
import Derived.Test.YtpddholoehmjkaaGreatDoorPart8
import Derived.Test.YtpddholoehmjkaaGreatDoorPart9
import Derived.OwnWalk
import Derived.Test.YtpddholoehmjkaaGreatDoorProg
import Derived.WalkKit
import Derived.WalkSpells
import Derived.Maps.AppendAt
import Derived.BigQuiet
import Derived.Lib.Strings
set_option linter.unusedVariables false
namespace Go.Proofs.YtpddholoehmjkaaGreatDoor
open Go.RowKit

theorem own_at {w : World} {B g n c : Nat} {ss : List ByteArray} (h : w.ownsRow B 9 1 (.slice (some ⟨g, 0, none⟩) n c) n (ss.map Value.string)) : AtS w g ss := by
  have hn : n = ss.length := by simpa using h.1.symm
  subst hn
  refine ⟨(h.lt g rfl).2, fun i hi => ?_⟩
  rw [h.cellAt i (by simpa using hi)]
  simp [List.getElem?_eq_getElem hi]
theorem varPut_nat {n : Nat} (h : n ≤ 2147483647) : varPut (n : Int) = varB 4 n := by
  rw [varPut, if_pos (by omega)]
  simp
theorem ricePut_gaps {gl : List Int} (h : gl.length ≤ 40 ∧ ∀ i, i < gl.length → 0 ≤ gl.getD i 0 ∧ gl.getD i 0 ≤ 60000) : ricePut gl 5 = riceB 5 (gl.map Int.toNat) :=
  ricePut_yes (riceOk_yes h.1 (by omega) h.2)

set_option maxHeartbeats 2000000 in
set_option maxRecDepth 100000 in
theorem implFilterOf (g n cap : Nat) (ss : List ByteArray) (k : ByteArray) (w : World) (h : AtS w g ss) (hn : n = ss.length) (hK : RowG w shaK) :
    Calls Tryz.prog 68 #[.string k, .slice (some ⟨g, 0, none⟩) n cap] w fun e w' => e = .returned (.string ⟨(filterOf k.data.toList ss).toArray⟩) ∧ Below w.heap.size w w' := by
  cases h1 : isSum k.data.toList with
  | false =>
    rw [filterOf_no1 h1]
    clear h hn hK
    go_enter Tryz.func68, Tryz.ntmps68
    go_wp2_with (go_at_call 66; refine (implSumOk _ _).mono ?_; rintro e w1 ⟨rfl, rfl⟩)
    go_ret
    exact ⟨rfl, Below.refl _ _⟩
  | true =>
  have hit := implItemsOk g n cap ss w h hn
  cases h2 : itemsOkB ss with
  | false =>
    rw [filterOf_no2 h2]
    rw [h2] at hit
    clear h hn hK
    go_enter Tryz.func68, Tryz.ntmps68
    go_wp2_with first
      | (go_at_call 66; refine (implSumOk _ _).mono ?_; rintro e w1 ⟨rfl, rfl⟩)
      | (go_at_call 93; refine hit.mono ?_; rintro e w1 ⟨rfl, rfl⟩)
    go_ret
    exact ⟨rfl, Below.refl _ _⟩
  | true =>
  rw [filterOf_yes h1 h2]
  rw [h2] at hit
  have hn40 : n ≤ 40 := by rw [hn]; exact itemsOk_len h2
  have hclone := cloneS g n cap ss w h hn hn40
  have HGO : Hid ((gapsL k.data.toList ss).length ≤ 40 ∧ ∀ i, i < (gapsL k.data.toList ss).length → 0 ≤ (gapsL k.data.toList ss).getD i 0 ∧ (gapsL k.data.toList ss).getD i 0 ≤ 60000) := gaps_ok h1 h2
  have HPI : Hid (∀ z ∈ sortL (placesL k.data.toList ss), 0 ≤ z ∧ z ≤ 1480) := fun z hz => places_in h1 h2 z ((sortL_mem _ z).1 hz)
  have hm40 : (setL ss).length ≤ 40 := Nat.le_trans (setL_length ss) (itemsOk_len h2)
  have HFB : Hid (filterB k.data.toList ss = varB 4 (setL ss).length ++ riceB 5 ((gapsL k.data.toList ss).map Int.toNat)) := rfl
  have HPL : Hid (placesL k.data.toList ss = (setL ss).map fun it => filterTo k.data.toList it.data.toList (((setL ss).length : Int) * 37)) := rfl
  have HGL : Hid (gapsL k.data.toList ss = gapsZ 0 (sortL (placesL k.data.toList ss))) := rfl
  have HKG : Hid (RowG w shaK) := hK
  have hcomp := fun g1 c1 w1 w2 hc hs => compactS g1 n c1 ss w w1 w2 hc hs
  generalize gapsL k.data.toList ss = gl at HGO HFB HGL
  generalize placesL k.data.toList ss = pl at HPI HPL HGL
  generalize filterB k.data.toList ss = fb at HFB ⊢
  generalize setL ss = st at hm40 HFB HPL hcomp
  obtain ⟨i0, hi, hz0, hz1, hz2⟩ := info_parts infoIntG
  obtain ⟨m, hm⟩ : ∃ m, m = st.length := ⟨_, rfl⟩
  rw [← hm] at hm40 HFB HPL hcomp
  have HM : Hid (m = st.length) := hm
  have hmk := makeCap m (by omega)
  clear h hn hm h2 hK
  go_enter Tryz.func68, Tryz.ntmps68
  go_wp2_with first
    | (go_at_call 66; refine (implSumOk _ _).mono ?_; rintro e w1 ⟨rfl, rfl⟩)
    | (go_at_call 93; refine hit.mono ?_; rintro e w1 ⟨rfl, rfl⟩)
  clear hit
  refine hclone.mono ?_
  rintro e w1 ⟨g1, c1, rfl, hc1⟩
  have HC : Hid (Cloned w.heap.size g1 n c1 ss w w1) := hc1
  clear hclone hc1
  go_wp2_with fail
  refine (sortS _ g1 n c1 ss w w1 HC.out hn40).mono ?_
  rintro e w2 ⟨rfl, hs2⟩
  have HS : Hid (SortedS g1 ss w1 w2) := hs2
  clear hs2
  go_wp2_with fail
  refine (hcomp g1 c1 w1 w2 HC.out HS.out).mono ?_
  rintro e w3 ⟨rfl, hown3, hb3⟩
  have HAS : Hid (AtS w3 g1 st) := own_at hown3
  have HB3 : Hid (Below w.heap.size w w3) := hb3
  have HK3 : Hid (RowG w3 shaK) := HKG.out.below hb3 HKG.out.lt
  clear hown3 hb3 hcomp HC HS
  go_wp2_with fail
  have HW0 : Hid (ZRow w3.heap.size (.slice (some ⟨w3.heap.size, 0, none⟩) 0 m) (pl.take 0) (w3.alloc (.cells (madeCells #[.int .i64 0] m) 3))) :=
    ⟨⟨_, _, rfl⟩, rfl, .inr ⟨_, _, _, rfl, Nat.le_refl _, World.alloc_heap_new w3 _, Nat.zero_le _, by unfold maxLen; omega, by rw [size_madeCells]; omega, rfl⟩⟩
  have HB0 : Hid (Below w3.heap.size w3 (w3.alloc (.cells (madeCells #[.int .i64 0] m) 3))) := (Below.refl _ w3).alloc (Nat.le_refl _) _
  have HPLL : Hid (pl.length = m) := by show _ = _; rw [HPL.out, List.length_map]; exact HM.out.symm
  clear hmk
  go_loopw [6, 28] (fun v i wr => ∃ (q g3 c3 : Nat), q ≤ m ∧ i = .int .i64 (q : Int) ∧ v = .slice (some ⟨g3, 0, none⟩) q c3 ∧ Hid (ZRow w3.heap.size v (pl.take q) wr) ∧ Hid (Below w3.heap.size w3 wr)) (fun _ i _ => m - (intOf i).toNat)
  case atStart => exact ⟨0, w3.heap.size, m, by omega, rfl, rfl, HW0, HB0⟩
  case round =>
    clear HW0 HB0
    obtain ⟨q, g3, c3, hq, rfl, rfl, HR, HB⟩ := hrel
    have hszr := HB.out.size
    by_cases hlt : q < m
    · have hql : q < st.length := by rw [← HM.out]; exact hlt
      have hc : wr.cell? ⟨g1, q, none⟩ = some (.string (st.getD q ByteArray.empty)) := by
        rw [HB.out.cell (p := ⟨g1, q, none⟩) HAS.out.1]
        exact HAS.out.2 q hql
      have hto := implFilterTo k (st.getD q ByteArray.empty) ((m : Int) * 37) wr (HK3.out.below HB.out HK3.out.lt)
      have HE : Hid (pl.take (q + 1) = pl.take q ++ [filterTo k.data.toList (st.getD q ByteArray.empty).data.toList ((m : Int) * 37)]) := by
        show _ = _
        rw [List.take_add_one, HPL.out, List.getElem?_map, List.getElem?_eq_getElem hql, List.getD_eq_getElem?_getD, List.getElem?_eq_getElem hql]
        rfl
      generalize filterTo k.data.toList (st.getD q ByteArray.empty).data.toList ((m : Int) * 37) = z at hto HE
      generalize st.getD q ByteArray.empty = it at hc hto
      have HRW : Hid (wr.ownsRow w3.heap.size 3 1 (.slice (some ⟨g3, 0, none⟩) q c3) q ((pl.take q).map (Value.int .i64))) := by
        have h5 := HR.out.2
        have h6 : (pl.take q).length = q := by rw [List.length_take, HPLL.out]; omega
        rw [h6] at h5
        exact h5
      have HQ : Hid (q + 1 ≤ m) := hlt
      have lq : (q : Int) < (m : Int) := by omega
      have lq0 : (0 : Int) ≤ (q : Int) := by omega
      have hx1 : q + 1 ≤ maxLen := by unfold maxLen; omega
      have hx2 : (q + 1) * 8 ≤ 140737488355328 := by omega
      clear hql
      go_wp2_with fail
      refine hto.mono ?_
      rintro e w4 ⟨rfl, b4⟩
      have HRW2 : Hid (w4.ownsRow w3.heap.size 3 1 (.slice (some ⟨g3, 0, none⟩) q c3) q ((pl.take q).map (Value.int .i64))) := ownsRow_keep HRW.out (fun g' hg' => by
        obtain ⟨cur, hcc, hl⟩ := ownsRow_type HRW.out g' hg'
        exact b4.block g' hl)
      have HB2 : Hid (Below w3.heap.size w3 w4) := HB.out.trans (b4.mono HB.out.size)
      have hs2 := HB2.out.size
      clear b4 hto
      go_wp2_with (at_builtin; refine wp_app1 rfl _ _ 52 rfl w3.heap.size 3 i0 (.int .i64 0) 8 Tryz.underlying52 hi hz0 hz1 hz2 rfl _ _ _ rfl HRW2.out (.int .i64 z) rfl rfl hx1 hx2 hs2 ?_; intro g4 c4 w5 hown4 hb4 _)
      have HR4 : Hid (ZRow w3.heap.size (.slice (some ⟨g4, 0, none⟩) (q + 1) c4) (pl.take (q + 1)) w5) := by
        refine ZRow.of ?_ (by rw [List.length_take, HPLL.out]; have := HQ.out; omega)
        rw [HE.out, List.map_append]
        exact hown4
      clear hown4
      go_roundw
      case rel => exact ⟨q + 1, g4, c4, HQ.out, by go_num, rfl, HR4, HB2.out.trans hb4⟩
      case measure => have := HQ.out; simp [intOf]; omega
    · obtain rfl : q = m := by omega
      have HRA : Hid (ZRow w3.heap.size (.slice (some ⟨g3, 0, none⟩) q c3) pl wr) := by
        have h5 := HR.out
        rw [List.take_of_length_le (by rw [HPLL.out]; exact Nat.le_refl _)] at h5
        exact h5
      have hsort := sortI w3.heap.size g3 q c3 pl wr HRA.out hszr hm40
      have HSL : Hid ((sortL pl).length = q) := by show _ = _; rw [sortL_length]; exact HPLL.out
      have HBw : Hid (Below w.heap.size w wr) := HB3.out.trans (HB.out.mono HB3.out.size)
      generalize sortL pl = so at hsort HPI HGL HSL
      have hvar := fun w' => implVarPut (q : Int) w'
      rw [varPut_nat (by omega)] at hvar
      have HRP : Hid (ricePut gl 5 = riceB 5 (gl.map Int.toNat)) := ricePut_gaps HGO.out
      have hrice := fun g' c' w' h' (hn : q = gl.length) => implRicePut g' q c' gl 5 w' h' hn
      rw [HRP.out] at hrice
      have hlr : (riceB 5 (gl.map Int.toNat)).length ≤ 300100 := by
        have h5 := ricePut_len gl 5
        rw [HRP.out] at h5
        exact h5
      have hlv := (varB_length 4 q).2
      generalize (riceB 5 (gl.map Int.toNat)) = rb at hrice HFB hlr HRP
      generalize varB 4 q = vb at hvar HFB hlv
      have HEQ : Hid ((⟨vb.toArray⟩ ++ ⟨rb.toArray⟩ : ByteArray) = ⟨fb.toArray⟩) := by
        show _ = _
        rw [HFB.out]
        apply ByteArray.ext
        simp
      clear HR
      go_wp2_with fail
      refine hsort.mono ?_
      rintro e w5 ⟨rfl, hr5, b5⟩
      have HR5 : Hid (ZRow w3.heap.size (.slice (some ⟨g3, 0, none⟩) q c3) so w5) := hr5
      have HB5 : Hid (Below w3.heap.size w3 w5) := HB.out.trans b5
      clear hsort hr5 b5 hszr
      go_wp2_with fail
      refine (hvar _).mono ?_
      rintro e w6 ⟨rfl, b6⟩
      have HA6 : Hid (At w6 g3 so) := HR5.out.at.1.below b6 HR5.out.at.1.1
      have HB6 : Hid (Below w3.heap.size w3 w6) := HB5.out.trans (b6.mono HB5.out.size)
      clear b6 hvar
      go_wp2_with fail
      refine (implSteps g3 q c3 so w6 HA6.out HSL.out.symm hm40 HPI.out).mono ?_
      rintro e w7 ⟨v7, rfl, hr7, b7⟩
      rw [← HGL.out] at hr7
      obtain ⟨g7, c7, rfl⟩ := hr7.1
      have HGLN : Hid (q = gl.length) := by show _ = _; rw [HGL.out, gapsZ_length]; exact HSL.out.symm
      rw [← HGLN.out] at hr7 ⊢
      have HA7 : Hid (At w7 g7 gl) := hr7.at.1
      have HB7 : Hid (Below w3.heap.size w3 w7) := HB6.out.trans (b7.mono HB6.out.size)
      clear hr7 b7
      go_wp2_with fail
      refine (hrice g7 c7 w7 HA7.out HGLN.out).mono ?_
      rintro e w8 ⟨rfl, b8⟩
      have HB8 : Hid (Below w.heap.size w w8) := HB3.out.trans ((HB7.out.trans (b8.mono HB7.out.size)).mono HB3.out.size)
      clear hrice b8
      go_wp2_with fail
      go_ret
      refine ⟨?_, HB8.out⟩
      rw [← HEQ.out]
      rfl

end Go.Proofs.YtpddholoehmjkaaGreatDoor

set_option linter.unusedVariables false
namespace Go.Proofs.YtpddholoehmjkaaGreatDoor
open Go.RowKit

theorem at_newsS {w : World} {g : Nat} {zs : List ByteArray} (h : AtS w g zs) (a m off : Nat) (hk : a + m ≤ zs.length) (ho : 0 < m → off = a) : ∀ j u, (((zs.drop a).take m).map Value.string)[j]? = some u → w.cell? ((⟨g, off, none⟩ : Addr).add j) = some u := by
  intro j u hu
  have hj : j < m := by
    have := (List.getElem?_eq_some_iff.1 hu).1
    simp at this
    omega
  have e := ho (by omega)
  subst e
  have hc := h.2 (off + j) (by omega)
  have e2 : (((zs.drop off).take m).map Value.string)[j]? = some (.string (zs.getD (off + j) ByteArray.empty)) := by
    rw [List.getElem?_map, List.getElem?_take_of_lt hj, List.getElem?_drop, List.getElem?_eq_getElem (by omega)]
    simp [List.getElem?_eq_getElem (show off + j < zs.length by omega)]
  rw [e2] at hu
  rw [← hu, ← hc]
  rcases j with _ | j
  · simp [Addr.add]
  · simp [Addr.add]
theorem strs_one (l : List ByteArray) : ∀ u ∈ l.map Value.string, u.oneCell' = true := by
  intro u hu
  obtain ⟨x, _, rfl⟩ := List.mem_map.1 hu
  rfl
theorem AtS.far {w w' : World} {g : Nat} {zs : List ByteArray} (h : AtS w g zs) (hk : w'.heap[g]? = w.heap[g]?) (hs : w.heap.size ≤ w'.heap.size) : AtS w' g zs :=
  ⟨Nat.lt_of_lt_of_le h.1 hs, fun i hi => (World.cell?_of_block (a := ⟨g, i, none⟩) hk).trans (h.2 i hi)⟩
theorem SRow.of {B n g cap : Nat} {zs : List ByteArray} {w : World} (h : w.ownsRow B 9 1 (.slice (some ⟨g, 0, none⟩) n cap) n (zs.map Value.string)) (hn : n = zs.length) : SRow B (.slice (some ⟨g, 0, none⟩) n cap) zs w := by
  subst hn
  exact ⟨⟨g, cap, rfl⟩, h⟩

set_option maxHeartbeats 4000000 in
set_option maxRecDepth 100000 in
theorem specSet (g n cap : Nat) (zs : List ByteArray) (w : World) (h : AtS w g zs) (hn : n = zs.length) (hm : n ≤ 1000) :
    Calls Tryz.prog 186 #[.slice (some ⟨g, 0, none⟩) n cap] w fun e w' => ∃ v, e = .returned v ∧ SRow w.heap.size v (setL zs) w' ∧ Below w.heap.size w w' := by
  obtain ⟨i0, hi, hz0, hz1, hz2⟩ := info_parts infoStr
  have HA : Hid (AtS w g zs) := h
  have HN : Hid (n = zs.length) := hn
  clear h hn
  go_enter Tryz.func186, Tryz.ntmps186
  go_wp2_with fail
  have HW0 : Hid (SRow w.heap.size (.slice (some ⟨w.heap.size, 0, none⟩) 0 0) (setL (zs.take 0)) (w.alloc (.cells #[] 9))) := srow_new w
  have HB0 : Hid (Below w.heap.size w (w.alloc (.cells #[] 9))) := (Below.refl _ w).alloc (Nat.le_refl _) _
  go_loopw [3, 4] (fun v i wr => ∃ (p q g3 c3 : Nat), p ≤ n ∧ q ≤ p ∧ i = .int .i64 (p : Int) ∧ v = .slice (some ⟨g3, 0, none⟩) q c3 ∧ Hid (q = (setL (zs.take p)).length) ∧ Hid (SRow w.heap.size v (setL (zs.take p)) wr) ∧ Hid (Below w.heap.size w wr)) (fun _ i _ => n - (intOf i).toNat)
  case atStart => exact ⟨0, 0, w.heap.size, 0, by omega, by omega, rfl, rfl, rfl, HW0, HB0⟩
  case round =>
    clear HW0 HB0
    obtain ⟨p, q, g3, c3, hp, hqp, rfl, rfl, HQL, HR, HB⟩ := hrel
    have hszr := HB.out.size
    by_cases hlt : p < n
    · have hql : p < zs.length := by rw [← HN.out]; exact hlt
      have hc : wr.cell? ⟨g, p, none⟩ = some (.string (zs.getD p ByteArray.empty)) := by
        rw [HB.out.cell (p := ⟨g, p, none⟩) HA.out.1]
        exact HA.out.2 p hql
      have HE : Hid (setL (zs.take (p + 1)) = setIns (setL (zs.take p)) (zs.getD p ByteArray.empty)) := setL_take zs p hql
      have HOL : Hid ((setL (zs.take p)).length = q) := HQL.out.symm
      generalize zs.getD p ByteArray.empty = z at hc HE
      generalize setL (zs.take p) = o at HR HE HOL HQL
      have HAO : Hid (AtS wr g3 o) := HR.out.at.1
      have HG3 : Hid (w.heap.size ≤ g3 ∧ g3 < wr.heap.size) := by
        obtain ⟨g', _, _, hv, h1, h2, _⟩ := HR.out.block
        cases hv
        exact ⟨h1, h2⟩
      have HQ : Hid (p + 1 ≤ n) := hlt
      have HCP : Hid (q ≤ c3) := (own_cap HR.out.2).1
      have lq : (p : Int) < (n : Int) := by omega
      have lq0 : (0 : Int) ≤ (p : Int) := by omega
      have HC : Hid (wr.cell? ⟨g, p, none⟩ = some (.string z)) := hc
      clear hql hc hszr HQL
      go_wp2_with fail
      go_loopw [5] (fun i wx => ∃ k : Nat, k ≤ q ∧ i = .int .i64 (k : Int) ∧ Hid (∀ j, j < k → ltB (o.getD j ByteArray.empty) z = true) ∧ Hid (AtS wx g3 o ∧ wx.cell? ⟨g, p, none⟩ = some (.string z) ∧ w.heap.size ≤ g3 ∧ SRow w.heap.size (.slice (some ⟨g3, 0, none⟩) q c3) o wx) ∧ Hid (Below w.heap.size w wx)) (fun i _ => q - (intOf i).toNat)
      case atStart => exact ⟨0, by omega, rfl, fun j hj => by omega, ⟨HAO.out, HC.out, HG3.out.1, HR.out⟩, HB⟩
      case round =>
        clear HR HB HAO HG3 HC
        obtain ⟨k, hk, rfl, HT, HX, HB⟩ := hrel
        have hcz := HX.out.2.1
        have hszr := HB.out.size
        have fin : (k = q ∨ ltB (o.getD k ByteArray.empty) z = false) → Hid (o.takeWhile (fun y => ltB y z) = (o.drop 0).take k ∧ o.dropWhile (fun y => ltB y z) = (o.drop k).take (q - k)) := by
          intro hor
          have := span_at (fun y => ltB y z) ByteArray.empty o k (by rw [HOL.out]; exact hk) (fun j hj => HT.out j hj) (fun hj => by
            rcases hor with h' | h'
            · rw [HOL.out] at hj; omega
            · exact h')
          refine ⟨by rw [List.drop_zero]; exact this.1, ?_⟩
          rw [this.2, List.take_of_length_le (by simp [HOL.out])]
        by_cases hkq : k < q
        · have hkl : k < o.length := by rw [HOL.out]; exact hkq
          have hco := HX.out.1.2 k hkl
          have lk : (k : Int) < (q : Int) := by omega
          have lk0 : (0 : Int) ≤ (k : Int) := by omega
          have HD : Hid ((o.drop k).take (q - k) = o.getD k ByteArray.empty :: (o.drop (k + 1)).take (q - k - 1)) := by
            show _ = _
            rw [List.drop_eq_getElem_cons hkl, show q - k = q - k - 1 + 1 from by omega, List.take_succ_cons, List.getD_eq_getElem?_getD, List.getElem?_eq_getElem hkl]
            rfl
          cases hle : ltB (o.getD k ByteArray.empty) z with
          | true =>
            have HT2 : Hid (∀ j, j < k + 1 → ltB (o.getD j ByteArray.empty) z = true) := by
              intro j hj
              rcases Nat.lt_or_ge j k with h' | h'
              · exact HT.out j h'
              · obtain rfl : j = k := by omega
                exact hle
            have HK : Hid (k + 1 ≤ q) := hkq
            generalize o.getD k ByteArray.empty = y at hco hle
            have hle' : Op.bytesLess y.toList z.toList = true := hle
            clear fin hkl hle
            go_wp2_with fail
            go_region
            go_wp2_with fail
            go_roundw
            case rel => exact ⟨k + 1, HK.out, by go_num, HT2, HX.out, HB.out.drew⟩
            case measure => have := HK.out; simp [intOf]; omega
          | false =>
            have HF := fin (.inr hle)
            generalize o.getD k ByteArray.empty = y at hco hle HD
            have hle' : Op.bytesLess y.toList z.toList = false := hle
            clear fin HT hkl hle
            by_cases hyz : y = z
            · subst hyz
              have HEQ : Hid (setL (zs.take (p + 1)) = o) := by
                show _ = _
                rw [HE.out, setIns, HF.out.2, HD.out]
                simp
              have hee : (y.toList == y.toList) = true := by simp
              go_wp2_with fail
              go_region
              go_wp2_with fail
              go_region
              go_wp2_with fail
              go_roundw
              case rel => exact ⟨p + 1, q, g3, c3, HQ.out, by omega, by go_num, rfl, by rw [HEQ.out]; exact HOL.out.symm, by rw [HEQ.out]; exact HX.out.2.2.2, HB.out.drew.drew⟩
              case measure => have := HQ.out; simp [intOf]; omega
            · have hee : (y.toList == z.toList) = false := by
                simp
                intro e
                exact hyz (toList_inj e)
              have HRES : Hid (setL (zs.take (p + 1)) = (o.drop 0).take k ++ [z] ++ (o.drop k).take (q - k)) := by
                show _ = _
                rw [HE.out, setIns, HF.out.1, HF.out.2, if_neg (by rw [HD.out]; simp; exact hyz)]
                simp
              clear hyz
              have hck' : ¬ (c3 : Int) = (k : Int) := by have := HCP.out; omega
              have hck : ¬ c3 = k := by have := HCP.out; omega
              have hkc : (k : Int) ≤ (c3 : Int) := by have := HCP.out; omega
              have HP : Hid (0 < q - k → k = k) := fun _ => rfl
              go_wp2_with fail
              go_region
              go_wp2_with fail
              go_region
              have hXd : Hid (AtS wr.drew.drew g3 o ∧ wr.drew.drew.cell? ⟨g, p, none⟩ = some (.string z) ∧ w.heap.size ≤ g3 ∧ SRow w.heap.size (.slice (some ⟨g3, 0, none⟩) q c3) o wr.drew.drew) := HX.out
              have hBd : Hid (Below w.heap.size w wr.drew.drew) := HB.out.drew.drew
              have hzd : w.heap.size ≤ wr.drew.drew.heap.size := hszr
              clear HX HB hszr hcz hco
              generalize wr.drew.drew = wd at hXd hBd hzd ⊢
              have HX := hXd
              have HB := hBd
              have hszr := hzd
              have hne0 : g3 ≠ wd.heap.size := by have := HX.out.1.1; omega
              have hgl : g < w.heap.size := HA.out.1
              have HOW : Hid ((wd.alloc (.cells #[] 9)).ownsRow w.heap.size 9 1 (.slice (some ⟨wd.heap.size, 0, none⟩) 0 0) 0 []) :=
                ⟨rfl, .inr ⟨_, _, #[], rfl, hszr, heap_alloc_new wd _, Nat.le_refl _, by unfold maxLen; omega, rfl, rfl⟩⟩
              have HO0 : Hid (AtS (wd.alloc (.cells #[] 9)) g3 o) := HX.out.1.far (Below.heap_alloc _ _ _ HX.out.1.1) (by simp)
              have hl1 : (((o.drop 0).take k).map Value.string).length = k * 1 := by simp [HOL.out] <;> omega
              have hn1 := at_newsS HO0.out 0 k 0 (by rw [HOL.out]; omega) (fun _ => rfl)
              have hx1 : 0 + k ≤ maxLen := by unfold maxLen; omega
              have hx2 : (0 + k) * 16 ≤ 140737488355328 := by omega
              have hx3 : k + 1 ≤ maxLen := by unfold maxLen; omega
              have hx4 : (k + 1) * 16 ≤ 140737488355328 := by omega
              have hx5 : k + 1 + (q - k) ≤ maxLen := by unfold maxLen; omega
              have hx6 : (k + 1 + (q - k)) * 16 ≤ 140737488355328 := by omega
              have hbs : w.heap.size ≤ (wd.alloc (.cells #[] 9)).heap.size := by simp; omega
              have hl3 : (((o.drop k).take (q - k)).map Value.string).length = (q - k) * 1 := by simp [HOL.out]
              go_wp2_with first
                | (at_builtin; refine wpList_append_own_at _ rfl _ _ 23 rfl w.heap.size 9 i0 (.string ⟨#[]⟩) 1 16 Tryz.underlying23 hi hz0 hz1 hz2 rfl (by decide) (.slice (some ⟨wd.heap.size, 0, none⟩) 0 0) 0 [] rfl HOW.out ⟨g3, 0, none⟩ k c3 (((o.drop 0).take k).map Value.string) rfl hl1 hn1 (strs_one _) hx1 hx2 hbs ?_; intro v1 w1 hown1 hgrow1 hnil1 hat1; rw [Nat.zero_add, List.nil_append] at hown1; obtain ⟨g5, c5, rfl⟩ := own_form hown1 (fun e => by have := (hnil1.1 e).1; cases this); have hc1 : w1.cell? ⟨g, p, none⟩ = some (.string z) := (World.cell?_of_block (a := ⟨g, p, none⟩) (grown_far (b := g) hgrow1 (by omega) (by simp [Value.ownBlock]; omega))).trans HX.out.2.1; have HO1 : Hid (AtS w1 g3 o) := HX.out.1.far (grown_far hgrow1 HX.out.1.1 (by simpa [Value.ownBlock] using hne0)) (by have := grown_size hgrow1; omega); have hne1 : g3 ≠ g5 := (by have h9 := HX.out.1.1; simp [Value.ownBlock] at hat1; omega); have HB1 : Hid (Below w.heap.size w w1) := (HB.out.alloc (by omega) _).grown hgrow1 hbs (fun j hj => by have h8 : wd.heap.size = j := (by simpa [Value.ownBlock] using hj); omega); have HOW1 : Hid (w1.ownsRow w.heap.size 9 1 (.slice (some ⟨g5, 0, none⟩) k c5) k (((o.drop 0).take k).map Value.string)) := hown1; have hs1 : w.heap.size ≤ w1.heap.size := HB1.out.size; have hbs1 : w.heap.size ≤ (w1.alloc (.cells #[.string z] 9)).heap.size := (by simp; omega); clear hown1 hgrow1 hnil1 hat1)
                | (at_builtin; refine wpList_append_own_at _ rfl _ _ 23 rfl w.heap.size 9 i0 (.string ⟨#[]⟩) 1 16 Tryz.underlying23 hi hz0 hz1 hz2 rfl (by decide) (.slice (some ⟨g5, 0, none⟩) k c5) k _ rfl (HOW1.out.alloc _) ⟨w1.heap.size, 0, none⟩ 1 1 [.string z] rfl rfl (cell_one_new _ _ _) (strs_one [z]) hx3 hx4 hbs1 ?_; intro v2 w2 hown2 hgrow2 hnil2 hat2; obtain ⟨g6, c6, rfl⟩ := own_form hown2 (fun e => by have := (hnil2.1 e).1; cases this); have HO2 : Hid (AtS w2 g3 o) := HO1.out.far (grown_far hgrow2 HO1.out.1 (by simpa [Value.ownBlock] using hne1)) (by have := grown_size hgrow2; omega); have HB2 : Hid (Below w.heap.size w w2) := (HB1.out.alloc hs1 _).grown hgrow2 hbs1 (fun j hj => (HOW1.out.lt j hj).1); have HOW2 : Hid (w2.ownsRow w.heap.size 9 1 (.slice (some ⟨g6, 0, none⟩) (k + 1) c6) (k + 1) (((o.drop 0).take k).map Value.string ++ [.string z])) := hown2; have hs2 : w.heap.size ≤ w2.heap.size := HB2.out.size; have hn3 := at_newsS HO2.out k (q - k) k (by rw [HOL.out]; omega) (fun _ => rfl); clear hown2 hgrow2 hnil2 hat2)
                | (at_builtin; refine wpList_append_own_at _ rfl _ _ 23 rfl w.heap.size 9 i0 (.string ⟨#[]⟩) 1 16 Tryz.underlying23 hi hz0 hz1 hz2 rfl (by decide) (.slice (some ⟨g6, 0, none⟩) (k + 1) c6) (k + 1) _ rfl HOW2.out ⟨g3, k, none⟩ (q - k) (c3 - k) (((o.drop k).take (q - k)).map Value.string) rfl hl3 hn3 (strs_one _) hx5 hx6 hs2 ?_; intro v3 w3 hown3 hgrow3 hnil3 hat3; obtain ⟨g7, c7, rfl⟩ := own_form hown3 (fun e => by have := (hnil3.1 e).1; cases this); have HB3 : Hid (Below w.heap.size w w3) := HB2.out.grown hgrow3 hs2 (fun j hj => (HOW2.out.lt j hj).1); have HOW3 : Hid (w3.ownsRow w.heap.size 9 1 (.slice (some ⟨g7, 0, none⟩) (k + 1 + (q - k)) c7) (k + 1 + (q - k)) (((o.drop 0).take k).map Value.string ++ [.string z] ++ ((o.drop k).take (q - k)).map Value.string)) := hown3; clear hown3 hgrow3 hnil3 hat3)
              go_roundw
              case rel =>
                refine ⟨p + 1, q + 1, g7, c7, HQ.out, by omega, by go_num, by rw [show q + 1 = k + 1 + (q - k) from by omega], ?_, ?_, HB3⟩
                · show _ = _
                  rw [HRES.out, List.length_append, List.length_append]
                  first | (simp [HOL.out]; done) | (simp [HOL.out]; omega)
                · have h5 := HOW3.out
                  rw [show k + 1 + (q - k) = q + 1 from by omega] at h5 ⊢
                  refine SRow.of ?_ ?_
                  · rw [HRES.out]
                    simpa using h5
                  · rw [HRES.out, List.length_append, List.length_append]
                    first | (simp [HOL.out]; done) | (simp [HOL.out]; omega)
              case measure => have := HQ.out; simp [intOf]; omega
        · have hkq2 : k = q := by omega
          have HF := fin (.inl hkq2)
          subst hkq2
          clear fin HT
          have lk : ¬ (k : Int) < (k : Int) := by omega
          have HRES : Hid (setL (zs.take (p + 1)) = (o.drop 0).take k ++ [z] ++ []) := by
            show _ = _
            rw [HE.out, setIns, HF.out.1, HF.out.2, if_neg (by simp)]
            simp
          have hkc : (k : Int) ≤ (c3 : Int) := by have := HCP.out; omega
          go_wp2_with fail
          go_region
          go_wp2_with fail
          go_region
          have hXd : Hid (AtS wr.drew.drew g3 o ∧ wr.drew.drew.cell? ⟨g, p, none⟩ = some (.string z) ∧ w.heap.size ≤ g3 ∧ SRow w.heap.size (.slice (some ⟨g3, 0, none⟩) k c3) o wr.drew.drew) := HX.out
          have hBd : Hid (Below w.heap.size w wr.drew.drew) := HB.out.drew.drew
          have hzd : w.heap.size ≤ wr.drew.drew.heap.size := hszr
          clear HX HB hszr hcz
          generalize wr.drew.drew = wd at hXd hBd hzd ⊢
          have HX := hXd
          have HB := hBd
          have hszr := hzd
          have hne0 : g3 ≠ wd.heap.size := by have := HX.out.1.1; omega
          have hgl : g < w.heap.size := HA.out.1
          have HOW : Hid ((wd.alloc (.cells #[] 9)).ownsRow w.heap.size 9 1 (.slice (some ⟨wd.heap.size, 0, none⟩) 0 0) 0 []) :=
            ⟨rfl, .inr ⟨_, _, #[], rfl, hszr, heap_alloc_new wd _, Nat.le_refl _, by unfold maxLen; omega, rfl, rfl⟩⟩
          have HO0 : Hid (AtS (wd.alloc (.cells #[] 9)) g3 o) := HX.out.1.far (Below.heap_alloc _ _ _ HX.out.1.1) (by simp)
          have hl1 : (((o.drop 0).take k).map Value.string).length = k * 1 := by simp [HOL.out] <;> omega
          have hn1 := at_newsS HO0.out 0 k 0 (by rw [HOL.out]; omega) (fun _ => rfl)
          have hx1 : 0 + k ≤ maxLen := by unfold maxLen; omega
          have hx2 : (0 + k) * 16 ≤ 140737488355328 := by omega
          have hx3 : k + 1 ≤ maxLen := by unfold maxLen; omega
          have hx4 : (k + 1) * 16 ≤ 140737488355328 := by omega
          have hx5 : k + 1 + 0 ≤ maxLen := by unfold maxLen; omega
          have hx6 : (k + 1 + 0) * 16 ≤ 140737488355328 := by omega
          have hbs : w.heap.size ≤ (wd.alloc (.cells #[] 9)).heap.size := by simp; omega
          by_cases hck : c3 = k
          · obtain rfl : k = c3 := hck.symm
            go_wp2_with first
              | (at_builtin; refine wpList_append_own_at _ rfl _ _ 23 rfl w.heap.size 9 i0 (.string ⟨#[]⟩) 1 16 Tryz.underlying23 hi hz0 hz1 hz2 rfl (by decide) (.slice (some ⟨wd.heap.size, 0, none⟩) 0 0) 0 [] rfl HOW.out ⟨g3, 0, none⟩ k k (((o.drop 0).take k).map Value.string) rfl hl1 hn1 (strs_one _) hx1 hx2 hbs ?_; intro v1 w1 hown1 hgrow1 hnil1 hat1; rw [Nat.zero_add, List.nil_append] at hown1; obtain ⟨g5, c5, rfl⟩ := own_form hown1 (fun e => by have := (hnil1.1 e).1; cases this); have hc1 : w1.cell? ⟨g, p, none⟩ = some (.string z) := (World.cell?_of_block (a := ⟨g, p, none⟩) (grown_far (b := g) hgrow1 (by omega) (by simp [Value.ownBlock]; omega))).trans HX.out.2.1; have HO1 : Hid (AtS w1 g3 o) := HX.out.1.far (grown_far hgrow1 HX.out.1.1 (by simpa [Value.ownBlock] using hne0)) (by have := grown_size hgrow1; omega); have hne1 : g3 ≠ g5 := (by have h9 := HX.out.1.1; simp [Value.ownBlock] at hat1; omega); have HB1 : Hid (Below w.heap.size w w1) := (HB.out.alloc (by omega) _).grown hgrow1 hbs (fun j hj => by have h8 : wd.heap.size = j := (by simpa [Value.ownBlock] using hj); omega); have HOW1 : Hid (w1.ownsRow w.heap.size 9 1 (.slice (some ⟨g5, 0, none⟩) k c5) k (((o.drop 0).take k).map Value.string)) := hown1; have hs1 : w.heap.size ≤ w1.heap.size := HB1.out.size; have hbs1 : w.heap.size ≤ (w1.alloc (.cells #[.string z] 9)).heap.size := (by simp; omega); clear hown1 hgrow1 hnil1 hat1)
              | (at_builtin; refine wpList_append_own_at _ rfl _ _ 23 rfl w.heap.size 9 i0 (.string ⟨#[]⟩) 1 16 Tryz.underlying23 hi hz0 hz1 hz2 rfl (by decide) (.slice (some ⟨g5, 0, none⟩) k c5) k _ rfl (HOW1.out.alloc _) ⟨w1.heap.size, 0, none⟩ 1 1 [.string z] rfl rfl (cell_one_new _ _ _) (strs_one [z]) hx3 hx4 hbs1 ?_; intro v2 w2 hown2 hgrow2 hnil2 hat2; obtain ⟨g6, c6, rfl⟩ := own_form hown2 (fun e => by have := (hnil2.1 e).1; cases this); have HO2 : Hid (AtS w2 g3 o) := HO1.out.far (grown_far hgrow2 HO1.out.1 (by simpa [Value.ownBlock] using hne1)) (by have := grown_size hgrow2; omega); have HB2 : Hid (Below w.heap.size w w2) := (HB1.out.alloc hs1 _).grown hgrow2 hbs1 (fun j hj => (HOW1.out.lt j hj).1); have HOW2 : Hid (w2.ownsRow w.heap.size 9 1 (.slice (some ⟨g6, 0, none⟩) (k + 1) c6) (k + 1) (((o.drop 0).take k).map Value.string ++ [.string z])) := hown2; have hs2 : w.heap.size ≤ w2.heap.size := HB2.out.size; clear hown2 hgrow2 hnil2 hat2)
              | (at_builtin; refine wpList_append_own_at _ rfl _ _ 23 rfl w.heap.size 9 i0 (.string ⟨#[]⟩) 1 16 Tryz.underlying23 hi hz0 hz1 hz2 rfl (by decide) (.slice (some ⟨g6, 0, none⟩) (k + 1) c6) (k + 1) _ rfl HOW2.out ⟨g3, _, none⟩ 0 _ [] rfl rfl (fun j u h => by simp at h) (fun u h => by cases h) hx5 hx6 hs2 ?_; intro v3 w3 hown3 hgrow3 hnil3 hat3; obtain ⟨g7, c7, rfl⟩ := own_form hown3 (fun e => by have := (hnil3.1 e).1; cases this); have HB3 : Hid (Below w.heap.size w w3) := HB2.out.grown hgrow3 hs2 (fun j hj => (HOW2.out.lt j hj).1); have HOW3 : Hid (w3.ownsRow w.heap.size 9 1 (.slice (some ⟨g7, 0, none⟩) (k + 1 + 0) c7) (k + 1 + 0) (((o.drop 0).take k).map Value.string ++ [.string z] ++ [])) := hown3; clear hown3 hgrow3 hnil3 hat3)
            go_roundw
            case rel =>
              refine ⟨p + 1, k + 1, g7, c7, HQ.out, by omega, by go_num, by rfl, ?_, ?_, HB3⟩
              · show _ = _
                rw [HRES.out, List.length_append, List.length_append]
                first | (simp [HOL.out]; done) | (simp [HOL.out]; omega)
              · have h5 := HOW3.out
                rw [show k + 1 + 0 = k + 1 from rfl] at h5
                refine SRow.of ?_ ?_
                · rw [HRES.out]
                  simpa using h5
                · rw [HRES.out, List.length_append, List.length_append]
                  first | (simp [HOL.out]; done) | (simp [HOL.out]; omega)
            case measure => have := HQ.out; simp [intOf]; omega
          · have hck' : ¬ (c3 : Int) = (k : Int) := by omega
            go_wp2_with first
              | (at_builtin; refine wpList_append_own_at _ rfl _ _ 23 rfl w.heap.size 9 i0 (.string ⟨#[]⟩) 1 16 Tryz.underlying23 hi hz0 hz1 hz2 rfl (by decide) (.slice (some ⟨wd.heap.size, 0, none⟩) 0 0) 0 [] rfl HOW.out ⟨g3, 0, none⟩ k c3 (((o.drop 0).take k).map Value.string) rfl hl1 hn1 (strs_one _) hx1 hx2 hbs ?_; intro v1 w1 hown1 hgrow1 hnil1 hat1; rw [Nat.zero_add, List.nil_append] at hown1; obtain ⟨g5, c5, rfl⟩ := own_form hown1 (fun e => by have := (hnil1.1 e).1; cases this); have hc1 : w1.cell? ⟨g, p, none⟩ = some (.string z) := (World.cell?_of_block (a := ⟨g, p, none⟩) (grown_far (b := g) hgrow1 (by omega) (by simp [Value.ownBlock]; omega))).trans HX.out.2.1; have HO1 : Hid (AtS w1 g3 o) := HX.out.1.far (grown_far hgrow1 HX.out.1.1 (by simpa [Value.ownBlock] using hne0)) (by have := grown_size hgrow1; omega); have hne1 : g3 ≠ g5 := (by have h9 := HX.out.1.1; simp [Value.ownBlock] at hat1; omega); have HB1 : Hid (Below w.heap.size w w1) := (HB.out.alloc (by omega) _).grown hgrow1 hbs (fun j hj => by have h8 : wd.heap.size = j := (by simpa [Value.ownBlock] using hj); omega); have HOW1 : Hid (w1.ownsRow w.heap.size 9 1 (.slice (some ⟨g5, 0, none⟩) k c5) k (((o.drop 0).take k).map Value.string)) := hown1; have hs1 : w.heap.size ≤ w1.heap.size := HB1.out.size; have hbs1 : w.heap.size ≤ (w1.alloc (.cells #[.string z] 9)).heap.size := (by simp; omega); clear hown1 hgrow1 hnil1 hat1)
              | (at_builtin; refine wpList_append_own_at _ rfl _ _ 23 rfl w.heap.size 9 i0 (.string ⟨#[]⟩) 1 16 Tryz.underlying23 hi hz0 hz1 hz2 rfl (by decide) (.slice (some ⟨g5, 0, none⟩) k c5) k _ rfl (HOW1.out.alloc _) ⟨w1.heap.size, 0, none⟩ 1 1 [.string z] rfl rfl (cell_one_new _ _ _) (strs_one [z]) hx3 hx4 hbs1 ?_; intro v2 w2 hown2 hgrow2 hnil2 hat2; obtain ⟨g6, c6, rfl⟩ := own_form hown2 (fun e => by have := (hnil2.1 e).1; cases this); have HO2 : Hid (AtS w2 g3 o) := HO1.out.far (grown_far hgrow2 HO1.out.1 (by simpa [Value.ownBlock] using hne1)) (by have := grown_size hgrow2; omega); have HB2 : Hid (Below w.heap.size w w2) := (HB1.out.alloc hs1 _).grown hgrow2 hbs1 (fun j hj => (HOW1.out.lt j hj).1); have HOW2 : Hid (w2.ownsRow w.heap.size 9 1 (.slice (some ⟨g6, 0, none⟩) (k + 1) c6) (k + 1) (((o.drop 0).take k).map Value.string ++ [.string z])) := hown2; have hs2 : w.heap.size ≤ w2.heap.size := HB2.out.size; clear hown2 hgrow2 hnil2 hat2)
              | (at_builtin; refine wpList_append_own_at _ rfl _ _ 23 rfl w.heap.size 9 i0 (.string ⟨#[]⟩) 1 16 Tryz.underlying23 hi hz0 hz1 hz2 rfl (by decide) (.slice (some ⟨g6, 0, none⟩) (k + 1) c6) (k + 1) _ rfl HOW2.out ⟨g3, k, none⟩ 0 (c3 - k) [] rfl rfl (fun j u h => by simp at h) (fun u h => by cases h) hx5 hx6 hs2 ?_; intro v3 w3 hown3 hgrow3 hnil3 hat3; obtain ⟨g7, c7, rfl⟩ := own_form hown3 (fun e => by have := (hnil3.1 e).1; cases this); have HB3 : Hid (Below w.heap.size w w3) := HB2.out.grown hgrow3 hs2 (fun j hj => (HOW2.out.lt j hj).1); have HOW3 : Hid (w3.ownsRow w.heap.size 9 1 (.slice (some ⟨g7, 0, none⟩) (k + 1 + 0) c7) (k + 1 + 0) (((o.drop 0).take k).map Value.string ++ [.string z] ++ [])) := hown3; clear hown3 hgrow3 hnil3 hat3)
            go_roundw
            case rel =>
              refine ⟨p + 1, k + 1, g7, c7, HQ.out, by omega, by go_num, by rfl, ?_, ?_, HB3⟩
              · show _ = _
                rw [HRES.out, List.length_append, List.length_append]
                first | (simp [HOL.out]; done) | (simp [HOL.out]; omega)
              · have h5 := HOW3.out
                rw [show k + 1 + 0 = k + 1 from rfl] at h5
                refine SRow.of ?_ ?_
                · rw [HRES.out]
                  simpa using h5
                · rw [HRES.out, List.length_append, List.length_append]
                  first | (simp [HOL.out]; done) | (simp [HOL.out]; omega)
            case measure => have := HQ.out; simp [intOf]; omega
    · have HE : Hid (setL (zs.take p) = setL zs) := by
        show _ = _
        rw [List.take_of_length_le (by rw [← HN.out]; omega)]
      go_wp2_with fail
      go_ret
      refine ⟨_, rfl, ?_, HB.out⟩
      have := HR.out
      rw [HE.out] at this
      exact this

end Go.Proofs.YtpddholoehmjkaaGreatDoor

set_option linter.unusedVariables false
namespace Go.Proofs.YtpddholoehmjkaaGreatDoor
open Go.RowKit

set_option maxHeartbeats 2000000 in
set_option maxRecDepth 100000 in
theorem specL2To (k it : ByteArray) (below : Int) (w : World) (h1 : isSum k.data.toList = true) (h2 : isItem it.data.toList = true) (h3 : 1 ≤ below ∧ below ≤ 60000) :
    Calls Tryz.prog 187 #[.string k, .string it, .int .i64 below] w fun e w' => e = .returned (.int .i64 (filterTo k.data.toList it.data.toList below)) ∧ Below w.heap.size w w' := by
  have hks : k.size = 16 := by have := isSum_len h1; simpa using this
  have his := isItem_size h2
  have hsz : (k ++ (⟨#[32]⟩ : ByteArray) ++ it).size ≤ 1073741824 := by
    simp only [ByteArray.size_append, hks]
    have : (⟨#[32]⟩ : ByteArray).size = 1 := rfl
    omega
  have HF : Hid (filterTo k.data.toList it.data.toList below = (headOf (k ++ (⟨#[32]⟩ : ByteArray) ++ it).data.toList : Int) * below / 2147483648) := by
    show _ = _
    rw [filterTo_yes h1 h2 (by omega), keyItem_bytes]
  clear h1 h2
  go_enter Tryz.func187, Tryz.ntmps187
  go_wp2_with fail
  refine (specSum _ _ hsz).mono ?_
  rintro e w1 ⟨rfl, b1⟩
  have HX : Hid (isSum (⟨(sumB (k ++ (⟨#[32]⟩ : ByteArray) ++ it).data.toList).toArray⟩ : ByteArray).data.toList = true) := isSum_sumB _
  have hlt := headOf_lt (k ++ (⟨#[32]⟩ : ByteArray) ++ it).data.toList
  generalize (k ++ (⟨#[32]⟩ : ByteArray) ++ it).data.toList = t at HF HX hlt ⊢
  have hpl := place_lt (headOf t) below hlt h3
  go_wp2_with fail
  refine (specHead _ _ HX).mono ?_
  rintro e w2 ⟨rfl, rfl⟩
  rw [show hexN ((⟨(sumB t).toArray⟩ : ByteArray).data.toList.take 8) / 2 = headOf t from rfl]
  generalize headOf t = h at HF hlt hpl ⊢
  go_wp2
  go_ret
  rw [HF.out]
  exact ⟨rfl, b1⟩

end Go.Proofs.YtpddholoehmjkaaGreatDoor

set_option linter.unusedVariables false
namespace Go.Proofs.YtpddholoehmjkaaGreatDoor
open Go.RowKit
theorem infoU8 : (Tryz.prog.info? 5).map (fun i => (i.zero, i.size, i.bytes)) = some (some (.int .u8 0), 1, 1) := by kernel_rfl

set_option maxHeartbeats 2000000 in
set_option maxRecDepth 100000 in
theorem specVar (n : Nat) (w : World) (h : n ≤ 2147483647) :
    Calls Tryz.prog 189 #[.int .i64 n] w fun e w' => e = .returned (.string ⟨(varB 4 n).toArray⟩) ∧ Below w.heap.size w w' := by
  obtain ⟨i0, hi, hz0, hz1, hz2⟩ := info_parts infoU8
  go_enter Tryz.func189, Tryz.ntmps189
  go_wp2
  go_loopw [0, 3] (fun v s wr => ∃ (m f : Nat) (acc : List UInt8), v = .int .i64 m ∧ m ≤ n ∧ m < 128 ^ (f + 1) ∧ f ≤ 4 ∧ acc.length + f = 4 ∧ acc ++ varB f m = varB 4 n ∧ wr.ownsRow w.heap.size 5 1 s acc.length (Lib.byteCells acc) ∧ Below w.heap.size w wr) (fun v _ _ => (intOf v).toNat)
  case atStart =>
    exact ⟨n, 4, [], rfl, Nat.le_refl _, by omega, by omega, rfl, rfl, World.ownsRow_made w #[] 0 (Nat.le_refl _) (by simp) rfl, (Below.refl _ w).alloc (Nat.le_refl _) _⟩
  case round =>
    obtain ⟨m, f, acc, rfl, hm, hf, hf4, hacc, heq, hown, hbw⟩ := hrel
    have hsz := hbw.size
    have hx1 : acc.length + 1 ≤ maxLen := by unfold maxLen; omega
    have hx2 : (acc.length + 1) * 1 ≤ 140737488355328 := by omega
    by_cases hlt : m < 128
    · have h2 : (m : Int) < 128 := by omega
      go_wp2_with (at_builtin; refine wp_app1 rfl _ _ 35 rfl w.heap.size 5 i0 (.int .u8 0) 1 Tryz.underlying35 hi hz0 hz1 hz2 rfl _ _ _ rfl hown (.int .u8 m) rfl rfl hx1 hx2 hsz ?_)
      intro g cap w1 hown1 hb1 _
      rw [byteCells_snoc acc _ m rfl (by omega)] at hown1
      have hcv := bytes_back (P := Tryz.prog) 35 9 Tryz.underlying35 Tryz.underlying5 Tryz.underlying9 hown1 (by simp)
      go_wp2
      go_ret
      rw [varB_small f m hlt] at heq
      rw [heq]
      exact ⟨rfl, hbw.trans hb1⟩
    · have h2 : ¬ (m : Int) < 128 := by omega
      obtain ⟨g, rfl⟩ : ∃ g, f = g + 1 := by
        cases f with
        | zero => omega
        | succ g => exact ⟨g, rfl⟩
      go_wp2_with (at_builtin; refine wp_app1 rfl _ _ 35 rfl w.heap.size 5 i0 (.int .u8 0) 1 Tryz.underlying35 hi hz0 hz1 hz2 rfl _ _ _ rfl hown (.int .u8 (128 + m % 128)) rfl rfl hx1 hx2 hsz ?_)
      intro g1 cap w1 hown1 hb1 _
      rw [byteCells_snoc acc _ (128 + m % 128) (by omega) (by omega)] at hown1
      go_wp2
      go_roundw
      case rel =>
        refine ⟨m / 128, g, acc ++ [UInt8.ofNat (128 + m % 128)], by go_num, by omega, ?_, by omega, by simp; omega, ?_, by simpa using hown1, hbw.trans hb1⟩
        · have : 128 ^ (g + 1 + 1) = 128 ^ (g + 1) * 128 := Nat.pow_succ ..
          omega
        · rw [← heq, varB_step g m hlt]; simp
      case measure => simp [intOf]; omega

end Go.Proofs.YtpddholoehmjkaaGreatDoor

set_option linter.unusedVariables false
namespace Go.Proofs.YtpddholoehmjkaaGreatDoor
open Go.RowKit

set_option maxHeartbeats 2000000 in
set_option maxRecDepth 100000 in
theorem specFilter (g n cap : Nat) (ss : List ByteArray) (key : ByteArray) (w : World) (h : AtS w g ss) (hn : n = ss.length) (h1 : isSum key.data.toList = true) (h2 : itemsOkB ss = true) :
    Calls Tryz.prog 149 #[.string key, .slice (some ⟨g, 0, none⟩) n cap] w fun e w' => e = .returned (.string ⟨(filterB key.data.toList ss).toArray⟩) ∧ Below w.heap.size w w' := by
  obtain ⟨i0, hi, hz0, hz1, hz2⟩ := info_parts infoIntB
  have hset := specSet g n cap ss w h hn (by have := itemsOk_len h2; omega)
  have H1 : Hid (isSum key.data.toList = true) := h1
  have HSI : Hid (∀ i, i < (setL ss).length → isItem ((setL ss).getD i ByteArray.empty).data.toList = true) := by
    intro i hi
    refine set_items h2 _ ?_
    simp [List.getElem?_eq_getElem hi]
  have HGO : Hid ((gapsL key.data.toList ss).length ≤ 40 ∧ ∀ i, i < (gapsL key.data.toList ss).length → 0 ≤ (gapsL key.data.toList ss).getD i 0 ∧ (gapsL key.data.toList ss).getD i 0 ≤ 60000) := gaps_ok h1 h2
  have HPI : Hid (∀ z ∈ sortL (placesL key.data.toList ss), 0 ≤ z ∧ z ≤ 1480) := fun z hz => places_in h1 h2 z ((sortL_mem _ z).1 hz)
  have hm40 : (setL ss).length ≤ 40 := Nat.le_trans (setL_length ss) (itemsOk_len h2)
  have HFB : Hid (filterB key.data.toList ss = varB 4 (setL ss).length ++ riceB 5 ((gapsL key.data.toList ss).map Int.toNat)) := rfl
  have HPL : Hid (placesL key.data.toList ss = (setL ss).map fun it => filterTo key.data.toList it.data.toList (((setL ss).length : Int) * 37)) := rfl
  have HGL : Hid (gapsL key.data.toList ss = gapsZ 0 (sortL (placesL key.data.toList ss))) := rfl
  generalize gapsL key.data.toList ss = gl at HGO HFB HGL
  generalize placesL key.data.toList ss = pl at HPI HPL HGL
  generalize filterB key.data.toList ss = fb at HFB ⊢
  generalize setL ss = st at hset HSI hm40 HFB HPL
  clear h hn h1 h2
  go_enter Tryz.func149, Tryz.ntmps149
  go_wp2_with fail
  refine hset.mono ?_
  rintro e w1 ⟨v1, rfl, hr1, b1⟩
  obtain ⟨g1, c1, rfl⟩ := hr1.1
  have HAS : Hid (AtS w1 g1 st) := hr1.at.1
  have HB1 : Hid (Below w.heap.size w w1) := b1
  obtain ⟨m, hm⟩ : ∃ m, m = st.length := ⟨_, rfl⟩
  rw [← hm] at hm40 ⊢
  have HM : Hid (m = st.length) := hm
  rw [← hm] at HFB HPL
  clear hset hr1 b1 hm
  go_wp2_with fail
  have HW0 : Hid (ZRow w1.heap.size (.slice (some ⟨w1.heap.size, 0, none⟩) 0 0) (pl.take 0) (w1.alloc (.cells #[] 3))) := zrow_new w1
  have HB0 : Hid (Below w1.heap.size w1 (w1.alloc (.cells #[] 3))) := (Below.refl _ w1).alloc (Nat.le_refl _) _
  have HPLL : Hid (pl.length = m) := by show _ = _; rw [HPL.out, List.length_map]; exact HM.out.symm
  go_loopw [6, 7] (fun v i wr => ∃ (q g3 c3 : Nat), q ≤ m ∧ i = .int .i64 (q : Int) ∧ v = .slice (some ⟨g3, 0, none⟩) q c3 ∧ Hid (ZRow w1.heap.size v (pl.take q) wr) ∧ Hid (Below w1.heap.size w1 wr)) (fun _ i _ => m - (intOf i).toNat)
  case atStart => exact ⟨0, w1.heap.size, 0, by omega, rfl, rfl, HW0, HB0⟩
  case round =>
    clear HW0 HB0
    obtain ⟨q, g3, c3, hq, rfl, rfl, HR, HB⟩ := hrel
    have hszr := HB.out.size
    by_cases hlt : q < m
    · have hql : q < st.length := by rw [← HM.out]; exact hlt
      have hc : wr.cell? ⟨g1, q, none⟩ = some (.string (st.getD q ByteArray.empty)) := by
        rw [HB.out.cell (p := ⟨g1, q, none⟩) HAS.out.1]
        exact HAS.out.2 q hql
      have hit := HSI.out q hql
      have hto := specL2To key (st.getD q ByteArray.empty) ((m : Int) * 37) wr H1.out hit (by omega)
      have HE : Hid (pl.take (q + 1) = pl.take q ++ [filterTo key.data.toList (st.getD q ByteArray.empty).data.toList ((m : Int) * 37)]) := by
        show _ = _
        rw [List.take_add_one, HPL.out, List.getElem?_map, List.getElem?_eq_getElem hql, List.getD_eq_getElem?_getD, List.getElem?_eq_getElem hql]
        rfl
      generalize filterTo key.data.toList (st.getD q ByteArray.empty).data.toList ((m : Int) * 37) = z at hto HE
      generalize st.getD q ByteArray.empty = it at hc hto
      have HRW : Hid (wr.ownsRow w1.heap.size 3 1 (.slice (some ⟨g3, 0, none⟩) q c3) q ((pl.take q).map (Value.int .i64))) := by
        have h5 := HR.out.2
        have h6 : (pl.take q).length = q := by rw [List.length_take, HPLL.out]; omega
        rw [h6] at h5
        exact h5
      have HQ : Hid (q + 1 ≤ m) := hlt
      have lq : (q : Int) < (m : Int) := by omega
      have lq0 : (0 : Int) ≤ (q : Int) := by omega
      have hx1 : q + 1 ≤ maxLen := by unfold maxLen; omega
      have hx2 : (q + 1) * 8 ≤ 140737488355328 := by omega
      clear hql hit
      go_wp2_with fail
      refine hto.mono ?_
      rintro e w2 ⟨rfl, b2⟩
      have HRW2 : Hid (w2.ownsRow w1.heap.size 3 1 (.slice (some ⟨g3, 0, none⟩) q c3) q ((pl.take q).map (Value.int .i64))) := ownsRow_keep HRW.out (fun g' hg' => by
        obtain ⟨cur, hcc, hl⟩ := ownsRow_type HRW.out g' hg'
        exact b2.block g' hl)
      have HB2 : Hid (Below w1.heap.size w1 w2) := HB.out.trans (b2.mono HB.out.size)
      have hs2 := HB2.out.size
      clear b2 hto
      go_wp2_with (at_builtin; refine wp_app1 rfl _ _ 52 rfl w1.heap.size 3 i0 (.int .i64 0) 8 Tryz.underlying52 hi hz0 hz1 hz2 rfl _ _ _ rfl HRW2.out (.int .i64 z) rfl rfl hx1 hx2 hs2 ?_; intro g4 c4 w4 hown4 hb4 _)
      have HR4 : Hid (ZRow w1.heap.size (.slice (some ⟨g4, 0, none⟩) (q + 1) c4) (pl.take (q + 1)) w4) := by
        refine ZRow.of ?_ (by rw [List.length_take, HPLL.out]; have := HQ.out; omega)
        rw [HE.out, List.map_append]
        exact hown4
      clear hown4
      go_roundw
      case rel => exact ⟨q + 1, g4, c4, HQ.out, by go_num, rfl, HR4, HB2.out.trans hb4⟩
      case measure => have := HQ.out; simp [intOf]; omega
    · obtain rfl : q = m := by omega
      have HRA : Hid (ZRow w1.heap.size (.slice (some ⟨g3, 0, none⟩) q c3) pl wr) := by
        have h5 := HR.out
        rw [List.take_of_length_le (by rw [HPLL.out]; exact Nat.le_refl _)] at h5
        exact h5
      have hsort := specSort g3 q c3 pl wr HRA.out.at.1 HPLL.out.symm (by omega)
      have HSL : Hid ((sortL pl).length = q) := by show _ = _; rw [sortL_length]; exact HPLL.out
      have HBw : Hid (Below w.heap.size w wr) := HB1.out.trans (HB.out.mono HB1.out.size)
      generalize sortL pl = so at hsort HPI HGL HSL
      clear hszr HR
      go_wp2_with fail
      refine hsort.mono ?_
      rintro e w5 ⟨v5, rfl, hr5, b5⟩
      obtain ⟨g5, c5, rfl⟩ := hr5.1
      have HA5 : Hid (At w5 g5 so) := hr5.at.1
      have HB5 : Hid (Below w.heap.size w w5) := HBw.out.trans (b5.mono HBw.out.size)
      rw [HSL.out]
      clear hsort hr5 b5
      go_wp2_with fail
      have HG0 : Hid (ZRow w5.heap.size (.slice (some ⟨w5.heap.size, 0, none⟩) 0 0) (gapsZ 0 (so.take 0)) (w5.alloc (.cells #[] 3))) := zrow_new w5
      have HB50 : Hid (Below w5.heap.size w5 (w5.alloc (.cells #[] 3))) := (Below.refl _ w5).alloc (Nat.le_refl _) _
      go_loopw [8, 9, 10] (fun v l i wx => ∃ (p g6 c6 : Nat) (y : Int), p ≤ q ∧ i = .int .i64 (p : Int) ∧ l = .int .i64 y ∧ 0 ≤ y ∧ y ≤ 1480 ∧ v = .slice (some ⟨g6, 0, none⟩) p c6 ∧ Hid (y = lastZ 0 (so.take p)) ∧ Hid (ZRow w5.heap.size v (gapsZ 0 (so.take p)) wx) ∧ Hid (Below w5.heap.size w5 wx)) (fun _ _ i _ => q - (intOf i).toNat)
      case atStart => exact ⟨0, w5.heap.size, 0, 0, by omega, rfl, rfl, by omega, by omega, rfl, rfl, HG0, HB50⟩
      case round =>
        clear HG0 HB50 HB HRA
        obtain ⟨p, g6, c6, y, hp, rfl, rfl, hy0, hy1, rfl, HY, HR, HB⟩ := hrel
        have hszr := HB.out.size
        have HGLN : Hid ((gapsZ 0 (so.take p)).length = p) := by show _ = _; rw [gapsZ_length, List.length_take, HSL.out]; omega
        by_cases hlt2 : p < q
        · have hpl : p < so.length := by rw [HSL.out]; exact hlt2
          have hc : wr.cell? ⟨g5, p, none⟩ = some (.int .i64 (so.getD p 0)) := by
            rw [HB.out.cell (p := ⟨g5, p, none⟩) HA5.out.1]
            exact HA5.out.2 p hpl
          have hin := HPI.out (so.getD p 0) (by simp [List.getElem?_eq_getElem hpl])
          have e1 : so.take (p + 1) = so.take p ++ [so.getD p 0] := by
            rw [List.take_add_one, List.getElem?_eq_getElem hpl, List.getD_eq_getElem?_getD, List.getElem?_eq_getElem hpl]
            rfl
          have HE : Hid (gapsZ 0 (so.take (p + 1)) = gapsZ 0 (so.take p) ++ [so.getD p 0 - y] ∧ so.getD p 0 = lastZ 0 (so.take (p + 1))) := by
            rw [e1, gapsZ_snoc, lastZ_snoc, ← HY.out]
            exact ⟨rfl, rfl⟩
          generalize so.getD p 0 = x at hc hin HE
          obtain ⟨hin0, hin1⟩ := hin
          have HRW : Hid (wr.ownsRow w5.heap.size 3 1 (.slice (some ⟨g6, 0, none⟩) p c6) p ((gapsZ 0 (so.take p)).map (Value.int .i64))) := by
            have h5 := HR.out.2
            rw [HGLN.out] at h5
            exact h5
          have HP : Hid (p + 1 ≤ q) := hlt2
          have lp : (p : Int) < (q : Int) := by omega
          have lp0 : (0 : Int) ≤ (p : Int) := by omega
          have hx1 : p + 1 ≤ maxLen := by unfold maxLen; omega
          have hx2 : (p + 1) * 8 ≤ 140737488355328 := by omega
          clear hpl e1
          go_wp2_with (at_builtin; refine wp_app1 rfl _ _ 52 rfl w5.heap.size 3 i0 (.int .i64 0) 8 Tryz.underlying52 hi hz0 hz1 hz2 rfl _ _ _ rfl HRW.out (.int .i64 (x - y)) rfl rfl hx1 hx2 hszr ?_; intro g4 c4 w4 hown4 hb4 _; have hc4 : w4.cell? ⟨g5, p, none⟩ = some (.int .i64 x) := (hb4.cell (p := ⟨g5, p, none⟩) HA5.out.1).trans hc)
          have HR4 : Hid (ZRow w5.heap.size (.slice (some ⟨g4, 0, none⟩) (p + 1) c4) (gapsZ 0 (so.take (p + 1))) w4) := by
            refine ZRow.of ?_ (by rw [gapsZ_length, List.length_take, HSL.out]; have := HP.out; omega)
            rw [HE.out.1, List.map_append]
            exact hown4
          clear hown4
          go_roundw
          case rel => exact ⟨p + 1, g4, c4, x, HP.out, by go_num, rfl, hin0, hin1, rfl, HE.out.2, HR4, HB.out.trans hb4⟩
          case measure => have := HP.out; simp [intOf]; omega
        · obtain rfl : p = q := by omega
          have HGA : Hid (At wr g6 gl ∧ p = gl.length) := by
            have h5 := HR.out
            rw [List.take_of_length_le (by rw [HSL.out]; exact Nat.le_refl _), ← HGL.out] at h5
            exact ⟨h5.at.1, h5.at.2⟩
          have hvar := fun w' => specVar p w' (by omega)
          have hrice := fun w' h' => specRice g6 p c6 gl 5 w' h' HGA.out.2 (by omega) HGO.out.1 HGO.out.2
          have HBx : Hid (Below w.heap.size w wr) := HB5.out.trans (HB.out.mono HB5.out.size)
          have hlr : (riceB 5 (gl.map Int.toNat)).length ≤ 300100 := by
            have h5 := ricePut_len gl 5
            rw [ricePut_yes (riceOk_yes HGO.out.1 (by omega) HGO.out.2)] at h5
            exact h5
          have hlv := (varB_length 4 p).2
          generalize (riceB 5 (gl.map Int.toNat)) = rb at hrice HFB hlr
          generalize varB 4 p = vb at hvar HFB hlv
          have HEQ : Hid ((⟨vb.toArray⟩ ++ ⟨rb.toArray⟩ : ByteArray) = ⟨fb.toArray⟩) := by
            show _ = _
            rw [HFB.out]
            apply ByteArray.ext
            simp
          clear hszr HR
          go_wp2_with fail
          refine (hvar _).mono ?_
          rintro e w6 ⟨rfl, b6⟩
          have HGA6 : Hid (At w6 g6 gl) := HGA.out.1.below b6 HGA.out.1.1
          have HB6 : Hid (Below w.heap.size w w6) := HBx.out.trans (b6.mono HBx.out.size)
          clear b6 hvar
          go_wp2_with fail
          refine (hrice _ HGA6.out).mono ?_
          rintro e w7 ⟨rfl, b7⟩
          clear hrice
          go_wp2_with fail
          go_ret
          refine ⟨?_, HB6.out.trans (b7.mono HB6.out.size)⟩
          rw [← HEQ.out]
          rfl

end Go.Proofs.YtpddholoehmjkaaGreatDoor

set_option linter.unusedVariables false
namespace Go.Proofs.YtpddholoehmjkaaGreatDoor
open Go.RowKit Go.Deep

def blockFilter (h : HeadV) (ss : List ByteArray) : List UInt8 := if blockOkB h ss = true then filterB (sumB (headX h)) ss else []
theorem blockOk_parts {h : HeadV} {ss : List ByteArray} (hb : blockOkB h ss = true) : headOkB h = true ∧ itemsOkB ss = true := by
  simp only [blockOkB, headMeets, Bool.and_eq_true] at hb
  exact ⟨hb.1.1, hb.2.2.1⟩

set_option maxHeartbeats 1000000 in
set_option maxRecDepth 100000 in
theorem implBlockFilter (h : HeadV) (g n cap : Nat) (ss : List ByteArray) (w : World) (h0 : AtS w g ss) (hn : n = ss.length) (hK : RowG w shaK) (hP : TabP w) :
    Calls Tryz.prog 31 #[blockVal h (.slice (some ⟨g, 0, none⟩) n cap)] w fun e w' => e = .returned (.string ⟨(blockFilter h ss).toArray⟩) ∧ Below w.heap.size w w' := by
  have H0 : Hid (AtS w g ss) := h0
  have HK : Hid (RowG w shaK) := hK
  have HP : Hid (∀ w', Below w.heap.size w w' → TabP w') := fun w' hb => TabP.below hP hb (Nat.le_refl _)
  have hbo := fun w' h' hk hp => implBlockOk h g n cap ss w' h' hn hk hp
  have hhs := fun w' hk hp => implHeadSum h w' hk hp
  have hfo := fun k w' h' hk => implFilterOf g n cap ss k w' h' hn hk
  unfold headVal at hhs
  unfold blockVal at hbo ⊢
  clear h0 hn hK hP
  have C0 : Hid (CBk (w.alloc (.cells #[.string h.prev, .string h.root, .int .i64 h.time, .int .i64 h.diff, .int .i64 h.nonce, .slice (some ⟨g, 0, none⟩) n cap] 41)) w.heap.size 41 #[.string h.prev, .string h.root, .int .i64 h.time, .int .i64 h.diff, .int .i64 h.nonce, .slice (some ⟨g, 0, none⟩) n cap]) := CBk.new w 41 #[.string h.prev, .string h.root, .int .i64 h.time, .int .i64 h.diff, .int .i64 h.nonce, .slice (some ⟨g, 0, none⟩) n cap]
  have L0 : Hid (Below w.heap.size w (w.alloc (.cells #[.string h.prev, .string h.root, .int .i64 h.time, .int .i64 h.diff, .int .i64 h.nonce, .slice (some ⟨g, 0, none⟩) n cap] 41))) := (Below.refl _ w).alloc (Nat.le_refl _) _
  cases hb : blockOkB h ss with
  | false =>
    have HE : Hid (blockFilter h ss = []) := by show _ = _; rw [blockFilter, hb]; rfl
    rw [hb] at hbo
    clear hhs hfo
    go_enter Tryz.func31, Tryz.ntmps31
    go_wp2_with fail
    refine (hbo _ (H0.out.below L0.out H0.out.1) (HK.out.below L0.out HK.out.lt) (HP.out _ L0.out)).mono ?_
    rintro e w1 ⟨rfl, b1⟩
    go_wp2_with fail
    go_ret
    exact ⟨by rw [HE.out]; rfl, L0.out.trans (b1.mono L0.out.size)⟩
  | true =>
    have hok := (blockOk_parts hb).1
    have HE : Hid (filterOf (sumB (headX h)) ss = blockFilter h ss) := by show _ = _; rw [blockFilter, if_pos hb, filterOf_yes (isSum_sumB _) (blockOk_parts hb).2]
    rw [headSum_yes hok] at hhs
    rw [hb] at hbo
    have hfo := hfo ⟨(sumB (headX h)).toArray⟩
    rw [show (⟨(sumB (headX h)).toArray⟩ : ByteArray).data.toList = sumB (headX h) from rfl, HE.out] at hfo
    generalize sumB (headX h) = X at hhs hfo
    clear HE hok hb
    generalize blockFilter h ss = R at hfo
    go_enter Tryz.func31, Tryz.ntmps31
    go_wp2_with fail
    refine (hbo _ (H0.out.below L0.out H0.out.1) (HK.out.below L0.out HK.out.lt) (HP.out _ L0.out)).mono ?_
    rintro e w1 ⟨rfl, b1⟩
    have C1 : Hid (CBk w1 w.heap.size 41 #[.string h.prev, .string h.root, .int .i64 h.time, .int .i64 h.diff, .int .i64 h.nonce, .slice (some ⟨g, 0, none⟩) n cap]) := C0.out.call b1
    have L1 : Hid (Below w.heap.size w w1) := L0.out.trans (b1.mono L0.out.size)
    clear C0 L0 b1 hbo
    go_wp2_with fail
    go_region_held3 (fun w' => w'.cell? ⟨w.heap.size, 0, none⟩ = some (.string h.prev) ∧ w'.cell? ⟨w.heap.size, 1, none⟩ = some (.string h.root) ∧ w'.cell? ⟨w.heap.size, 2, none⟩ = some (.int .i64 h.time) ∧ w'.cell? ⟨w.heap.size, 3, none⟩ = some (.int .i64 h.diff) ∧ w'.cell? ⟨w.heap.size, 4, none⟩ = some (.int .i64 h.nonce) ∧ w'.cell? ⟨w.heap.size, 5, none⟩ = some (.slice (some ⟨g, 0, none⟩) n cap))
      (first | exact C1.out.drew.out6 | exact C2.out.out6 | exact C3.out.out6)
      (first
        | (go_at_call 69; refine (hhs _ (HK.out.below L1.out.drew HK.out.lt) (HP.out _ L1.out.drew)).mono ?_; rintro e w2 ⟨rfl, b2⟩; have L2 : Hid (Below w.heap.size w w2) := L1.out.drew.trans (b2.mono L1.out.size); have C2 : Hid (CBk w2 w.heap.size 41 #[.string h.prev, .string h.root, .int .i64 h.time, .int .i64 h.diff, .int .i64 h.nonce, .slice (some ⟨g, 0, none⟩) n cap]) := C1.out.drew.call b2)
        | (go_at_call 68; refine (hfo _ (H0.out.below L2.out H0.out.1) (HK.out.below L2.out HK.out.lt)).mono ?_; rintro e w3 ⟨rfl, b3⟩; have L3 : Hid (Below w.heap.size w w3) := L2.out.trans (b3.mono L2.out.size); have C3 : Hid (CBk w3 w.heap.size 41 #[.string h.prev, .string h.root, .int .i64 h.time, .int .i64 h.diff, .int .i64 h.nonce, .slice (some ⟨g, 0, none⟩) n cap]) := C2.out.call b3))
    go_wp2_with fail
    go_ret
    exact ⟨rfl, L3.out⟩

set_option maxHeartbeats 1000000 in
set_option maxRecDepth 100000 in
theorem specL3Filter (h : HeadV) (g n cap : Nat) (ss : List ByteArray) (w : World) (h0 : AtS w g ss) (hn : n = ss.length) (hok : headOkB h = true) (hit : itemsOkB ss = true) :
    Calls Tryz.prog 111 #[blockVal h (.slice (some ⟨g, 0, none⟩) n cap)] w fun e w' => e = .returned (.string ⟨(filterB (sumB (headX h)) ss).toArray⟩) ∧ Below w.heap.size w w' := by
  have H0 : Hid (AtS w g ss) := h0
  have hhs := fun w' => specL3Sum h w' hok
  have hfo := fun w' h' => specFilter g n cap ss ⟨(sumB (headX h)).toArray⟩ w' h' hn (isSum_sumB _) hit
  rw [show (⟨(sumB (headX h)).toArray⟩ : ByteArray).data.toList = sumB (headX h) from rfl] at hfo
  generalize filterB (sumB (headX h)) ss = R at hfo ⊢
  generalize sumB (headX h) = X at hhs hfo
  unfold headVal at hhs
  unfold blockVal
  clear h0 hn hok hit
  have C0 : Hid (CBk (w.alloc (.cells #[.string h.prev, .string h.root, .int .i64 h.time, .int .i64 h.diff, .int .i64 h.nonce, .slice (some ⟨g, 0, none⟩) n cap] 41)) w.heap.size 41 #[.string h.prev, .string h.root, .int .i64 h.time, .int .i64 h.diff, .int .i64 h.nonce, .slice (some ⟨g, 0, none⟩) n cap]) := CBk.new w 41 #[.string h.prev, .string h.root, .int .i64 h.time, .int .i64 h.diff, .int .i64 h.nonce, .slice (some ⟨g, 0, none⟩) n cap]
  have L0 : Hid (Below w.heap.size w (w.alloc (.cells #[.string h.prev, .string h.root, .int .i64 h.time, .int .i64 h.diff, .int .i64 h.nonce, .slice (some ⟨g, 0, none⟩) n cap] 41))) := (Below.refl _ w).alloc (Nat.le_refl _) _
  go_enter Tryz.func111, Tryz.ntmps111
  go_wp2_with fail
  go_region_held3 (fun w' => w'.cell? ⟨w.heap.size, 0, none⟩ = some (.string h.prev) ∧ w'.cell? ⟨w.heap.size, 1, none⟩ = some (.string h.root) ∧ w'.cell? ⟨w.heap.size, 2, none⟩ = some (.int .i64 h.time) ∧ w'.cell? ⟨w.heap.size, 3, none⟩ = some (.int .i64 h.diff) ∧ w'.cell? ⟨w.heap.size, 4, none⟩ = some (.int .i64 h.nonce) ∧ w'.cell? ⟨w.heap.size, 5, none⟩ = some (.slice (some ⟨g, 0, none⟩) n cap))
    (first | exact C0.out.drew.out6 | exact C2.out.out6 | exact C3.out.out6)
    (first
      | (go_at_call 89; refine (hhs _).mono ?_; rintro e w2 ⟨rfl, b2⟩; have L2 : Hid (Below w.heap.size w w2) := L0.out.drew.trans (b2.mono L0.out.size); have C2 : Hid (CBk w2 w.heap.size 41 #[.string h.prev, .string h.root, .int .i64 h.time, .int .i64 h.diff, .int .i64 h.nonce, .slice (some ⟨g, 0, none⟩) n cap]) := C0.out.drew.call b2)
      | (go_at_call 149; refine (hfo _ (H0.out.below L2.out H0.out.1)).mono ?_; rintro e w3 ⟨rfl, b3⟩; have L3 : Hid (Below w.heap.size w w3) := L2.out.trans (b3.mono L2.out.size); have C3 : Hid (CBk w3 w.heap.size 41 #[.string h.prev, .string h.root, .int .i64 h.time, .int .i64 h.diff, .int .i64 h.nonce, .slice (some ⟨g, 0, none⟩) n cap]) := C2.out.call b3))
  go_wp2_with fail
  go_ret
  exact ⟨rfl, L3.out⟩

end Go.Proofs.YtpddholoehmjkaaGreatDoor

set_option linter.unusedVariables false
namespace Go.Proofs.YtpddholoehmjkaaGreatDoor
open Go.RowKit

/-- The text whose sum a mark is. -/
def markT (p f : List UInt8) : List UInt8 := [109, 97, 114, 107, 32] ++ p ++ [32] ++ sumB f
def markOf (p f : List UInt8) : List UInt8 := if isSum p = true ∧ f.length ≤ 600 then sumB (markT p f) else []
theorem sumB_len (t : List UInt8) : (sumB t).length = 16 := by simp [sumB, hexOf]

set_option maxHeartbeats 1000000 in
set_option maxRecDepth 100000 in
theorem implMarkOf (p f : ByteArray) (w : World) (hK : RowG w shaK) :
    Calls Tryz.prog 30 #[.string p, .string f] w fun e w' => e = .returned (.string ⟨(markOf p.data.toList f.data.toList).toArray⟩) ∧ Below w.heap.size w w' := by
  have HK : Hid (RowG w shaK) := hK
  clear hK
  cases h1 : isSum p.data.toList with
  | false =>
    rw [markOf, if_neg (by rw [h1]; simp)]
    go_enter Tryz.func30, Tryz.ntmps30
    go_wp2_with (go_at_call 66; refine (implSumOk _ _).mono ?_; rintro e w1 ⟨rfl, rfl⟩)
    go_ret
    exact ⟨rfl, Below.refl _ _⟩
  | true =>
    by_cases h6 : (600 : Int) < (f.size : Int)
    · rw [markOf, if_neg (by simp; omega)]
      go_enter Tryz.func30, Tryz.ntmps30
      go_wp2_with (go_at_call 66; refine (implSumOk _ _).mono ?_; rintro e w1 ⟨rfl, rfl⟩)
      go_ret
      exact ⟨rfl, Below.refl _ _⟩
    · rw [markOf, if_pos ⟨h1, by simp; omega⟩]
      have hps : p.size = 16 := by have := isSum_len h1; simpa using this
      have hsz : ((⟨#[109, 97, 114, 107, 32]⟩ : ByteArray) ++ p ++ (⟨#[32]⟩ : ByteArray) ++ ⟨(sumB f.data.toList).toArray⟩).size ≤ 1073741824 := by
        simp only [ByteArray.size_append, hps]
        have e1 : (⟨#[109, 97, 114, 107, 32]⟩ : ByteArray).size = 5 := rfl
        have e2 : (⟨#[32]⟩ : ByteArray).size = 1 := rfl
        have e3 : (⟨(sumB f.data.toList).toArray⟩ : ByteArray).size = 16 := by simp [ByteArray.size, sumB_len]
        omega
      have HT : Hid (((⟨#[109, 97, 114, 107, 32]⟩ : ByteArray) ++ p ++ (⟨#[32]⟩ : ByteArray) ++ ⟨(sumB f.data.toList).toArray⟩).data.toList = markT p.data.toList f.data.toList) := by
        show _ = _
        simp [markT]
      go_enter Tryz.func30, Tryz.ntmps30
      go_wp2_with (go_at_call 66; refine (implSumOk _ _).mono ?_; rintro e w1 ⟨rfl, rfl⟩)
      refine (implSum f _ (by omega) HK.out).mono ?_
      rintro e w1 ⟨rfl, b1⟩
      have hl := sumB_len f.data.toList
      generalize sumB f.data.toList = t at hsz HT hl ⊢
      go_wp2_with fail
      refine (implSum _ _ hsz (HK.out.below b1 HK.out.lt)).mono ?_
      rintro e w2 ⟨rfl, b2⟩
      rw [HT.out]
      go_wp2_with fail
      go_ret
      exact ⟨rfl, b1.trans (b2.mono b1.size)⟩

set_option maxHeartbeats 1000000 in
set_option maxRecDepth 100000 in
theorem specL3Mark (p f : ByteArray) (w : World) (hp : p.size ≤ 1000000) (hf : f.size ≤ 1073741824) :
    Calls Tryz.prog 110 #[.string p, .string f] w fun e w' => e = .returned (.string ⟨(sumB (markT p.data.toList f.data.toList)).toArray⟩) ∧ Below w.heap.size w w' := by
  have hsz : ((⟨#[109, 97, 114, 107, 32]⟩ : ByteArray) ++ p ++ (⟨#[32]⟩ : ByteArray) ++ ⟨(sumB f.data.toList).toArray⟩).size ≤ 1073741824 := by
    simp only [ByteArray.size_append]
    have e1 : (⟨#[109, 97, 114, 107, 32]⟩ : ByteArray).size = 5 := rfl
    have e2 : (⟨#[32]⟩ : ByteArray).size = 1 := rfl
    have e3 : (⟨(sumB f.data.toList).toArray⟩ : ByteArray).size = 16 := by simp [ByteArray.size, sumB_len]
    omega
  have HT : Hid (((⟨#[109, 97, 114, 107, 32]⟩ : ByteArray) ++ p ++ (⟨#[32]⟩ : ByteArray) ++ ⟨(sumB f.data.toList).toArray⟩).data.toList = markT p.data.toList f.data.toList) := by
    show _ = _
    simp [markT]
  go_enter Tryz.func110, Tryz.ntmps110
  go_wp2_with fail
  refine (specSum f _ hf).mono ?_
  rintro e w1 ⟨rfl, b1⟩
  have hl := sumB_len f.data.toList
  generalize sumB f.data.toList = t at hsz HT hl ⊢
  go_wp2_with fail
  refine (specSum _ _ hsz).mono ?_
  rintro e w2 ⟨rfl, b2⟩
  rw [HT.out]
  go_wp2_with fail
  go_ret
  exact ⟨rfl, b1.trans (b2.mono b1.size)⟩

end Go.Proofs.YtpddholoehmjkaaGreatDoor

set_option linter.unusedVariables false
namespace Go.Proofs.YtpddholoehmjkaaGreatDoor
open Go.RowKit

def bitAt (o : List UInt8) (p : Nat) : Int := if p < 8 * o.length then (((o.getD (p / 8) 0).toNat / 2 ^ (7 - p % 8) % 2 : Nat) : Int) else -1
theorem byteBits_at (c : UInt8) (p : Nat) (hp : p < 8) : (byteBits c).getD p 0 = c.toNat / 2 ^ (7 - p) % 2 := by
  match p, hp with
  | 0, _ | 1, _ | 2, _ | 3, _ | 4, _ | 5, _ | 6, _ => rfl
  | 7, _ => simp [byteBits]
theorem unpack_at (o : List UInt8) : ∀ p, p < 8 * o.length → (unpack o).getD p 0 = (o.getD (p / 8) 0).toNat / 2 ^ (7 - p % 8) % 2 := by
  induction o with
  | nil => intro p hp; simp at hp
  | cons c r ih =>
    intro p hp
    have hu : unpack (c :: r) = byteBits c ++ unpack r := rfl
    have hl : (byteBits c).length = 8 := rfl
    rw [hu]
    rcases Nat.lt_or_ge p 8 with h | h
    · have e : p / 8 = 0 := by omega
      rw [List.getD_eq_getElem?_getD, List.getElem?_append_left (by omega), ← List.getD_eq_getElem?_getD, byteBits_at c p h, e, show p % 8 = p from by omega]
      rfl
    · have e : p / 8 = (p - 8) / 8 + 1 := by omega
      have hp' : p - 8 < 8 * r.length := by simp at hp; omega
      rw [List.getD_eq_getElem?_getD, List.getElem?_append_right (by omega), hl, ← List.getD_eq_getElem?_getD, ih (p - 8) hp', e, show (p - 8) % 8 = p % 8 from by omega]
      rfl
theorem bitAt_in {o : List UInt8} {p : Nat} (hp : p < 8 * o.length) : bitAt o p = (((unpack o).getD p 0 : Nat) : Int) := by
  rw [bitAt, if_pos hp, unpack_at o p hp]
theorem bitAt_out {o : List UInt8} {p : Nat} (hp : ¬ p < 8 * o.length) : bitAt o p = -1 := by rw [bitAt, if_neg hp]
theorem bitAt_range (o : List UInt8) (p : Nat) : -1 ≤ bitAt o p ∧ bitAt o p ≤ 1 := by
  unfold bitAt
  split <;> omega

end Go.Proofs.YtpddholoehmjkaaGreatDoor

set_option linter.unusedVariables false
namespace Go.Proofs.YtpddholoehmjkaaGreatDoor
open Go.Shelf Go.RowKit

/-- A list that is written just so. -/
def Writes (k many : Nat) (o : List UInt8) (l : List Nat) : Prop := l.length = many ∧ (∀ x ∈ l, x ≤ 60000) ∧ riceB k l = o
theorem writes_one {k many : Nat} {o : List UInt8} {l : List Nat} (h : Writes k many o l) : readT k many (unpack o) (0, false, 0) [] = l := by
  rw [← h.2.2, ← h.1]
  exact readT_rice k l
/-- The place at which the j-th number begins. -/
def placeOf (k : Nat) (l : List Nat) (j : Nat) : Nat := (bitsOf k (l.take j)).length
theorem placeOf_zero (k : Nat) (l : List Nat) : placeOf k l 0 = 0 := by simp [placeOf, bitsOf]
theorem placeOf_succ (k : Nat) (l : List Nat) (j : Nat) (hj : j < l.length) : placeOf k l (j + 1) = placeOf k l j + (numB k (l.getD j 0)).length := by
  have : l.take (j + 1) = l.take j ++ [l.getD j 0] := by
    rw [List.take_add_one, List.getElem?_eq_getElem hj]
    simp [List.getElem?_eq_getElem hj]
  rw [placeOf, this, bitsOf_snoc, List.length_append]
  rfl
theorem num_at {k many : Nat} {o : List UInt8} {l : List Nat} (h : Writes k many o l) (j : Nat) (hj : j < many) (q : Nat) (hq : q < (numB k (l.getD j 0)).length) :
    placeOf k l j + q < 8 * o.length ∧ bitAt o (placeOf k l j + q) = (((numB k (l.getD j 0)).getD q 0 : Nat) : Int) := by
  obtain ⟨z, _, hu⟩ := unpack_rice k l
  rw [h.2.2] at hu
  have hjl : j < l.length := by rw [h.1]; exact hj
  have hsplit : bitsOf k l = bitsOf k (l.take j) ++ (numB k (l.getD j 0) ++ bitsOf k (l.drop (j + 1))) := by
    have e : l = l.take j ++ (l.getD j 0 :: l.drop (j + 1)) := by
      have e2 : l.getD j 0 = l[j] := by rw [List.getD_eq_getElem?_getD, List.getElem?_eq_getElem hjl]; rfl
      rw [e2, ← List.drop_eq_getElem_cons hjl, List.take_append_drop]
    conv => lhs; rw [e]
    simp [bitsOf]
  have hul : (unpack o).length = 8 * o.length := unpack_length o
  rw [hsplit] at hu
  have hlen : placeOf k l j + q < (unpack o).length := by
    rw [hu]
    simp only [List.length_append, placeOf]
    omega
  refine ⟨by omega, ?_⟩
  rw [bitAt_in (by omega), hu]
  congr 1
  rw [List.append_assoc, List.getD_eq_getElem?_getD, List.getElem?_append_right (by simp only [placeOf]; omega)]
  rw [show placeOf k l j + q - (bitsOf k (l.take j)).length = q from by simp only [placeOf]; omega]
  rw [List.append_assoc, List.getElem?_append_left hq, ← List.getD_eq_getElem?_getD]
theorem numB_one (k x q : Nat) (h : q < x / 2 ^ k) : (numB k x).getD q 0 = 1 := by
  rw [numB, List.getD_eq_getElem?_getD, List.getElem?_append_left (by simpa using h)]
  simp [h]
theorem numB_nought (k x : Nat) : (numB k x).getD (x / 2 ^ k) 0 = 0 := by
  rw [numB, List.getD_eq_getElem?_getD, List.getElem?_append_right (by simp)]
  simp
theorem lowB_at (x : Nat) : ∀ (k i : Nat), i < k → (lowB x k).getD i 0 = x / 2 ^ (k - 1 - i) % 2 := by
  intro k
  induction k with
  | zero => intro i hi; omega
  | succ k ih =>
    intro i hi
    cases i with
    | zero => rfl
    | succ i =>
      have := ih i (by omega)
      rw [show lowB x (k + 1) = (x / 2 ^ k % 2) :: lowB x k from rfl]
      rw [List.getD_cons_succ, this, show k + 1 - 1 - (i + 1) = k - 1 - i from by omega]
theorem numB_low (k x i : Nat) (h : i < k) : (numB k x).getD (x / 2 ^ k + 1 + i) 0 = x / 2 ^ (k - 1 - i) % 2 := by
  rw [numB, List.getD_eq_getElem?_getD, List.getElem?_append_right (by simp; omega)]
  rw [show x / 2 ^ k + 1 + i - (List.replicate (x / 2 ^ k) 1).length = i + 1 from by simp; omega]
  rw [List.getElem?_cons_succ, ← List.getD_eq_getElem?_getD, lowB_at x k i h]
/-- So many ones from a place on, then none: the number's first part. -/
theorem ones_end {k many : Nat} {o : List UInt8} {l : List Nat} (h : Writes k many o l) (j : Nat) (hj : j < many) (n : Nat) (h1 : ∀ q, q < n → bitAt o (placeOf k l j + q) = 1) (h2 : bitAt o (placeOf k l j + n) ≠ 1) : n = l.getD j 0 / 2 ^ k := by
  have hl := numB_length k (l.getD j 0)
  rcases Nat.lt_trichotomy n (l.getD j 0 / 2 ^ k) with hh | hh | hh
  · have := (num_at h j hj n (by omega)).2
    rw [numB_one k _ n hh] at this
    exact absurd this h2
  · exact hh
  · have a := (num_at h j hj (l.getD j 0 / 2 ^ k) (by omega)).2
    rw [numB_nought, h1 _ hh] at a
    simp at a
theorem low_step {k many : Nat} {o : List UInt8} {l : List Nat} (h : Writes k many o l) (j : Nat) (hj : j < many) (i : Nat) (hi : i < k) (v : Int) (hv : v = ((l.getD j 0 / 2 ^ (k - i) : Nat) : Int)) :
    v * 2 + bitAt o (placeOf k l j + l.getD j 0 / 2 ^ k + 1 + i) = ((l.getD j 0 / 2 ^ (k - (i + 1)) : Nat) : Int) := by
  have hl := numB_length k (l.getD j 0)
  have a := (num_at h j hj (l.getD j 0 / 2 ^ k + 1 + i) (by omega)).2
  rw [numB_low k _ i hi] at a
  rw [show placeOf k l j + l.getD j 0 / 2 ^ k + 1 + i = placeOf k l j + (l.getD j 0 / 2 ^ k + 1 + i) from by omega, a, hv]
  have e : l.getD j 0 / 2 ^ (k - i) = l.getD j 0 / 2 ^ (k - (i + 1)) / 2 := by
    rw [show k - i = k - (i + 1) + 1 from by omega, Nat.pow_succ, Nat.div_div_eq_div_mul]
  rw [e, show k - 1 - i = k - (i + 1) from by omega]
  omega

end Go.Proofs.YtpddholoehmjkaaGreatDoor

namespace Go.Proofs.YtpddholoehmjkaaGreatDoor
open Go.RowKit

def getOk (o : List UInt8) (many k : Int) : Bool := decide (0 ≤ many ∧ many ≤ 40) && decide (0 ≤ k ∧ k ≤ 8) && decide (o.length ≤ 600)
def readAll (o : List UInt8) (many k : Int) : List Nat := readT k.toNat many.toNat (unpack o) (0, false, 0) []
open Classical in
/-- The list that is written just so, if there is one. -/
noncomputable def riceGet (o : List UInt8) (many k : Int) : Option (List Nat) :=
  if getOk o many k = true ∧ Writes k.toNat many.toNat o (readAll o many k) then some (readAll o many k) else none
theorem riceGet_bad {o : List UInt8} {many k : Int} (h : getOk o many k = false) : riceGet o many k = none := by
  rw [riceGet, if_neg (fun hh => by rw [h] at hh; cases hh.1)]
theorem riceGet_yes {o : List UInt8} {many k : Int} {l : List Nat} (h : getOk o many k = true) (hw : Writes k.toNat many.toNat o l) : riceGet o many k = some l := by
  have e : readAll o many k = l := writes_one hw
  rw [riceGet, e, if_pos ⟨h, hw⟩]
theorem riceGet_no {o : List UInt8} {many k : Int} (h : ∀ l, ¬ Writes k.toNat many.toNat o l) : riceGet o many k = none := by
  rw [riceGet, if_neg (fun hh => h _ hh.2)]
theorem riceGet_some {o : List UInt8} {many k : Int} {l : List Nat} (h : riceGet o many k = some l) : getOk o many k = true ∧ Writes k.toNat many.toNat o l := by
  unfold riceGet at h
  split at h
  · rename_i hh
    obtain rfl : readAll o many k = l := by simpa using h
    exact hh
  · cases h

end Go.Proofs.YtpddholoehmjkaaGreatDoor

namespace Go.Proofs.YtpddholoehmjkaaGreatDoor
open Go.RowKit

/-- Each the sum of all up to it. -/
def sumsF : Nat → List Nat → List Nat
  | _, [] => []
  | a, x :: r => (a + x) :: sumsF (a + x) r
def total (a : Nat) (l : List Nat) : Nat := l.foldl (· + ·) a
theorem total_cons (a x : Nat) (l : List Nat) : total a (x :: l) = total (a + x) l := rfl
theorem total_snoc (a x : Nat) (l : List Nat) : total a (l ++ [x]) = total a l + x := by simp [total]
theorem sumsF_length (l : List Nat) : ∀ a, (sumsF a l).length = l.length := by
  induction l with
  | nil => intro a; rfl
  | cons x r ih => intro a; simp [sumsF, ih]
theorem sumsF_snoc (l : List Nat) (x : Nat) : ∀ a, sumsF a (l ++ [x]) = sumsF a l ++ [total a l + x] := by
  induction l with
  | nil => intro a; rfl
  | cons y r ih => intro a; simp [sumsF, ih, total_cons]
theorem le_total (l : List Nat) : ∀ a, a ≤ total a l := by
  induction l with
  | nil => intro a; exact Nat.le_refl _
  | cons x r ih => intro a; rw [total_cons]; have := ih (a + x); omega
theorem sumsF_le (l : List Nat) : ∀ a, ∀ p ∈ sumsF a l, a ≤ p ∧ p ≤ total a l := by
  induction l with
  | nil => intro a p hp; cases hp
  | cons x r ih =>
    intro a p hp
    rw [total_cons]
    rcases List.mem_cons.1 hp with rfl | hp
    · exact ⟨by omega, le_total r _⟩
    · have := ih (a + x) p hp
      exact ⟨by omega, this.2⟩
theorem sumsF_last (l : List Nat) (h : l ≠ []) : ∀ a, total a l ∈ sumsF a l := by
  induction l with
  | nil => exact absurd rfl h
  | cons x r ih =>
    intro a
    cases r with
    | nil => simp [sumsF, total]
    | cons y t => exact List.mem_cons_of_mem _ (ih (by simp) (a + x))
theorem total_bound (l : List Nat) (h : ∀ x ∈ l, x ≤ 60000) : ∀ a, total a l ≤ a + 60000 * l.length := by
  induction l with
  | nil => intro a; exact Nat.le_refl _
  | cons x r ih =>
    intro a
    have h1 := ih (fun y hy => h y (by simp [hy])) (a + x)
    have h2 := h x (by simp)
    rw [total_cons, List.length_cons]
    omega

/-- Where the items fall, if all are below. -/
def placesOf (many : Nat) (gaps : List Nat) : Option (List Nat) := if total 0 gaps < many * 37 ∨ gaps = [] then some (sumsF 0 gaps) else none
noncomputable def filterGet (o : List UInt8) : Option (List Nat) :=
  if (varGet o).2 = 0 ∨ 600 < o.length then none
  else match riceGet (o.drop (varGet o).2) ((varGet o).1 : Int) 5 with
    | none => none
    | some gaps => placesOf (varGet o).1 gaps
theorem filterGet_bad {o : List UInt8} (h : (varGet o).2 = 0 ∨ 600 < o.length) : filterGet o = none := by rw [filterGet, if_pos h]
theorem filterGet_none {o : List UInt8} (h : riceGet (o.drop (varGet o).2) ((varGet o).1 : Int) 5 = none) : filterGet o = none := by
  unfold filterGet
  split
  · rfl
  · rw [h]
theorem filterGet_some {o : List UInt8} {gaps : List Nat} (h0 : ¬ ((varGet o).2 = 0 ∨ 600 < o.length)) (h : riceGet (o.drop (varGet o).2) ((varGet o).1 : Int) 5 = some gaps) : filterGet o = placesOf (varGet o).1 gaps := by
  rw [filterGet, if_neg h0, h]

theorem vg_size (f : Nat) : ∀ (l r : List UInt8), (vg f l r).2 ≤ l.length + r.length ∧ (vg f l r).2 ≤ l.length + f ∧ (vg f l r).1 ≤ 2147483647 := by
  induction f with
  | zero => intro l r; simp [vg]
  | succ f ih =>
    intro l r
    cases r with
    | nil => simp [vg]
    | cons b r =>
      rw [vg]
      split
      · have := ih (l ++ [b]) r
        simp at this ⊢
        omega
      · split
        · rename_i hb hv
          refine ⟨by simp, by simp, ?_⟩
          show vNum (l ++ [b]) ≤ 2147483647
          unfold varPut at hv
          split at hv
          · rename_i h
            omega
          · simp at hv
        · simp
theorem varGet_size (o : List UInt8) : (varGet o).2 ≤ o.length ∧ (varGet o).2 ≤ 5 ∧ (varGet o).1 ≤ 2147483647 := by
  have := vg_size 5 [] o
  simpa [varGet] using this

end Go.Proofs.YtpddholoehmjkaaGreatDoor

set_option linter.unusedVariables false
namespace Go.Proofs.YtpddholoehmjkaaGreatDoor
open Go.RowKit

def stepT (k : Nat) (s : (Nat × Bool × Nat) × List Nat) (b : Nat) : (Nat × Bool × Nat) × List Nat := ((takeM k s.1 b).1, s.2 ++ (takeM k s.1 b).2.toList)
def runT (k : Nat) (bs : List Bit) : (Nat × Bool × Nat) × List Nat := bs.foldl (fun s b => stepT k s b.1) ((0, false, 0), [])
theorem runT_snoc (k : Nat) (bs : List Bit) (b : Bit) : runT k (bs ++ [b]) = stepT k (runT k bs) b.1 := by simp [runT]
/-- What a number that is read in part can be. -/
def okT (k q : Nat) (st : Nat × Bool × Nat) : Prop := (st.2.1 = false ∧ st.1 ≤ q ∧ st.2.2 = 0) ∨ (st.2.1 = true ∧ 1 ≤ st.2.2 ∧ st.2.2 ≤ k ∧ st.1 < (q + 1) * 2 ^ (k - st.2.2))
theorem okT_step {k q b : Nat} {st : Nat × Bool × Nat} (h : okT k q st) (hb : b ≤ 1) : okT k (q + 1) (takeM k st b).1 := by
  obtain ⟨n, r, left⟩ := st
  rcases h with ⟨h1, h2, h3⟩ | ⟨h1, h2, h3, h4⟩
  · obtain rfl : r = false := h1
    have h2' : n ≤ q := h2
    have h3' : left = 0 := h3
    by_cases hb1 : b = 1
    · have e : (takeM k (n, false, left) b).1 = (n + 1, false, left) := by simp [takeM, hb1]
      rw [e]
      exact .inl ⟨rfl, by show n + 1 ≤ q + 1; omega, h3⟩
    · by_cases hk : 0 < k
      · have e : (takeM k (n, false, left) b).1 = (n, true, k) := by simp [takeM, hb1, hk]
        rw [e]
        exact .inr ⟨rfl, by show 1 ≤ k; omega, Nat.le_refl _, by show n < (q + 1 + 1) * 2 ^ (k - k); rw [Nat.sub_self]; omega⟩
      · have e : (takeM k (n, false, left) b).1 = (0, false, 0) := by simp [takeM, hb1, hk]
        rw [e]
        exact .inl ⟨rfl, Nat.zero_le _, rfl⟩
  · obtain rfl : r = true := h1
    have h3' : left ≤ k := h3
    have h4' : n < (q + 1) * 2 ^ (k - left) := h4
    by_cases hl : 1 < left
    · have e : (takeM k (n, true, left) b).1 = (n * 2 + b, true, left - 1) := by simp [takeM, hl]
      rw [e]
      refine .inr ⟨rfl, by show 1 ≤ left - 1; omega, by show left - 1 ≤ k; omega, ?_⟩
      show n * 2 + b < (q + 1 + 1) * 2 ^ (k - (left - 1))
      rw [show k - (left - 1) = k - left + 1 from by omega, Nat.pow_succ, ← Nat.mul_assoc, Nat.add_mul (q + 1) 1]
      omega
    · have e : (takeM k (n, true, left) b).1 = (0, false, 0) := by simp [takeM, hl]
      rw [e]
      exact .inl ⟨rfl, Nat.zero_le _, rfl⟩
theorem okT_small {k q : Nat} {st : Nat × Bool × Nat} (h : okT k q st) (hk : k ≤ 8) (hq : q ≤ 4800) : st.1 < 1000000000000 ∧ st.2.2 ≤ 8 ∧ (st.2.1 = true → 1 ≤ st.2.2) := by
  rcases h with ⟨h1, h2, h3⟩ | ⟨h1, h2, h3, h4⟩
  · exact ⟨by omega, by omega, fun e => by rw [h1] at e; cases e⟩
  · have hp : 2 ^ (k - st.2.2) ≤ 2 ^ 8 := Nat.pow_le_pow_right (by omega) (by omega)
    have hm : (q + 1) * 2 ^ (k - st.2.2) ≤ 4801 * 2 ^ 8 := Nat.mul_le_mul (by omega) hp
    exact ⟨by omega, by omega, fun _ => h2⟩
/-- Reading goes on behind these bits. -/
def OpenT (k many : Nat) (bs : List Bit) : Prop := (∀ rest, readT k many (bs.map (fun b => b.1) ++ rest) (0, false, 0) [] = readT k many rest (runT k bs).1 (runT k bs).2) ∧ (runT k bs).2.length ≤ many ∧ okT k bs.length (runT k bs).1
theorem openT_nil (k many : Nat) : OpenT k many [] := ⟨fun _ => rfl, Nat.zero_le _, .inl ⟨rfl, Nat.le_refl _, rfl⟩⟩
theorem openT_snoc {k many : Nat} {bs : List Bit} (h : OpenT k many bs) (hne : (runT k bs).2.length ≠ many) (b : Bit) : OpenT k many (bs ++ [b]) := by
  refine ⟨fun rest => ?_, ?_, ?_⟩
  · rw [List.map_append, List.append_assoc, h.1, List.map_cons, List.map_nil, List.cons_append, List.nil_append, readT, if_neg hne, runT_snoc]
    rfl
  · rw [runT_snoc]
    have h2 := h.2.1
    simp only [stepT, List.length_append]
    have : (takeM k (runT k bs).1 b.1).2.toList.length ≤ 1 := by cases (takeM k (runT k bs).1 b.1).2 <;> simp
    omega
  · rw [runT_snoc, List.length_append]
    exact okT_step h.2.2 b.2
theorem openT_full {k many : Nat} {bs : List Bit} (h : OpenT k many bs) (he : (runT k bs).2.length = many) (rest : List Nat) : readT k many (bs.map (fun b => b.1) ++ rest) (0, false, 0) [] = (runT k bs).2 := by
  rw [h.1]
  cases rest with
  | nil => rfl
  | cons b r => rw [readT, if_pos he]
theorem openT_end {k many : Nat} {bs : List Bit} (h : OpenT k many bs) : readT k many (bs.map (fun b => b.1)) (0, false, 0) [] = (runT k bs).2 := by
  have := h.1 []
  rw [List.append_nil] at this
  rw [this]
  rfl

theorem unpack_map (o : List UInt8) : unpack o = (List.range (8 * o.length)).map fun q => (o.getD (q / 8) 0).toNat / 2 ^ (7 - q % 8) % 2 := by
  induction o with
  | nil => rfl
  | cons c r ih =>
    have e : unpack (c :: r) = byteBits c ++ unpack r := rfl
    rw [e, ih, List.length_cons, show 8 * (r.length + 1) = 8 + 8 * r.length from by omega, List.range_add, List.map_append, List.map_map]
    congr 1
    · simp [byteBits, List.range, List.range.loop]
    · apply List.map_congr_left
      intro q _
      show _ = ((c :: r).getD ((8 + q) / 8) 0).toNat / 2 ^ (7 - (8 + q) % 8) % 2
      rw [show (8 + q) / 8 = q / 8 + 1 from by omega, show (8 + q) % 8 = q % 8 from by omega]
      simp
theorem unpack_bits (s : ByteArray) : unpack s.data.toList = (bitsTo s (8 * s.size)).map (fun b => b.1) := by
  rw [unpack_map, bitsTo, List.map_map]
  have : s.data.toList.length = s.size := by simp
  rw [this]
  rfl
theorem bitsTo_split (s : ByteArray) (q : Nat) (h : q ≤ 8 * s.size) : ∃ rest, unpack s.data.toList = (bitsTo s q).map (fun b => b.1) ++ rest := by
  refine ⟨((List.range (8 * s.size - q)).map (fun i => bitOf s (q + i))).map (fun b => b.1), ?_⟩
  have e : bitsTo s (8 * s.size) = bitsTo s q ++ (List.range (8 * s.size - q)).map (fun i => bitOf s (q + i)) := by
    rw [bitsTo, show 8 * s.size = q + (8 * s.size - q) from by omega, List.range_add, List.map_append, List.map_map, show q + (8 * s.size - q) - q = 8 * s.size - q from by omega]
    rfl
  rw [unpack_bits, e, List.map_append]

end Go.Proofs.YtpddholoehmjkaaGreatDoor

set_option linter.unusedVariables false
namespace Go.Proofs.YtpddholoehmjkaaGreatDoor
open Go.Shelf Go.RowKit

/-- What has been read: so many numbers, and for every list that is written just so: its first ones, and its next place. -/
def ReadTo (k many : Nat) (o : List UInt8) (out : List Nat) (p : Nat) : Prop :=
  (∀ x ∈ out, x ≤ 60000) ∧ ∀ l, Writes k many o l → l.take out.length = out ∧ placeOf k l out.length = p
def OutRow (B : Nat) (v : Value) (out : List Nat) (w : World) : Prop := (∃ g cap, v = .slice (some ⟨g, 0, none⟩) out.length cap) ∧ w.ownsRow B 3 1 v out.length (intCells out)

def sliceLen : Value → Nat
  | .slice _ n _ => n
  | _ => 0
theorem newRow (w : World) : OutRow w.heap.size (.slice (some ⟨w.heap.size, 0, none⟩) 0 0) [] (w.alloc (.cells #[] 3)) :=
  ⟨⟨_, _, rfl⟩, rfl, .inr ⟨_, _, #[], rfl, Nat.le_refl _, heap_alloc_new w _, Nat.le_refl _, by unfold maxLen; omega, rfl, rfl⟩⟩
theorem readTo_start (k many : Nat) (o : List UInt8) : ReadTo k many o [] 0 :=
  ⟨by simp, fun l _ => ⟨by simp, by simp [placeOf_zero]⟩⟩
theorem bitAt_nonneg {o : List UInt8} {p : Nat} (h : p < 8 * o.length) : 0 ≤ bitAt o p := by rw [bitAt_in h]; omega
theorem readTo_none {k many : Nat} {o : List UInt8} {out : List Nat} {p m : Nat} {v : Int} (h : ReadTo k many o out p) (hj : out.length < many) (hv : ∀ l, Writes k many o l → v = ((l.getD out.length 0 : Nat) : Int) ∧ m = placeOf k l (out.length + 1)) (hbad : 8 * o.length < m ∨ 60000 < v) : ∀ l, ¬ Writes k many o l := by
  intro l hl
  obtain ⟨h1, h2⟩ := hv l hl
  have hjl : out.length < l.length := by rw [hl.1]; exact hj
  rcases hbad with hb | hb
  · have hn := numB_length k (l.getD out.length 0)
    have hpos : 0 < (numB k (l.getD out.length 0)).length := by rw [hn]; exact Nat.add_pos_left (Nat.succ_pos _) _
    have h3 := (num_at hl out.length hj ((numB k (l.getD out.length 0)).length - 1) (Nat.sub_lt hpos Nat.one_pos)).1
    rw [placeOf_succ k l out.length hjl] at h2
    generalize (numB k (l.getD out.length 0)).length = N at *
    omega
  · have h3 : l.getD out.length 0 ≤ 60000 := by
      refine hl.2.1 _ ?_
      simp [List.getElem?_eq_getElem hjl]
    omega
theorem readTo_next {k many : Nat} {o : List UInt8} {out : List Nat} {p m vn : Nat} (h : ReadTo k many o out p) (hj : out.length < many) (hv : ∀ l, Writes k many o l → (vn : Int) = ((l.getD out.length 0 : Nat) : Int) ∧ m = placeOf k l (out.length + 1)) (hs : vn ≤ 60000) : ReadTo k many o (out ++ [vn]) m := by
  refine ⟨?_, ?_⟩
  · intro x hx
    rcases List.mem_append.1 hx with hx | hx
    · exact h.1 x hx
    · simp at hx; omega
  · intro l hl
    obtain ⟨h1, h2⟩ := hv l hl
    have hjl : out.length < l.length := by rw [hl.1]; exact hj
    refine ⟨?_, by rw [List.length_append]; exact h2.symm⟩
    rw [List.length_append, List.length_singleton, List.take_add_one, (h.2 l hl).1, List.getElem?_eq_getElem hjl]
    have e : l.getD out.length 0 = l[out.length] := by rw [List.getD_eq_getElem?_getD, List.getElem?_eq_getElem hjl]; rfl
    rw [e] at h1
    have : vn = l[out.length] := by omega
    simp [this]

end Go.Proofs.YtpddholoehmjkaaGreatDoor

set_option linter.unusedVariables false
namespace Go.Proofs.YtpddholoehmjkaaGreatDoor
open Go.Shelf Go.RowKit

/-- What comes back: nothing, or a row of the call's own that holds the numbers. -/
def GotRow (B : Nat) (v : Value) (w : World) : Option (List Nat) → Prop
  | none => v = .slice none 0 0
  | some l => OutRow B v l w
theorem toNat_map (l : List Nat) : (l.map fun n : Nat => (n : Int)).map Int.toNat = l := by
  rw [List.map_map]
  conv => rhs; rw [← List.map_id l]
  apply List.map_congr_left
  intro x _
  simp
theorem outRow_at {B : Nat} {g n cap : Nat} {l : List Nat} {w : World} (h : OutRow B (.slice (some ⟨g, 0, none⟩) n cap) l w) : At w g (l.map fun n : Nat => (n : Int)) := by
  obtain ⟨⟨g', cap', hv⟩, hrow⟩ := h
  simp only [Value.slice.injEq, Option.some.injEq, Addr.mk.injEq, and_true] at hv
  obtain ⟨rfl, rfl, rfl⟩ := hv
  obtain ⟨cur, hc, hlt⟩ := ownsRow_type hrow g rfl
  refine ⟨hlt, fun i hi => ?_⟩
  have hil : i < l.length := by simpa using hi
  rw [intCell_at hrow i hil]
  simp [List.getElem?_eq_getElem hil]

end Go.Proofs.YtpddholoehmjkaaGreatDoor

set_option linter.unusedVariables false
namespace Go.Proofs.YtpddholoehmjkaaGreatDoor
open Go.RowKit

theorem ownsRow_mono {B C : Nat} {e : TypeId} {v : Value} {n : Nat} {xs : List Value} {w : World} (h : w.ownsRow C e 1 v n xs) (hB : B ≤ C) : w.ownsRow B e 1 v n xs := by
  refine ⟨h.1, ?_⟩
  rcases h.2 with h2 | ⟨g, cap, cur, hv, h2, h3⟩
  · exact .inl h2
  · exact .inr ⟨g, cap, cur, hv, by omega, h3⟩

theorem OutRow.keep {B g n cap C : Nat} {l : List Nat} {w w' : World} (h : OutRow B (.slice (some ⟨g, 0, none⟩) n cap) l w) (hb : Below C w w') (hg : g < C) : OutRow B (.slice (some ⟨g, 0, none⟩) n cap) l w' :=
  ⟨h.1, ownsRow_keep h.2 (fun g' hg' => by obtain rfl : g = g' := by simpa [Value.ownBlock] using hg'
                                           exact hb.block g hg)⟩
theorem OutRow.lt {B g n cap : Nat} {l : List Nat} {w : World} (h : OutRow B (.slice (some ⟨g, 0, none⟩) n cap) l w) : B ≤ g ∧ g < w.heap.size := by
  obtain ⟨⟨g', cap', hv⟩, hrow⟩ := h
  simp only [Value.slice.injEq, Option.some.injEq, Addr.mk.injEq, and_true] at hv
  obtain ⟨rfl, rfl, rfl⟩ := hv
  obtain ⟨cur, hc, hlt⟩ := ownsRow_type hrow g rfl
  refine ⟨?_, hlt⟩
  rcases hrow.2 with ⟨h2, _⟩ | ⟨g', cap', cur, hv, h2, _⟩
  · cases h2
  · simp only [Value.slice.injEq, Option.some.injEq, Addr.mk.injEq, and_true] at hv
    rw [hv.1]
    exact h2

end Go.Proofs.YtpddholoehmjkaaGreatDoor

set_option linter.unusedVariables false
namespace Go.Proofs.YtpddholoehmjkaaGreatDoor
open Go.RowKit Go.Shelf
attribute [local go_sem] Oper.semAt_some

theorem ownFrom_cells {β : Type} (B b : Nat) (f : β → Array Value) (t : TypeId) : OwnFrom B (fun s W => W.heap[b]? = some (.cells (f s) t (0, 0))) := by
  intro s X Y row hs hg hr
  refine (hg.block b (Array.getElem?_eq_some_iff.1 hs).1 (fun e => ?_)).trans hs
  obtain ⟨_, o, ho, hc⟩ := hr b e.symm
  rw [hs] at ho
  cases ho
  cases hc
/-- Another block than the row and the box lies as it lay, behind the append and the store. -/
theorem append_other {W w1 : World} {n₀ B b : Nat} {t e : TypeId} {c : Array Value} {fz : Nat × Nat} {v v' : Value} {k : Nat} {xs : List Value} {tmp : Obj}
    (h : W.heap[b]? = some (.cells c t fz)) (hte : t ≠ e) (hrow : W.ownsRow n₀ e 1 v k xs) (hgrow : (W.alloc tmp).grownBy w1 v.ownBlock) (hB : b ≠ B) : (w1.setCell ⟨B, 0, none⟩ v').heap[b]? = W.heap[b]? := by
  have hlt : b < W.heap.size := (Array.getElem?_eq_some_iff.1 h).1
  rw [Below.heap_setCell _ _ _ b (fun e => hB (by rw [e]))]
  rw [hgrow.block b (by simp; omega) ?_]
  · exact Below.heap_alloc _ _ _ hlt
  · rcases hrow.2 with ⟨rfl, _⟩ | ⟨g, cap, cur, rfl, _, hgb, _⟩
    · simp [Value.ownBlock]
    · intro e'
      obtain rfl : b = g := by simpa [Value.ownBlock] using e'
      rw [h] at hgb
      simp at hgb
      exact hte hgb.2.1
theorem Only.keepsOthers {b : Nat} {w w' : World} {c : Array Value} {t : TypeId} {fz : Nat × Nat} (h : Only b w w') (hb : w.heap[b]? = some (.cells c t fz)) : KeepsOthers w w' :=
  ⟨by rw [h.size]; exact Nat.le_refl _, fun k o hk ho => by
    rw [h.block k (fun e => ?_)]
    · exact hk
    · subst e
      rw [hb] at hk
      cases hk
      cases ho⟩

/-- Between two rounds: the list in its box, how many are wanted, the reader; in blocks from h on. -/
def NumL (h kn mn : Nat) (pre : List Bit) (W : World) : Prop := ∃ v, Boxed W (h + 1 + 1) 52 v ∧ W.ownsRow (h + 1) 3 1 v (runT kn pre).2.length (intCells (runT kn pre).2) ∧ (∃ g cap, v = .slice (some ⟨g, 0, none⟩) (runT kn pre).2.length cap)
theorem numL_own (h kn mn B : Nat) : OwnFrom B (NumL h kn mn) := Own.from (holdsRow_own (h + 1) (h + 1 + 1) 52 3 1 (fun pre => (runT kn pre).2.length) (fun pre => intCells (runT kn pre).2) (fun pre v => ∃ g cap, v = .slice (some ⟨g, 0, none⟩) (runT kn pre).2.length cap)) B
theorem Only.row {b : Nat} {w w' : World} {c : Array Value} {t e : TypeId} {fz : Nat × Nat} {n k : Nat} {v : Value} {xs : List Value} (h : Only b w w') (hb : w.heap[b]? = some (.cells c t fz)) (hte : t ≠ e) (hr : w.ownsRow n e 1 v k xs) : w'.ownsRow n e 1 v k xs := by
  refine ownsRow_keep hr (fun g hg => h.block g (fun e' => ?_))
  subst e'
  obtain ⟨cur, hc, _⟩ := ownsRow_type hr g hg
  rw [hb] at hc
  simp at hc
  exact hte hc.2.1

theorem madeCells_size0 (n : Nat) : (madeCells #[.int .i64 0] n).size = n := by rw [madeCells_zero]; simp [zerosN]
theorem alloc_new {w : World} {n : Nat} (o : Obj) (h : w.heap.size = n) : (w.alloc o).heap[n]? = some o := by subst h; exact World.alloc_heap_new w o
end Go.Proofs.YtpddholoehmjkaaGreatDoor

set_option linter.unusedVariables false
namespace Go.Proofs.YtpddholoehmjkaaGreatDoor
open Go.Shelf Go.RowKit

theorem put_writes {kn mn : Nat} {o : List UInt8} {out : List Nat} (hk : kn ≤ 8) (hm : mn ≤ 40) (hl : out.length = mn) (hr : readT kn mn (unpack o) (0, false, 0) [] = out) :
    ricePut (out.map fun n : Nat => (n : Int)) (kn : Int) = o ↔ Writes kn mn o out := by
  constructor
  · intro h
    cases hk2 : riceOkB (out.map fun n : Nat => (n : Int)) (kn : Int) with
    | true =>
      rw [ricePut_yes hk2, toNat_map, Int.toNat_natCast] at h
      refine ⟨hl, ?_, h⟩
      intro x hx
      obtain ⟨i, hi, rfl⟩ := List.mem_iff_getElem.1 hx
      have := riceOk_at hk2 i (by simpa using hi)
      rw [List.getD_eq_getElem?_getD, List.getElem?_map, List.getElem?_eq_getElem hi] at this
      simp at this
      omega
    | false =>
      rw [ricePut_no hk2] at h
      subst h
      have e : out = [] := by rw [← hr]; rfl
      subst e
      rw [riceOk_yes (by simp) (by omega) (by simp)] at hk2
      cases hk2
  · rintro ⟨h1, h2, h3⟩
    rw [ricePut_yes (riceOk_yes (by simp; omega) (by omega) ?_), toNat_map, Int.toNat_natCast]
    · exact h3
    · intro i hi
      have hil : i < out.length := by simpa using hi
      have := h2 (out[i]) (List.getElem_mem hil)
      rw [List.getD_eq_getElem?_getD, List.getElem?_map, List.getElem?_eq_getElem hil]
      simp
      omega

end Go.Proofs.YtpddholoehmjkaaGreatDoor

set_option linter.unusedVariables false
namespace Go.Proofs.YtpddholoehmjkaaGreatDoor
open Go.RowKit

end Go.Proofs.YtpddholoehmjkaaGreatDoor

namespace Go.Proofs.YtpddholoehmjkaaGreatDoor
open Go.RowKit

theorem take_sums (l : List Nat) (i : Nat) (h : i < l.length) : sumsF 0 (l.take (i + 1)) = sumsF 0 (l.take i) ++ [total 0 (l.take i) + l.getD i 0] ∧ total 0 (l.take (i + 1)) = total 0 (l.take i) + l.getD i 0 := by
  have e : l.take (i + 1) = l.take i ++ [l.getD i 0] := by
    rw [List.take_add_one, List.getElem?_eq_getElem h, List.getD_eq_getElem?_getD, List.getElem?_eq_getElem h]
    rfl
  rw [e, sumsF_snoc, total_snoc]
  exact ⟨rfl, rfl⟩
theorem total_take_le (l : List Nat) (i : Nat) : total 0 (l.take i) ≤ total 0 l := by
  have e : total 0 l = total (total 0 (l.take i)) (l.drop i) := by
    rw [total, total, total, ← List.foldl_append, List.take_append_drop]
  rw [e]
  exact le_total _ _

end Go.Proofs.YtpddholoehmjkaaGreatDoor

set_option linter.unusedVariables false
namespace Go.Proofs.YtpddholoehmjkaaGreatDoor
open Go.Shelf Go.RowKit

end Go.Proofs.YtpddholoehmjkaaGreatDoor

set_option linter.unusedVariables false
namespace Go.Proofs.YtpddholoehmjkaaGreatDoor
open Go.RowKit

end Go.Proofs.YtpddholoehmjkaaGreatDoor

set_option linter.unusedVariables false
namespace Go.Proofs.YtpddholoehmjkaaGreatDoor
open Go.Shelf Go.RowKit

/-- How many a filter tells, if it is one. -/
noncomputable def manyOf2 (o : List UInt8) : Nat := if (filterGet o).isSome then (varGet o).1 else 0

end Go.Proofs.YtpddholoehmjkaaGreatDoor

set_option linter.unusedVariables false
namespace Go.Proofs.YtpddholoehmjkaaGreatDoor
open Go.RowKit

noncomputable def filterHas (s k it : List UInt8) : Bool :=
  match filterGet s with
  | none => false
  | some l => decide (l ≠ []) && isSum k && isItem it && l.any fun p => decide ((p : Int) = filterTo k it ((l.length : Int) * 37))
theorem filterHas_none {s k it : List UInt8} (h : filterGet s = none) : filterHas s k it = false := by rw [filterHas, h]
theorem filterHas_nil {s k it : List UInt8} (h : filterGet s = some []) : filterHas s k it = false := by rw [filterHas, h]; simp
theorem filterHas_no1 {s k it : List UInt8} (h : isSum k = false) : filterHas s k it = false := by
  rw [filterHas]
  split
  · rfl
  · simp [h]
theorem filterHas_no2 {s k it : List UInt8} (h : isItem it = false) : filterHas s k it = false := by
  rw [filterHas]
  split
  · rfl
  · simp [h]
theorem filterHas_yes {s k it : List UInt8} {l : List Nat} (h : filterGet s = some l) (hl : l ≠ []) (h1 : isSum k = true) (h2 : isItem it = true) : filterHas s k it = l.any fun p => decide ((p : Int) = filterTo k it ((l.length : Int) * 37)) := by
  rw [filterHas, h]
  simp [h1, h2, hl]
theorem any_yes (l : List Nat) (z : Int) (k : Nat) (hk : k < l.length) (h : ((l.getD k 0 : Nat) : Int) = z) : (l.any fun p => decide ((p : Int) = z)) = true := by
  rw [List.any_eq_true]
  refine ⟨l.getD k 0, ?_, by simpa using h⟩
  simp [List.getElem?_eq_getElem hk]
theorem any_no (l : List Nat) (z : Int) (h : ∀ j, j < l.length → ((l.getD j 0 : Nat) : Int) ≠ z) : (l.any fun p => decide ((p : Int) = z)) = false := by
  rw [List.any_eq_false]
  intro x hx
  obtain ⟨i, hi, rfl⟩ := List.mem_iff_getElem.1 hx
  have := h i hi
  rw [List.getD_eq_getElem?_getD, List.getElem?_eq_getElem hi] at this
  simpa using this
theorem filterGet_len2 {o : List UInt8} {l : List Nat} (h : filterGet o = some l) : l.length ≤ 40 ∧ l.length = (varGet o).1 := by
  unfold filterGet at h
  split at h
  · cases h
  · split at h
    · cases h
    · rename_i gaps hr
      unfold placesOf at h
      split at h
      · have e : sumsF 0 gaps = l := by simpa using h
        rw [← e, sumsF_length]
        have := riceGet_some hr
        have h2 := this.1
        simp only [getOk, Bool.and_eq_true, decide_eq_true_eq] at h2
        have h3 := this.2.1
        omega
      · cases h
theorem manyOf2_some {o : List UInt8} {l : List Nat} (h : filterGet o = some l) : manyOf2 o = l.length := by
  rw [manyOf2, h, (filterGet_len2 h).2]
  rfl

end Go.Proofs.YtpddholoehmjkaaGreatDoor

namespace Go.Proofs.YtpddholoehmjkaaGreatDoor
open Go.RowKit

theorem vg_run (l : List UInt8) : ∀ (f : Nat) (pre : List UInt8) (b : UInt8) (r : List UInt8), (∀ c ∈ l, 128 ≤ c.toNat) → b.toNat < 128 → l.length < f →
    vg f pre (l ++ b :: r) = if varPut (vNum (pre ++ l ++ [b])) = pre ++ l ++ [b] then (vNum (pre ++ l ++ [b]), (pre ++ l).length + 1) else (0, 0) := by
  induction l with
  | nil =>
    intro f pre b r _ hb hf
    obtain ⟨g, rfl⟩ : ∃ g, f = g + 1 := ⟨f - 1, by simp at hf; omega⟩
    simp only [List.nil_append, vg, List.append_nil]
    rw [if_neg (by omega)]
  | cons c t ih =>
    intro f pre b r hl hb hf
    obtain ⟨g, rfl⟩ : ∃ g, f = g + 1 := ⟨f - 1, by simp at hf; omega⟩
    simp only [List.cons_append, vg]
    rw [if_pos (hl c (by simp)), ih g (pre ++ [c]) b r (fun x hx => hl x (by simp [hx])) hb (by simp at hf; omega)]
    simp

theorem varB_shape (f : Nat) : ∀ n, n < 128 ^ (f + 1) → ∃ l b, varB f n = l ++ [b] ∧ vEnds l b ∧ vNum (l ++ [b]) = n ∧ l.length ≤ f := by
  induction f with
  | zero =>
    intro n hn
    have hn' : n < 128 := by simpa using hn
    refine ⟨[], UInt8.ofNat n, by simp [varB], ⟨by simp, by simp; omega⟩, ?_, by simp⟩
    simp [vNum]
    omega
  | succ f ih =>
    intro n hn
    by_cases h : n < 128
    · refine ⟨[], UInt8.ofNat n, by simp [varB, h], ⟨by simp, by simp; omega⟩, ?_, by simp⟩
      simp [vNum]
      omega
    · have hp : 128 ^ (f + 1 + 1) = 128 ^ (f + 1) * 128 := Nat.pow_succ ..
      obtain ⟨l, b, h1, h2, h3, h4⟩ := ih (n / 128) (by omega)
      refine ⟨UInt8.ofNat (128 + n % 128) :: l, b, by rw [varB_step f n h, h1]; simp, ⟨?_, h2.2⟩, ?_, by simp; omega⟩
      · intro c hc
        rcases List.mem_cons.1 hc with rfl | hc
        · simp
          omega
        · exact h2.1 c hc
      · simp only [List.cons_append, vNum, h3]
        simp
        omega

theorem varGet_put (n : Nat) (hn : n ≤ 2147483647) (r : List UInt8) : varGet (varPut n ++ r) = (n, (varPut n).length) ∧ 1 ≤ (varPut n).length ∧ (varPut n).length ≤ 5 := by
  have hv : varPut n = varB 4 n := by unfold varPut; rw [if_pos (by omega)]; simp
  obtain ⟨l, b, h1, h2, h3, h4⟩ := varB_shape 4 n (by omega)
  have hl := varB_length 4 n
  refine ⟨?_, by rw [hv]; exact hl.1, by rw [hv]; omega⟩
  rw [hv, h1, varGet]
  have := vg_run l 5 [] b r h2.1 h2.2 (by omega)
  simp only [List.append_assoc, List.cons_append, List.nil_append] at this ⊢
  rw [this, if_pos (by rw [h3, hv, h1]), h3]
  simp

/-- What is read as a number is written just so. -/
theorem vg_got : ∀ (f : Nat) (l s : List UInt8), (vg f l s).2 = 0 ∨ (varPut (vg f l s).1 = (l ++ s).take (vg f l s).2 ∧ (vg f l s).2 ≤ (l ++ s).length) := by
  intro f
  induction f with
  | zero => intro l s; left; rfl
  | succ f ih =>
    intro l s
    cases s with
    | nil => left; rfl
    | cons b r =>
      simp only [vg]
      by_cases hb : 128 ≤ b.toNat
      · rw [if_pos hb]
        have := ih (l ++ [b]) r
        simpa using this
      · rw [if_neg hb]
        by_cases hp : varPut (vNum (l ++ [b])) = l ++ [b]
        · rw [if_pos hp]
          right
          refine ⟨?_, by simp⟩
          show varPut (vNum (l ++ [b]) : Nat) = _
          rw [hp]
          simp [List.take_append, List.take_of_length_le]
        · rw [if_neg hp]
          left
          rfl

theorem varGet_got (s : List UInt8) : (varGet s).2 = 0 ∨ (varPut (varGet s).1 = s.take (varGet s).2 ∧ (varGet s).2 ≤ s.length) := by
  have := vg_got 5 [] s
  simpa [varGet] using this

end Go.Proofs.YtpddholoehmjkaaGreatDoor

