/-
  Texts that the last part needs, joined.
-/
import Derived.Test.YtphgjhakghblgaaGreatDoorPart1
import Derived.Test.YtphgjhakghblgaaGreatDoorPart2
import Derived.Test.YtphgjhakghblgaaGreatDoorPart3
import Derived.Test.YtphgjhakghblgaaGreatDoorPart4
import Derived.Test.YtphgjhakghblgaaGreatDoorPart5
import Derived.Test.YtphgjhakghblgaaGreatDoorPart6
import Derived.Test.YtphgjhakghblgaaGreatDoorPart7
import Derived.Test.YtphgjhakghblgaaGreatDoorPart8
import Derived.Test.YtphgjhakghblgaaGreatDoorPart9
import Derived.OwnWalk
import Derived.Test.YtphgjhakghblgaaGreatDoorProg
import Derived.WalkKit
import Derived.WalkSpells
import Derived.Below
import Derived.ProofKit
import Derived.OpenShut
import Derived.ShutString
import Derived.ChangeOld
import Derived.ChangeArms
import Derived.WideShapes
import Derived.BigRegion
import Derived.Deep.RegionWith
import Derived.Deep.OwnRows
import Derived.Laws.Rows
set_option linter.unusedVariables false
namespace Go.Proofs.YtphgjhakghblgaaGreatDoor
open Go.RowKit

theorem own_at {w : World} {B g n c : Nat} {ss : List ByteArray} (h : w.ownsRow B 9 1 (.slice (some ⟨g, 0, none⟩) n c) n (ss.map Value.string)) : AtS w g ss := by
  have hn : n = ss.length := by simpa using h.1.symm
  subst hn
  refine ⟨(h.lt g rfl).2, fun i hi => ?_⟩
  rw [h.cellAt i (by simpa using hi)]
  simp [List.getElem?_eq_getElem hi]
theorem varPut_nat {n : Nat} (h : n ≤ 2147483647) : varPut (n : Int) = varB 4 n := by
  rw [varPut, if_pos (by omega)]
  simp
theorem ricePut_gaps {gl : List Int} (h : gl.length ≤ 40 ∧ ∀ i, i < gl.length → 0 ≤ gl.getD i 0 ∧ gl.getD i 0 ≤ 60000) : ricePut gl 5 = riceB 5 (gl.map Int.toNat) :=
  ricePut_yes (riceOk_yes h.1 (by omega) h.2)

set_option maxHeartbeats 2000000 in
set_option maxRecDepth 100000 in
theorem implFilterOf (g n cap : Nat) (ss : List ByteArray) (k : ByteArray) (w : World) (h : AtS w g ss) (hn : n = ss.length) (hK : RowG w shaK) :
    Calls Tryz.prog 60 #[.string k, .slice (some ⟨g, 0, none⟩) n cap] w fun e w' => e = .returned (.string ⟨(filterOf k.data.toList ss).toArray⟩) ∧ Below w.heap.size w w' := by
  cases h1 : isSum k.data.toList with
  | false =>
    rw [filterOf_no1 h1]
    clear h hn hK
    go_enter Tryz.func60, Tryz.ntmps60
    go_wp2_with (go_at_call 89; refine (implSumOk _ _).mono ?_; rintro e w1 ⟨rfl, rfl⟩)
    go_ret
    exact ⟨rfl, Below.refl _ _⟩
  | true =>
  have hit := implItemsOk g n cap ss w h hn
  cases h2 : itemsOkB ss with
  | false =>
    rw [filterOf_no2 h2]
    rw [h2] at hit
    clear h hn hK
    go_enter Tryz.func60, Tryz.ntmps60
    go_wp2_with first
      | (go_at_call 89; refine (implSumOk _ _).mono ?_; rintro e w1 ⟨rfl, rfl⟩)
      | (go_at_call 83; refine hit.mono ?_; rintro e w1 ⟨rfl, rfl⟩)
    go_ret
    exact ⟨rfl, Below.refl _ _⟩
  | true =>
  rw [filterOf_yes h1 h2]
  rw [h2] at hit
  have hn40 : n ≤ 40 := by rw [hn]; exact itemsOk_len h2
  have hclone := cloneS g n cap ss w h hn hn40
  have HGO : Hid ((gapsL k.data.toList ss).length ≤ 40 ∧ ∀ i, i < (gapsL k.data.toList ss).length → 0 ≤ (gapsL k.data.toList ss).getD i 0 ∧ (gapsL k.data.toList ss).getD i 0 ≤ 60000) := gaps_ok h1 h2
  have HPI : Hid (∀ z ∈ sortL (placesL k.data.toList ss), 0 ≤ z ∧ z ≤ 1480) := fun z hz => places_in h1 h2 z ((sortL_mem _ z).1 hz)
  have hm40 : (setL ss).length ≤ 40 := Nat.le_trans (setL_length ss) (itemsOk_len h2)
  have HFB : Hid (filterB k.data.toList ss = varB 4 (setL ss).length ++ riceB 5 ((gapsL k.data.toList ss).map Int.toNat)) := rfl
  have HPL : Hid (placesL k.data.toList ss = (setL ss).map fun it => filterTo k.data.toList it.data.toList (((setL ss).length : Int) * 37)) := rfl
  have HGL : Hid (gapsL k.data.toList ss = gapsZ 0 (sortL (placesL k.data.toList ss))) := rfl
  have HKG : Hid (RowG w shaK) := hK
  have hcomp := fun g1 c1 w1 w2 hc hs => compactS g1 n c1 ss w w1 w2 hc hs
  generalize gapsL k.data.toList ss = gl at HGO HFB HGL
  generalize placesL k.data.toList ss = pl at HPI HPL HGL
  generalize filterB k.data.toList ss = fb at HFB ⊢
  generalize setL ss = st at hm40 HFB HPL hcomp
  obtain ⟨i0, hi, hz0, hz1, hz2⟩ := info_parts infoIntG
  obtain ⟨m, hm⟩ : ∃ m, m = st.length := ⟨_, rfl⟩
  rw [← hm] at hm40 HFB HPL hcomp
  have HM : Hid (m = st.length) := hm
  have hmk := makeCap m (by omega)
  clear h hn hm h2 hK
  go_enter Tryz.func60, Tryz.ntmps60
  go_wp2_with first
    | (go_at_call 89; refine (implSumOk _ _).mono ?_; rintro e w1 ⟨rfl, rfl⟩)
    | (go_at_call 83; refine hit.mono ?_; rintro e w1 ⟨rfl, rfl⟩)
  clear hit
  refine hclone.mono ?_
  rintro e w1 ⟨g1, c1, rfl, hc1⟩
  have HC : Hid (Cloned w.heap.size g1 n c1 ss w w1) := hc1
  clear hclone hc1
  go_wp2_with fail
  refine (sortS _ g1 n c1 ss w w1 HC.out hn40).mono ?_
  rintro e w2 ⟨rfl, hs2⟩
  have HS : Hid (SortedS g1 ss w1 w2) := hs2
  clear hs2
  go_wp2_with fail
  refine (hcomp g1 c1 w1 w2 HC.out HS.out).mono ?_
  rintro e w3 ⟨rfl, hown3, hb3⟩
  have HAS : Hid (AtS w3 g1 st) := own_at hown3
  have HB3 : Hid (Below w.heap.size w w3) := hb3
  have HK3 : Hid (RowG w3 shaK) := HKG.out.below hb3 HKG.out.lt
  clear hown3 hb3 hcomp HC HS
  go_wp2_with fail
  have HW0 : Hid (ZRow w3.heap.size (.slice (some ⟨w3.heap.size, 0, none⟩) 0 m) (pl.take 0) (w3.alloc (.cells (madeCells #[.int .i64 0] m) 3))) :=
    ⟨⟨_, _, rfl⟩, rfl, .inr ⟨_, _, _, rfl, Nat.le_refl _, World.alloc_heap_new w3 _, Nat.zero_le _, by unfold maxLen; omega, by rw [size_madeCells]; omega, rfl⟩⟩
  have HB0 : Hid (Below w3.heap.size w3 (w3.alloc (.cells (madeCells #[.int .i64 0] m) 3))) := (Below.refl _ w3).alloc (Nat.le_refl _) _
  have HPLL : Hid (pl.length = m) := by show _ = _; rw [HPL.out, List.length_map]; exact HM.out.symm
  clear hmk
  go_loopw [6, 28] (fun v i wr => ∃ (q g3 c3 : Nat), q ≤ m ∧ i = .int .i64 (q : Int) ∧ v = .slice (some ⟨g3, 0, none⟩) q c3 ∧ Hid (ZRow w3.heap.size v (pl.take q) wr) ∧ Hid (Below w3.heap.size w3 wr)) (fun _ i _ => m - (intOf i).toNat)
  case atStart => exact ⟨0, w3.heap.size, m, by omega, rfl, rfl, HW0, HB0⟩
  case round =>
    clear HW0 HB0
    obtain ⟨q, g3, c3, hq, rfl, rfl, HR, HB⟩ := hrel
    have hszr := HB.out.size
    by_cases hlt : q < m
    · have hql : q < st.length := by rw [← HM.out]; exact hlt
      have hc : wr.cell? ⟨g1, q, none⟩ = some (.string (st.getD q ByteArray.empty)) := by
        rw [HB.out.cell (p := ⟨g1, q, none⟩) HAS.out.1]
        exact HAS.out.2 q hql
      have hto := implFilterTo k (st.getD q ByteArray.empty) ((m : Int) * 37) wr (HK3.out.below HB.out HK3.out.lt)
      have HE : Hid (pl.take (q + 1) = pl.take q ++ [filterTo k.data.toList (st.getD q ByteArray.empty).data.toList ((m : Int) * 37)]) := by
        show _ = _
        rw [List.take_add_one, HPL.out, List.getElem?_map, List.getElem?_eq_getElem hql, List.getD_eq_getElem?_getD, List.getElem?_eq_getElem hql]
        rfl
      generalize filterTo k.data.toList (st.getD q ByteArray.empty).data.toList ((m : Int) * 37) = z at hto HE
      generalize st.getD q ByteArray.empty = it at hc hto
      have HRW : Hid (wr.ownsRow w3.heap.size 3 1 (.slice (some ⟨g3, 0, none⟩) q c3) q ((pl.take q).map (Value.int .i64))) := by
        have h5 := HR.out.2
        have h6 : (pl.take q).length = q := by rw [List.length_take, HPLL.out]; omega
        rw [h6] at h5
        exact h5
      have HQ : Hid (q + 1 ≤ m) := hlt
      have lq : (q : Int) < (m : Int) := by omega
      have lq0 : (0 : Int) ≤ (q : Int) := by omega
      have hx1 : q + 1 ≤ maxLen := by unfold maxLen; omega
      have hx2 : (q + 1) * 8 ≤ 140737488355328 := by omega
      clear hql
      go_wp2_with fail
      refine hto.mono ?_
      rintro e w4 ⟨rfl, b4⟩
      have HRW2 : Hid (w4.ownsRow w3.heap.size 3 1 (.slice (some ⟨g3, 0, none⟩) q c3) q ((pl.take q).map (Value.int .i64))) := ownsRow_keep HRW.out (fun g' hg' => by
        obtain ⟨cur, hcc, hl⟩ := ownsRow_type HRW.out g' hg'
        exact b4.block g' hl)
      have HB2 : Hid (Below w3.heap.size w3 w4) := HB.out.trans (b4.mono HB.out.size)
      have hs2 := HB2.out.size
      clear b4 hto
      go_wp2_with (at_builtin; refine wp_app1 rfl _ _ 23 rfl w3.heap.size 3 i0 (.int .i64 0) 8 Tryz.underlying23 hi hz0 hz1 hz2 rfl _ _ _ rfl HRW2.out (.int .i64 z) rfl rfl hx1 hx2 hs2 ?_; intro g4 c4 w5 hown4 hb4 _)
      have HR4 : Hid (ZRow w3.heap.size (.slice (some ⟨g4, 0, none⟩) (q + 1) c4) (pl.take (q + 1)) w5) := by
        refine ZRow.of ?_ (by rw [List.length_take, HPLL.out]; have := HQ.out; omega)
        rw [HE.out, List.map_append]
        exact hown4
      clear hown4
      go_roundw
      case rel => exact ⟨q + 1, g4, c4, HQ.out, by go_num, rfl, HR4, HB2.out.trans hb4⟩
      case measure => have := HQ.out; simp [intOf]; omega
    · obtain rfl : q = m := by omega
      have HRA : Hid (ZRow w3.heap.size (.slice (some ⟨g3, 0, none⟩) q c3) pl wr) := by
        have h5 := HR.out
        rw [List.take_of_length_le (by rw [HPLL.out]; exact Nat.le_refl _)] at h5
        exact h5
      have hsort := sortI w3.heap.size g3 q c3 pl wr HRA.out hszr hm40
      have HSL : Hid ((sortL pl).length = q) := by show _ = _; rw [sortL_length]; exact HPLL.out
      have HBw : Hid (Below w.heap.size w wr) := HB3.out.trans (HB.out.mono HB3.out.size)
      generalize sortL pl = so at hsort HPI HGL HSL
      have hvar := fun w' => implVarPut (q : Int) w'
      rw [varPut_nat (by omega)] at hvar
      have HRP : Hid (ricePut gl 5 = riceB 5 (gl.map Int.toNat)) := ricePut_gaps HGO.out
      have hrice := fun g' c' w' h' (hn : q = gl.length) => implRicePut g' q c' gl 5 w' h' hn
      rw [HRP.out] at hrice
      have hlr : (riceB 5 (gl.map Int.toNat)).length ≤ 300100 := by
        have h5 := ricePut_len gl 5
        rw [HRP.out] at h5
        exact h5
      have hlv := (varB_length 4 q).2
      generalize (riceB 5 (gl.map Int.toNat)) = rb at hrice HFB hlr HRP
      generalize varB 4 q = vb at hvar HFB hlv
      have HEQ : Hid ((⟨vb.toArray⟩ ++ ⟨rb.toArray⟩ : ByteArray) = ⟨fb.toArray⟩) := by
        show _ = _
        rw [HFB.out]
        apply ByteArray.ext
        simp
      clear HR
      go_wp2_with fail
      refine hsort.mono ?_
      rintro e w5 ⟨rfl, hr5, b5⟩
      have HR5 : Hid (ZRow w3.heap.size (.slice (some ⟨g3, 0, none⟩) q c3) so w5) := hr5
      have HB5 : Hid (Below w3.heap.size w3 w5) := HB.out.trans b5
      clear hsort hr5 b5 hszr
      go_wp2_with fail
      refine (hvar _).mono ?_
      rintro e w6 ⟨rfl, b6⟩
      have HA6 : Hid (At w6 g3 so) := HR5.out.at.1.below b6 HR5.out.at.1.1
      have HB6 : Hid (Below w3.heap.size w3 w6) := HB5.out.trans (b6.mono HB5.out.size)
      clear b6 hvar
      go_wp2_with fail
      refine (implSteps g3 q c3 so w6 HA6.out HSL.out.symm hm40 HPI.out).mono ?_
      rintro e w7 ⟨v7, rfl, hr7, b7⟩
      rw [← HGL.out] at hr7
      obtain ⟨g7, c7, rfl⟩ := hr7.1
      have HGLN : Hid (q = gl.length) := by show _ = _; rw [HGL.out, gapsZ_length]; exact HSL.out.symm
      rw [← HGLN.out] at hr7 ⊢
      have HA7 : Hid (At w7 g7 gl) := hr7.at.1
      have HB7 : Hid (Below w3.heap.size w3 w7) := HB6.out.trans (b7.mono HB6.out.size)
      clear hr7 b7
      go_wp2_with fail
      refine (hrice g7 c7 w7 HA7.out HGLN.out).mono ?_
      rintro e w8 ⟨rfl, b8⟩
      have HB8 : Hid (Below w.heap.size w w8) := HB3.out.trans ((HB7.out.trans (b8.mono HB7.out.size)).mono HB3.out.size)
      clear hrice b8
      go_wp2_with fail
      go_ret
      refine ⟨?_, HB8.out⟩
      rw [← HEQ.out]
      rfl

end Go.Proofs.YtphgjhakghblgaaGreatDoor

set_option linter.unusedVariables false
namespace Go.Proofs.YtphgjhakghblgaaGreatDoor
open Go.RowKit

theorem at_newsS {w : World} {g : Nat} {zs : List ByteArray} (h : AtS w g zs) (a m off : Nat) (hk : a + m ≤ zs.length) (ho : 0 < m → off = a) : ∀ j u, (((zs.drop a).take m).map Value.string)[j]? = some u → w.cell? ((⟨g, off, none⟩ : Addr).add j) = some u := by
  intro j u hu
  have hj : j < m := by
    have := (List.getElem?_eq_some_iff.1 hu).1
    simp at this
    omega
  have e := ho (by omega)
  subst e
  have hc := h.2 (off + j) (by omega)
  have e2 : (((zs.drop off).take m).map Value.string)[j]? = some (.string (zs.getD (off + j) ByteArray.empty)) := by
    rw [List.getElem?_map, List.getElem?_take_of_lt hj, List.getElem?_drop, List.getElem?_eq_getElem (by omega)]
    simp [List.getElem?_eq_getElem (show off + j < zs.length by omega)]
  rw [e2] at hu
  rw [← hu, ← hc]
  rcases j with _ | j
  · simp [Addr.add]
  · simp [Addr.add]
theorem strs_one (l : List ByteArray) : ∀ u ∈ l.map Value.string, u.oneCell' = true := by
  intro u hu
  obtain ⟨x, _, rfl⟩ := List.mem_map.1 hu
  rfl
theorem AtS.far {w w' : World} {g : Nat} {zs : List ByteArray} (h : AtS w g zs) (hk : w'.heap[g]? = w.heap[g]?) (hs : w.heap.size ≤ w'.heap.size) : AtS w' g zs :=
  ⟨Nat.lt_of_lt_of_le h.1 hs, fun i hi => (World.cell?_of_block (a := ⟨g, i, none⟩) hk).trans (h.2 i hi)⟩
theorem SRow.of {B n g cap : Nat} {zs : List ByteArray} {w : World} (h : w.ownsRow B 9 1 (.slice (some ⟨g, 0, none⟩) n cap) n (zs.map Value.string)) (hn : n = zs.length) : SRow B (.slice (some ⟨g, 0, none⟩) n cap) zs w := by
  subst hn
  exact ⟨⟨g, cap, rfl⟩, h⟩

set_option maxHeartbeats 4000000 in
set_option maxRecDepth 100000 in
theorem specSet (g n cap : Nat) (zs : List ByteArray) (w : World) (h : AtS w g zs) (hn : n = zs.length) (hm : n ≤ 1000) :
    Calls Tryz.prog 69 #[.slice (some ⟨g, 0, none⟩) n cap] w fun e w' => ∃ v, e = .returned v ∧ SRow w.heap.size v (setL zs) w' ∧ Below w.heap.size w w' := by
  obtain ⟨i0, hi, hz0, hz1, hz2⟩ := info_parts infoStr
  have HA : Hid (AtS w g zs) := h
  have HN : Hid (n = zs.length) := hn
  clear h hn
  go_enter Tryz.func69, Tryz.ntmps69
  go_wp2_with fail
  have HW0 : Hid (SRow w.heap.size (.slice (some ⟨w.heap.size, 0, none⟩) 0 0) (setL (zs.take 0)) (w.alloc (.cells #[] 9))) := srow_new w
  have HB0 : Hid (Below w.heap.size w (w.alloc (.cells #[] 9))) := (Below.refl _ w).alloc (Nat.le_refl _) _
  go_loopw [3, 4] (fun v i wr => ∃ (p q g3 c3 : Nat), p ≤ n ∧ q ≤ p ∧ i = .int .i64 (p : Int) ∧ v = .slice (some ⟨g3, 0, none⟩) q c3 ∧ Hid (q = (setL (zs.take p)).length) ∧ Hid (SRow w.heap.size v (setL (zs.take p)) wr) ∧ Hid (Below w.heap.size w wr)) (fun _ i _ => n - (intOf i).toNat)
  case atStart => exact ⟨0, 0, w.heap.size, 0, by omega, by omega, rfl, rfl, rfl, HW0, HB0⟩
  case round =>
    clear HW0 HB0
    obtain ⟨p, q, g3, c3, hp, hqp, rfl, rfl, HQL, HR, HB⟩ := hrel
    have hszr := HB.out.size
    by_cases hlt : p < n
    · have hql : p < zs.length := by rw [← HN.out]; exact hlt
      have hc : wr.cell? ⟨g, p, none⟩ = some (.string (zs.getD p ByteArray.empty)) := by
        rw [HB.out.cell (p := ⟨g, p, none⟩) HA.out.1]
        exact HA.out.2 p hql
      have HE : Hid (setL (zs.take (p + 1)) = setIns (setL (zs.take p)) (zs.getD p ByteArray.empty)) := setL_take zs p hql
      have HOL : Hid ((setL (zs.take p)).length = q) := HQL.out.symm
      generalize zs.getD p ByteArray.empty = z at hc HE
      generalize setL (zs.take p) = o at HR HE HOL HQL
      have HAO : Hid (AtS wr g3 o) := HR.out.at.1
      have HG3 : Hid (w.heap.size ≤ g3 ∧ g3 < wr.heap.size) := by
        obtain ⟨g', _, _, hv, h1, h2, _⟩ := HR.out.block
        cases hv
        exact ⟨h1, h2⟩
      have HQ : Hid (p + 1 ≤ n) := hlt
      have HCP : Hid (q ≤ c3) := (own_cap HR.out.2).1
      have lq : (p : Int) < (n : Int) := by omega
      have lq0 : (0 : Int) ≤ (p : Int) := by omega
      have HC : Hid (wr.cell? ⟨g, p, none⟩ = some (.string z)) := hc
      clear hql hc hszr HQL
      go_wp2_with fail
      go_loopw [5] (fun i wx => ∃ k : Nat, k ≤ q ∧ i = .int .i64 (k : Int) ∧ Hid (∀ j, j < k → ltB (o.getD j ByteArray.empty) z = true) ∧ Hid (AtS wx g3 o ∧ wx.cell? ⟨g, p, none⟩ = some (.string z) ∧ w.heap.size ≤ g3 ∧ SRow w.heap.size (.slice (some ⟨g3, 0, none⟩) q c3) o wx) ∧ Hid (Below w.heap.size w wx)) (fun i _ => q - (intOf i).toNat)
      case atStart => exact ⟨0, by omega, rfl, fun j hj => by omega, ⟨HAO.out, HC.out, HG3.out.1, HR.out⟩, HB⟩
      case round =>
        clear HR HB HAO HG3 HC
        obtain ⟨k, hk, rfl, HT, HX, HB⟩ := hrel
        have hcz := HX.out.2.1
        have hszr := HB.out.size
        have fin : (k = q ∨ ltB (o.getD k ByteArray.empty) z = false) → Hid (o.takeWhile (fun y => ltB y z) = (o.drop 0).take k ∧ o.dropWhile (fun y => ltB y z) = (o.drop k).take (q - k)) := by
          intro hor
          have := span_at (fun y => ltB y z) ByteArray.empty o k (by rw [HOL.out]; exact hk) (fun j hj => HT.out j hj) (fun hj => by
            rcases hor with h' | h'
            · rw [HOL.out] at hj; omega
            · exact h')
          refine ⟨by rw [List.drop_zero]; exact this.1, ?_⟩
          rw [this.2, List.take_of_length_le (by simp [HOL.out])]
        by_cases hkq : k < q
        · have hkl : k < o.length := by rw [HOL.out]; exact hkq
          have hco := HX.out.1.2 k hkl
          have lk : (k : Int) < (q : Int) := by omega
          have lk0 : (0 : Int) ≤ (k : Int) := by omega
          have HD : Hid ((o.drop k).take (q - k) = o.getD k ByteArray.empty :: (o.drop (k + 1)).take (q - k - 1)) := by
            show _ = _
            rw [List.drop_eq_getElem_cons hkl, show q - k = q - k - 1 + 1 from by omega, List.take_succ_cons, List.getD_eq_getElem?_getD, List.getElem?_eq_getElem hkl]
            rfl
          cases hle : ltB (o.getD k ByteArray.empty) z with
          | true =>
            have HT2 : Hid (∀ j, j < k + 1 → ltB (o.getD j ByteArray.empty) z = true) := by
              intro j hj
              rcases Nat.lt_or_ge j k with h' | h'
              · exact HT.out j h'
              · obtain rfl : j = k := by omega
                exact hle
            have HK : Hid (k + 1 ≤ q) := hkq
            generalize o.getD k ByteArray.empty = y at hco hle
            have hle' : Op.bytesLess y.toList z.toList = true := hle
            clear fin hkl hle
            go_wp2_with fail
            go_region
            go_wp2_with fail
            go_roundw
            case rel => exact ⟨k + 1, HK.out, by go_num, HT2, HX.out, HB.out.drew⟩
            case measure => have := HK.out; simp [intOf]; omega
          | false =>
            have HF := fin (.inr hle)
            generalize o.getD k ByteArray.empty = y at hco hle HD
            have hle' : Op.bytesLess y.toList z.toList = false := hle
            clear fin HT hkl hle
            by_cases hyz : y = z
            · subst hyz
              have HEQ : Hid (setL (zs.take (p + 1)) = o) := by
                show _ = _
                rw [HE.out, setIns, HF.out.2, HD.out]
                simp
              have hee : (y.toList == y.toList) = true := by simp
              go_wp2_with fail
              go_region
              go_wp2_with fail
              go_region
              go_wp2_with fail
              go_roundw
              case rel => exact ⟨p + 1, q, g3, c3, HQ.out, by omega, by go_num, rfl, by rw [HEQ.out]; exact HOL.out.symm, by rw [HEQ.out]; exact HX.out.2.2.2, HB.out.drew.drew⟩
              case measure => have := HQ.out; simp [intOf]; omega
            · have hee : (y.toList == z.toList) = false := by
                simp
                intro e
                exact hyz (toList_inj e)
              have HRES : Hid (setL (zs.take (p + 1)) = (o.drop 0).take k ++ [z] ++ (o.drop k).take (q - k)) := by
                show _ = _
                rw [HE.out, setIns, HF.out.1, HF.out.2, if_neg (by rw [HD.out]; simp; exact hyz)]
                simp
              clear hyz
              have hck' : ¬ (c3 : Int) = (k : Int) := by have := HCP.out; omega
              have hck : ¬ c3 = k := by have := HCP.out; omega
              have hkc : (k : Int) ≤ (c3 : Int) := by have := HCP.out; omega
              have HP : Hid (0 < q - k → k = k) := fun _ => rfl
              go_wp2_with fail
              go_region
              go_wp2_with fail
              go_region
              have hXd : Hid (AtS wr.drew.drew g3 o ∧ wr.drew.drew.cell? ⟨g, p, none⟩ = some (.string z) ∧ w.heap.size ≤ g3 ∧ SRow w.heap.size (.slice (some ⟨g3, 0, none⟩) q c3) o wr.drew.drew) := HX.out
              have hBd : Hid (Below w.heap.size w wr.drew.drew) := HB.out.drew.drew
              have hzd : w.heap.size ≤ wr.drew.drew.heap.size := hszr
              clear HX HB hszr hcz hco
              generalize wr.drew.drew = wd at hXd hBd hzd ⊢
              have HX := hXd
              have HB := hBd
              have hszr := hzd
              have hne0 : g3 ≠ wd.heap.size := by have := HX.out.1.1; omega
              have hgl : g < w.heap.size := HA.out.1
              have HOW : Hid ((wd.alloc (.cells #[] 9)).ownsRow w.heap.size 9 1 (.slice (some ⟨wd.heap.size, 0, none⟩) 0 0) 0 []) :=
                ⟨rfl, .inr ⟨_, _, #[], rfl, hszr, heap_alloc_new wd _, Nat.le_refl _, by unfold maxLen; omega, rfl, rfl⟩⟩
              have HO0 : Hid (AtS (wd.alloc (.cells #[] 9)) g3 o) := HX.out.1.far (Below.heap_alloc _ _ _ HX.out.1.1) (by simp)
              have hl1 : (((o.drop 0).take k).map Value.string).length = k * 1 := by simp [HOL.out] <;> omega
              have hn1 := at_newsS HO0.out 0 k 0 (by rw [HOL.out]; omega) (fun _ => rfl)
              have hx1 : 0 + k ≤ maxLen := by unfold maxLen; omega
              have hx2 : (0 + k) * 16 ≤ 140737488355328 := by omega
              have hx3 : k + 1 ≤ maxLen := by unfold maxLen; omega
              have hx4 : (k + 1) * 16 ≤ 140737488355328 := by omega
              have hx5 : k + 1 + (q - k) ≤ maxLen := by unfold maxLen; omega
              have hx6 : (k + 1 + (q - k)) * 16 ≤ 140737488355328 := by omega
              have hbs : w.heap.size ≤ (wd.alloc (.cells #[] 9)).heap.size := by simp; omega
              have hl3 : (((o.drop k).take (q - k)).map Value.string).length = (q - k) * 1 := by simp [HOL.out]
              go_wp2_with first
                | (at_builtin; refine wpList_append_own_at _ rfl _ _ 60 rfl w.heap.size 9 i0 (.string ⟨#[]⟩) 1 16 Tryz.underlying60 hi hz0 hz1 hz2 rfl (by decide) (.slice (some ⟨wd.heap.size, 0, none⟩) 0 0) 0 [] rfl HOW.out ⟨g3, 0, none⟩ k c3 (((o.drop 0).take k).map Value.string) rfl hl1 hn1 (strs_one _) hx1 hx2 hbs ?_; intro v1 w1 hown1 hgrow1 hnil1 hat1; rw [Nat.zero_add, List.nil_append] at hown1; obtain ⟨g5, c5, rfl⟩ := own_form hown1 (fun e => by have := (hnil1.1 e).1; cases this); have hc1 : w1.cell? ⟨g, p, none⟩ = some (.string z) := (World.cell?_of_block (a := ⟨g, p, none⟩) (grown_far (b := g) hgrow1 (by omega) (by simp [Value.ownBlock]; omega))).trans HX.out.2.1; have HO1 : Hid (AtS w1 g3 o) := HX.out.1.far (grown_far hgrow1 HX.out.1.1 (by simpa [Value.ownBlock] using hne0)) (by have := grown_size hgrow1; omega); have hne1 : g3 ≠ g5 := (by have h9 := HX.out.1.1; simp [Value.ownBlock] at hat1; omega); have HB1 : Hid (Below w.heap.size w w1) := (HB.out.alloc (by omega) _).grown hgrow1 hbs (fun j hj => by have h8 : wd.heap.size = j := (by simpa [Value.ownBlock] using hj); omega); have HOW1 : Hid (w1.ownsRow w.heap.size 9 1 (.slice (some ⟨g5, 0, none⟩) k c5) k (((o.drop 0).take k).map Value.string)) := hown1; have hs1 : w.heap.size ≤ w1.heap.size := HB1.out.size; have hbs1 : w.heap.size ≤ (w1.alloc (.cells #[.string z] 9)).heap.size := (by simp; omega); clear hown1 hgrow1 hnil1 hat1)
                | (at_builtin; refine wpList_append_own_at _ rfl _ _ 60 rfl w.heap.size 9 i0 (.string ⟨#[]⟩) 1 16 Tryz.underlying60 hi hz0 hz1 hz2 rfl (by decide) (.slice (some ⟨g5, 0, none⟩) k c5) k _ rfl (HOW1.out.alloc _) ⟨w1.heap.size, 0, none⟩ 1 1 [.string z] rfl rfl (cell_one_new _ _ _) (strs_one [z]) hx3 hx4 hbs1 ?_; intro v2 w2 hown2 hgrow2 hnil2 hat2; obtain ⟨g6, c6, rfl⟩ := own_form hown2 (fun e => by have := (hnil2.1 e).1; cases this); have HO2 : Hid (AtS w2 g3 o) := HO1.out.far (grown_far hgrow2 HO1.out.1 (by simpa [Value.ownBlock] using hne1)) (by have := grown_size hgrow2; omega); have HB2 : Hid (Below w.heap.size w w2) := (HB1.out.alloc hs1 _).grown hgrow2 hbs1 (fun j hj => (HOW1.out.lt j hj).1); have HOW2 : Hid (w2.ownsRow w.heap.size 9 1 (.slice (some ⟨g6, 0, none⟩) (k + 1) c6) (k + 1) (((o.drop 0).take k).map Value.string ++ [.string z])) := hown2; have hs2 : w.heap.size ≤ w2.heap.size := HB2.out.size; have hn3 := at_newsS HO2.out k (q - k) k (by rw [HOL.out]; omega) (fun _ => rfl); clear hown2 hgrow2 hnil2 hat2)
                | (at_builtin; refine wpList_append_own_at _ rfl _ _ 60 rfl w.heap.size 9 i0 (.string ⟨#[]⟩) 1 16 Tryz.underlying60 hi hz0 hz1 hz2 rfl (by decide) (.slice (some ⟨g6, 0, none⟩) (k + 1) c6) (k + 1) _ rfl HOW2.out ⟨g3, k, none⟩ (q - k) (c3 - k) (((o.drop k).take (q - k)).map Value.string) rfl hl3 hn3 (strs_one _) hx5 hx6 hs2 ?_; intro v3 w3 hown3 hgrow3 hnil3 hat3; obtain ⟨g7, c7, rfl⟩ := own_form hown3 (fun e => by have := (hnil3.1 e).1; cases this); have HB3 : Hid (Below w.heap.size w w3) := HB2.out.grown hgrow3 hs2 (fun j hj => (HOW2.out.lt j hj).1); have HOW3 : Hid (w3.ownsRow w.heap.size 9 1 (.slice (some ⟨g7, 0, none⟩) (k + 1 + (q - k)) c7) (k + 1 + (q - k)) (((o.drop 0).take k).map Value.string ++ [.string z] ++ ((o.drop k).take (q - k)).map Value.string)) := hown3; clear hown3 hgrow3 hnil3 hat3)
              go_roundw
              case rel =>
                refine ⟨p + 1, q + 1, g7, c7, HQ.out, by omega, by go_num, by rw [show q + 1 = k + 1 + (q - k) from by omega], ?_, ?_, HB3⟩
                · show _ = _
                  rw [HRES.out, List.length_append, List.length_append]
                  first | (simp [HOL.out]; done) | (simp [HOL.out]; omega)
                · have h5 := HOW3.out
                  rw [show k + 1 + (q - k) = q + 1 from by omega] at h5 ⊢
                  refine SRow.of ?_ ?_
                  · rw [HRES.out]
                    simpa using h5
                  · rw [HRES.out, List.length_append, List.length_append]
                    first | (simp [HOL.out]; done) | (simp [HOL.out]; omega)
              case measure => have := HQ.out; simp [intOf]; omega
        · have hkq2 : k = q := by omega
          have HF := fin (.inl hkq2)
          subst hkq2
          clear fin HT
          have lk : ¬ (k : Int) < (k : Int) := by omega
          have HRES : Hid (setL (zs.take (p + 1)) = (o.drop 0).take k ++ [z] ++ []) := by
            show _ = _
            rw [HE.out, setIns, HF.out.1, HF.out.2, if_neg (by simp)]
            simp
          have hkc : (k : Int) ≤ (c3 : Int) := by have := HCP.out; omega
          go_wp2_with fail
          go_region
          go_wp2_with fail
          go_region
          have hXd : Hid (AtS wr.drew.drew g3 o ∧ wr.drew.drew.cell? ⟨g, p, none⟩ = some (.string z) ∧ w.heap.size ≤ g3 ∧ SRow w.heap.size (.slice (some ⟨g3, 0, none⟩) k c3) o wr.drew.drew) := HX.out
          have hBd : Hid (Below w.heap.size w wr.drew.drew) := HB.out.drew.drew
          have hzd : w.heap.size ≤ wr.drew.drew.heap.size := hszr
          clear HX HB hszr hcz
          generalize wr.drew.drew = wd at hXd hBd hzd ⊢
          have HX := hXd
          have HB := hBd
          have hszr := hzd
          have hne0 : g3 ≠ wd.heap.size := by have := HX.out.1.1; omega
          have hgl : g < w.heap.size := HA.out.1
          have HOW : Hid ((wd.alloc (.cells #[] 9)).ownsRow w.heap.size 9 1 (.slice (some ⟨wd.heap.size, 0, none⟩) 0 0) 0 []) :=
            ⟨rfl, .inr ⟨_, _, #[], rfl, hszr, heap_alloc_new wd _, Nat.le_refl _, by unfold maxLen; omega, rfl, rfl⟩⟩
          have HO0 : Hid (AtS (wd.alloc (.cells #[] 9)) g3 o) := HX.out.1.far (Below.heap_alloc _ _ _ HX.out.1.1) (by simp)
          have hl1 : (((o.drop 0).take k).map Value.string).length = k * 1 := by simp [HOL.out] <;> omega
          have hn1 := at_newsS HO0.out 0 k 0 (by rw [HOL.out]; omega) (fun _ => rfl)
          have hx1 : 0 + k ≤ maxLen := by unfold maxLen; omega
          have hx2 : (0 + k) * 16 ≤ 140737488355328 := by omega
          have hx3 : k + 1 ≤ maxLen := by unfold maxLen; omega
          have hx4 : (k + 1) * 16 ≤ 140737488355328 := by omega
          have hx5 : k + 1 + 0 ≤ maxLen := by unfold maxLen; omega
          have hx6 : (k + 1 + 0) * 16 ≤ 140737488355328 := by omega
          have hbs : w.heap.size ≤ (wd.alloc (.cells #[] 9)).heap.size := by simp; omega
          by_cases hck : c3 = k
          · obtain rfl : k = c3 := hck.symm
            go_wp2_with first
              | (at_builtin; refine wpList_append_own_at _ rfl _ _ 60 rfl w.heap.size 9 i0 (.string ⟨#[]⟩) 1 16 Tryz.underlying60 hi hz0 hz1 hz2 rfl (by decide) (.slice (some ⟨wd.heap.size, 0, none⟩) 0 0) 0 [] rfl HOW.out ⟨g3, 0, none⟩ k k (((o.drop 0).take k).map Value.string) rfl hl1 hn1 (strs_one _) hx1 hx2 hbs ?_; intro v1 w1 hown1 hgrow1 hnil1 hat1; rw [Nat.zero_add, List.nil_append] at hown1; obtain ⟨g5, c5, rfl⟩ := own_form hown1 (fun e => by have := (hnil1.1 e).1; cases this); have hc1 : w1.cell? ⟨g, p, none⟩ = some (.string z) := (World.cell?_of_block (a := ⟨g, p, none⟩) (grown_far (b := g) hgrow1 (by omega) (by simp [Value.ownBlock]; omega))).trans HX.out.2.1; have HO1 : Hid (AtS w1 g3 o) := HX.out.1.far (grown_far hgrow1 HX.out.1.1 (by simpa [Value.ownBlock] using hne0)) (by have := grown_size hgrow1; omega); have hne1 : g3 ≠ g5 := (by have h9 := HX.out.1.1; simp [Value.ownBlock] at hat1; omega); have HB1 : Hid (Below w.heap.size w w1) := (HB.out.alloc (by omega) _).grown hgrow1 hbs (fun j hj => by have h8 : wd.heap.size = j := (by simpa [Value.ownBlock] using hj); omega); have HOW1 : Hid (w1.ownsRow w.heap.size 9 1 (.slice (some ⟨g5, 0, none⟩) k c5) k (((o.drop 0).take k).map Value.string)) := hown1; have hs1 : w.heap.size ≤ w1.heap.size := HB1.out.size; have hbs1 : w.heap.size ≤ (w1.alloc (.cells #[.string z] 9)).heap.size := (by simp; omega); clear hown1 hgrow1 hnil1 hat1)
              | (at_builtin; refine wpList_append_own_at _ rfl _ _ 60 rfl w.heap.size 9 i0 (.string ⟨#[]⟩) 1 16 Tryz.underlying60 hi hz0 hz1 hz2 rfl (by decide) (.slice (some ⟨g5, 0, none⟩) k c5) k _ rfl (HOW1.out.alloc _) ⟨w1.heap.size, 0, none⟩ 1 1 [.string z] rfl rfl (cell_one_new _ _ _) (strs_one [z]) hx3 hx4 hbs1 ?_; intro v2 w2 hown2 hgrow2 hnil2 hat2; obtain ⟨g6, c6, rfl⟩ := own_form hown2 (fun e => by have := (hnil2.1 e).1; cases this); have HO2 : Hid (AtS w2 g3 o) := HO1.out.far (grown_far hgrow2 HO1.out.1 (by simpa [Value.ownBlock] using hne1)) (by have := grown_size hgrow2; omega); have HB2 : Hid (Below w.heap.size w w2) := (HB1.out.alloc hs1 _).grown hgrow2 hbs1 (fun j hj => (HOW1.out.lt j hj).1); have HOW2 : Hid (w2.ownsRow w.heap.size 9 1 (.slice (some ⟨g6, 0, none⟩) (k + 1) c6) (k + 1) (((o.drop 0).take k).map Value.string ++ [.string z])) := hown2; have hs2 : w.heap.size ≤ w2.heap.size := HB2.out.size; clear hown2 hgrow2 hnil2 hat2)
              | (at_builtin; refine wpList_append_own_at _ rfl _ _ 60 rfl w.heap.size 9 i0 (.string ⟨#[]⟩) 1 16 Tryz.underlying60 hi hz0 hz1 hz2 rfl (by decide) (.slice (some ⟨g6, 0, none⟩) (k + 1) c6) (k + 1) _ rfl HOW2.out ⟨g3, _, none⟩ 0 _ [] rfl rfl (fun j u h => by simp at h) (fun u h => by cases h) hx5 hx6 hs2 ?_; intro v3 w3 hown3 hgrow3 hnil3 hat3; obtain ⟨g7, c7, rfl⟩ := own_form hown3 (fun e => by have := (hnil3.1 e).1; cases this); have HB3 : Hid (Below w.heap.size w w3) := HB2.out.grown hgrow3 hs2 (fun j hj => (HOW2.out.lt j hj).1); have HOW3 : Hid (w3.ownsRow w.heap.size 9 1 (.slice (some ⟨g7, 0, none⟩) (k + 1 + 0) c7) (k + 1 + 0) (((o.drop 0).take k).map Value.string ++ [.string z] ++ [])) := hown3; clear hown3 hgrow3 hnil3 hat3)
            go_roundw
            case rel =>
              refine ⟨p + 1, k + 1, g7, c7, HQ.out, by omega, by go_num, by rfl, ?_, ?_, HB3⟩
              · show _ = _
                rw [HRES.out, List.length_append, List.length_append]
                first | (simp [HOL.out]; done) | (simp [HOL.out]; omega)
              · have h5 := HOW3.out
                rw [show k + 1 + 0 = k + 1 from rfl] at h5
                refine SRow.of ?_ ?_
                · rw [HRES.out]
                  simpa using h5
                · rw [HRES.out, List.length_append, List.length_append]
                  first | (simp [HOL.out]; done) | (simp [HOL.out]; omega)
            case measure => have := HQ.out; simp [intOf]; omega
          · have hck' : ¬ (c3 : Int) = (k : Int) := by omega
            go_wp2_with first
              | (at_builtin; refine wpList_append_own_at _ rfl _ _ 60 rfl w.heap.size 9 i0 (.string ⟨#[]⟩) 1 16 Tryz.underlying60 hi hz0 hz1 hz2 rfl (by decide) (.slice (some ⟨wd.heap.size, 0, none⟩) 0 0) 0 [] rfl HOW.out ⟨g3, 0, none⟩ k c3 (((o.drop 0).take k).map Value.string) rfl hl1 hn1 (strs_one _) hx1 hx2 hbs ?_; intro v1 w1 hown1 hgrow1 hnil1 hat1; rw [Nat.zero_add, List.nil_append] at hown1; obtain ⟨g5, c5, rfl⟩ := own_form hown1 (fun e => by have := (hnil1.1 e).1; cases this); have hc1 : w1.cell? ⟨g, p, none⟩ = some (.string z) := (World.cell?_of_block (a := ⟨g, p, none⟩) (grown_far (b := g) hgrow1 (by omega) (by simp [Value.ownBlock]; omega))).trans HX.out.2.1; have HO1 : Hid (AtS w1 g3 o) := HX.out.1.far (grown_far hgrow1 HX.out.1.1 (by simpa [Value.ownBlock] using hne0)) (by have := grown_size hgrow1; omega); have hne1 : g3 ≠ g5 := (by have h9 := HX.out.1.1; simp [Value.ownBlock] at hat1; omega); have HB1 : Hid (Below w.heap.size w w1) := (HB.out.alloc (by omega) _).grown hgrow1 hbs (fun j hj => by have h8 : wd.heap.size = j := (by simpa [Value.ownBlock] using hj); omega); have HOW1 : Hid (w1.ownsRow w.heap.size 9 1 (.slice (some ⟨g5, 0, none⟩) k c5) k (((o.drop 0).take k).map Value.string)) := hown1; have hs1 : w.heap.size ≤ w1.heap.size := HB1.out.size; have hbs1 : w.heap.size ≤ (w1.alloc (.cells #[.string z] 9)).heap.size := (by simp; omega); clear hown1 hgrow1 hnil1 hat1)
              | (at_builtin; refine wpList_append_own_at _ rfl _ _ 60 rfl w.heap.size 9 i0 (.string ⟨#[]⟩) 1 16 Tryz.underlying60 hi hz0 hz1 hz2 rfl (by decide) (.slice (some ⟨g5, 0, none⟩) k c5) k _ rfl (HOW1.out.alloc _) ⟨w1.heap.size, 0, none⟩ 1 1 [.string z] rfl rfl (cell_one_new _ _ _) (strs_one [z]) hx3 hx4 hbs1 ?_; intro v2 w2 hown2 hgrow2 hnil2 hat2; obtain ⟨g6, c6, rfl⟩ := own_form hown2 (fun e => by have := (hnil2.1 e).1; cases this); have HO2 : Hid (AtS w2 g3 o) := HO1.out.far (grown_far hgrow2 HO1.out.1 (by simpa [Value.ownBlock] using hne1)) (by have := grown_size hgrow2; omega); have HB2 : Hid (Below w.heap.size w w2) := (HB1.out.alloc hs1 _).grown hgrow2 hbs1 (fun j hj => (HOW1.out.lt j hj).1); have HOW2 : Hid (w2.ownsRow w.heap.size 9 1 (.slice (some ⟨g6, 0, none⟩) (k + 1) c6) (k + 1) (((o.drop 0).take k).map Value.string ++ [.string z])) := hown2; have hs2 : w.heap.size ≤ w2.heap.size := HB2.out.size; clear hown2 hgrow2 hnil2 hat2)
              | (at_builtin; refine wpList_append_own_at _ rfl _ _ 60 rfl w.heap.size 9 i0 (.string ⟨#[]⟩) 1 16 Tryz.underlying60 hi hz0 hz1 hz2 rfl (by decide) (.slice (some ⟨g6, 0, none⟩) (k + 1) c6) (k + 1) _ rfl HOW2.out ⟨g3, k, none⟩ 0 (c3 - k) [] rfl rfl (fun j u h => by simp at h) (fun u h => by cases h) hx5 hx6 hs2 ?_; intro v3 w3 hown3 hgrow3 hnil3 hat3; obtain ⟨g7, c7, rfl⟩ := own_form hown3 (fun e => by have := (hnil3.1 e).1; cases this); have HB3 : Hid (Below w.heap.size w w3) := HB2.out.grown hgrow3 hs2 (fun j hj => (HOW2.out.lt j hj).1); have HOW3 : Hid (w3.ownsRow w.heap.size 9 1 (.slice (some ⟨g7, 0, none⟩) (k + 1 + 0) c7) (k + 1 + 0) (((o.drop 0).take k).map Value.string ++ [.string z] ++ [])) := hown3; clear hown3 hgrow3 hnil3 hat3)
            go_roundw
            case rel =>
              refine ⟨p + 1, k + 1, g7, c7, HQ.out, by omega, by go_num, by rfl, ?_, ?_, HB3⟩
              · show _ = _
                rw [HRES.out, List.length_append, List.length_append]
                first | (simp [HOL.out]; done) | (simp [HOL.out]; omega)
              · have h5 := HOW3.out
                rw [show k + 1 + 0 = k + 1 from rfl] at h5
                refine SRow.of ?_ ?_
                · rw [HRES.out]
                  simpa using h5
                · rw [HRES.out, List.length_append, List.length_append]
                  first | (simp [HOL.out]; done) | (simp [HOL.out]; omega)
            case measure => have := HQ.out; simp [intOf]; omega
    · have HE : Hid (setL (zs.take p) = setL zs) := by
        show _ = _
        rw [List.take_of_length_le (by rw [← HN.out]; omega)]
      go_wp2_with fail
      go_ret
      refine ⟨_, rfl, ?_, HB.out⟩
      have := HR.out
      rw [HE.out] at this
      exact this

end Go.Proofs.YtphgjhakghblgaaGreatDoor

set_option linter.unusedVariables false
namespace Go.Proofs.YtphgjhakghblgaaGreatDoor
open Go.RowKit

set_option maxHeartbeats 2000000 in
set_option maxRecDepth 100000 in
theorem specL2To (k it : ByteArray) (below : Int) (w : World) (h1 : isSum k.data.toList = true) (h2 : isItem it.data.toList = true) (h3 : 1 ≤ below ∧ below ≤ 60000) :
    Calls Tryz.prog 70 #[.string k, .string it, .int .i64 below] w fun e w' => e = .returned (.int .i64 (filterTo k.data.toList it.data.toList below)) ∧ Below w.heap.size w w' := by
  have hks : k.size = 16 := by have := isSum_len h1; simpa using this
  have his := isItem_size h2
  have hsz : (k ++ (⟨#[32]⟩ : ByteArray) ++ it).size ≤ 1073741824 := by
    simp only [ByteArray.size_append, hks]
    have : (⟨#[32]⟩ : ByteArray).size = 1 := rfl
    omega
  have HF : Hid (filterTo k.data.toList it.data.toList below = (headOf (k ++ (⟨#[32]⟩ : ByteArray) ++ it).data.toList : Int) * below / 2147483648) := by
    show _ = _
    rw [filterTo_yes h1 h2 (by omega), keyItem_bytes]
  clear h1 h2
  go_enter Tryz.func70, Tryz.ntmps70
  go_wp2_with fail
  refine (specSum _ _ hsz).mono ?_
  rintro e w1 ⟨rfl, b1⟩
  have HX : Hid (isSum (⟨(sumB (k ++ (⟨#[32]⟩ : ByteArray) ++ it).data.toList).toArray⟩ : ByteArray).data.toList = true) := isSum_sumB _
  have hlt := headOf_lt (k ++ (⟨#[32]⟩ : ByteArray) ++ it).data.toList
  generalize (k ++ (⟨#[32]⟩ : ByteArray) ++ it).data.toList = t at HF HX hlt ⊢
  have hpl := place_lt (headOf t) below hlt h3
  go_wp2_with fail
  refine (specHead _ _ HX).mono ?_
  rintro e w2 ⟨rfl, rfl⟩
  rw [show hexN ((⟨(sumB t).toArray⟩ : ByteArray).data.toList.take 8) / 2 = headOf t from rfl]
  generalize headOf t = h at HF hlt hpl ⊢
  go_wp2
  go_ret
  rw [HF.out]
  exact ⟨rfl, b1⟩

end Go.Proofs.YtphgjhakghblgaaGreatDoor

set_option linter.unusedVariables false
namespace Go.Proofs.YtphgjhakghblgaaGreatDoor
open Go.RowKit
theorem infoU8 : (Tryz.prog.info? 5).map (fun i => (i.zero, i.size, i.bytes)) = some (some (.int .u8 0), 1, 1) := by kernel_rfl

set_option maxHeartbeats 2000000 in
set_option maxRecDepth 100000 in
theorem specVar (n : Nat) (w : World) (h : n ≤ 2147483647) :
    Calls Tryz.prog 72 #[.int .i64 n] w fun e w' => e = .returned (.string ⟨(varB 4 n).toArray⟩) ∧ Below w.heap.size w w' := by
  obtain ⟨i0, hi, hz0, hz1, hz2⟩ := info_parts infoU8
  go_enter Tryz.func72, Tryz.ntmps72
  go_wp2
  go_loopw [0, 3] (fun v s wr => ∃ (m f : Nat) (acc : List UInt8), v = .int .i64 m ∧ m ≤ n ∧ m < 128 ^ (f + 1) ∧ f ≤ 4 ∧ acc.length + f = 4 ∧ acc ++ varB f m = varB 4 n ∧ wr.ownsRow w.heap.size 5 1 s acc.length (Lib.byteCells acc) ∧ Below w.heap.size w wr) (fun v _ _ => (intOf v).toNat)
  case atStart =>
    exact ⟨n, 4, [], rfl, Nat.le_refl _, by omega, by omega, rfl, rfl, World.ownsRow_made w #[] 0 (Nat.le_refl _) (by simp) rfl, (Below.refl _ w).alloc (Nat.le_refl _) _⟩
  case round =>
    obtain ⟨m, f, acc, rfl, hm, hf, hf4, hacc, heq, hown, hbw⟩ := hrel
    have hsz := hbw.size
    have hx1 : acc.length + 1 ≤ maxLen := by unfold maxLen; omega
    have hx2 : (acc.length + 1) * 1 ≤ 140737488355328 := by omega
    by_cases hlt : m < 128
    · have h2 : (m : Int) < 128 := by omega
      go_wp2_with (at_builtin; refine wp_app1 rfl _ _ 130 rfl w.heap.size 5 i0 (.int .u8 0) 1 Tryz.underlying130 hi hz0 hz1 hz2 rfl _ _ _ rfl hown (.int .u8 m) rfl rfl hx1 hx2 hsz ?_)
      intro g cap w1 hown1 hb1 _
      rw [byteCells_snoc acc _ m rfl (by omega)] at hown1
      have hcv := bytes_back (P := Tryz.prog) 130 9 Tryz.underlying130 Tryz.underlying5 Tryz.underlying9 hown1 (by simp)
      go_wp2
      go_ret
      rw [varB_small f m hlt] at heq
      rw [heq]
      exact ⟨rfl, hbw.trans hb1⟩
    · have h2 : ¬ (m : Int) < 128 := by omega
      obtain ⟨g, rfl⟩ : ∃ g, f = g + 1 := by
        cases f with
        | zero => omega
        | succ g => exact ⟨g, rfl⟩
      go_wp2_with (at_builtin; refine wp_app1 rfl _ _ 130 rfl w.heap.size 5 i0 (.int .u8 0) 1 Tryz.underlying130 hi hz0 hz1 hz2 rfl _ _ _ rfl hown (.int .u8 (128 + m % 128)) rfl rfl hx1 hx2 hsz ?_)
      intro g1 cap w1 hown1 hb1 _
      rw [byteCells_snoc acc _ (128 + m % 128) (by omega) (by omega)] at hown1
      go_wp2
      go_roundw
      case rel =>
        refine ⟨m / 128, g, acc ++ [UInt8.ofNat (128 + m % 128)], by go_num, by omega, ?_, by omega, by simp; omega, ?_, by simpa using hown1, hbw.trans hb1⟩
        · have : 128 ^ (g + 1 + 1) = 128 ^ (g + 1) * 128 := Nat.pow_succ ..
          omega
        · rw [← heq, varB_step g m hlt]; simp
      case measure => simp [intOf]; omega

end Go.Proofs.YtphgjhakghblgaaGreatDoor

set_option linter.unusedVariables false
namespace Go.Proofs.YtphgjhakghblgaaGreatDoor
open Go.RowKit

set_option maxHeartbeats 2000000 in
set_option maxRecDepth 100000 in
theorem specFilter (g n cap : Nat) (ss : List ByteArray) (key : ByteArray) (w : World) (h : AtS w g ss) (hn : n = ss.length) (h1 : isSum key.data.toList = true) (h2 : itemsOkB ss = true) :
    Calls Tryz.prog 49 #[.string key, .slice (some ⟨g, 0, none⟩) n cap] w fun e w' => e = .returned (.string ⟨(filterB key.data.toList ss).toArray⟩) ∧ Below w.heap.size w w' := by
  obtain ⟨i0, hi, hz0, hz1, hz2⟩ := info_parts infoIntB
  have hset := specSet g n cap ss w h hn (by have := itemsOk_len h2; omega)
  have H1 : Hid (isSum key.data.toList = true) := h1
  have HSI : Hid (∀ i, i < (setL ss).length → isItem ((setL ss).getD i ByteArray.empty).data.toList = true) := by
    intro i hi
    refine set_items h2 _ ?_
    simp [List.getElem?_eq_getElem hi]
  have HGO : Hid ((gapsL key.data.toList ss).length ≤ 40 ∧ ∀ i, i < (gapsL key.data.toList ss).length → 0 ≤ (gapsL key.data.toList ss).getD i 0 ∧ (gapsL key.data.toList ss).getD i 0 ≤ 60000) := gaps_ok h1 h2
  have HPI : Hid (∀ z ∈ sortL (placesL key.data.toList ss), 0 ≤ z ∧ z ≤ 1480) := fun z hz => places_in h1 h2 z ((sortL_mem _ z).1 hz)
  have hm40 : (setL ss).length ≤ 40 := Nat.le_trans (setL_length ss) (itemsOk_len h2)
  have HFB : Hid (filterB key.data.toList ss = varB 4 (setL ss).length ++ riceB 5 ((gapsL key.data.toList ss).map Int.toNat)) := rfl
  have HPL : Hid (placesL key.data.toList ss = (setL ss).map fun it => filterTo key.data.toList it.data.toList (((setL ss).length : Int) * 37)) := rfl
  have HGL : Hid (gapsL key.data.toList ss = gapsZ 0 (sortL (placesL key.data.toList ss))) := rfl
  generalize gapsL key.data.toList ss = gl at HGO HFB HGL
  generalize placesL key.data.toList ss = pl at HPI HPL HGL
  generalize filterB key.data.toList ss = fb at HFB ⊢
  generalize setL ss = st at hset HSI hm40 HFB HPL
  clear h hn h1 h2
  go_enter Tryz.func49, Tryz.ntmps49
  go_wp2_with fail
  refine hset.mono ?_
  rintro e w1 ⟨v1, rfl, hr1, b1⟩
  obtain ⟨g1, c1, rfl⟩ := hr1.1
  have HAS : Hid (AtS w1 g1 st) := hr1.at.1
  have HB1 : Hid (Below w.heap.size w w1) := b1
  obtain ⟨m, hm⟩ : ∃ m, m = st.length := ⟨_, rfl⟩
  rw [← hm] at hm40 ⊢
  have HM : Hid (m = st.length) := hm
  rw [← hm] at HFB HPL
  clear hset hr1 b1 hm
  go_wp2_with fail
  have HW0 : Hid (ZRow w1.heap.size (.slice (some ⟨w1.heap.size, 0, none⟩) 0 0) (pl.take 0) (w1.alloc (.cells #[] 3))) := zrow_new w1
  have HB0 : Hid (Below w1.heap.size w1 (w1.alloc (.cells #[] 3))) := (Below.refl _ w1).alloc (Nat.le_refl _) _
  have HPLL : Hid (pl.length = m) := by show _ = _; rw [HPL.out, List.length_map]; exact HM.out.symm
  go_loopw [6, 7] (fun v i wr => ∃ (q g3 c3 : Nat), q ≤ m ∧ i = .int .i64 (q : Int) ∧ v = .slice (some ⟨g3, 0, none⟩) q c3 ∧ Hid (ZRow w1.heap.size v (pl.take q) wr) ∧ Hid (Below w1.heap.size w1 wr)) (fun _ i _ => m - (intOf i).toNat)
  case atStart => exact ⟨0, w1.heap.size, 0, by omega, rfl, rfl, HW0, HB0⟩
  case round =>
    clear HW0 HB0
    obtain ⟨q, g3, c3, hq, rfl, rfl, HR, HB⟩ := hrel
    have hszr := HB.out.size
    by_cases hlt : q < m
    · have hql : q < st.length := by rw [← HM.out]; exact hlt
      have hc : wr.cell? ⟨g1, q, none⟩ = some (.string (st.getD q ByteArray.empty)) := by
        rw [HB.out.cell (p := ⟨g1, q, none⟩) HAS.out.1]
        exact HAS.out.2 q hql
      have hit := HSI.out q hql
      have hto := specL2To key (st.getD q ByteArray.empty) ((m : Int) * 37) wr H1.out hit (by omega)
      have HE : Hid (pl.take (q + 1) = pl.take q ++ [filterTo key.data.toList (st.getD q ByteArray.empty).data.toList ((m : Int) * 37)]) := by
        show _ = _
        rw [List.take_add_one, HPL.out, List.getElem?_map, List.getElem?_eq_getElem hql, List.getD_eq_getElem?_getD, List.getElem?_eq_getElem hql]
        rfl
      generalize filterTo key.data.toList (st.getD q ByteArray.empty).data.toList ((m : Int) * 37) = z at hto HE
      generalize st.getD q ByteArray.empty = it at hc hto
      have HRW : Hid (wr.ownsRow w1.heap.size 3 1 (.slice (some ⟨g3, 0, none⟩) q c3) q ((pl.take q).map (Value.int .i64))) := by
        have h5 := HR.out.2
        have h6 : (pl.take q).length = q := by rw [List.length_take, HPLL.out]; omega
        rw [h6] at h5
        exact h5
      have HQ : Hid (q + 1 ≤ m) := hlt
      have lq : (q : Int) < (m : Int) := by omega
      have lq0 : (0 : Int) ≤ (q : Int) := by omega
      have hx1 : q + 1 ≤ maxLen := by unfold maxLen; omega
      have hx2 : (q + 1) * 8 ≤ 140737488355328 := by omega
      clear hql hit
      go_wp2_with fail
      refine hto.mono ?_
      rintro e w2 ⟨rfl, b2⟩
      have HRW2 : Hid (w2.ownsRow w1.heap.size 3 1 (.slice (some ⟨g3, 0, none⟩) q c3) q ((pl.take q).map (Value.int .i64))) := ownsRow_keep HRW.out (fun g' hg' => by
        obtain ⟨cur, hcc, hl⟩ := ownsRow_type HRW.out g' hg'
        exact b2.block g' hl)
      have HB2 : Hid (Below w1.heap.size w1 w2) := HB.out.trans (b2.mono HB.out.size)
      have hs2 := HB2.out.size
      clear b2 hto
      go_wp2_with (at_builtin; refine wp_app1 rfl _ _ 23 rfl w1.heap.size 3 i0 (.int .i64 0) 8 Tryz.underlying23 hi hz0 hz1 hz2 rfl _ _ _ rfl HRW2.out (.int .i64 z) rfl rfl hx1 hx2 hs2 ?_; intro g4 c4 w4 hown4 hb4 _)
      have HR4 : Hid (ZRow w1.heap.size (.slice (some ⟨g4, 0, none⟩) (q + 1) c4) (pl.take (q + 1)) w4) := by
        refine ZRow.of ?_ (by rw [List.length_take, HPLL.out]; have := HQ.out; omega)
        rw [HE.out, List.map_append]
        exact hown4
      clear hown4
      go_roundw
      case rel => exact ⟨q + 1, g4, c4, HQ.out, by go_num, rfl, HR4, HB2.out.trans hb4⟩
      case measure => have := HQ.out; simp [intOf]; omega
    · obtain rfl : q = m := by omega
      have HRA : Hid (ZRow w1.heap.size (.slice (some ⟨g3, 0, none⟩) q c3) pl wr) := by
        have h5 := HR.out
        rw [List.take_of_length_le (by rw [HPLL.out]; exact Nat.le_refl _)] at h5
        exact h5
      have hsort := specSort g3 q c3 pl wr HRA.out.at.1 HPLL.out.symm (by omega)
      have HSL : Hid ((sortL pl).length = q) := by show _ = _; rw [sortL_length]; exact HPLL.out
      have HBw : Hid (Below w.heap.size w wr) := HB1.out.trans (HB.out.mono HB1.out.size)
      generalize sortL pl = so at hsort HPI HGL HSL
      clear hszr HR
      go_wp2_with fail
      refine hsort.mono ?_
      rintro e w5 ⟨v5, rfl, hr5, b5⟩
      obtain ⟨g5, c5, rfl⟩ := hr5.1
      have HA5 : Hid (At w5 g5 so) := hr5.at.1
      have HB5 : Hid (Below w.heap.size w w5) := HBw.out.trans (b5.mono HBw.out.size)
      rw [HSL.out]
      clear hsort hr5 b5
      go_wp2_with fail
      have HG0 : Hid (ZRow w5.heap.size (.slice (some ⟨w5.heap.size, 0, none⟩) 0 0) (gapsZ 0 (so.take 0)) (w5.alloc (.cells #[] 3))) := zrow_new w5
      have HB50 : Hid (Below w5.heap.size w5 (w5.alloc (.cells #[] 3))) := (Below.refl _ w5).alloc (Nat.le_refl _) _
      go_loopw [8, 9, 10] (fun v l i wx => ∃ (p g6 c6 : Nat) (y : Int), p ≤ q ∧ i = .int .i64 (p : Int) ∧ l = .int .i64 y ∧ 0 ≤ y ∧ y ≤ 1480 ∧ v = .slice (some ⟨g6, 0, none⟩) p c6 ∧ Hid (y = lastZ 0 (so.take p)) ∧ Hid (ZRow w5.heap.size v (gapsZ 0 (so.take p)) wx) ∧ Hid (Below w5.heap.size w5 wx)) (fun _ _ i _ => q - (intOf i).toNat)
      case atStart => exact ⟨0, w5.heap.size, 0, 0, by omega, rfl, rfl, by omega, by omega, rfl, rfl, HG0, HB50⟩
      case round =>
        clear HG0 HB50 HB HRA
        obtain ⟨p, g6, c6, y, hp, rfl, rfl, hy0, hy1, rfl, HY, HR, HB⟩ := hrel
        have hszr := HB.out.size
        have HGLN : Hid ((gapsZ 0 (so.take p)).length = p) := by show _ = _; rw [gapsZ_length, List.length_take, HSL.out]; omega
        by_cases hlt2 : p < q
        · have hpl : p < so.length := by rw [HSL.out]; exact hlt2
          have hc : wr.cell? ⟨g5, p, none⟩ = some (.int .i64 (so.getD p 0)) := by
            rw [HB.out.cell (p := ⟨g5, p, none⟩) HA5.out.1]
            exact HA5.out.2 p hpl
          have hin := HPI.out (so.getD p 0) (by simp [List.getElem?_eq_getElem hpl])
          have e1 : so.take (p + 1) = so.take p ++ [so.getD p 0] := by
            rw [List.take_add_one, List.getElem?_eq_getElem hpl, List.getD_eq_getElem?_getD, List.getElem?_eq_getElem hpl]
            rfl
          have HE : Hid (gapsZ 0 (so.take (p + 1)) = gapsZ 0 (so.take p) ++ [so.getD p 0 - y] ∧ so.getD p 0 = lastZ 0 (so.take (p + 1))) := by
            rw [e1, gapsZ_snoc, lastZ_snoc, ← HY.out]
            exact ⟨rfl, rfl⟩
          generalize so.getD p 0 = x at hc hin HE
          obtain ⟨hin0, hin1⟩ := hin
          have HRW : Hid (wr.ownsRow w5.heap.size 3 1 (.slice (some ⟨g6, 0, none⟩) p c6) p ((gapsZ 0 (so.take p)).map (Value.int .i64))) := by
            have h5 := HR.out.2
            rw [HGLN.out] at h5
            exact h5
          have HP : Hid (p + 1 ≤ q) := hlt2
          have lp : (p : Int) < (q : Int) := by omega
          have lp0 : (0 : Int) ≤ (p : Int) := by omega
          have hx1 : p + 1 ≤ maxLen := by unfold maxLen; omega
          have hx2 : (p + 1) * 8 ≤ 140737488355328 := by omega
          clear hpl e1
          go_wp2_with (at_builtin; refine wp_app1 rfl _ _ 23 rfl w5.heap.size 3 i0 (.int .i64 0) 8 Tryz.underlying23 hi hz0 hz1 hz2 rfl _ _ _ rfl HRW.out (.int .i64 (x - y)) rfl rfl hx1 hx2 hszr ?_; intro g4 c4 w4 hown4 hb4 _; have hc4 : w4.cell? ⟨g5, p, none⟩ = some (.int .i64 x) := (hb4.cell (p := ⟨g5, p, none⟩) HA5.out.1).trans hc)
          have HR4 : Hid (ZRow w5.heap.size (.slice (some ⟨g4, 0, none⟩) (p + 1) c4) (gapsZ 0 (so.take (p + 1))) w4) := by
            refine ZRow.of ?_ (by rw [gapsZ_length, List.length_take, HSL.out]; have := HP.out; omega)
            rw [HE.out.1, List.map_append]
            exact hown4
          clear hown4
          go_roundw
          case rel => exact ⟨p + 1, g4, c4, x, HP.out, by go_num, rfl, hin0, hin1, rfl, HE.out.2, HR4, HB.out.trans hb4⟩
          case measure => have := HP.out; simp [intOf]; omega
        · obtain rfl : p = q := by omega
          have HGA : Hid (At wr g6 gl ∧ p = gl.length) := by
            have h5 := HR.out
            rw [List.take_of_length_le (by rw [HSL.out]; exact Nat.le_refl _), ← HGL.out] at h5
            exact ⟨h5.at.1, h5.at.2⟩
          have hvar := fun w' => specVar p w' (by omega)
          have hrice := fun w' h' => specRice g6 p c6 gl 5 w' h' HGA.out.2 (by omega) HGO.out.1 HGO.out.2
          have HBx : Hid (Below w.heap.size w wr) := HB5.out.trans (HB.out.mono HB5.out.size)
          have hlr : (riceB 5 (gl.map Int.toNat)).length ≤ 300100 := by
            have h5 := ricePut_len gl 5
            rw [ricePut_yes (riceOk_yes HGO.out.1 (by omega) HGO.out.2)] at h5
            exact h5
          have hlv := (varB_length 4 p).2
          generalize (riceB 5 (gl.map Int.toNat)) = rb at hrice HFB hlr
          generalize varB 4 p = vb at hvar HFB hlv
          have HEQ : Hid ((⟨vb.toArray⟩ ++ ⟨rb.toArray⟩ : ByteArray) = ⟨fb.toArray⟩) := by
            show _ = _
            rw [HFB.out]
            apply ByteArray.ext
            simp
          clear hszr HR
          go_wp2_with fail
          refine (hvar _).mono ?_
          rintro e w6 ⟨rfl, b6⟩
          have HGA6 : Hid (At w6 g6 gl) := HGA.out.1.below b6 HGA.out.1.1
          have HB6 : Hid (Below w.heap.size w w6) := HBx.out.trans (b6.mono HBx.out.size)
          clear b6 hvar
          go_wp2_with fail
          refine (hrice _ HGA6.out).mono ?_
          rintro e w7 ⟨rfl, b7⟩
          clear hrice
          go_wp2_with fail
          go_ret
          refine ⟨?_, HB6.out.trans (b7.mono HB6.out.size)⟩
          rw [← HEQ.out]
          rfl

end Go.Proofs.YtphgjhakghblgaaGreatDoor

set_option linter.unusedVariables false
namespace Go.Proofs.YtphgjhakghblgaaGreatDoor
open Go.RowKit Go.Deep

def blockFilter (h : HeadV) (ss : List ByteArray) : List UInt8 := if blockOkB h ss = true then filterB (sumB (headX h)) ss else []
theorem blockOk_parts {h : HeadV} {ss : List ByteArray} (hb : blockOkB h ss = true) : headOkB h = true ∧ itemsOkB ss = true := by
  simp only [blockOkB, headMeets, Bool.and_eq_true] at hb
  exact ⟨hb.1.1, hb.2.2.1⟩

set_option maxHeartbeats 1000000 in
set_option maxRecDepth 100000 in
theorem implBlockFilter (h : HeadV) (g n cap : Nat) (ss : List ByteArray) (w : World) (h0 : AtS w g ss) (hn : n = ss.length) (hK : RowG w shaK) (hP : TabP w) :
    Calls Tryz.prog 41 #[blockVal h (.slice (some ⟨g, 0, none⟩) n cap)] w fun e w' => e = .returned (.string ⟨(blockFilter h ss).toArray⟩) ∧ Below w.heap.size w w' := by
  have H0 : Hid (AtS w g ss) := h0
  have HK : Hid (RowG w shaK) := hK
  have HP : Hid (∀ w', Below w.heap.size w w' → TabP w') := fun w' hb => TabP.below hP hb (Nat.le_refl _)
  have hbo := fun w' h' hk hp => implBlockOk h g n cap ss w' h' hn hk hp
  have hhs := fun w' hk hp => implHeadSum h w' hk hp
  have hfo := fun k w' h' hk => implFilterOf g n cap ss k w' h' hn hk
  unfold headVal at hhs
  unfold blockVal at hbo ⊢
  clear h0 hn hK hP
  have C0 : Hid (CBk (w.alloc (.cells #[.string h.prev, .string h.root, .int .i64 h.time, .int .i64 h.diff, .int .i64 h.nonce, .slice (some ⟨g, 0, none⟩) n cap] 72)) w.heap.size 72 #[.string h.prev, .string h.root, .int .i64 h.time, .int .i64 h.diff, .int .i64 h.nonce, .slice (some ⟨g, 0, none⟩) n cap]) := CBk.new w 72 #[.string h.prev, .string h.root, .int .i64 h.time, .int .i64 h.diff, .int .i64 h.nonce, .slice (some ⟨g, 0, none⟩) n cap]
  have L0 : Hid (Below w.heap.size w (w.alloc (.cells #[.string h.prev, .string h.root, .int .i64 h.time, .int .i64 h.diff, .int .i64 h.nonce, .slice (some ⟨g, 0, none⟩) n cap] 72))) := (Below.refl _ w).alloc (Nat.le_refl _) _
  cases hb : blockOkB h ss with
  | false =>
    have HE : Hid (blockFilter h ss = []) := by show _ = _; rw [blockFilter, hb]; rfl
    rw [hb] at hbo
    clear hhs hfo
    go_enter Tryz.func41, Tryz.ntmps41
    go_wp2_with fail
    refine (hbo _ (H0.out.below L0.out H0.out.1) (HK.out.below L0.out HK.out.lt) (HP.out _ L0.out)).mono ?_
    rintro e w1 ⟨rfl, b1⟩
    go_wp2_with fail
    go_ret
    exact ⟨by rw [HE.out]; rfl, L0.out.trans (b1.mono L0.out.size)⟩
  | true =>
    have hok := (blockOk_parts hb).1
    have HE : Hid (filterOf (sumB (headX h)) ss = blockFilter h ss) := by show _ = _; rw [blockFilter, if_pos hb, filterOf_yes (isSum_sumB _) (blockOk_parts hb).2]
    rw [headSum_yes hok] at hhs
    rw [hb] at hbo
    have hfo := hfo ⟨(sumB (headX h)).toArray⟩
    rw [show (⟨(sumB (headX h)).toArray⟩ : ByteArray).data.toList = sumB (headX h) from rfl, HE.out] at hfo
    generalize sumB (headX h) = X at hhs hfo
    clear HE hok hb
    generalize blockFilter h ss = R at hfo
    go_enter Tryz.func41, Tryz.ntmps41
    go_wp2_with fail
    refine (hbo _ (H0.out.below L0.out H0.out.1) (HK.out.below L0.out HK.out.lt) (HP.out _ L0.out)).mono ?_
    rintro e w1 ⟨rfl, b1⟩
    have C1 : Hid (CBk w1 w.heap.size 72 #[.string h.prev, .string h.root, .int .i64 h.time, .int .i64 h.diff, .int .i64 h.nonce, .slice (some ⟨g, 0, none⟩) n cap]) := C0.out.call b1
    have L1 : Hid (Below w.heap.size w w1) := L0.out.trans (b1.mono L0.out.size)
    clear C0 L0 b1 hbo
    go_wp2_with fail
    go_region_held3 (fun w' => w'.cell? ⟨w.heap.size, 0, none⟩ = some (.string h.prev) ∧ w'.cell? ⟨w.heap.size, 1, none⟩ = some (.string h.root) ∧ w'.cell? ⟨w.heap.size, 2, none⟩ = some (.int .i64 h.time) ∧ w'.cell? ⟨w.heap.size, 3, none⟩ = some (.int .i64 h.diff) ∧ w'.cell? ⟨w.heap.size, 4, none⟩ = some (.int .i64 h.nonce) ∧ w'.cell? ⟨w.heap.size, 5, none⟩ = some (.slice (some ⟨g, 0, none⟩) n cap))
      (first | exact C1.out.drew.out6 | exact C2.out.out6 | exact C3.out.out6)
      (first
        | (go_at_call 61; refine (hhs _ (HK.out.below L1.out.drew HK.out.lt) (HP.out _ L1.out.drew)).mono ?_; rintro e w2 ⟨rfl, b2⟩; have L2 : Hid (Below w.heap.size w w2) := L1.out.drew.trans (b2.mono L1.out.size); have C2 : Hid (CBk w2 w.heap.size 72 #[.string h.prev, .string h.root, .int .i64 h.time, .int .i64 h.diff, .int .i64 h.nonce, .slice (some ⟨g, 0, none⟩) n cap]) := C1.out.drew.call b2)
        | (go_at_call 60; refine (hfo _ (H0.out.below L2.out H0.out.1) (HK.out.below L2.out HK.out.lt)).mono ?_; rintro e w3 ⟨rfl, b3⟩; have L3 : Hid (Below w.heap.size w w3) := L2.out.trans (b3.mono L2.out.size); have C3 : Hid (CBk w3 w.heap.size 72 #[.string h.prev, .string h.root, .int .i64 h.time, .int .i64 h.diff, .int .i64 h.nonce, .slice (some ⟨g, 0, none⟩) n cap]) := C2.out.call b3))
    go_wp2_with fail
    go_ret
    exact ⟨rfl, L3.out⟩

set_option maxHeartbeats 1000000 in
set_option maxRecDepth 100000 in
theorem specL3Filter (h : HeadV) (g n cap : Nat) (ss : List ByteArray) (w : World) (h0 : AtS w g ss) (hn : n = ss.length) (hok : headOkB h = true) (hit : itemsOkB ss = true) :
    Calls Tryz.prog 34 #[blockVal h (.slice (some ⟨g, 0, none⟩) n cap)] w fun e w' => e = .returned (.string ⟨(filterB (sumB (headX h)) ss).toArray⟩) ∧ Below w.heap.size w w' := by
  have H0 : Hid (AtS w g ss) := h0
  have hhs := fun w' => specL3Sum h w' hok
  have hfo := fun w' h' => specFilter g n cap ss ⟨(sumB (headX h)).toArray⟩ w' h' hn (isSum_sumB _) hit
  rw [show (⟨(sumB (headX h)).toArray⟩ : ByteArray).data.toList = sumB (headX h) from rfl] at hfo
  generalize filterB (sumB (headX h)) ss = R at hfo ⊢
  generalize sumB (headX h) = X at hhs hfo
  unfold headVal at hhs
  unfold blockVal
  clear h0 hn hok hit
  have C0 : Hid (CBk (w.alloc (.cells #[.string h.prev, .string h.root, .int .i64 h.time, .int .i64 h.diff, .int .i64 h.nonce, .slice (some ⟨g, 0, none⟩) n cap] 72)) w.heap.size 72 #[.string h.prev, .string h.root, .int .i64 h.time, .int .i64 h.diff, .int .i64 h.nonce, .slice (some ⟨g, 0, none⟩) n cap]) := CBk.new w 72 #[.string h.prev, .string h.root, .int .i64 h.time, .int .i64 h.diff, .int .i64 h.nonce, .slice (some ⟨g, 0, none⟩) n cap]
  have L0 : Hid (Below w.heap.size w (w.alloc (.cells #[.string h.prev, .string h.root, .int .i64 h.time, .int .i64 h.diff, .int .i64 h.nonce, .slice (some ⟨g, 0, none⟩) n cap] 72))) := (Below.refl _ w).alloc (Nat.le_refl _) _
  go_enter Tryz.func34, Tryz.ntmps34
  go_wp2_with fail
  go_region_held3 (fun w' => w'.cell? ⟨w.heap.size, 0, none⟩ = some (.string h.prev) ∧ w'.cell? ⟨w.heap.size, 1, none⟩ = some (.string h.root) ∧ w'.cell? ⟨w.heap.size, 2, none⟩ = some (.int .i64 h.time) ∧ w'.cell? ⟨w.heap.size, 3, none⟩ = some (.int .i64 h.diff) ∧ w'.cell? ⟨w.heap.size, 4, none⟩ = some (.int .i64 h.nonce) ∧ w'.cell? ⟨w.heap.size, 5, none⟩ = some (.slice (some ⟨g, 0, none⟩) n cap))
    (first | exact C0.out.drew.out6 | exact C2.out.out6 | exact C3.out.out6)
    (first
      | (go_at_call 50; refine (hhs _).mono ?_; rintro e w2 ⟨rfl, b2⟩; have L2 : Hid (Below w.heap.size w w2) := L0.out.drew.trans (b2.mono L0.out.size); have C2 : Hid (CBk w2 w.heap.size 72 #[.string h.prev, .string h.root, .int .i64 h.time, .int .i64 h.diff, .int .i64 h.nonce, .slice (some ⟨g, 0, none⟩) n cap]) := C0.out.drew.call b2)
      | (go_at_call 49; refine (hfo _ (H0.out.below L2.out H0.out.1)).mono ?_; rintro e w3 ⟨rfl, b3⟩; have L3 : Hid (Below w.heap.size w w3) := L2.out.trans (b3.mono L2.out.size); have C3 : Hid (CBk w3 w.heap.size 72 #[.string h.prev, .string h.root, .int .i64 h.time, .int .i64 h.diff, .int .i64 h.nonce, .slice (some ⟨g, 0, none⟩) n cap]) := C2.out.call b3))
  go_wp2_with fail
  go_ret
  exact ⟨rfl, L3.out⟩

end Go.Proofs.YtphgjhakghblgaaGreatDoor

set_option linter.unusedVariables false
namespace Go.Proofs.YtphgjhakghblgaaGreatDoor
open Go.ChangeShapes Go.WideShapes Go.ChangeAt Go.RowKit Go.Deep

structure CachedV where
  pos : Int
  text : ByteArray
instance : Inhabited CachedV := ⟨⟨0, ⟨#[]⟩⟩⟩
def enCached (p : CachedV) : List Value := [.int .i64 p.pos, .string p.text]
theorem enCached_len (p : CachedV) : (enCached p).length = 2 := rfl
/-- Its texts can be held. -/
def wfCached (p : CachedV) : Prop := p.text.size ≤ maxLen
/-- Its texts are small. -/
def smallCached (p : CachedV) : Prop := p.text.size ≤ 1048576
abbrev IsCacheds (w : World) (a : Option Addr) (len cap : Nat) (l : List CachedV) : Prop := IsFlat enCached wfCached 2 w a len cap l
abbrev RowCached (w : World) (g : Nat) (l : List CachedV) : Prop := RowF enCached 68 w g l
abbrev AtCached (w : World) (g : Nat) (l : List CachedV) : Prop := AtF enCached 2 w g l
theorem AtCached.c0 {w : World} {g : Nat} {l : List CachedV} (h : AtCached w g l) (i : Nat) (hi : i < l.length) : w.cell? ⟨g, i * 2, none⟩ = some (.int .i64 (l.getD i default).pos) := h.2 i 0 hi (by decide)
theorem AtCached.c1 {w : World} {g : Nat} {l : List CachedV} (h : AtCached w g l) (i : Nat) (hi : i < l.length) : w.cell? ⟨g, i * 2 + 1, none⟩ = some (.string (l.getD i default).text) := h.2 i 1 hi (by decide)
theorem cellsCached {w : World} {x : Addr} {p : CachedV} (h : ∀ j, j < 2 → w.cell? (x.add j) = (enCached p)[j]?) : w.cell? x = some (.int .i64 p.pos) ∧ w.cell? ⟨x.block, x.off + 1, none⟩ = some (.string p.text) := by
  exact ⟨h 0 (by decide), h 1 (by decide)⟩
theorem partsCached {cs : List Value} {a0 a1 : Value} (hl : cs.length = 2) (h0 : (cs.drop 0).take 1 = [a0]) (h1 : (cs.drop 1).take 1 = [a1]) : cs = [a0, a1] := by
  match cs, hl with
  | [x0, x1], _ =>
    simp at h0 h1
    subst h0 h1
    rfl
theorem oneCached_i : Tryz.prog.cellsOf 3 = 1 := by kernel_rfl
theorem oneCached_s : Tryz.prog.cellsOf 9 = 1 := by kernel_rfl
theorem sizeCached : Tryz.prog.cellsOf 65 = 2 := by kernel_rfl
set_option maxRecDepth 100000 in
theorem invCached {H : Type} {enc : TypeId × Value → H} {W : World} {base : Nat} {sp : Nat → Bool} {held : Bool} (n : Nat) (cs : List Value) (y : DataW H × List MemPlace) (h : DataW.trod enc Tryz.prog W base sp held n 65 cs = some y) (hl : cs.length = 2) : ∃ v : CachedV, cs = enCached v ∧ wfCached v := by
  obtain ⟨xs, n, _, _, _, hlen, hx⟩ := DataW.trod_struct Tryz.underlying65 h
  match xs, hlen with
  | [y0, y1], _ =>
    have g0 := hx 0 _ rfl
    have g1 := hx 1 _ rfl
    obtain ⟨s0, e0, _, z0⟩ := DataW.trod_int Tryz.underlying3 g0
    replace e0 : (cs.drop 0).take (Tryz.prog.cellsOf 3) = [_] := e0
    rw [oneCached_i] at e0
    obtain ⟨s1, e1, _, z1⟩ := DataW.trod_string Tryz.underlying9 g1
    replace e1 : (cs.drop 1).take (Tryz.prog.cellsOf 9) = [_] := e1
    rw [oneCached_s] at e1
    exact ⟨⟨s0, s1⟩, partsCached hl e0 e1, z1⟩
theorem open_cacheds {H : Type} {enc : TypeId × Value → H} {W : World} {base : Nat} {sp : Nat → Bool} {held : Bool} {a : Option Addr} {len cap : Nat} {d : DataW H} {p : List MemPlace} (h : DataW.Trod enc Tryz.prog W base sp held 24 (.slice a len cap) d p) : ∃ l : List CachedV, IsCacheds W a len cap l :=
  open_flat enCached wfCached Tryz.underlying24 sizeCached (fun n cs y h1 h2 => invCached n cs y h1 h2) h

set_option maxHeartbeats 1000000 in
set_option maxRecDepth 100000 in
theorem szCached1 (p : CachedV) (r : Nat) (w : World) (hr : r ≤ 1048576) (hs : wfCached p) :
    Calls Tryz.prog 30 #[.agg #[.int .i64 p.pos, .string p.text], .int .i64 (r : Int)] w fun e w' => Below w.heap.size w w' ∧ (e = .returned (.int .i64 (-1)) ∨ ∃ q : Nat, e = .returned (.int .i64 (q : Int)) ∧ q ≤ r ∧ smallCached p) := by
  unfold wfCached maxLen at hs
  have hb : ∀ o, Below w.heap.size w (w.alloc o) := fun o => (Below.refl _ w).alloc (Nat.le_refl _) o
  have hw_text : IntKind.i64.wrap ((r : Int) - (p.text.size : Int)) = (r : Int) - (p.text.size : Int) := by rw [IntKind.wrap_i64]; omega
  by_cases hl_text : (r : Int) - (p.text.size : Int) < 0
  · go_enter Tryz.func30, Tryz.ntmps30
    go_wp2
    go_ret
    exact ⟨hb _, .inl rfl⟩
  have HS : Hid (smallCached p) := by show smallCached p; unfold smallCached; omega
  go_enter Tryz.func30, Tryz.ntmps30
  go_wp2
  go_ret
  refine ⟨hb _, .inr ⟨r - p.text.size, ?_, by omega, HS.out⟩⟩
  show Ending.returned (Value.int IntKind.i64 ((r : Int) - (p.text.size : Int))) = _
  congr 2
  omega
theorem alloc3_midC (w : World) (o1 o2 o3 : Obj) : (((w.alloc o1).alloc o2).alloc o3).heap[w.heap.size + 1]? = some o2 := by
  have e : w.heap.size + 1 = (w.alloc o1).heap.size := by simp
  rw [e, Below.heap_alloc _ _ _ (by simp)]
  exact heap_alloc_new _ _
set_option maxHeartbeats 1000000 in
set_option maxRecDepth 100000 in
theorem toCachedA (p : CachedV) (w : World) :
    Calls Tryz.prog 36 #[.agg #[.int .i64 p.pos, .string p.text]] w fun e w' => e = .returned (.agg #[.int .i64 p.pos, .string p.text]) ∧ Below w.heap.size w w' := by
  go_enter Tryz.func36, Tryz.ntmps36
  go_wp2
  exact bodyPost_ret (results_cell_row (p := 2) rfl _ _ (w.heap.size + 1) 68 #[.int .i64 p.pos, .string p.text] (0, 0) _ rfl (alloc3_midC _ _ _ _) Tryz.underlying68 rfl (by kernel_rfl)) rfl ⟨rfl, (((Below.refl _ w).alloc (Nat.le_refl _) _).alloc (by simp) _).alloc (by simp; omega) _⟩
set_option maxHeartbeats 1000000 in
set_option maxRecDepth 100000 in
theorem eqCachedA (p : CachedV) (w : World) :
    Calls Tryz.prog 43 #[.agg #[.int .i64 p.pos, .string p.text], .agg #[.int .i64 p.pos, .string p.text]] w fun e w' => e = .returned (.bool true) ∧ Below w.heap.size w w' := by
  go_enter Tryz.func43, Tryz.ntmps43
  go_wp2
  go_ret
  exact ⟨rfl, ((Below.refl _ w).alloc (Nat.le_refl _) _).alloc (by simp) _⟩

set_option maxHeartbeats 1000000 in
set_option maxRecDepth 100000 in
theorem szCacheds (r0 : Nat) (hr0 : r0 ≤ 1048576) (a : Option Addr) (len cap : Nat) (ps : List CachedV) (w : World) (h : IsCacheds w a len cap ps) :
    Calls Tryz.prog 17 #[.slice a len cap, .int .i64 (r0 : Int)] w fun e w' => Below w.heap.size w w' ∧ (e = .returned (.int .i64 (-1)) ∨ ∃ r : Nat, e = .returned (.int .i64 (r : Int)) ∧ r ≤ 1048576 ∧ len ≤ 1048576 ∧ ∀ i, i < len → smallCached (ps.getD i default)) := by
  have HP : Hid (IsCacheds w a len cap ps) := h
  have hlm : len ≤ maxLen := h.max
  unfold maxLen at hlm
  have hw : IntKind.i64.wrap ((r0 : Int) - (len : Int)) = (r0 : Int) - (len : Int) := by rw [IntKind.wrap_i64]; omega
  clear h
  by_cases hl : r0 < len
  · have hl' : (r0 : Int) - (len : Int) < 0 := by omega
    go_enter Tryz.func17, Tryz.ntmps17
    go_wp2_with fail
    go_ret
    exact ⟨Below.refl _ _, .inl rfl⟩
  · have hl' : ¬ (r0 : Int) - (len : Int) < 0 := by omega
    go_enter Tryz.func17, Tryz.ntmps17
    go_wp2_with fail
    clear hw hl'
    go_loopw [1, 5] (fun l i wr => ∃ (r k : Nat), k ≤ len ∧ r ≤ 1048576 ∧ i = .int .i64 (k : Int) ∧ l = .int .i64 (r : Int) ∧ Hid (Below w.heap.size w wr) ∧ Hid (∀ i, i < k → smallCached (ps.getD i default))) (fun _ i _ => len - (intOf i).toNat)
    case atStart => exact ⟨r0 - len, 0, by omega, by omega, rfl, by show Value.int .i64 _ = Value.int .i64 _; congr 1; omega, Below.refl _ _, fun i hi => by omega⟩
    case round =>
      obtain ⟨r, k, hk, hr, rfl, rfl, HB, HS⟩ := hrel
      by_cases hlt : k < len
      · obtain ⟨x, rfl, hp, hsz⟩ := HP.out.at enCached_len HB.out k hlt
        obtain ⟨c0, c1⟩ := cellsCached hp
        have lk : (k : Int) < (len : Int) := by omega
        have HK : Hid (k + 1 ≤ len) := hlt
        have HN : Hid (smallCached (ps.getD k default) → ∀ i, i < k + 1 → smallCached (ps.getD i default)) := by
          intro h1 i hi
          rcases Nat.lt_or_ge i k with h' | h'
          · exact HS.out i h'
          · obtain rfl : i = k := by omega
            exact h1
        clear hp
        generalize ps.getD k default = p at c0 c1 hsz HN
        go_wp2_with fail
        refine (szCached1 p r _ hr hsz).mono ?_
        rintro e w1 ⟨b1, rfl | ⟨q, rfl, hq, hps⟩⟩
        · go_wp2_with fail
          go_ret
          exact ⟨HB.out.trans (b1.mono HB.out.size), .inl rfl⟩
        · have HQ2 : Hid (∀ i, i < k + 1 → smallCached (ps.getD i default)) := HN.out hps
          clear HN hps
          have hq0 : ¬ (q : Int) < 0 := by omega
          go_wp2_with fail
          go_roundw
          case rel => exact ⟨q, k + 1, HK.out, by omega, by go_num, rfl, HB.out.trans (b1.mono HB.out.size), HQ2⟩
          case measure => have := HK.out; simp [intOf]; omega
      · go_wp2_with fail
        go_ret
        exact ⟨HB.out, .inr ⟨r, rfl, by omega, by omega, fun i hi => HS.out i (by omega)⟩⟩

theorem infoCached : (Tryz.prog.info? 68).map (fun i => (i.zero, i.size, i.bytes)) = some (some (.agg #[.int .i64 0, .string ⟨#[]⟩]), 2, 24) := by kernel_rfl
def zeroCached : CachedV := ⟨0, ⟨#[]⟩⟩
theorem makeCached (n : Nat) (hn : n ≤ 1099511627776) (w : World) : (Instr.makeSlice 30 (.int .i64 (n : Int)) (.int .i64 (n : Int))).run Tryz.prog w = .ok (.slice (some ⟨w.heap.size, 0, none⟩) n n) (w.alloc (.cells ((List.replicate n zeroCached).flatMap enCached).toArray 68)) := by
  obtain ⟨i, hi, hz, hs, hb⟩ := info_parts infoCached
  have hb' : (i.bytes : Int) * (n : Int) ≤ 281474976710656 := by rw [hb]; omega
  have hr := run_make (P := Tryz.prog) w 30 68 i _ Tryz.underlying30 hi hz .i64 .i64 (n : Int) (n : Int) (by omega) (by omega) hb' (by omega)
  simp only [Int.toNat_natCast, hs, Value.cells] at hr
  rw [← made_flat 2 enCached enCached_len (by decide) zeroCached n]
  exact hr
theorem RowCached.put {w : World} {g : Nat} {l : List CachedV} (h : RowCached w g l) (i : Nat) (hi : i < l.length) (p : CachedV) :
    RowCached ((w.setCell ⟨g, i * 2, none⟩ (.int .i64 p.pos)).setCell ⟨g, i * 2 + 1, none⟩ (.string p.text)) g (l.set i p) := by
  show _ = _
  rw [← flat_put 2 enCached enCached_len l i p hi]
  exact (rowSet (rowSet h _) _)

set_option maxHeartbeats 1000000 in
set_option maxRecDepth 100000 in
theorem toCacheds (a : Option Addr) (len cap : Nat) (ps : List CachedV) (w w0 : World) (h0 : IsCacheds w0 a len cap ps) (hw : Below w0.heap.size w0 w) (hn : len ≤ 1048576) :
    Calls Tryz.prog 21 #[.slice a len cap] w fun e w' => e = .returned (.slice (some ⟨w.heap.size, 0, none⟩) len len) ∧ RowCached w' w.heap.size ps ∧ Below w.heap.size w w' := by
  have hmk := makeCached len (by omega)
  have HP : Hid (IsCacheds w0 a len cap ps) := h0
  have HW : Hid (Below w0.heap.size w0 w) := hw
  have HLn : Hid (ps.length = len) := h0.len
  clear h0 hw
  go_enter Tryz.func21, Tryz.ntmps21
  go_wp2_with fail
  clear hmk
  go_loopw [4] (fun i wr => ∃ k : Nat, k ≤ len ∧ i = .int .i64 (k : Int) ∧ Hid (RowCached wr w.heap.size (ps.take k ++ List.replicate (len - k) zeroCached)) ∧ Hid (Below w.heap.size w wr)) (fun i _ => len - (intOf i).toNat)
  case atStart => exact ⟨0, by omega, rfl, heap_alloc_new w _, (Below.refl _ w).alloc (Nat.le_refl _) _⟩
  case round =>
    obtain ⟨k, hk, rfl, HR, HB⟩ := hrel
    by_cases hlt : k < len
    · obtain ⟨x, rfl, hp, _⟩ := HP.out.at enCached_len (HW.out.trans (HB.out.mono HW.out.size)) k hlt
      obtain ⟨c0, c1⟩ := cellsCached hp
      have HK : Hid (k + 1 ≤ len) := hlt
      have HS : Hid ((ps.take k ++ List.replicate (len - k) zeroCached).set k (ps.getD k default) = ps.take (k + 1) ++ List.replicate (len - (k + 1)) zeroCached) := set_nextF zeroCached ps len k (by rw [HLn.out]; exact hlt) hlt
      have HKL : Hid (k < (ps.take k ++ List.replicate (len - k) zeroCached).length) := by show _ < _; simp [HLn.out]; omega
      have lk : (k : Int) < (len : Int) := by omega
      clear hp
      generalize ps.getD k default = p at c0 c1 HS
      go_wp2_with fail
      refine (toCachedA p _).mono ?_
      rintro e w1 ⟨rfl, b1⟩
      have HR1 : Hid (RowCached w1 w.heap.size (ps.take k ++ List.replicate (len - k) zeroCached)) := HR.out.below b1 HR.out.lt
      have HB1 : Hid (Below w.heap.size w w1) := HB.out.trans (b1.mono HB.out.size)
      have f0 := HR1.out.frozen (k * 2)
      have f1 := HR1.out.frozen (k * 2 + 1)
      have d0 := AtCached.c0 (HR1.out.at 2 enCached_len) k HKL.out
      have d1 := AtCached.c1 (HR1.out.at 2 enCached_len) k HKL.out
      generalize (ps.take k ++ List.replicate (len - k) zeroCached).getD k default = o at d0 d1
      clear b1 c0 c1
      go_wp2_with fail
      go_roundw
      case rel =>
        refine ⟨k + 1, HK.out, by go_num, ?_, ((HB1.out.setCell (p := ⟨w.heap.size, k * 2, none⟩) (Nat.le_refl _) _).setCell (p := ⟨w.heap.size, k * 2 + 1, none⟩) (Nat.le_refl _) _)⟩
        have := RowCached.put HR1.out k HKL.out p
        rw [HS.out] at this
        exact this
      case measure => have := HK.out; simp [intOf]; omega
    · have HE : Hid (ps.take k ++ List.replicate (len - k) zeroCached = ps) := by
        show _ = _
        rw [List.take_of_length_le (by rw [HLn.out]; omega), show len - k = 0 from by omega]
        simp
      go_wp2_with fail
      go_ret
      refine ⟨rfl, ?_, HB.out⟩
      rw [← HE.out]
      exact HR.out

set_option maxHeartbeats 1000000 in
set_option maxRecDepth 100000 in
theorem eqCacheds (g1 g2 n c1 c2 : Nat) (ps : List CachedV) (w : World) (h1 : AtCached w g1 ps) (h2 : AtCached w g2 ps) (hn : n = ps.length) (hm : n ≤ 1073741824) :
    Calls Tryz.prog 27 #[.slice (some ⟨g1, 0, none⟩) n c1, .slice (some ⟨g2, 0, none⟩) n c2] w fun e w' => e = .returned (.bool true) ∧ Below w.heap.size w w' := by
  have HA : Hid (AtCached w g1 ps ∧ AtCached w g2 ps ∧ Below w.heap.size w w) := ⟨h1, h2, Below.refl _ w⟩
  have HN : Hid (n = ps.length) := hn
  clear h1 h2 hn
  go_enter Tryz.func27, Tryz.ntmps27
  go_wp2_with fail
  go_loopw [5] (fun i wr => ∃ k : Nat, k ≤ n ∧ i = .int .i64 (k : Int) ∧ Hid (AtCached wr g1 ps ∧ AtCached wr g2 ps ∧ Below w.heap.size w wr)) (fun i _ => n - (intOf i).toNat)
  case atStart => exact ⟨0, by omega, rfl, HA⟩
  case round =>
    clear HA
    obtain ⟨k, hk, rfl, HA⟩ := hrel
    by_cases hlt : k < n
    · have hkz : k < ps.length := by rw [← HN.out]; exact hlt
      have d0 := AtCached.c0 HA.out.1 k hkz
      have e0 := AtCached.c0 HA.out.2.1 k hkz
      have d1 := AtCached.c1 HA.out.1 k hkz
      have e1 := AtCached.c1 HA.out.2.1 k hkz
      have HK : Hid (k + 1 ≤ n) := hlt
      generalize ps.getD k default = p at d0 e0 d1 e1
      have lk : (k : Int) < (n : Int) := by omega
      clear hkz
      go_wp2_with fail
      go_region_with (go_at_call 43; refine (eqCachedA p _).mono ?_; rintro e w1 ⟨rfl, b1⟩)
      all_goals
        have HA1 : Hid (AtCached w1 g1 ps ∧ AtCached w1 g2 ps ∧ Below w.heap.size w w1) := ⟨HA.out.1.drew.below b1 HA.out.1.1, HA.out.2.1.drew.below b1 HA.out.2.1.1, HA.out.2.2.drew.trans (b1.mono HA.out.2.2.size)⟩
        clear b1
        go_wp2_with fail
        go_roundw
        case rel => exact ⟨k + 1, HK.out, by go_num, HA1⟩
        case measure => have := HK.out; simp [intOf]; omega
    · go_wp2_with fail
      go_ret
      exact ⟨rfl, HA.out.2.2⟩

end Go.Proofs.YtphgjhakghblgaaGreatDoor

set_option linter.unusedVariables false
namespace Go.Proofs.YtphgjhakghblgaaGreatDoor
open Go.RowKit Go.Deep

/-- Each peer has as many tokens as it can have. -/
def tokOk (ts : List Int) : Bool := decide (ts.length = 3) && ts.all fun t => decide (0 ≤ t ∧ t ≤ 8)
/-- The filter of the block at a place. -/
def filterAt (ps : List (HeadV × List ByteArray)) (i : Nat) : ByteArray := ⟨(blockFilter (ps.getD i default).1 (ps.getD i default).2).toArray⟩
/-- The filter of that place is kept. -/
def hasC (cs : List CachedV) (p : Int) : Bool := cs.any fun c => c.pos == p
/-- What is kept at a place is a filter of a block, and of no block ahead of it. -/
def keptOk (ps : List (HeadV × List ByteArray)) (cs : List CachedV) (i : Nat) : Bool :=
  decide (0 ≤ (cs.getD i default).pos ∧ (cs.getD i default).pos < (ps.length : Int)) && (!(hasC (cs.take i) (cs.getD i default).pos) && decide ((cs.getD i default).text = filterAt ps (cs.getD i default).pos.toNat))
def cacheOk (ps : List (HeadV × List ByteArray)) (cs : List CachedV) : Bool := decide (cs.length ≤ 4) && (List.range cs.length).all fun i => keptOk ps cs i
def srvOk (ps : List (HeadV × List ByteArray)) (ts : List Int) (cs : List CachedV) : Bool := tokOk ts && (okP ps && cacheOk ps cs)

theorem tok_len {ts : List Int} (h : ts.length ≠ 3) : tokOk ts = false := by rw [tokOk, decide_eq_false h, Bool.false_and]
theorem tok_bad {ts : List Int} {k : Nat} (hk : k < ts.length) (h : ¬ (0 ≤ ts.getD k 0 ∧ ts.getD k 0 ≤ 8)) : tokOk ts = false := by
  rw [tokOk, Bool.and_eq_false_iff]
  right
  rw [List.all_eq_false]
  refine ⟨ts.getD k 0, by rw [List.getD_eq_getElem?_getD, List.getElem?_eq_getElem hk]; exact List.getElem_mem hk, by simpa using h⟩
theorem tok_good {ts : List Int} (hl : ts.length = 3) (h : ∀ k, k < ts.length → 0 ≤ ts.getD k 0 ∧ ts.getD k 0 ≤ 8) : tokOk ts = true := by
  rw [tokOk, decide_eq_true hl, Bool.true_and, List.all_eq_true]
  intro t ht
  obtain ⟨i, hi, he⟩ := List.mem_iff_getElem.1 ht
  have := h i hi
  rw [List.getD_eq_getElem?_getD, List.getElem?_eq_getElem hi] at this
  subst he
  simpa using this
theorem cache_len {ps : List (HeadV × List ByteArray)} {cs : List CachedV} (h : ¬ cs.length ≤ 4) : cacheOk ps cs = false := by rw [cacheOk, decide_eq_false h, Bool.false_and]
theorem cache_bad {ps : List (HeadV × List ByteArray)} {cs : List CachedV} {i : Nat} (hi : i < cs.length) (h : keptOk ps cs i = false) : cacheOk ps cs = false := by
  rw [cacheOk, Bool.and_eq_false_iff]
  right
  rw [List.all_eq_false]
  exact ⟨i, List.mem_range.2 hi, by rw [h]; decide⟩
theorem cache_good {ps : List (HeadV × List ByteArray)} {cs : List CachedV} (hl : cs.length ≤ 4) (h : ∀ i, i < cs.length → keptOk ps cs i = true) : cacheOk ps cs = true := by
  rw [cacheOk, decide_eq_true hl, Bool.true_and, List.all_eq_true]
  intro i hi
  exact h i (List.mem_range.1 hi)
theorem srv_tok {ps : List (HeadV × List ByteArray)} {ts : List Int} {cs : List CachedV} (h : tokOk ts = false) : srvOk ps ts cs = false := by rw [srvOk, h, Bool.false_and]
theorem srv_okP {ps : List (HeadV × List ByteArray)} {ts : List Int} {cs : List CachedV} (h : okP ps = false) : srvOk ps ts cs = false := by rw [srvOk, h, Bool.false_and, Bool.and_false]
theorem srv_cache {ps : List (HeadV × List ByteArray)} {ts : List Int} {cs : List CachedV} (h : cacheOk ps cs = false) : srvOk ps ts cs = false := by rw [srvOk, h, Bool.and_false, Bool.and_false]
theorem srv_good {ps : List (HeadV × List ByteArray)} {ts : List Int} {cs : List CachedV} (h1 : tokOk ts = true) (h2 : okP ps = true) (h3 : cacheOk ps cs = true) : srvOk ps ts cs = true := by rw [srvOk, h1, h2, h3]; rfl
theorem okP_len {ps : List (HeadV × List ByteArray)} (h : okP ps = true) : ps.length ≤ 20 := by
  simp only [okP, Bool.and_eq_true, decide_eq_true_eq] at h
  have := ck_len h.1
  rwa [List.length_map] at this
theorem hasC_take {cs : List CachedV} {i : Nat} {p : Int} (h : hasC (cs.take i) p = true) : ∃ k, k < i ∧ k < cs.length ∧ (cs.getD k default).pos = p := by
  obtain ⟨c, hc, he⟩ := List.any_eq_true.1 h
  obtain ⟨k, hk, hx⟩ := List.mem_iff_getElem.1 hc
  rw [List.length_take] at hk
  refine ⟨k, by omega, by omega, ?_⟩
  rw [List.getElem_take] at hx
  rw [List.getD_eq_getElem?_getD, List.getElem?_eq_getElem (by omega)]
  simp only [Option.getD_some, hx]
  simpa using he
theorem hasC_of {cs : List CachedV} {i k : Nat} {p : Int} (h1 : k < i) (h2 : k < cs.length) (h : (cs.getD k default).pos = p) : hasC (cs.take i) p = true := by
  refine List.any_eq_true.2 ⟨cs.getD k default, ?_, by simpa using h⟩
  rw [List.getD_eq_getElem?_getD, List.getElem?_eq_getElem h2]
  exact List.mem_iff_getElem.2 ⟨k, by rw [List.length_take]; omega, by simp⟩
theorem kept_range {ps : List (HeadV × List ByteArray)} {cs : List CachedV} {i : Nat} (h : ¬ (0 ≤ (cs.getD i default).pos ∧ (cs.getD i default).pos < (ps.length : Int))) : keptOk ps cs i = false := by rw [keptOk, decide_eq_false h, Bool.false_and]
theorem kept_has {ps : List (HeadV × List ByteArray)} {cs : List CachedV} {i : Nat} (h : hasC (cs.take i) (cs.getD i default).pos = true) : keptOk ps cs i = false := by rw [keptOk, h, Bool.not_true, Bool.false_and, Bool.and_false]
theorem kept_text {ps : List (HeadV × List ByteArray)} {cs : List CachedV} {i : Nat} (h : ¬ (cs.getD i default).text = filterAt ps (cs.getD i default).pos.toNat) : keptOk ps cs i = false := by rw [keptOk, decide_eq_false h, Bool.and_false, Bool.and_false]
theorem kept_good {ps : List (HeadV × List ByteArray)} {cs : List CachedV} {i : Nat} (h1 : 0 ≤ (cs.getD i default).pos ∧ (cs.getD i default).pos < (ps.length : Int)) (h2 : hasC (cs.take i) (cs.getD i default).pos = false) (h3 : (cs.getD i default).text = filterAt ps (cs.getD i default).pos.toNat) : keptOk ps cs i = true := by
  rw [keptOk, decide_eq_true h1, h2, decide_eq_true h3]; rfl
theorem filterAt_blk {bs : List BlkV} {i : Nat} (h : i < bs.length) : filterAt (ptsOf bs) i = ⟨(blockFilter (bs.getD i default).h (bs.getD i default).ss).toArray⟩ := by
  simp [filterAt, ptsOf, List.getElem?_eq_getElem h]
theorem pts_len (bs : List BlkV) : (ptsOf bs).length = bs.length := by simp [ptsOf]

end Go.Proofs.YtphgjhakghblgaaGreatDoor

set_option linter.unusedVariables false
namespace Go.Proofs.YtphgjhakghblgaaGreatDoor
open Go.RowKit Go.Deep

def onceOk (cs : List CachedV) (i : Nat) : Bool := inB (cs.getD i default).pos 0 19 && !(hasC (cs.take i) (cs.getD i default).pos)
def cachedB (cs : List CachedV) : Bool := (List.range cs.length).all (fun i => onceOk cs i) && decide (cs.length ≤ 4)
theorem cachedB_bad {cs : List CachedV} {i : Nat} (hi : i < cs.length) (h : onceOk cs i = false) : cachedB cs = false := by
  rw [cachedB, Bool.and_eq_false_iff]
  left
  rw [List.all_eq_false]
  exact ⟨i, List.mem_range.2 hi, by rw [h]; decide⟩
theorem cachedB_good {cs : List CachedV} (h : ∀ i, i < cs.length → onceOk cs i = true) : cachedB cs = decide (cs.length ≤ 4) := by
  have : (List.range cs.length).all (fun i => onceOk cs i) = true := List.all_eq_true.2 fun i hi => h i (List.mem_range.1 hi)
  rw [cachedB, this, Bool.true_and]
theorem cachedB_once {cs : List CachedV} (h : cachedB cs = true) : cs.length ≤ 4 ∧ ∀ i, i < cs.length → onceOk cs i = true := by
  simp only [cachedB, Bool.and_eq_true, decide_eq_true_eq, List.all_eq_true] at h
  exact ⟨h.2, fun i hi => h.1 i (List.mem_range.2 hi)⟩
theorem once_range {cs : List CachedV} {i : Nat} (h : inB (cs.getD i default).pos 0 19 = false) : onceOk cs i = false := by rw [onceOk, h, Bool.false_and]
theorem once_has {cs : List CachedV} {i k : Nat} (h1 : k < i) (h2 : k < cs.length) (h : (cs.getD k default).pos = (cs.getD i default).pos) : onceOk cs i = false := by rw [onceOk, hasC_of h1 h2 h, Bool.not_true, Bool.and_false]
theorem once_good {cs : List CachedV} {i : Nat} (h : inB (cs.getD i default).pos 0 19 = true) (hq : ∀ k, k < i → (cs.getD k default).pos ≠ (cs.getD i default).pos) : onceOk cs i = true := by
  rw [onceOk, h, Bool.true_and]
  cases hx : hasC (cs.take i) (cs.getD i default).pos with
  | false => rfl
  | true =>
    obtain ⟨k, h1, _, h3⟩ := hasC_take hx
    exact absurd h3 (hq k h1)

set_option maxHeartbeats 2000000 in
set_option maxRecDepth 100000 in
theorem specL7Cached (g n cap : Nat) (cs : List CachedV) (w : World) (h : AtCached w g cs) (hn : n = cs.length) (hm : n ≤ 1048576) :
    Calls Tryz.prog 32 #[.slice (some ⟨g, 0, none⟩) n cap] w fun e w' => e = .returned (.bool (cachedB cs)) ∧ Below w.heap.size w w' := by
  have HA : Hid (AtCached w g cs) := h
  have HN : Hid (n = cs.length) := hn
  have HBAD : Hid (∀ i, i < n → onceOk cs i = false → cachedB cs = false) := fun i hi hf => cachedB_bad (by rw [← HN.out]; exact hi) hf
  have HGOO : Hid ((∀ i, i < n → onceOk cs i = true) → cachedB cs = decide (n ≤ 4)) := fun hq => by rw [HN.out]; exact cachedB_good (fun i hi => hq i (by rw [HN.out]; exact hi))
  generalize cachedB cs = R at HBAD HGOO ⊢
  clear h hn
  go_enter Tryz.func32, Tryz.ntmps32
  go_wp2_with fail
  go_loopw [3] (fun i wr => ∃ k : Nat, k ≤ n ∧ i = .int .i64 (k : Int) ∧ Hid (Below w.heap.size w wr) ∧ Hid (∀ q, q < k → onceOk cs q = true)) (fun i _ => n - (intOf i).toNat)
  case atStart => exact ⟨0, by omega, rfl, Below.refl _ _, fun q hq => by omega⟩
  case round =>
    obtain ⟨k, hk, rfl, HB, HQ⟩ := hrel
    by_cases hlt : k < n
    · have hkl : k < cs.length := by rw [← HN.out]; exact hlt
      have HAr : Hid (AtCached wr g cs) := HA.out.below HB.out HA.out.1
      have q0 := AtCached.c0 HAr.out k hkl
      have lk : (k : Int) < (n : Int) := by omega
      have lk0 : (0 : Int) ≤ (k : Int) := by omega
      have wk : IntKind.i64.wrap ((k : Int) + 1) = (k : Int) + 1 := by rw [IntKind.wrap_i64]; omega
      have HK1 : Hid (k + 1 ≤ n) := hlt
      have HX1 : Hid (inB (cs.getD k default).pos 0 19 = false → R = false) := fun hf => HBAD.out k hlt (once_range hf)
      have HX2 : Hid (∀ q, q < k → (cs.getD q default).pos = (cs.getD k default).pos → R = false) := fun q h1 h2 => HBAD.out k hlt (once_has h1 (by omega) h2)
      have HX3 : Hid (inB (cs.getD k default).pos 0 19 = true → (∀ q, q < k → (cs.getD q default).pos ≠ (cs.getD k default).pos) → ∀ q, q < k + 1 → onceOk cs q = true) := by
        intro h1 h2 q hq
        rcases Nat.lt_or_ge q k with h' | h'
        · exact HQ.out q h'
        · obtain rfl : q = k := by omega
          exact once_good h1 h2
      clear HQ
      have HPE : Hid (∀ wr', Below w.heap.size w wr' → wr'.cell? ⟨g, k * 2, none⟩ = some (.int .i64 (cs.getD k default).pos)) := fun wr' hb => AtCached.c0 (HA.out.below hb HA.out.1) k hkl
      generalize (cs.getD k default).pos = p at q0 HX1 HX2 HX3 HPE
      have hin := specIn p 0 19 wr
      cases hpb : inB p 0 19 with
      | false =>
        have HV : Hid (R = false) := HX1.out hpb
        rw [hpb] at hin
        clear HX1 HX2 HX3 hpb HGOO HBAD
        go_wp2_with fail
        refine hin.mono ?_
        rintro e w1 ⟨rfl, rfl⟩
        go_wp2_with fail
        go_ret
        exact ⟨by rw [HV.out]; rfl, HB.out⟩
      | true =>
        have HX4 : Hid ((∀ q, q < k → (cs.getD q default).pos ≠ p) → ∀ q, q < k + 1 → onceOk cs q = true) := HX3.out hpb
        rw [hpb] at hin
        clear HX1 HX3 hpb HGOO HBAD
        go_wp2_with fail
        refine hin.mono ?_
        rintro e w1 ⟨rfl, rfl⟩
        clear hin q0
        go_wp2_with fail
        go_loopw [4] (fun i wr => ∃ j : Nat, j ≤ k ∧ i = .int .i64 (j : Int) ∧ Hid (Below w.heap.size w wr) ∧ Hid (∀ q, q < j → (cs.getD q default).pos ≠ p)) (fun i _ => k - (intOf i).toNat)
        case atStart => exact ⟨0, by omega, rfl, HB, fun q hq => by omega⟩
        case round =>
          clear HB
          obtain ⟨j, hj, rfl, HB, HQ⟩ := hrel
          by_cases hjk : j < k
          · have q0 := HPE.out _ HB.out.drew
            have q1 := AtCached.c0 (HA.out.below HB.out.drew HA.out.1) j (by omega)
            have lj : (j : Int) < (k : Int) := by omega
            have ljn : (j : Int) < (n : Int) := by omega
            have lj0 : (0 : Int) ≤ (j : Int) := by omega
            have wj : IntKind.i64.wrap ((j : Int) + 1) = (j : Int) + 1 := by rw [IntKind.wrap_i64]; omega
            have HJ1 : Hid (j + 1 ≤ k) := hjk
            have HX5 : Hid ((cs.getD j default).pos = p → R = false) := HX2.out j hjk
            have HQ2 : Hid ((cs.getD j default).pos ≠ p → ∀ q, q < j + 1 → (cs.getD q default).pos ≠ p) := by
              intro h q hq
              rcases Nat.lt_or_ge q j with h' | h'
              · exact HQ.out q h'
              · obtain rfl : q = j := by omega
                exact h
            clear HQ
            generalize (cs.getD j default).pos = t at q1 HX5 HQ2
            by_cases he : t = p
            · have HV : Hid (R = false) := HX5.out he
              have hcp : (t == p) = true := by simpa using he
              clear HX5 HQ2 he
              go_wp2_with fail
              go_region
              go_wp2_with fail
              go_ret
              exact ⟨by rw [HV.out]; rfl, HB.out.drew⟩
            · have HQ3 : Hid (∀ q, q < j + 1 → (cs.getD q default).pos ≠ p) := HQ2.out he
              have hcp : (t == p) = false := by simpa using he
              clear HX5 HQ2 he
              go_wp2_with fail
              go_region
              go_wp2_with fail
              go_roundw
              case rel => exact ⟨j + 1, HJ1.out, by go_num, HB.out.drew, HQ3⟩
              case measure => have := HJ1.out; simp [intOf]; omega
          · obtain rfl : j = k := by omega
            have HQ3 : Hid (∀ q, q < j + 1 → onceOk cs q = true) := HX4.out HQ.out
            clear HX4 HQ
            go_wp2_with fail
            go_roundw
            case rel => exact ⟨j + 1, HK1.out, by go_num, HB, HQ3⟩
            case measure => have := HK1.out; simp [intOf]; omega
    · obtain rfl : k = n := by omega
      have HV : Hid (R = decide (k ≤ 4)) := HGOO.out HQ.out
      clear HBAD HGOO HQ
      go_wp2_with fail
      go_ret
      refine ⟨?_, HB.out⟩
      rw [HV.out]
      congr 2
      first | rfl | (simp; omega) | (rw [Bool.eq_iff_iff]; simp; omega)

end Go.Proofs.YtphgjhakghblgaaGreatDoor

set_option linter.unusedVariables false
namespace Go.Proofs.YtphgjhakghblgaaGreatDoor
open Go.RowKit Go.Deep

set_option maxHeartbeats 1000000 in
set_option maxRecDepth 100000 in
theorem implHas1 (p q : Int) (tx : ByteArray) (b : Nat) (w : World) (hb : b < w.heap.size) (hc : w.cell? ⟨b, 0, none⟩ = some (.int .i64 p)) :
    Calls Tryz.prog 59 #[.agg #[.int .i64 q, .string tx], .pointer (some ⟨b, 0, none⟩)] w fun e w' => e = .returned (.bool (q == p)) ∧ Below w.heap.size w w' := by
  have L0 : Hid (Below w.heap.size w (w.alloc (.cells #[.int .i64 q, .string tx] 68))) := (Below.refl _ w).alloc (Nat.le_refl _) _
  have hc2 : (w.alloc (.cells #[.int .i64 q, .string tx] 68)).cell? ⟨b, 0, none⟩ = some (.int .i64 p) := (L0.out.cell hb).trans hc
  go_enter Tryz.func59, Tryz.ntmps59
  go_wp2
  go_ret
  exact ⟨rfl, L0.out⟩

set_option maxHeartbeats 1000000 in
set_option maxRecDepth 100000 in
theorem implIndexHas (g n cap : Nat) (cs : List CachedV) (p : Int) (b : Nat) (w : World) (h : AtCached w g cs) (hn : n ≤ cs.length) (hm : n ≤ 1048576) (hb : b < w.heap.size) (hc : w.cell? ⟨b, 0, none⟩ = some (.int .i64 p)) :
    Calls Tryz.prog 88 #[.slice (some ⟨g, 0, none⟩) n cap, .func (.func 59) #[] #[.pointer (some ⟨b, 0, none⟩)]] w fun e w' => (∃ x : Int, e = .returned (.int .i64 x) ∧ decide (0 ≤ x) = hasC (cs.take n) p) ∧ Below w.heap.size w w' := by
  have HA : Hid (AtCached w g cs) := h
  have HN : Hid (n ≤ cs.length) := hn
  have HC : Hid (b < w.heap.size ∧ w.cell? ⟨b, 0, none⟩ = some (.int .i64 p)) := ⟨hb, hc⟩
  have HY : Hid (∀ k, k < n → (cs.getD k default).pos = p → hasC (cs.take n) p = true) := fun k hk he => hasC_of hk (by omega) he
  have HX : Hid ((∀ k, k < n → (cs.getD k default).pos ≠ p) → hasC (cs.take n) p = false) := fun hf => by
    cases hx : hasC (cs.take n) p with
    | false => rfl
    | true =>
      obtain ⟨k, h1, _, h3⟩ := hasC_take hx
      exact absurd h3 (hf k h1)
  generalize hasC (cs.take n) p = R at HY HX ⊢
  clear h hn hb hc
  go_enter Tryz.func88, Tryz.ntmps88
  go_wp2_with fail
  go_loopw [5, 8] (fun _ i wr => ∃ k : Nat, k ≤ n ∧ i = .int .i64 (k : Int) ∧ Hid (Below w.heap.size w wr) ∧ Hid (∀ j, j < k → (cs.getD j default).pos ≠ p)) (fun _ i _ => n - (intOf i).toNat)
  case atStart => exact ⟨0, by omega, rfl, Below.refl _ _, fun j hj => by omega⟩
  case round =>
    obtain ⟨k, hk, rfl, HB, HQ⟩ := hrel
    by_cases hlt : k < n
    · have hkl : k < cs.length := Nat.lt_of_lt_of_le hlt HN.out
      have HAr : Hid (AtCached wr g cs) := HA.out.below HB.out HA.out.1
      have q0 := AtCached.c0 HAr.out k hkl
      have q1 := AtCached.c1 HAr.out k hkl
      have lk : (k : Int) < (n : Int) := by omega
      have lk0 : (0 : Int) ≤ (k : Int) := by omega
      have wk : IntKind.i64.wrap ((k : Int) + 1) = (k : Int) + 1 := by rw [IntKind.wrap_i64]; omega
      have HK1 : Hid (k + 1 ≤ n) := hlt
      have HH : Hid ((cs.getD k default).pos = p → R = true) := HY.out k hlt
      have HQ2 : Hid ((cs.getD k default).pos ≠ p → ∀ j, j < k + 1 → (cs.getD j default).pos ≠ p) := by
        intro h j hj
        rcases Nat.lt_or_ge j k with h' | h'
        · exact HQ.out j h'
        · obtain rfl : j = k := by omega
          exact h
      have hcl := fun q tx => implHas1 p q tx b wr (Nat.lt_of_lt_of_le HC.out.1 HB.out.size) ((HB.out.cell HC.out.1).trans HC.out.2)
      clear HQ HY HX hkl
      generalize cs.getD k default = c at q0 q1 HH HQ2
      obtain ⟨cp, ct⟩ := c
      dsimp only at q0 q1 HH HQ2
      by_cases he : cp = p
      · have HV : Hid (R = true) := HH.out he
        have hcp : (cp == p) = true := by simpa using he
        have hcl := hcl cp ct
        rw [hcp] at hcl
        clear HH HQ2 he hcp
        go_wp2_with fail
        refine hcl.mono ?_
        rintro e w1 ⟨rfl, b1⟩
        have HB1 : Hid (Below w.heap.size w w1) := HB.out.trans (b1.mono HB.out.size)
        clear b1
        go_wp2_with fail
        go_ret
        exact ⟨⟨_, rfl, by rw [HV.out]; exact decide_eq_true lk0⟩, HB1.out⟩
      · have HQ3 : Hid (∀ j, j < k + 1 → (cs.getD j default).pos ≠ p) := HQ2.out he
        have hcp : (cp == p) = false := by simpa using he
        have hcl := hcl cp ct
        rw [hcp] at hcl
        clear HH HQ2 he hcp
        go_wp2_with fail
        refine hcl.mono ?_
        rintro e w1 ⟨rfl, b1⟩
        have HB1 : Hid (Below w.heap.size w w1) := HB.out.trans (b1.mono HB.out.size)
        clear b1
        go_wp2_with fail
        go_roundw
        case rel => exact ⟨k + 1, HK1.out, by go_num, HB1, HQ3⟩
        case measure => have := HK1.out; simp [intOf]; omega
    · obtain rfl : k = n := by omega
      have HV : Hid (R = false) := HX.out HQ.out
      clear HY HX HQ
      go_wp2_with fail
      go_ret
      exact ⟨⟨-1, rfl, by rw [HV.out]; rfl⟩, HB.out⟩

set_option maxHeartbeats 1000000 in
set_option maxRecDepth 100000 in
theorem implHas (g n cap : Nat) (cs : List CachedV) (p : Int) (w : World) (h : AtCached w g cs) (hn : n ≤ cs.length) (hm : n ≤ 1048576) :
    Calls Tryz.prog 40 #[.slice (some ⟨g, 0, none⟩) n cap, .int .i64 p] w fun e w' => e = .returned (.bool (hasC (cs.take n) p)) ∧ Below w.heap.size w w' := by
  have L0 : Hid (Below w.heap.size w (w.alloc (.cells #[.int .i64 p] 3))) := (Below.refl _ w).alloc (Nat.le_refl _) _
  have hix := implIndexHas g n cap cs p w.heap.size (w.alloc (.cells #[.int .i64 p] 3)) (h.below L0.out h.1) hn hm (by simp) (by rw [Lib.cell_of_heap (heap_alloc_new w _)]; rfl)
  have hcf : Calls Tryz.prog 58 #[.slice (some ⟨g, 0, none⟩) n cap, .func (.func 59) #[] #[.pointer (some ⟨w.heap.size, 0, none⟩)]] (w.alloc (.cells #[.int .i64 p] 3)) fun e w' => e = .returned (.bool (hasC (cs.take n) p)) ∧ Below w.heap.size w w' := by
    generalize w.alloc (.cells #[.int .i64 p] 3) = w0 at hix L0 ⊢
    generalize hasC (cs.take n) p = R at hix ⊢
    clear h hn
    have hL := L0.out.size
    go_enter Tryz.func58, Tryz.ntmps58
    go_wp2_with fail
    refine hix.mono ?_
    rintro e w1 ⟨⟨x, rfl, hx⟩, b1⟩
    go_wp2_with fail
    go_ret
    exact ⟨by rw [← hx]; rfl, L0.out.trans (b1.mono L0.out.size)⟩
  clear hix
  generalize hasC (cs.take n) p = R at hcf ⊢
  clear h hn
  go_enter Tryz.func40, Tryz.ntmps40
  go_wp2_with fail
  refine hcf.mono ?_
  rintro e w1 ⟨rfl, b1⟩
  go_wp2_with fail
  go_ret
  exact ⟨rfl, b1⟩

set_option maxHeartbeats 1000000 in
set_option maxRecDepth 100000 in
theorem implTokensOk (g n cap : Nat) (ts : List Int) (w : World) (h : At w g ts) (hn : n = ts.length) :
    Calls Tryz.prog 22 #[.slice (some ⟨g, 0, none⟩) n cap] w fun e w' => e = .returned (.bool (tokOk ts)) ∧ w = w' := by
  by_cases h3 : n = 3
  · obtain rfl := h3
    have HA : Hid (At w g ts) := h
    have HN : Hid (3 = ts.length) := hn
    have HBAD : Hid (∀ k, k < 3 → ¬ (0 ≤ ts.getD k 0 ∧ ts.getD k 0 ≤ 8) → tokOk ts = false) := fun k hk hf => tok_bad (by rw [← HN.out]; exact hk) hf
    have HGOO : Hid ((∀ k, k < 3 → 0 ≤ ts.getD k 0 ∧ ts.getD k 0 ≤ 8) → tokOk ts = true) := fun hf => tok_good HN.out.symm (by rw [← HN.out]; exact hf)
    generalize tokOk ts = R at HBAD HGOO ⊢
    clear h hn
    go_enter Tryz.func22, Tryz.ntmps22
    go_wp2_with fail
    go_loopw [4, 10] (fun _ i wr => ∃ k : Nat, k ≤ 3 ∧ i = .int .i64 (k : Int) ∧ Hid (wr = w) ∧ Hid (∀ j, j < k → 0 ≤ ts.getD j 0 ∧ ts.getD j 0 ≤ 8)) (fun _ i _ => 3 - (intOf i).toNat)
    case atStart => exact ⟨0, by omega, rfl, rfl, fun j hj => by omega⟩
    case round =>
      obtain ⟨k, hk, rfl, HW, HQ⟩ := hrel
      have HAr : Hid (At wr g ts) := by rw [HW.out]; exact HA.out
      by_cases hlt : k < 3
      · have q0 := HAr.out.2 k (by rw [← HN.out]; exact hlt)
        have lk : (k : Int) < 3 := by omega
        have lk0 : (0 : Int) ≤ (k : Int) := by omega
        have wk : IntKind.i64.wrap ((k : Int) + 1) = (k : Int) + 1 := by rw [IntKind.wrap_i64]; omega
        have HK1 : Hid (k + 1 ≤ 3) := hlt
        have HH : Hid (¬ (0 ≤ ts.getD k 0 ∧ ts.getD k 0 ≤ 8) → R = false) := HBAD.out k hlt
        have HQ2 : Hid (0 ≤ ts.getD k 0 ∧ ts.getD k 0 ≤ 8 → ∀ j, j < k + 1 → 0 ≤ ts.getD j 0 ∧ ts.getD j 0 ≤ 8) := by
          intro h j hj
          rcases Nat.lt_or_ge j k with h' | h'
          · exact HQ.out j h'
          · obtain rfl : j = k := by omega
            exact h
        clear HQ HBAD HGOO
        generalize ts.getD k 0 = t at q0 HH HQ2
        by_cases h1 : t < 0
        · have HV : Hid (R = false) := HH.out (by omega)
          clear HH HQ2
          go_wp2_with fail
          go_ret
          exact ⟨by rw [HV.out]; rfl, HW.out.symm⟩
        · by_cases h2 : 8 < t
          · have HV : Hid (R = false) := HH.out (by omega)
            clear HH HQ2
            go_wp2_with fail
            go_ret
            exact ⟨by rw [HV.out]; rfl, HW.out.symm⟩
          · have HQ3 : Hid (∀ j, j < k + 1 → 0 ≤ ts.getD j 0 ∧ ts.getD j 0 ≤ 8) := HQ2.out (by omega)
            clear HH HQ2
            go_wp2_with fail
            go_roundw
            case rel => exact ⟨k + 1, HK1.out, by go_num, HW, HQ3⟩
            case measure => have := HK1.out; simp [intOf]; omega
      · obtain rfl : k = 3 := by omega
        have HV : Hid (R = true) := HGOO.out HQ.out
        clear HBAD HGOO HQ
        go_wp2_with fail
        go_ret
        exact ⟨by rw [HV.out]; rfl, HW.out.symm⟩
  · have HV : Hid (tokOk ts = false) := tok_len (by rw [← hn]; exact h3)
    have hn3 : ¬ (n : Int) = 3 := by omega
    have hn4 : ((n : Int) != 3) = true := by simpa using hn3
    generalize tokOk ts = R at HV ⊢
    clear h hn h3
    go_enter Tryz.func22, Tryz.ntmps22
    go_wp2_with fail
    go_ret
    exact ⟨by rw [HV.out]; rfl, rfl⟩

end Go.Proofs.YtphgjhakghblgaaGreatDoor

