/-
  Texts that the last part needs, joined.
-/
import Derived.Test.YtifpidhoeikdjaaGreatDoorPart1
import Derived.Test.YtifpidhoeikdjaaGreatDoorPart2
import Derived.Test.YtifpidhoeikdjaaGreatDoorProg
import Derived.WalkKit
import Derived.WalkSpells
import Derived.Lib.BufferRead
import Derived.Deep.RegionWith
import Derived.OwnWalk
import Derived.Lib.FrozenHead2
import Derived.Lib.SlicesCompact
import Derived.Sort.Walk0
import Derived.Sort.OwnSorted
import Derived.Sort.Grow
import Derived.Lib.OwnBridge
import Derived.Lib.RowBridge
set_option linter.unusedVariables false
namespace Go.Proofs.YtifpidhoeikdjaaGreatDoor
open Go.RowKit

theorem at_newsS {w : World} {g : Nat} {zs : List ByteArray} (h : AtS w g zs) (a m off : Nat) (hk : a + m ≤ zs.length) (ho : 0 < m → off = a) : ∀ j u, (((zs.drop a).take m).map Value.string)[j]? = some u → w.cell? ((⟨g, off, none⟩ : Addr).add j) = some u := by
  intro j u hu
  have hj : j < m := by
    have := (List.getElem?_eq_some_iff.1 hu).1
    simp at this
    omega
  have e := ho (by omega)
  subst e
  have hc := h.2 (off + j) (by omega)
  have e2 : (((zs.drop off).take m).map Value.string)[j]? = some (.string (zs.getD (off + j) ByteArray.empty)) := by
    rw [List.getElem?_map, List.getElem?_take_of_lt hj, List.getElem?_drop, List.getElem?_eq_getElem (by omega)]
    simp [List.getElem?_eq_getElem (show off + j < zs.length by omega)]
  rw [e2] at hu
  rw [← hu, ← hc]
  rcases j with _ | j
  · simp [Addr.add]
  · simp [Addr.add]
theorem strs_one (l : List ByteArray) : ∀ u ∈ l.map Value.string, u.oneCell' = true := by
  intro u hu
  obtain ⟨x, _, rfl⟩ := List.mem_map.1 hu
  rfl
theorem AtS.far {w w' : World} {g : Nat} {zs : List ByteArray} (h : AtS w g zs) (hk : w'.heap[g]? = w.heap[g]?) (hs : w.heap.size ≤ w'.heap.size) : AtS w' g zs :=
  ⟨Nat.lt_of_lt_of_le h.1 hs, fun i hi => (World.cell?_of_block (a := ⟨g, i, none⟩) hk).trans (h.2 i hi)⟩
theorem SRow.of {B n g cap : Nat} {zs : List ByteArray} {w : World} (h : w.ownsRow B 9 1 (.slice (some ⟨g, 0, none⟩) n cap) n (zs.map Value.string)) (hn : n = zs.length) : SRow B (.slice (some ⟨g, 0, none⟩) n cap) zs w := by
  subst hn
  exact ⟨⟨g, cap, rfl⟩, h⟩

set_option maxHeartbeats 4000000 in
set_option maxRecDepth 100000 in
theorem specSet (g n cap : Nat) (zs : List ByteArray) (w : World) (h : AtS w g zs) (hn : n = zs.length) (hm : n ≤ 1000) :
    Calls Tryz.prog 36 #[.slice (some ⟨g, 0, none⟩) n cap] w fun e w' => ∃ v, e = .returned v ∧ SRow w.heap.size v (setL zs) w' ∧ Below w.heap.size w w' := by
  obtain ⟨i0, hi, hz0, hz1, hz2⟩ := info_parts infoStr
  have HA : Hid (AtS w g zs) := h
  have HN : Hid (n = zs.length) := hn
  clear h hn
  go_enter Tryz.func36, Tryz.ntmps36
  go_wp2_with fail
  have HW0 : Hid (SRow w.heap.size (.slice (some ⟨w.heap.size, 0, none⟩) 0 0) (setL (zs.take 0)) (w.alloc (.cells #[] 9))) := srow_new w
  have HB0 : Hid (Below w.heap.size w (w.alloc (.cells #[] 9))) := (Below.refl _ w).alloc (Nat.le_refl _) _
  go_loopw [3, 4] (fun v i wr => ∃ (p q g3 c3 : Nat), p ≤ n ∧ q ≤ p ∧ i = .int .i64 (p : Int) ∧ v = .slice (some ⟨g3, 0, none⟩) q c3 ∧ Hid (q = (setL (zs.take p)).length) ∧ Hid (SRow w.heap.size v (setL (zs.take p)) wr) ∧ Hid (Below w.heap.size w wr)) (fun _ i _ => n - (intOf i).toNat)
  case atStart => exact ⟨0, 0, w.heap.size, 0, by omega, by omega, rfl, rfl, rfl, HW0, HB0⟩
  case round =>
    clear HW0 HB0
    obtain ⟨p, q, g3, c3, hp, hqp, rfl, rfl, HQL, HR, HB⟩ := hrel
    have hszr := HB.out.size
    by_cases hlt : p < n
    · have hql : p < zs.length := by rw [← HN.out]; exact hlt
      have hc : wr.cell? ⟨g, p, none⟩ = some (.string (zs.getD p ByteArray.empty)) := by
        rw [HB.out.cell (p := ⟨g, p, none⟩) HA.out.1]
        exact HA.out.2 p hql
      have HE : Hid (setL (zs.take (p + 1)) = setIns (setL (zs.take p)) (zs.getD p ByteArray.empty)) := setL_take zs p hql
      have HOL : Hid ((setL (zs.take p)).length = q) := HQL.out.symm
      generalize zs.getD p ByteArray.empty = z at hc HE
      generalize setL (zs.take p) = o at HR HE HOL HQL
      have HAO : Hid (AtS wr g3 o) := HR.out.at.1
      have HG3 : Hid (w.heap.size ≤ g3 ∧ g3 < wr.heap.size) := by
        obtain ⟨g', _, _, hv, h1, h2, _⟩ := HR.out.block
        cases hv
        exact ⟨h1, h2⟩
      have HQ : Hid (p + 1 ≤ n) := hlt
      have HCP : Hid (q ≤ c3) := (own_cap HR.out.2).1
      have lq : (p : Int) < (n : Int) := by omega
      have lq0 : (0 : Int) ≤ (p : Int) := by omega
      have HC : Hid (wr.cell? ⟨g, p, none⟩ = some (.string z)) := hc
      clear hql hc hszr HQL
      go_wp2_with fail
      go_loopw [5] (fun i wx => ∃ k : Nat, k ≤ q ∧ i = .int .i64 (k : Int) ∧ Hid (∀ j, j < k → ltB (o.getD j ByteArray.empty) z = true) ∧ Hid (AtS wx g3 o ∧ wx.cell? ⟨g, p, none⟩ = some (.string z) ∧ w.heap.size ≤ g3 ∧ SRow w.heap.size (.slice (some ⟨g3, 0, none⟩) q c3) o wx) ∧ Hid (Below w.heap.size w wx)) (fun i _ => q - (intOf i).toNat)
      case atStart => exact ⟨0, by omega, rfl, fun j hj => by omega, ⟨HAO.out, HC.out, HG3.out.1, HR.out⟩, HB⟩
      case round =>
        clear HR HB HAO HG3 HC
        obtain ⟨k, hk, rfl, HT, HX, HB⟩ := hrel
        have hcz := HX.out.2.1
        have hszr := HB.out.size
        have fin : (k = q ∨ ltB (o.getD k ByteArray.empty) z = false) → Hid (o.takeWhile (fun y => ltB y z) = (o.drop 0).take k ∧ o.dropWhile (fun y => ltB y z) = (o.drop k).take (q - k)) := by
          intro hor
          have := span_at (fun y => ltB y z) ByteArray.empty o k (by rw [HOL.out]; exact hk) (fun j hj => HT.out j hj) (fun hj => by
            rcases hor with h' | h'
            · rw [HOL.out] at hj; omega
            · exact h')
          refine ⟨by rw [List.drop_zero]; exact this.1, ?_⟩
          rw [this.2, List.take_of_length_le (by simp [HOL.out])]
        by_cases hkq : k < q
        · have hkl : k < o.length := by rw [HOL.out]; exact hkq
          have hco := HX.out.1.2 k hkl
          have lk : (k : Int) < (q : Int) := by omega
          have lk0 : (0 : Int) ≤ (k : Int) := by omega
          have HD : Hid ((o.drop k).take (q - k) = o.getD k ByteArray.empty :: (o.drop (k + 1)).take (q - k - 1)) := by
            show _ = _
            rw [List.drop_eq_getElem_cons hkl, show q - k = q - k - 1 + 1 from by omega, List.take_succ_cons, List.getD_eq_getElem?_getD, List.getElem?_eq_getElem hkl]
            rfl
          cases hle : ltB (o.getD k ByteArray.empty) z with
          | true =>
            have HT2 : Hid (∀ j, j < k + 1 → ltB (o.getD j ByteArray.empty) z = true) := by
              intro j hj
              rcases Nat.lt_or_ge j k with h' | h'
              · exact HT.out j h'
              · obtain rfl : j = k := by omega
                exact hle
            have HK : Hid (k + 1 ≤ q) := hkq
            generalize o.getD k ByteArray.empty = y at hco hle
            have hle' : Op.bytesLess y.toList z.toList = true := hle
            clear fin hkl hle
            go_wp2_with fail
            go_region
            go_wp2_with fail
            go_roundw
            case rel => exact ⟨k + 1, HK.out, by go_num, HT2, HX.out, HB.out.drew⟩
            case measure => have := HK.out; simp [intOf]; omega
          | false =>
            have HF := fin (.inr hle)
            generalize o.getD k ByteArray.empty = y at hco hle HD
            have hle' : Op.bytesLess y.toList z.toList = false := hle
            clear fin HT hkl hle
            by_cases hyz : y = z
            · subst hyz
              have HEQ : Hid (setL (zs.take (p + 1)) = o) := by
                show _ = _
                rw [HE.out, setIns, HF.out.2, HD.out]
                simp
              have hee : (y.toList == y.toList) = true := by simp
              go_wp2_with fail
              go_region
              go_wp2_with fail
              go_region
              go_wp2_with fail
              go_roundw
              case rel => exact ⟨p + 1, q, g3, c3, HQ.out, by omega, by go_num, rfl, by rw [HEQ.out]; exact HOL.out.symm, by rw [HEQ.out]; exact HX.out.2.2.2, HB.out.drew.drew⟩
              case measure => have := HQ.out; simp [intOf]; omega
            · have hee : (y.toList == z.toList) = false := by
                simp
                intro e
                exact hyz (toList_inj e)
              have HRES : Hid (setL (zs.take (p + 1)) = (o.drop 0).take k ++ [z] ++ (o.drop k).take (q - k)) := by
                show _ = _
                rw [HE.out, setIns, HF.out.1, HF.out.2, if_neg (by rw [HD.out]; simp; exact hyz)]
                simp
              clear hyz
              have hck' : ¬ (c3 : Int) = (k : Int) := by have := HCP.out; omega
              have hck : ¬ c3 = k := by have := HCP.out; omega
              have hkc : (k : Int) ≤ (c3 : Int) := by have := HCP.out; omega
              have HP : Hid (0 < q - k → k = k) := fun _ => rfl
              go_wp2_with fail
              go_region
              go_wp2_with fail
              go_region
              have hXd : Hid (AtS wr.drew.drew g3 o ∧ wr.drew.drew.cell? ⟨g, p, none⟩ = some (.string z) ∧ w.heap.size ≤ g3 ∧ SRow w.heap.size (.slice (some ⟨g3, 0, none⟩) q c3) o wr.drew.drew) := HX.out
              have hBd : Hid (Below w.heap.size w wr.drew.drew) := HB.out.drew.drew
              have hzd : w.heap.size ≤ wr.drew.drew.heap.size := hszr
              clear HX HB hszr hcz hco
              generalize wr.drew.drew = wd at hXd hBd hzd ⊢
              have HX := hXd
              have HB := hBd
              have hszr := hzd
              have hne0 : g3 ≠ wd.heap.size := by have := HX.out.1.1; omega
              have hgl : g < w.heap.size := HA.out.1
              have HOW : Hid ((wd.alloc (.cells #[] 9)).ownsRow w.heap.size 9 1 (.slice (some ⟨wd.heap.size, 0, none⟩) 0 0) 0 []) :=
                ⟨rfl, .inr ⟨_, _, #[], rfl, hszr, heap_alloc_new wd _, Nat.le_refl _, by unfold maxLen; omega, rfl, rfl⟩⟩
              have HO0 : Hid (AtS (wd.alloc (.cells #[] 9)) g3 o) := HX.out.1.far (Below.heap_alloc _ _ _ HX.out.1.1) (by simp)
              have hl1 : (((o.drop 0).take k).map Value.string).length = k * 1 := by simp [HOL.out] <;> omega
              have hn1 := at_newsS HO0.out 0 k 0 (by rw [HOL.out]; omega) (fun _ => rfl)
              have hx1 : 0 + k ≤ maxLen := by unfold maxLen; omega
              have hx2 : (0 + k) * 16 ≤ 140737488355328 := by omega
              have hx3 : k + 1 ≤ maxLen := by unfold maxLen; omega
              have hx4 : (k + 1) * 16 ≤ 140737488355328 := by omega
              have hx5 : k + 1 + (q - k) ≤ maxLen := by unfold maxLen; omega
              have hx6 : (k + 1 + (q - k)) * 16 ≤ 140737488355328 := by omega
              have hbs : w.heap.size ≤ (wd.alloc (.cells #[] 9)).heap.size := by simp; omega
              have hl3 : (((o.drop k).take (q - k)).map Value.string).length = (q - k) * 1 := by simp [HOL.out]
              go_wp2_with first
                | (at_builtin; refine wpList_append_own_at _ rfl _ _ 22 rfl w.heap.size 9 i0 (.string ⟨#[]⟩) 1 16 Tryz.underlying22 hi hz0 hz1 hz2 rfl (by decide) (.slice (some ⟨wd.heap.size, 0, none⟩) 0 0) 0 [] rfl HOW.out ⟨g3, 0, none⟩ k c3 (((o.drop 0).take k).map Value.string) rfl hl1 hn1 (strs_one _) hx1 hx2 hbs ?_; intro v1 w1 hown1 hgrow1 hnil1 hat1; rw [Nat.zero_add, List.nil_append] at hown1; obtain ⟨g5, c5, rfl⟩ := own_form hown1 (fun e => by have := (hnil1.1 e).1; cases this); have hc1 : w1.cell? ⟨g, p, none⟩ = some (.string z) := (World.cell?_of_block (a := ⟨g, p, none⟩) (grown_far (b := g) hgrow1 (by omega) (by simp [Value.ownBlock]; omega))).trans HX.out.2.1; have HO1 : Hid (AtS w1 g3 o) := HX.out.1.far (grown_far hgrow1 HX.out.1.1 (by simpa [Value.ownBlock] using hne0)) (by have := grown_size hgrow1; omega); have hne1 : g3 ≠ g5 := (by have h9 := HX.out.1.1; simp [Value.ownBlock] at hat1; omega); have HB1 : Hid (Below w.heap.size w w1) := (HB.out.alloc (by omega) _).grown hgrow1 hbs (fun j hj => by have h8 : wd.heap.size = j := (by simpa [Value.ownBlock] using hj); omega); have HOW1 : Hid (w1.ownsRow w.heap.size 9 1 (.slice (some ⟨g5, 0, none⟩) k c5) k (((o.drop 0).take k).map Value.string)) := hown1; have hs1 : w.heap.size ≤ w1.heap.size := HB1.out.size; have hbs1 : w.heap.size ≤ (w1.alloc (.cells #[.string z] 9)).heap.size := (by simp; omega); clear hown1 hgrow1 hnil1 hat1)
                | (at_builtin; refine wpList_append_own_at _ rfl _ _ 22 rfl w.heap.size 9 i0 (.string ⟨#[]⟩) 1 16 Tryz.underlying22 hi hz0 hz1 hz2 rfl (by decide) (.slice (some ⟨g5, 0, none⟩) k c5) k _ rfl (HOW1.out.alloc _) ⟨w1.heap.size, 0, none⟩ 1 1 [.string z] rfl rfl (cell_one_new _ _ _) (strs_one [z]) hx3 hx4 hbs1 ?_; intro v2 w2 hown2 hgrow2 hnil2 hat2; obtain ⟨g6, c6, rfl⟩ := own_form hown2 (fun e => by have := (hnil2.1 e).1; cases this); have HO2 : Hid (AtS w2 g3 o) := HO1.out.far (grown_far hgrow2 HO1.out.1 (by simpa [Value.ownBlock] using hne1)) (by have := grown_size hgrow2; omega); have HB2 : Hid (Below w.heap.size w w2) := (HB1.out.alloc hs1 _).grown hgrow2 hbs1 (fun j hj => (HOW1.out.lt j hj).1); have HOW2 : Hid (w2.ownsRow w.heap.size 9 1 (.slice (some ⟨g6, 0, none⟩) (k + 1) c6) (k + 1) (((o.drop 0).take k).map Value.string ++ [.string z])) := hown2; have hs2 : w.heap.size ≤ w2.heap.size := HB2.out.size; have hn3 := at_newsS HO2.out k (q - k) k (by rw [HOL.out]; omega) (fun _ => rfl); clear hown2 hgrow2 hnil2 hat2)
                | (at_builtin; refine wpList_append_own_at _ rfl _ _ 22 rfl w.heap.size 9 i0 (.string ⟨#[]⟩) 1 16 Tryz.underlying22 hi hz0 hz1 hz2 rfl (by decide) (.slice (some ⟨g6, 0, none⟩) (k + 1) c6) (k + 1) _ rfl HOW2.out ⟨g3, k, none⟩ (q - k) (c3 - k) (((o.drop k).take (q - k)).map Value.string) rfl hl3 hn3 (strs_one _) hx5 hx6 hs2 ?_; intro v3 w3 hown3 hgrow3 hnil3 hat3; obtain ⟨g7, c7, rfl⟩ := own_form hown3 (fun e => by have := (hnil3.1 e).1; cases this); have HB3 : Hid (Below w.heap.size w w3) := HB2.out.grown hgrow3 hs2 (fun j hj => (HOW2.out.lt j hj).1); have HOW3 : Hid (w3.ownsRow w.heap.size 9 1 (.slice (some ⟨g7, 0, none⟩) (k + 1 + (q - k)) c7) (k + 1 + (q - k)) (((o.drop 0).take k).map Value.string ++ [.string z] ++ ((o.drop k).take (q - k)).map Value.string)) := hown3; clear hown3 hgrow3 hnil3 hat3)
              go_roundw
              case rel =>
                refine ⟨p + 1, q + 1, g7, c7, HQ.out, by omega, by go_num, by rw [show q + 1 = k + 1 + (q - k) from by omega], ?_, ?_, HB3⟩
                · show _ = _
                  rw [HRES.out, List.length_append, List.length_append]
                  first | (simp [HOL.out]; done) | (simp [HOL.out]; omega)
                · have h5 := HOW3.out
                  rw [show k + 1 + (q - k) = q + 1 from by omega] at h5 ⊢
                  refine SRow.of ?_ ?_
                  · rw [HRES.out]
                    simpa using h5
                  · rw [HRES.out, List.length_append, List.length_append]
                    first | (simp [HOL.out]; done) | (simp [HOL.out]; omega)
              case measure => have := HQ.out; simp [intOf]; omega
        · have hkq2 : k = q := by omega
          have HF := fin (.inl hkq2)
          subst hkq2
          clear fin HT
          have lk : ¬ (k : Int) < (k : Int) := by omega
          have HRES : Hid (setL (zs.take (p + 1)) = (o.drop 0).take k ++ [z] ++ []) := by
            show _ = _
            rw [HE.out, setIns, HF.out.1, HF.out.2, if_neg (by simp)]
            simp
          have hkc : (k : Int) ≤ (c3 : Int) := by have := HCP.out; omega
          go_wp2_with fail
          go_region
          go_wp2_with fail
          go_region
          have hXd : Hid (AtS wr.drew.drew g3 o ∧ wr.drew.drew.cell? ⟨g, p, none⟩ = some (.string z) ∧ w.heap.size ≤ g3 ∧ SRow w.heap.size (.slice (some ⟨g3, 0, none⟩) k c3) o wr.drew.drew) := HX.out
          have hBd : Hid (Below w.heap.size w wr.drew.drew) := HB.out.drew.drew
          have hzd : w.heap.size ≤ wr.drew.drew.heap.size := hszr
          clear HX HB hszr hcz
          generalize wr.drew.drew = wd at hXd hBd hzd ⊢
          have HX := hXd
          have HB := hBd
          have hszr := hzd
          have hne0 : g3 ≠ wd.heap.size := by have := HX.out.1.1; omega
          have hgl : g < w.heap.size := HA.out.1
          have HOW : Hid ((wd.alloc (.cells #[] 9)).ownsRow w.heap.size 9 1 (.slice (some ⟨wd.heap.size, 0, none⟩) 0 0) 0 []) :=
            ⟨rfl, .inr ⟨_, _, #[], rfl, hszr, heap_alloc_new wd _, Nat.le_refl _, by unfold maxLen; omega, rfl, rfl⟩⟩
          have HO0 : Hid (AtS (wd.alloc (.cells #[] 9)) g3 o) := HX.out.1.far (Below.heap_alloc _ _ _ HX.out.1.1) (by simp)
          have hl1 : (((o.drop 0).take k).map Value.string).length = k * 1 := by simp [HOL.out] <;> omega
          have hn1 := at_newsS HO0.out 0 k 0 (by rw [HOL.out]; omega) (fun _ => rfl)
          have hx1 : 0 + k ≤ maxLen := by unfold maxLen; omega
          have hx2 : (0 + k) * 16 ≤ 140737488355328 := by omega
          have hx3 : k + 1 ≤ maxLen := by unfold maxLen; omega
          have hx4 : (k + 1) * 16 ≤ 140737488355328 := by omega
          have hx5 : k + 1 + 0 ≤ maxLen := by unfold maxLen; omega
          have hx6 : (k + 1 + 0) * 16 ≤ 140737488355328 := by omega
          have hbs : w.heap.size ≤ (wd.alloc (.cells #[] 9)).heap.size := by simp; omega
          by_cases hck : c3 = k
          · obtain rfl : k = c3 := hck.symm
            go_wp2_with first
              | (at_builtin; refine wpList_append_own_at _ rfl _ _ 22 rfl w.heap.size 9 i0 (.string ⟨#[]⟩) 1 16 Tryz.underlying22 hi hz0 hz1 hz2 rfl (by decide) (.slice (some ⟨wd.heap.size, 0, none⟩) 0 0) 0 [] rfl HOW.out ⟨g3, 0, none⟩ k k (((o.drop 0).take k).map Value.string) rfl hl1 hn1 (strs_one _) hx1 hx2 hbs ?_; intro v1 w1 hown1 hgrow1 hnil1 hat1; rw [Nat.zero_add, List.nil_append] at hown1; obtain ⟨g5, c5, rfl⟩ := own_form hown1 (fun e => by have := (hnil1.1 e).1; cases this); have hc1 : w1.cell? ⟨g, p, none⟩ = some (.string z) := (World.cell?_of_block (a := ⟨g, p, none⟩) (grown_far (b := g) hgrow1 (by omega) (by simp [Value.ownBlock]; omega))).trans HX.out.2.1; have HO1 : Hid (AtS w1 g3 o) := HX.out.1.far (grown_far hgrow1 HX.out.1.1 (by simpa [Value.ownBlock] using hne0)) (by have := grown_size hgrow1; omega); have hne1 : g3 ≠ g5 := (by have h9 := HX.out.1.1; simp [Value.ownBlock] at hat1; omega); have HB1 : Hid (Below w.heap.size w w1) := (HB.out.alloc (by omega) _).grown hgrow1 hbs (fun j hj => by have h8 : wd.heap.size = j := (by simpa [Value.ownBlock] using hj); omega); have HOW1 : Hid (w1.ownsRow w.heap.size 9 1 (.slice (some ⟨g5, 0, none⟩) k c5) k (((o.drop 0).take k).map Value.string)) := hown1; have hs1 : w.heap.size ≤ w1.heap.size := HB1.out.size; have hbs1 : w.heap.size ≤ (w1.alloc (.cells #[.string z] 9)).heap.size := (by simp; omega); clear hown1 hgrow1 hnil1 hat1)
              | (at_builtin; refine wpList_append_own_at _ rfl _ _ 22 rfl w.heap.size 9 i0 (.string ⟨#[]⟩) 1 16 Tryz.underlying22 hi hz0 hz1 hz2 rfl (by decide) (.slice (some ⟨g5, 0, none⟩) k c5) k _ rfl (HOW1.out.alloc _) ⟨w1.heap.size, 0, none⟩ 1 1 [.string z] rfl rfl (cell_one_new _ _ _) (strs_one [z]) hx3 hx4 hbs1 ?_; intro v2 w2 hown2 hgrow2 hnil2 hat2; obtain ⟨g6, c6, rfl⟩ := own_form hown2 (fun e => by have := (hnil2.1 e).1; cases this); have HO2 : Hid (AtS w2 g3 o) := HO1.out.far (grown_far hgrow2 HO1.out.1 (by simpa [Value.ownBlock] using hne1)) (by have := grown_size hgrow2; omega); have HB2 : Hid (Below w.heap.size w w2) := (HB1.out.alloc hs1 _).grown hgrow2 hbs1 (fun j hj => (HOW1.out.lt j hj).1); have HOW2 : Hid (w2.ownsRow w.heap.size 9 1 (.slice (some ⟨g6, 0, none⟩) (k + 1) c6) (k + 1) (((o.drop 0).take k).map Value.string ++ [.string z])) := hown2; have hs2 : w.heap.size ≤ w2.heap.size := HB2.out.size; clear hown2 hgrow2 hnil2 hat2)
              | (at_builtin; refine wpList_append_own_at _ rfl _ _ 22 rfl w.heap.size 9 i0 (.string ⟨#[]⟩) 1 16 Tryz.underlying22 hi hz0 hz1 hz2 rfl (by decide) (.slice (some ⟨g6, 0, none⟩) (k + 1) c6) (k + 1) _ rfl HOW2.out ⟨g3, _, none⟩ 0 _ [] rfl rfl (fun j u h => by simp at h) (fun u h => by cases h) hx5 hx6 hs2 ?_; intro v3 w3 hown3 hgrow3 hnil3 hat3; obtain ⟨g7, c7, rfl⟩ := own_form hown3 (fun e => by have := (hnil3.1 e).1; cases this); have HB3 : Hid (Below w.heap.size w w3) := HB2.out.grown hgrow3 hs2 (fun j hj => (HOW2.out.lt j hj).1); have HOW3 : Hid (w3.ownsRow w.heap.size 9 1 (.slice (some ⟨g7, 0, none⟩) (k + 1 + 0) c7) (k + 1 + 0) (((o.drop 0).take k).map Value.string ++ [.string z] ++ [])) := hown3; clear hown3 hgrow3 hnil3 hat3)
            go_roundw
            case rel =>
              refine ⟨p + 1, k + 1, g7, c7, HQ.out, by omega, by go_num, by rfl, ?_, ?_, HB3⟩
              · show _ = _
                rw [HRES.out, List.length_append, List.length_append]
                first | (simp [HOL.out]; done) | (simp [HOL.out]; omega)
              · have h5 := HOW3.out
                rw [show k + 1 + 0 = k + 1 from rfl] at h5
                refine SRow.of ?_ ?_
                · rw [HRES.out]
                  simpa using h5
                · rw [HRES.out, List.length_append, List.length_append]
                  first | (simp [HOL.out]; done) | (simp [HOL.out]; omega)
            case measure => have := HQ.out; simp [intOf]; omega
          · have hck' : ¬ (c3 : Int) = (k : Int) := by omega
            go_wp2_with first
              | (at_builtin; refine wpList_append_own_at _ rfl _ _ 22 rfl w.heap.size 9 i0 (.string ⟨#[]⟩) 1 16 Tryz.underlying22 hi hz0 hz1 hz2 rfl (by decide) (.slice (some ⟨wd.heap.size, 0, none⟩) 0 0) 0 [] rfl HOW.out ⟨g3, 0, none⟩ k c3 (((o.drop 0).take k).map Value.string) rfl hl1 hn1 (strs_one _) hx1 hx2 hbs ?_; intro v1 w1 hown1 hgrow1 hnil1 hat1; rw [Nat.zero_add, List.nil_append] at hown1; obtain ⟨g5, c5, rfl⟩ := own_form hown1 (fun e => by have := (hnil1.1 e).1; cases this); have hc1 : w1.cell? ⟨g, p, none⟩ = some (.string z) := (World.cell?_of_block (a := ⟨g, p, none⟩) (grown_far (b := g) hgrow1 (by omega) (by simp [Value.ownBlock]; omega))).trans HX.out.2.1; have HO1 : Hid (AtS w1 g3 o) := HX.out.1.far (grown_far hgrow1 HX.out.1.1 (by simpa [Value.ownBlock] using hne0)) (by have := grown_size hgrow1; omega); have hne1 : g3 ≠ g5 := (by have h9 := HX.out.1.1; simp [Value.ownBlock] at hat1; omega); have HB1 : Hid (Below w.heap.size w w1) := (HB.out.alloc (by omega) _).grown hgrow1 hbs (fun j hj => by have h8 : wd.heap.size = j := (by simpa [Value.ownBlock] using hj); omega); have HOW1 : Hid (w1.ownsRow w.heap.size 9 1 (.slice (some ⟨g5, 0, none⟩) k c5) k (((o.drop 0).take k).map Value.string)) := hown1; have hs1 : w.heap.size ≤ w1.heap.size := HB1.out.size; have hbs1 : w.heap.size ≤ (w1.alloc (.cells #[.string z] 9)).heap.size := (by simp; omega); clear hown1 hgrow1 hnil1 hat1)
              | (at_builtin; refine wpList_append_own_at _ rfl _ _ 22 rfl w.heap.size 9 i0 (.string ⟨#[]⟩) 1 16 Tryz.underlying22 hi hz0 hz1 hz2 rfl (by decide) (.slice (some ⟨g5, 0, none⟩) k c5) k _ rfl (HOW1.out.alloc _) ⟨w1.heap.size, 0, none⟩ 1 1 [.string z] rfl rfl (cell_one_new _ _ _) (strs_one [z]) hx3 hx4 hbs1 ?_; intro v2 w2 hown2 hgrow2 hnil2 hat2; obtain ⟨g6, c6, rfl⟩ := own_form hown2 (fun e => by have := (hnil2.1 e).1; cases this); have HO2 : Hid (AtS w2 g3 o) := HO1.out.far (grown_far hgrow2 HO1.out.1 (by simpa [Value.ownBlock] using hne1)) (by have := grown_size hgrow2; omega); have HB2 : Hid (Below w.heap.size w w2) := (HB1.out.alloc hs1 _).grown hgrow2 hbs1 (fun j hj => (HOW1.out.lt j hj).1); have HOW2 : Hid (w2.ownsRow w.heap.size 9 1 (.slice (some ⟨g6, 0, none⟩) (k + 1) c6) (k + 1) (((o.drop 0).take k).map Value.string ++ [.string z])) := hown2; have hs2 : w.heap.size ≤ w2.heap.size := HB2.out.size; clear hown2 hgrow2 hnil2 hat2)
              | (at_builtin; refine wpList_append_own_at _ rfl _ _ 22 rfl w.heap.size 9 i0 (.string ⟨#[]⟩) 1 16 Tryz.underlying22 hi hz0 hz1 hz2 rfl (by decide) (.slice (some ⟨g6, 0, none⟩) (k + 1) c6) (k + 1) _ rfl HOW2.out ⟨g3, k, none⟩ 0 (c3 - k) [] rfl rfl (fun j u h => by simp at h) (fun u h => by cases h) hx5 hx6 hs2 ?_; intro v3 w3 hown3 hgrow3 hnil3 hat3; obtain ⟨g7, c7, rfl⟩ := own_form hown3 (fun e => by have := (hnil3.1 e).1; cases this); have HB3 : Hid (Below w.heap.size w w3) := HB2.out.grown hgrow3 hs2 (fun j hj => (HOW2.out.lt j hj).1); have HOW3 : Hid (w3.ownsRow w.heap.size 9 1 (.slice (some ⟨g7, 0, none⟩) (k + 1 + 0) c7) (k + 1 + 0) (((o.drop 0).take k).map Value.string ++ [.string z] ++ [])) := hown3; clear hown3 hgrow3 hnil3 hat3)
            go_roundw
            case rel =>
              refine ⟨p + 1, k + 1, g7, c7, HQ.out, by omega, by go_num, by rfl, ?_, ?_, HB3⟩
              · show _ = _
                rw [HRES.out, List.length_append, List.length_append]
                first | (simp [HOL.out]; done) | (simp [HOL.out]; omega)
              · have h5 := HOW3.out
                rw [show k + 1 + 0 = k + 1 from rfl] at h5
                refine SRow.of ?_ ?_
                · rw [HRES.out]
                  simpa using h5
                · rw [HRES.out, List.length_append, List.length_append]
                  first | (simp [HOL.out]; done) | (simp [HOL.out]; omega)
            case measure => have := HQ.out; simp [intOf]; omega
    · have HE : Hid (setL (zs.take p) = setL zs) := by
        show _ = _
        rw [List.take_of_length_le (by rw [← HN.out]; omega)]
      go_wp2_with fail
      go_ret
      refine ⟨_, rfl, ?_, HB.out⟩
      have := HR.out
      rw [HE.out] at this
      exact this

end Go.Proofs.YtifpidhoeikdjaaGreatDoor

set_option linter.unusedVariables false
namespace Go.Proofs.YtifpidhoeikdjaaGreatDoor
open Go.RowKit

set_option maxHeartbeats 2000000 in
set_option maxRecDepth 100000 in
theorem specL2To (k it : ByteArray) (below : Int) (w : World) (h1 : isSum k.data.toList = true) (h2 : isItem it.data.toList = true) (h3 : 1 ≤ below ∧ below ≤ 60000) :
    Calls Tryz.prog 37 #[.string k, .string it, .int .i64 below] w fun e w' => e = .returned (.int .i64 (filterTo k.data.toList it.data.toList below)) ∧ Below w.heap.size w w' := by
  have hks : k.size = 16 := by have := isSum_len h1; simpa using this
  have his := isItem_size h2
  have hsz : (k ++ (⟨#[32]⟩ : ByteArray) ++ it).size ≤ 1073741824 := by
    simp only [ByteArray.size_append, hks]
    have : (⟨#[32]⟩ : ByteArray).size = 1 := rfl
    omega
  have HF : Hid (filterTo k.data.toList it.data.toList below = (headOf (k ++ (⟨#[32]⟩ : ByteArray) ++ it).data.toList : Int) * below / 2147483648) := by
    show _ = _
    rw [filterTo_yes h1 h2 (by omega), keyItem_bytes]
  clear h1 h2
  go_enter Tryz.func37, Tryz.ntmps37
  go_wp2_with fail
  refine (specSum _ _ hsz).mono ?_
  rintro e w1 ⟨rfl, b1⟩
  have HX : Hid (isSum (⟨(sumB (k ++ (⟨#[32]⟩ : ByteArray) ++ it).data.toList).toArray⟩ : ByteArray).data.toList = true) := isSum_sumB _
  have hlt := headOf_lt (k ++ (⟨#[32]⟩ : ByteArray) ++ it).data.toList
  generalize (k ++ (⟨#[32]⟩ : ByteArray) ++ it).data.toList = t at HF HX hlt ⊢
  have hpl := place_lt (headOf t) below hlt h3
  go_wp2_with fail
  refine (specHead _ _ HX).mono ?_
  rintro e w2 ⟨rfl, rfl⟩
  rw [show hexN ((⟨(sumB t).toArray⟩ : ByteArray).data.toList.take 8) / 2 = headOf t from rfl]
  generalize headOf t = h at HF hlt hpl ⊢
  go_wp2
  go_ret
  rw [HF.out]
  exact ⟨rfl, b1⟩

end Go.Proofs.YtifpidhoeikdjaaGreatDoor

set_option linter.unusedVariables false
namespace Go.Proofs.YtifpidhoeikdjaaGreatDoor
open Go.RowKit
theorem infoU8 : (Tryz.prog.info? 5).map (fun i => (i.zero, i.size, i.bytes)) = some (some (.int .u8 0), 1, 1) := by kernel_rfl

set_option maxHeartbeats 2000000 in
set_option maxRecDepth 100000 in
theorem specVar (n : Nat) (w : World) (h : n ≤ 2147483647) :
    Calls Tryz.prog 39 #[.int .i64 n] w fun e w' => e = .returned (.string ⟨(varB 4 n).toArray⟩) ∧ Below w.heap.size w w' := by
  obtain ⟨i0, hi, hz0, hz1, hz2⟩ := info_parts infoU8
  go_enter Tryz.func39, Tryz.ntmps39
  go_wp2
  go_loopw [0, 3] (fun v s wr => ∃ (m f : Nat) (acc : List UInt8), v = .int .i64 m ∧ m ≤ n ∧ m < 128 ^ (f + 1) ∧ f ≤ 4 ∧ acc.length + f = 4 ∧ acc ++ varB f m = varB 4 n ∧ wr.ownsRow w.heap.size 5 1 s acc.length (Lib.byteCells acc) ∧ Below w.heap.size w wr) (fun v _ _ => (intOf v).toNat)
  case atStart =>
    exact ⟨n, 4, [], rfl, Nat.le_refl _, by omega, by omega, rfl, rfl, World.ownsRow_made w #[] 0 (Nat.le_refl _) (by simp) rfl, (Below.refl _ w).alloc (Nat.le_refl _) _⟩
  case round =>
    obtain ⟨m, f, acc, rfl, hm, hf, hf4, hacc, heq, hown, hbw⟩ := hrel
    have hsz := hbw.size
    have hx1 : acc.length + 1 ≤ maxLen := by unfold maxLen; omega
    have hx2 : (acc.length + 1) * 1 ≤ 140737488355328 := by omega
    by_cases hlt : m < 128
    · have h2 : (m : Int) < 128 := by omega
      go_wp2_with (at_builtin; refine wp_app1 rfl _ _ 28 rfl w.heap.size 5 i0 (.int .u8 0) 1 Tryz.underlying28 hi hz0 hz1 hz2 rfl _ _ _ rfl hown (.int .u8 m) rfl rfl hx1 hx2 hsz ?_)
      intro g cap w1 hown1 hb1 _
      rw [byteCells_snoc acc _ m rfl (by omega)] at hown1
      have hcv := bytes_back (P := Tryz.prog) 28 9 Tryz.underlying28 Tryz.underlying5 Tryz.underlying9 hown1 (by simp)
      go_wp2
      go_ret
      rw [varB_small f m hlt] at heq
      rw [heq]
      exact ⟨rfl, hbw.trans hb1⟩
    · have h2 : ¬ (m : Int) < 128 := by omega
      obtain ⟨g, rfl⟩ : ∃ g, f = g + 1 := by
        cases f with
        | zero => omega
        | succ g => exact ⟨g, rfl⟩
      go_wp2_with (at_builtin; refine wp_app1 rfl _ _ 28 rfl w.heap.size 5 i0 (.int .u8 0) 1 Tryz.underlying28 hi hz0 hz1 hz2 rfl _ _ _ rfl hown (.int .u8 (128 + m % 128)) rfl rfl hx1 hx2 hsz ?_)
      intro g1 cap w1 hown1 hb1 _
      rw [byteCells_snoc acc _ (128 + m % 128) (by omega) (by omega)] at hown1
      go_wp2
      go_roundw
      case rel =>
        refine ⟨m / 128, g, acc ++ [UInt8.ofNat (128 + m % 128)], by go_num, by omega, ?_, by omega, by simp; omega, ?_, by simpa using hown1, hbw.trans hb1⟩
        · have : 128 ^ (g + 1 + 1) = 128 ^ (g + 1) * 128 := Nat.pow_succ ..
          omega
        · rw [← heq, varB_step g m hlt]; simp
      case measure => simp [intOf]; omega

end Go.Proofs.YtifpidhoeikdjaaGreatDoor

set_option linter.unusedVariables false
namespace Go.Proofs.YtifpidhoeikdjaaGreatDoor
open Go.RowKit

theorem SB.lt {B b : Nat} {s : List UInt8 × List Nat} {w : World} (h : SB B b s w) : b < w.heap.size := by
  obtain ⟨_, v, u, h, _⟩ := h; exact h.lt

set_option maxHeartbeats 1000000 in
set_option maxRecDepth 100000 in
theorem numberS (B b : Nat) (s : List UInt8 × List Nat) (n k : Nat) (w : World) (h : SB B b s w) (hok : okB s) (hn : n ≤ 60000) (hk : k ≤ 8) (hlen : s.1.length ≤ 100000000) :
    Calls Tryz.prog 61 #[.pointer (some ⟨b, 0, none⟩), .int .i64 (n : Int), .int .i64 (k : Int)] w fun e w' => e = .returned (.tuple #[]) ∧ SB B b (runB s (lowB n k)) w' ∧ Below B w w' := by
  obtain ⟨F, hF⟩ : ∃ F, F = runB s (lowB n k) := ⟨_, rfl⟩
  rw [← hF]
  have HF1 : Hid (runB s (lowB n k) = F) := hF.symm
  have HS : Hid (SB B b s w ∧ okB s ∧ s.1.length ≤ 100000000) := ⟨h, hok, hlen⟩
  clear hF h hok hlen
  go_enter Tryz.func61, Tryz.ntmps61
  go_wp2_with fail
  go_loopw [6] (fun i wr => ∃ (r : Nat) (x : Int) (c : List UInt8 × List Nat), r ≤ k ∧ i = .int .i64 x ∧ Hid (x = (r : Int) - 1) ∧ Hid (runB c (lowB n r) = F) ∧ Hid (okB c) ∧ Hid (c.1.length ≤ 100000010 - r) ∧ Hid (SB B b c wr) ∧ Hid (Below B w wr)) (fun i _ => (intOf i + 1).toNat)
  case atStart => exact ⟨k, _, s, by omega, rfl, rfl, HF1, HS.out.2.1, by have := HS.out.2.2; show _ ≤ _; omega, HS.out.1, Below.refl B w⟩
  case round =>
    clear HF1 HS
    obtain ⟨r, x, c, hr, rfl, HX, HF, HO, HL, HW, HB⟩ := hrel
    rcases r with _ | m
    · have hx : ¬ (0 : Int) ≤ x := by have := HX.out; omega
      have HE : Hid (c = F) := HF.out
      go_wp2_with fail
      go_end0
      rw [← HE.out]
      exact ⟨rfl, HW.out, HB.out⟩
    · obtain rfl : x = (m : Int) := by have := HX.out; omega
      obtain ⟨q, hq⟩ : ∃ q : Nat, q = n / 2 ^ m := ⟨_, rfl⟩
      have rq : (n : Int) / 2 ^ m = (q : Int) := by rw [hq]; simp
      have hqn : q ≤ 60000 := by rw [hq]; exact Nat.le_trans (Nat.div_le_self _ _) hn
      obtain ⟨bt, hbt⟩ : ∃ bt : Nat, bt = q % 2 := ⟨_, rfl⟩
      have hb1 : bt ≤ 1 := by omega
      have rb2 : (q : Int) % 2 = (bt : Int) := by omega
      have HF2 : Hid (runB (stepB c bt) (lowB n m) = F) := by
        show _ = _
        rw [← HF.out, hbt, hq]
        rfl
      have hm0 : (0 : Int) ≤ (m : Int) := by omega
      clear hq hbt HX
      go_wp2_with fail
      refine (putS B b c bt _ HW.out HO.out hb1 (by have := HL.out; omega)).mono ?_
      rintro e w2 ⟨rfl, hw2, hb2⟩
      have HW2 : Hid (SB B b (stepB c bt) w2) := hw2
      have HB2 : Hid (Below B w w2) := HB.out.trans hb2
      clear hw2 hb2
      go_wp2_with fail
      go_roundw
      case rel =>
        refine ⟨m, _, stepB c bt, by omega, rfl, ?_, HF2, stepB_ok HO.out hb1, ?_, HW2, HB2⟩
        · show _ = _
          first | rfl | omega
        · have h1 := stepB_len c bt
          have h2 := HL.out
          show _ ≤ _
          omega
      case measure => simp [intOf]

theorem convBack {B : Nat} {v : Value} {l : List UInt8} {w : World} (h : w.ownsRow B 5 1 v l.length (Lib.byteCells l)) : (convert 28 9 v).run Tryz.prog w = .ok (.string ⟨l.toArray⟩) w := by
  rcases h.2 with ⟨h1, h2⟩ | ⟨g, cap, cur, hv, _, hc, _, _, _, ht⟩
  · obtain rfl : l = [] := List.length_eq_zero_iff.1 h2
    rw [h1]
    exact Lib.run_convert_nil_bytes w 28 9 5 0 Tryz.underlying28 Tryz.underlying5 Tryz.underlying9
  · rw [hv]
    refine run_convert_bytes_back (P := Tryz.prog) w 28 9 5 ⟨g, 0, none⟩ cap l Tryz.underlying28 Tryz.underlying5 Tryz.underlying9 ?_
    intro j hj
    rw [Addr.add_mid, Nat.zero_add, Lib.cell_of_heap hc, ← Array.getElem?_toList]
    have h3 : cur.toList[j]? = (Lib.byteCells l)[j]? := by rw [← ht, List.getElem?_take]; simp [hj]
    rw [h3]
    simp [Lib.byteCells, List.getElem?_eq_getElem hj]
/-- How many bits wait, out of the block. -/
def waits (b : Nat) (w : World) : Nat := match w.cell? ⟨b, 1, none⟩ with
  | some (.slice _ n _) => if n = 0 then 0 else 8 - n
  | _ => 0
theorem SB.c1 {B b : Nat} {s : List UInt8 × List Nat} {w : World} (h : SB B b s w) : ∃ a cap, w.cell? ⟨b, 1, none⟩ = some (.slice a s.2.length cap) := by
  obtain ⟨_, v, u, hs, _, hl⟩ := h
  rcases hl.2 with ⟨h1, h2⟩ | ⟨g, cap, cur, hv, _⟩
  · exact ⟨none, 0, by rw [hs.c1, h1, h2]⟩
  · exact ⟨_, cap, by rw [hs.c1, hv]⟩
theorem waits_eq {B b : Nat} {s : List UInt8 × List Nat} {w : World} (h : SB B b s w) : waits b w = if s.2.length = 0 then 0 else 8 - s.2.length := by
  obtain ⟨a, cap, hc⟩ := h.c1
  simp only [waits, hc]

set_option maxHeartbeats 1000000 in
set_option maxRecDepth 100000 in
theorem endS (B b : Nat) (s : List UInt8 × List Nat) (w : World) (h : SB B b s w) (hok : okB s) (hlen : s.1.length ≤ 100000000) :
    Calls Tryz.prog 62 #[.pointer (some ⟨b, 0, none⟩)] w fun e w' => e = .returned (.string ⟨(fillB s).toArray⟩) ∧ Below B w w' := by
  have HS : Hid (SB B b s w ∧ okB s ∧ s.1.length ≤ 100000000) := ⟨h, hok, hlen⟩
  clear h hok hlen
  go_enter Tryz.func62, Tryz.ntmps62
  go_wp2_with fail
  go_loopw [] (fun wr => ∃ c : List UInt8 × List Nat, Hid (fillB c = fillB s) ∧ Hid (okB c) ∧ Hid (c.1.length ≤ 100000009 - waits b wr) ∧ Hid (SB B b c wr) ∧ Hid (Below B w wr)) (fun wr => waits b wr)
  case atStart =>
    refine ⟨s, rfl, HS.out.2.1, ?_, HS.out.1, Below.refl B w⟩
    have h1 := waits_eq HS.out.1
    have h2 := HS.out.2.2
    show _ ≤ _
    split at h1 <;> omega
  case round =>
    obtain ⟨c, HF, HO, HL, HW, HB⟩ := hrel
    obtain ⟨a1, cap1, c1⟩ := HW.out.c1
    have Hm := waits_eq HW.out
    by_cases h0 : c.2.length = 0
    · have hx : ¬ (0 : Int) < (c.2.length : Int) := by omega
      have HE : Hid (fillB s = c.1) := by
        show _ = _
        rw [← HF.out, fillB_end (List.length_eq_zero_iff.1 h0)]
      clear h0 Hm
      obtain ⟨hB, v, u, hs, ho, hl⟩ := HW.out
      have c0 := hs.c0
      have HO2 : Hid (wr.ownsRow B 5 1 v c.1.length (Lib.byteCells c.1)) := ho
      have hcv := convBack ho
      clear hs ho hl
      go_wp2_with fail
      go_ret
      rw [HE.out]
      exact ⟨rfl, HB.out⟩
    · have hx : (0 : Int) < (c.2.length : Int) := by omega
      have HM : Hid (waits b wr = 8 - c.2.length) := by show _ = _; rw [Hm, if_neg h0]
      have HN : Hid (¬ c.2.length = 0) := h0
      clear h0 Hm
      go_wp2_with fail
      refine (putS B b c 0 _ HW.out HO.out (by omega) (by have := HL.out; omega)).mono ?_
      rintro e w1 ⟨rfl, hw1, hb1⟩
      have HW1 : Hid (SB B b (stepB c 0) w1) := hw1
      have HB1 : Hid (Below B w w1) := HB.out.trans hb1
      have HM1 : Hid (waits b w1 < 8 - c.2.length) := by
        show _ < _
        have h8 := HO.out.1
        have hn := HN.out
        rw [waits_eq hw1]
        unfold stepB
        split
        · simp; omega
        · simp; omega
      have HL1 : Hid ((stepB c 0).1.length ≤ 100000009 - waits b w1) := by
        have h1 := stepB_len c 0
        have h2 := HL.out
        have h3 := HM.out
        have h4 := HM1.out
        show _ ≤ _
        omega
      clear hw1 hb1 c1 hx
      go_wp2_with fail
      go_roundw
      case rel =>
        refine ⟨stepB c 0, ?_, stepB_ok HO.out (by omega), HL1, HW1, HB1⟩
        show _ = _
        rw [← HF.out]
        exact fillB_step HO.out.1 (fun e => HN.out (by rw [e]; rfl))
      case measure => rw [HM.out]; exact HM1.out

end Go.Proofs.YtifpidhoeikdjaaGreatDoor

set_option linter.unusedVariables false
namespace Go.Proofs.YtifpidhoeikdjaaGreatDoor
open Go.RowKit

theorem bitsNew (w : World) : SB w.heap.size w.heap.size ([], []) (w.alloc (.cells #[.slice none 0 0, .slice none 0 0] 79)) :=
  ⟨Nat.le_refl _, _, _, heap_alloc_new w _, ⟨rfl, .inl ⟨rfl, rfl⟩⟩, ⟨rfl, .inl ⟨rfl, rfl⟩⟩⟩

set_option maxHeartbeats 1000000 in
set_option maxRecDepth 100000 in
theorem specRice (g n cap : Nat) (zs : List Int) (kn : Nat) (w : World) (h : At w g zs) (hn : n = zs.length) (hk8 : kn ≤ 8) (hl40 : zs.length ≤ 40) (hz : ∀ i, i < zs.length → 0 ≤ zs.getD i 0 ∧ zs.getD i 0 ≤ 60000) :
    Calls Tryz.prog 40 #[.slice (some ⟨g, 0, none⟩) n cap, .int .i64 (kn : Int)] w fun e w' => e = .returned (.string ⟨(riceB kn (zs.map Int.toNat)).toArray⟩) ∧ Below w.heap.size w w' := by
  have HA : Hid (At w g zs) := h
  have HN : Hid (n = zs.length) := hn
  have hn40 : n ≤ 40 := by rw [hn]; exact hl40
  have HZ : Hid (∀ i, i < zs.length → 0 ≤ zs.getD i 0 ∧ zs.getD i 0 ≤ 60000) := hz
  have HL : Hid (∀ i, (upTo kn zs i).1.length ≤ 10000000) := fun i => upTo_len hk8 hl40 HZ.out i
  have HE : Hid (fillB (upTo kn zs zs.length) = riceB kn (zs.map Int.toNat)) := upTo_end kn zs
  have HW0 : Hid (SB w.heap.size w.heap.size (upTo kn zs 0) (w.alloc (.cells #[.slice none 0 0, .slice none 0 0] 79))) := by rw [upTo_zero]; exact bitsNew w
  have HB0 : Hid (Below w.heap.size w (w.alloc (.cells #[.slice none 0 0, .slice none 0 0] 79))) := (Below.refl _ w).alloc (Nat.le_refl _) _
  obtain ⟨R, hR⟩ : ∃ R, R = riceB kn (zs.map Int.toNat) := ⟨_, rfl⟩
  rw [← hR] at HE ⊢
  have hgs := h.1
  clear h hn hz hR hl40
  go_enter Tryz.func40, Tryz.ntmps40
  go_wp2_with fail
  go_loopw [6] (fun i wr => ∃ j : Nat, j ≤ n ∧ i = .int .i64 (j : Int) ∧ Hid (SB w.heap.size w.heap.size (upTo kn zs j) wr) ∧ Hid (Below w.heap.size w wr)) (fun i _ => n - (intOf i).toNat)
  case atStart => exact ⟨0, by omega, rfl, HW0, HB0⟩
  case round =>
    clear HW0 HB0
    obtain ⟨j, hj, rfl, HW, HB⟩ := hrel
    by_cases hlt : j < n
    · have hjz : j < zs.length := by rw [← HN.out]; exact hlt
      have HJN : Hid (j + 1 ≤ n) := hlt
      have HAT : Hid (∀ w', Below w.heap.size w w' → w'.cell? ⟨g, j, none⟩ = some (.int .i64 (zs.getD j 0))) := fun w' hb' => (HA.out.below hb' hgs).2 j hjz
      have hz := HZ.out j hjz
      have HS : Hid (upTo kn zs (j + 1) = runB (upTo kn zs j) (numB kn (zs.getD j 0).toNat)) := upTo_succ kn zs j hjz
      generalize zs.getD j 0 = z at HAT hz HS
      obtain ⟨zn, rfl⟩ := Int.eq_ofNat_of_zero_le hz.1
      rw [Int.toNat_natCast] at HS
      have hzn : zn ≤ 60000 := by omega
      have cj := HAT.out wr HB.out
      obtain ⟨N, hN⟩ : ∃ N : Nat, N = zn / 2 ^ kn := ⟨_, rfl⟩
      have hNn : N ≤ 60000 := by rw [hN]; exact Nat.le_trans (Nat.div_le_self _ _) hzn
      have rsh : (zn : Int) / 2 ^ kn = (N : Int) := by rw [hN]; simp
      obtain ⟨F, hF⟩ : ∃ F, F = upTo kn zs (j + 1) := ⟨_, rfl⟩
      rw [← hF] at HS
      have HF0 : Hid (runB (upTo kn zs j) (List.replicate N 1 ++ 0 :: lowB zn kn) = F) := by show _ = _; rw [HS.out, hN]; rfl
      have HFF : Hid (F = upTo kn zs (j + 1)) := hF
      have HO0 : Hid (okB (upTo kn zs j)) := upTo_ok _ _ _
      have HL0 : Hid ((upTo kn zs j).1.length ≤ 10000000) := HL.out j
      obtain ⟨c0, hc0⟩ : ∃ c0, c0 = upTo kn zs j := ⟨_, rfl⟩
      rw [← hc0] at HF0 HO0 HL0 HW
      clear hz hjz hN hF HS hc0
      go_wp2_with fail
      go_loopw [7] (fun i wr => ∃ (t : Nat) (c : List UInt8 × List Nat), t ≤ N ∧ i = .int .i64 (t : Int) ∧ Hid (runB c (List.replicate t 1 ++ 0 :: lowB zn kn) = F) ∧ Hid (okB c) ∧ Hid (c.1.length ≤ 10060000 - t) ∧ Hid (SB w.heap.size w.heap.size c wr) ∧ Hid (Below w.heap.size w wr)) (fun i _ => (intOf i).toNat)
      case atStart => exact ⟨N, c0, by omega, rfl, HF0, HO0, by have := HL0.out; show _ ≤ _; omega, HW, HB⟩
      case round =>
        clear HF0 HO0 HL0 HW HB cj
        obtain ⟨t, c, ht, rfl, HF, HO, HLc, HW, HB⟩ := hrel
        rcases t with _ | t
        · have HF1 : Hid (runB (stepB c 0) (lowB zn kn) = F) := HF.out
          go_wp2_with fail
          refine (putS w.heap.size w.heap.size c 0 _ HW.out HO.out (by omega) (by have := HLc.out; omega)).mono ?_
          rintro e w2 ⟨rfl, hw2, hb2⟩
          have HW2 : Hid (SB w.heap.size w.heap.size (stepB c 0) w2) := hw2
          have HB2 : Hid (Below w.heap.size w w2) := HB.out.trans hb2
          have cj2 : w2.cell? ⟨g, j, none⟩ = some (.int .i64 (zn : Int)) := HAT.out w2 HB2.out
          have cj3 : w2.drew.cell? ⟨g, j, none⟩ = some (.int .i64 (zn : Int)) := cj2
          obtain ⟨P2, hP2⟩ : ∃ P2 : Nat, P2 = 2 ^ kn := ⟨_, rfl⟩
          have hP0 : 0 < P2 := by rw [hP2]; exact Nat.pow_pos (by decide)
          have hP8 : P2 ≤ 256 := by rw [hP2]; exact Nat.pow_le_pow_right (n := 2) (by decide) hk8
          have rp : (2 : Int) ^ kn = (P2 : Int) := by rw [hP2]; simp
          have HRM : Hid (lowB (zn % P2) kn = lowB zn kn) := by show _ = _; rw [hP2]; exact lowB_mod zn kn kn (Nat.le_refl _)
          obtain ⟨r, hr⟩ : ∃ r : Nat, r = zn % P2 := ⟨_, rfl⟩
          have hrn : r ≤ 60000 := by rw [hr]; exact Nat.le_trans (Nat.mod_le _ _) hzn
          have rr : (zn : Int) % (P2 : Int) = (r : Int) := by rw [hr]; simp
          have rt : Int.tmod (zn : Int) (P2 : Int) = (r : Int) := by rw [Int.tmod_eq_emod_of_nonneg (by omega)]; exact rr
          rw [← hr] at HRM
          have hPne : ¬ (P2 : Int) = 0 := by omega
          have hPw : IntKind.i64.wrap (P2 : Int) = (P2 : Int) := by rw [IntKind.wrap_i64]; omega
          have lj : (j : Int) < (n : Int) := by have := HJN.out; omega
          have HF2 : Hid (runB (stepB c 0) (lowB r kn) = F) := by show _ = _; rw [HRM.out]; exact HF1.out
          have HO2 : Hid (okB (stepB c 0)) := stepB_ok HO.out (by omega)
          have HL2 : Hid ((stepB c 0).1.length ≤ 100000000) := by
            have h1 := stepB_len c 0
            have h2 := HLc.out
            show _ ≤ _
            omega
          clear hw2 hb2 hP2 rsh hr
          go_wp2_with fail
          go_region_with (go_at_call 61; refine (numberS w.heap.size w.heap.size (stepB c 0) r kn _ ?_ HO2.out hrn hk8 HL2.out).mono ?_; exact HW2.out; rintro e w3 ⟨rfl, hw3, hb3⟩)
          all_goals
            have HW3 : Hid (SB w.heap.size w.heap.size (upTo kn zs (j + 1)) w3) := by rw [← HFF.out, ← HF2.out]; exact hw3
            have HB3 : Hid (Below w.heap.size w w3) := HB2.out.drew.trans hb3
            clear hw3 hb3
            go_wp2_with fail
            go_roundw
            case rel => exact ⟨j + 1, HJN.out, by go_num, HW3, HB3⟩
            case measure => have := HJN.out; simp [intOf]; omega
        · have HF1 : Hid (runB (stepB c 1) (List.replicate t 1 ++ 0 :: lowB zn kn) = F) := HF.out
          have hpos : (0 : Int) < ((t + 1 : Nat) : Int) := by omega
          go_wp2_with fail
          refine (putS w.heap.size w.heap.size c 1 _ HW.out HO.out (by omega) (by have := HLc.out; omega)).mono ?_
          rintro e w2 ⟨rfl, hw2, hb2⟩
          have HW2 : Hid (SB w.heap.size w.heap.size (stepB c 1) w2) := hw2
          have HB2 : Hid (Below w.heap.size w w2) := HB.out.trans hb2
          clear hw2 hb2
          go_wp2_with fail
          go_roundw
          case rel =>
            refine ⟨t, stepB c 1, by omega, by go_num, HF1, stepB_ok HO.out (by omega), ?_, HW2, HB2⟩
            have h1 := stepB_len c 1
            have h2 := HLc.out
            show _ ≤ _
            omega
          case measure => simp [intOf]
    · have HJ : Hid (upTo kn zs j = upTo kn zs zs.length) := by
        show _ = _
        rw [show j = zs.length from by rw [← HN.out]; omega]
      go_wp2_with fail
      refine (endS w.heap.size w.heap.size (upTo kn zs j) _ HW.out (upTo_ok _ _ _) (by have := HL.out j; omega)).mono ?_
      rintro e w2 ⟨rfl, hb2⟩
      rw [HJ.out, HE.out]
      go_wp2_with fail
      go_ret
      exact ⟨rfl, HB.out.trans hb2⟩

end Go.Proofs.YtifpidhoeikdjaaGreatDoor

set_option linter.unusedVariables false
namespace Go.Proofs.YtifpidhoeikdjaaGreatDoor
open Go.RowKit

end Go.Proofs.YtifpidhoeikdjaaGreatDoor

set_option linter.unusedVariables false
namespace Go.Proofs.YtifpidhoeikdjaaGreatDoor
open Go.RowKit

def bent8 : List ByteArray := [⟨#[48]⟩, ⟨#[97]⟩, ⟨#[32]⟩, ⟨#[0]⟩, ⟨#[255]⟩, ⟨#[128]⟩, ⟨#[102]⟩, ⟨#[10]⟩]
theorem bent8_size : ∀ i : Fin 8, (bent8.getD i.val ByteArray.empty).size ≤ 1 := by decide
def bent4 : List ByteArray := [⟨#[48]⟩, ⟨#[32]⟩, ⟨#[0]⟩, ⟨#[255]⟩]
theorem bent4_size : ∀ i : Fin 4, (bent4.getD i.val ByteArray.empty).size ≤ 1 := by decide

end Go.Proofs.YtifpidhoeikdjaaGreatDoor

namespace Go.Proofs.YtifpidhoeikdjaaGreatDoor
open Go.RowKit

/-! ### The bits of a text -/
def byteBits (c : UInt8) : List Nat := [c.toNat / 128 % 2, c.toNat / 64 % 2, c.toNat / 32 % 2, c.toNat / 16 % 2, c.toNat / 8 % 2, c.toNat / 4 % 2, c.toNat / 2 % 2, c.toNat % 2]
def unpack (o : List UInt8) : List Nat := o.flatMap byteBits
theorem unpack_append (a b : List UInt8) : unpack (a ++ b) = unpack a ++ unpack b := by simp [unpack]
theorem unpack_length (o : List UInt8) : (unpack o).length = 8 * o.length := by
  induction o with
  | nil => rfl
  | cons c r ih =>
    have : unpack (c :: r) = byteBits c ++ unpack r := rfl
    rw [this, List.length_append, ih]
    simp [byteBits]
    omega
theorem byteBits_val (l : List Nat) (h8 : l.length = 8) (h : ∀ x ∈ l, x ≤ 1) : byteBits (UInt8.ofNat (valB l)) = l := by
  match l, h8 with
  | [a, b, c, d, e, f, g, i], _ =>
    have ha := h a (by simp)
    have hb := h b (by simp)
    have hc := h c (by simp)
    have hd := h d (by simp)
    have he := h e (by simp)
    have hf := h f (by simp)
    have hg := h g (by simp)
    have hi := h i (by simp)
    have hv : valB [a, b, c, d, e, f, g, i] = a * 128 + b * 64 + c * 32 + d * 16 + e * 8 + f * 4 + g * 2 + i := by
      simp only [valB, List.foldl_cons, List.foldl_nil]
      omega
    have hn : (UInt8.ofNat (valB [a, b, c, d, e, f, g, i])).toNat = a * 128 + b * 64 + c * 32 + d * 16 + e * 8 + f * 4 + g * 2 + i := by
      rw [hv]
      simp
      omega
    simp only [byteBits, hn, List.cons.injEq, and_true]
    refine ⟨?_, ?_, ?_, ?_, ?_, ?_, ?_, ?_⟩ <;> omega
theorem unpack_step {s : List UInt8 × List Nat} {b : Nat} (h : okB s) (hb : b ≤ 1) : unpack (stepB s b).1 ++ (stepB s b).2 = unpack s.1 ++ s.2 ++ [b] := by
  unfold stepB
  split
  · rename_i h7
    have hall : ∀ x ∈ s.2 ++ [b], x ≤ 1 := by
      intro x hx
      rcases List.mem_append.1 hx with hx | hx
      · exact h.2 x hx
      · simp at hx; omega
    have e : unpack [UInt8.ofNat (valB (s.2 ++ [b]))] = s.2 ++ [b] := by
      have : unpack [UInt8.ofNat (valB (s.2 ++ [b]))] = byteBits (UInt8.ofNat (valB (s.2 ++ [b]))) := by simp [unpack]
      rw [this, byteBits_val _ (by simp [h7]) hall]
    rw [unpack_append, e]
    simp
  · simp
theorem unpack_run (bs : List Nat) : ∀ (s : List UInt8 × List Nat), okB s → (∀ b ∈ bs, b ≤ 1) → unpack (runB s bs).1 ++ (runB s bs).2 = unpack s.1 ++ s.2 ++ bs := by
  induction bs with
  | nil => intro s _ _; simp [runB]
  | cons b r ih =>
    intro s h hb
    have h1 := hb b (by simp)
    have := ih (stepB s b) (stepB_ok h h1) (fun x hx => hb x (by simp [hx]))
    have e : runB s (b :: r) = runB (stepB s b) r := rfl
    rw [e, this, unpack_step h h1]
    simp
theorem run_zeros (m : Nat) : ∀ (s : List UInt8 × List Nat), okB s → s.2.length + m = 8 → m ≠ 0 → (runB s (List.replicate m 0)).2 = [] := by
  induction m with
  | zero => intro s _ _ h; exact absurd rfl h
  | succ m ih =>
    intro s h hl _
    have e : runB s (List.replicate (m + 1) 0) = runB (stepB s 0) (List.replicate m 0) := rfl
    rw [e]
    by_cases h7 : s.2.length = 7
    · have hm : m = 0 := by omega
      subst hm
      simp [runB, stepB, h7]
    · have h2 : (stepB s 0).2 = s.2 ++ [0] := by simp [stepB, h7]
      refine ih _ (stepB_ok h (by omega)) (by rw [h2]; simp; omega) (by omega)
theorem unpack_fill {s : List UInt8 × List Nat} (h : okB s) : ∃ z, z < 8 ∧ unpack (fillB s) = unpack s.1 ++ s.2 ++ List.replicate z 0 := by
  by_cases h0 : s.2 = []
  · exact ⟨0, by omega, by rw [fillB_end h0, h0]; simp⟩
  · have hne : s.2.length ≠ 0 := fun e => h0 (List.length_eq_zero_iff.1 e)
    refine ⟨8 - s.2.length, by omega, ?_⟩
    have h8 := h.1
    have hu := unpack_run (List.replicate (8 - s.2.length) 0) s h (by intro b hb; simp at hb; omega)
    have hz := run_zeros (8 - s.2.length) s h (by omega) (by omega)
    rw [hz, List.append_nil] at hu
    rw [fillB, if_neg h0]
    exact hu
theorem unpack_rice (k : Nat) (l : List Nat) : ∃ z, z < 8 ∧ unpack (riceB k l) = bitsOf k l ++ List.replicate z 0 := by
  have hk : okB (runB ([], []) (bitsOf k l)) := runB_ok ⟨by simp, by simp⟩ (bitsOf_ok k l)
  obtain ⟨z, hz, h⟩ := unpack_fill hk
  refine ⟨z, hz, ?_⟩
  rw [riceB, h, unpack_run (bitsOf k l) ([], []) ⟨by simp, by simp⟩ (bitsOf_ok k l)]
  simp [unpack]

/-! ### The program's reader -/
def takeM (k : Nat) : Nat × Bool × Nat → Nat → (Nat × Bool × Nat) × Option Nat
  | (n, true, left), b => if 1 < left then ((n * 2 + b, true, left - 1), none) else ((0, false, 0), some (n * 2 + b))
  | (n, false, left), b => if b = 1 then ((n + 1, false, left), none) else if 0 < k then ((n, true, k), none) else ((0, false, 0), some n)
def readT (k many : Nat) : List Nat → Nat × Bool × Nat → List Nat → List Nat
  | [], _, out => out
  | b :: r, st, out => if out.length = many then out else readT k many r (takeM k st b).1 (out ++ (takeM k st b).2.toList)
theorem readT_ones (k many m : Nat) (rest : List Nat) : ∀ (n : Nat) (out : List Nat), out.length ≠ many → readT k many (List.replicate m 1 ++ rest) (n, false, 0) out = readT k many rest (n + m, false, 0) out := by
  induction m with
  | zero => intro n out _; simp
  | succ m ih =>
    intro n out h
    rw [List.replicate_succ, List.cons_append, readT, if_neg h]
    simp only [takeM, if_true, Option.toList, List.append_nil]
    rw [ih (n + 1) out h, show n + 1 + m = n + (m + 1) from by omega]
theorem readT_low (k many x : Nat) (rest : List Nat) : ∀ (j n : Nat) (out : List Nat), out.length ≠ many → n = x / 2 ^ (j + 1) → readT k many (lowB x (j + 1) ++ rest) (n, true, j + 1) out = readT k many rest (0, false, 0) (out ++ [x]) := by
  intro j
  induction j with
  | zero =>
    intro n out h hn
    rw [show lowB x (0 + 1) = [x / 2 ^ 0 % 2] from rfl, List.cons_append, readT, if_neg h]
    have : n * 2 + x / 2 ^ 0 % 2 = x := by rw [hn]; simp; omega
    simp only [takeM, List.nil_append, show ¬ (1 < 0 + 1) from by omega, if_false, Option.toList, this]
  | succ j ih =>
    intro n out h hn
    rw [show lowB x (j + 1 + 1) = (x / 2 ^ (j + 1) % 2) :: lowB x (j + 1) from rfl, List.cons_append, readT, if_neg h]
    simp only [takeM, show 1 < j + 1 + 1 from by omega, if_true, Option.toList, List.append_nil, show j + 1 + 1 - 1 = j + 1 from by omega]
    refine ih _ out h ?_
    rw [hn, Nat.pow_succ 2 (j + 1), ← Nat.div_div_eq_div_mul]
    omega
theorem readT_num (k many x : Nat) (rest : List Nat) (out : List Nat) (h : out.length ≠ many) : readT k many (numB k x ++ rest) (0, false, 0) out = readT k many rest (0, false, 0) (out ++ [x]) := by
  rw [numB, List.append_assoc, readT_ones k many _ _ 0 out h, List.cons_append, readT, if_neg h, Nat.zero_add]
  cases k with
  | zero => simp [takeM, lowB]
  | succ j =>
    simp only [takeM, show ¬ (0 = 1) from by omega, if_false, show 0 < j + 1 from by omega, if_true, Option.toList, List.append_nil]
    exact readT_low (j + 1) many x rest j _ out h rfl
theorem readT_all (k many : Nat) (l : List Nat) : ∀ (out rest : List Nat), out.length + l.length = many → readT k many (bitsOf k l ++ rest) (0, false, 0) out = out ++ l := by
  induction l with
  | nil =>
    intro out rest h
    have ho : out.length = many := by simpa using h
    cases rest with
    | nil => simp [bitsOf, readT]
    | cons b r => simp [bitsOf, readT, ho]
  | cons x l ih =>
    intro out rest h
    have : bitsOf k (x :: l) = numB k x ++ bitsOf k l := by simp [bitsOf]
    rw [this, List.append_assoc, readT_num k many x _ out (by simp at h; omega), ih (out ++ [x]) rest (by simp at h ⊢; omega)]
    simp
/-- What was written is read. -/
theorem readT_rice (k : Nat) (l : List Nat) : readT k l.length (unpack (riceB k l)) (0, false, 0) [] = l := by
  obtain ⟨z, _, h⟩ := unpack_rice k l
  rw [h, readT_all k l.length l [] _ (by simp)]
  rfl

end Go.Proofs.YtifpidhoeikdjaaGreatDoor

set_option linter.unusedVariables false
namespace Go.Proofs.YtifpidhoeikdjaaGreatDoor
open Go.RowKit

theorem lowB_len (x : Nat) : ∀ k, (lowB x k).length = k := by
  intro k
  induction k with
  | zero => rfl
  | succ k ih => simp [lowB, ih]
theorem bitsOf_len (k : Nat) (hk : k ≤ 8) (l : List Nat) (h : ∀ x ∈ l, x ≤ 60000) : (bitsOf k l).length ≤ 60009 * l.length := by
  induction l with
  | nil => simp [bitsOf]
  | cons x r ih =>
    have e : bitsOf k (x :: r) = numB k x ++ bitsOf k r := by simp [bitsOf]
    have h1 := h x (by simp)
    have h2 := ih (fun y hy => h y (by simp [hy]))
    have h3 : x / 2 ^ k ≤ x := Nat.div_le_self _ _
    rw [e, List.length_append, List.length_cons]
    have h4 : (numB k x).length ≤ 60009 := by
      simp [numB, lowB_len]
      omega
    omega
theorem ricePut_len (ns : List Int) (k : Int) : (ricePut ns k).length ≤ 300100 := by
  cases hr : riceOkB ns k with
  | false => rw [ricePut_no hr]; simp
  | true =>
    rw [ricePut_yes hr]
    have hb := riceOk_bits hr
    have hn := riceOk_len hr
    obtain ⟨z, hz, hu⟩ := unpack_rice k.toNat (ns.map Int.toNat)
    have h1 := unpack_length (riceB k.toNat (ns.map Int.toNat))
    rw [hu, List.length_append, List.length_replicate] at h1
    have h2 := bitsOf_len k.toNat (by omega) (ns.map Int.toNat) (by
      intro x hx
      obtain ⟨y, hy, rfl⟩ := List.mem_map.1 hx
      obtain ⟨i, hi, rfl⟩ := List.mem_iff_getElem.1 hy
      have := riceOk_at hr i hi
      rw [List.getD_eq_getElem?_getD, List.getElem?_eq_getElem hi] at this
      simp at this
      omega)
    simp at h2
    omega

def bits4 : List Int := [0, 2, 5, 8]
def more6 : List Int := [0, 0, 0, 0, 1, -1]
theorem more6_in : ∀ i : Fin 6, -1 ≤ more6.getD i.val 0 ∧ more6.getD i.val 0 ≤ 1 := by decide
end Go.Proofs.YtifpidhoeikdjaaGreatDoor

set_option linter.unusedVariables false
namespace Go.Proofs.YtifpidhoeikdjaaGreatDoor
open Go.RowKit

set_option maxHeartbeats 2000000 in
set_option maxRecDepth 100000 in
theorem specFilter (g n cap : Nat) (ss : List ByteArray) (key : ByteArray) (w : World) (h : AtS w g ss) (hn : n = ss.length) (h1 : isSum key.data.toList = true) (h2 : itemsOkB ss = true) :
    Calls Tryz.prog 14 #[.string key, .slice (some ⟨g, 0, none⟩) n cap] w fun e w' => e = .returned (.string ⟨(filterB key.data.toList ss).toArray⟩) ∧ Below w.heap.size w w' := by
  obtain ⟨i0, hi, hz0, hz1, hz2⟩ := info_parts infoIntB
  have hset := specSet g n cap ss w h hn (by have := itemsOk_len h2; omega)
  have H1 : Hid (isSum key.data.toList = true) := h1
  have HSI : Hid (∀ i, i < (setL ss).length → isItem ((setL ss).getD i ByteArray.empty).data.toList = true) := by
    intro i hi
    refine set_items h2 _ ?_
    simp [List.getElem?_eq_getElem hi]
  have HGO : Hid ((gapsL key.data.toList ss).length ≤ 40 ∧ ∀ i, i < (gapsL key.data.toList ss).length → 0 ≤ (gapsL key.data.toList ss).getD i 0 ∧ (gapsL key.data.toList ss).getD i 0 ≤ 60000) := gaps_ok h1 h2
  have HPI : Hid (∀ z ∈ sortL (placesL key.data.toList ss), 0 ≤ z ∧ z ≤ 1480) := fun z hz => places_in h1 h2 z ((sortL_mem _ z).1 hz)
  have hm40 : (setL ss).length ≤ 40 := Nat.le_trans (setL_length ss) (itemsOk_len h2)
  have HFB : Hid (filterB key.data.toList ss = varB 4 (setL ss).length ++ riceB 5 ((gapsL key.data.toList ss).map Int.toNat)) := rfl
  have HPL : Hid (placesL key.data.toList ss = (setL ss).map fun it => filterTo key.data.toList it.data.toList (((setL ss).length : Int) * 37)) := rfl
  have HGL : Hid (gapsL key.data.toList ss = gapsZ 0 (sortL (placesL key.data.toList ss))) := rfl
  generalize gapsL key.data.toList ss = gl at HGO HFB HGL
  generalize placesL key.data.toList ss = pl at HPI HPL HGL
  generalize filterB key.data.toList ss = fb at HFB ⊢
  generalize setL ss = st at hset HSI hm40 HFB HPL
  clear h hn h1 h2
  go_enter Tryz.func14, Tryz.ntmps14
  go_wp2_with fail
  refine hset.mono ?_
  rintro e w1 ⟨v1, rfl, hr1, b1⟩
  obtain ⟨g1, c1, rfl⟩ := hr1.1
  have HAS : Hid (AtS w1 g1 st) := hr1.at.1
  have HB1 : Hid (Below w.heap.size w w1) := b1
  obtain ⟨m, hm⟩ : ∃ m, m = st.length := ⟨_, rfl⟩
  rw [← hm] at hm40 ⊢
  have HM : Hid (m = st.length) := hm
  rw [← hm] at HFB HPL
  clear hset hr1 b1 hm
  go_wp2_with fail
  have HW0 : Hid (ZRow w1.heap.size (.slice (some ⟨w1.heap.size, 0, none⟩) 0 0) (pl.take 0) (w1.alloc (.cells #[] 3))) := zrow_new w1
  have HB0 : Hid (Below w1.heap.size w1 (w1.alloc (.cells #[] 3))) := (Below.refl _ w1).alloc (Nat.le_refl _) _
  have HPLL : Hid (pl.length = m) := by show _ = _; rw [HPL.out, List.length_map]; exact HM.out.symm
  go_loopw [6, 7] (fun v i wr => ∃ (q g3 c3 : Nat), q ≤ m ∧ i = .int .i64 (q : Int) ∧ v = .slice (some ⟨g3, 0, none⟩) q c3 ∧ Hid (ZRow w1.heap.size v (pl.take q) wr) ∧ Hid (Below w1.heap.size w1 wr)) (fun _ i _ => m - (intOf i).toNat)
  case atStart => exact ⟨0, w1.heap.size, 0, by omega, rfl, rfl, HW0, HB0⟩
  case round =>
    clear HW0 HB0
    obtain ⟨q, g3, c3, hq, rfl, rfl, HR, HB⟩ := hrel
    have hszr := HB.out.size
    by_cases hlt : q < m
    · have hql : q < st.length := by rw [← HM.out]; exact hlt
      have hc : wr.cell? ⟨g1, q, none⟩ = some (.string (st.getD q ByteArray.empty)) := by
        rw [HB.out.cell (p := ⟨g1, q, none⟩) HAS.out.1]
        exact HAS.out.2 q hql
      have hit := HSI.out q hql
      have hto := specL2To key (st.getD q ByteArray.empty) ((m : Int) * 37) wr H1.out hit (by omega)
      have HE : Hid (pl.take (q + 1) = pl.take q ++ [filterTo key.data.toList (st.getD q ByteArray.empty).data.toList ((m : Int) * 37)]) := by
        show _ = _
        rw [List.take_add_one, HPL.out, List.getElem?_map, List.getElem?_eq_getElem hql, List.getD_eq_getElem?_getD, List.getElem?_eq_getElem hql]
        rfl
      generalize filterTo key.data.toList (st.getD q ByteArray.empty).data.toList ((m : Int) * 37) = z at hto HE
      generalize st.getD q ByteArray.empty = it at hc hto
      have HRW : Hid (wr.ownsRow w1.heap.size 3 1 (.slice (some ⟨g3, 0, none⟩) q c3) q ((pl.take q).map (Value.int .i64))) := by
        have h5 := HR.out.2
        have h6 : (pl.take q).length = q := by rw [List.length_take, HPLL.out]; omega
        rw [h6] at h5
        exact h5
      have HQ : Hid (q + 1 ≤ m) := hlt
      have lq : (q : Int) < (m : Int) := by omega
      have lq0 : (0 : Int) ≤ (q : Int) := by omega
      have hx1 : q + 1 ≤ maxLen := by unfold maxLen; omega
      have hx2 : (q + 1) * 8 ≤ 140737488355328 := by omega
      clear hql hit
      go_wp2_with fail
      refine hto.mono ?_
      rintro e w2 ⟨rfl, b2⟩
      have HRW2 : Hid (w2.ownsRow w1.heap.size 3 1 (.slice (some ⟨g3, 0, none⟩) q c3) q ((pl.take q).map (Value.int .i64))) := ownsRow_keep HRW.out (fun g' hg' => by
        obtain ⟨cur, hcc, hl⟩ := ownsRow_type HRW.out g' hg'
        exact b2.block g' hl)
      have HB2 : Hid (Below w1.heap.size w1 w2) := HB.out.trans (b2.mono HB.out.size)
      have hs2 := HB2.out.size
      clear b2 hto
      go_wp2_with (at_builtin; refine wp_app1 rfl _ _ 36 rfl w1.heap.size 3 i0 (.int .i64 0) 8 Tryz.underlying36 hi hz0 hz1 hz2 rfl _ _ _ rfl HRW2.out (.int .i64 z) rfl rfl hx1 hx2 hs2 ?_; intro g4 c4 w4 hown4 hb4 _)
      have HR4 : Hid (ZRow w1.heap.size (.slice (some ⟨g4, 0, none⟩) (q + 1) c4) (pl.take (q + 1)) w4) := by
        refine ZRow.of ?_ (by rw [List.length_take, HPLL.out]; have := HQ.out; omega)
        rw [HE.out, List.map_append]
        exact hown4
      clear hown4
      go_roundw
      case rel => exact ⟨q + 1, g4, c4, HQ.out, by go_num, rfl, HR4, HB2.out.trans hb4⟩
      case measure => have := HQ.out; simp [intOf]; omega
    · obtain rfl : q = m := by omega
      have HRA : Hid (ZRow w1.heap.size (.slice (some ⟨g3, 0, none⟩) q c3) pl wr) := by
        have h5 := HR.out
        rw [List.take_of_length_le (by rw [HPLL.out]; exact Nat.le_refl _)] at h5
        exact h5
      have hsort := specSort g3 q c3 pl wr HRA.out.at.1 HPLL.out.symm (by omega)
      have HSL : Hid ((sortL pl).length = q) := by show _ = _; rw [sortL_length]; exact HPLL.out
      have HBw : Hid (Below w.heap.size w wr) := HB1.out.trans (HB.out.mono HB1.out.size)
      generalize sortL pl = so at hsort HPI HGL HSL
      clear hszr HR
      go_wp2_with fail
      refine hsort.mono ?_
      rintro e w5 ⟨v5, rfl, hr5, b5⟩
      obtain ⟨g5, c5, rfl⟩ := hr5.1
      have HA5 : Hid (At w5 g5 so) := hr5.at.1
      have HB5 : Hid (Below w.heap.size w w5) := HBw.out.trans (b5.mono HBw.out.size)
      rw [HSL.out]
      clear hsort hr5 b5
      go_wp2_with fail
      have HG0 : Hid (ZRow w5.heap.size (.slice (some ⟨w5.heap.size, 0, none⟩) 0 0) (gapsZ 0 (so.take 0)) (w5.alloc (.cells #[] 3))) := zrow_new w5
      have HB50 : Hid (Below w5.heap.size w5 (w5.alloc (.cells #[] 3))) := (Below.refl _ w5).alloc (Nat.le_refl _) _
      go_loopw [8, 9, 10] (fun v l i wx => ∃ (p g6 c6 : Nat) (y : Int), p ≤ q ∧ i = .int .i64 (p : Int) ∧ l = .int .i64 y ∧ 0 ≤ y ∧ y ≤ 1480 ∧ v = .slice (some ⟨g6, 0, none⟩) p c6 ∧ Hid (y = lastZ 0 (so.take p)) ∧ Hid (ZRow w5.heap.size v (gapsZ 0 (so.take p)) wx) ∧ Hid (Below w5.heap.size w5 wx)) (fun _ _ i _ => q - (intOf i).toNat)
      case atStart => exact ⟨0, w5.heap.size, 0, 0, by omega, rfl, rfl, by omega, by omega, rfl, rfl, HG0, HB50⟩
      case round =>
        clear HG0 HB50 HB HRA
        obtain ⟨p, g6, c6, y, hp, rfl, rfl, hy0, hy1, rfl, HY, HR, HB⟩ := hrel
        have hszr := HB.out.size
        have HGLN : Hid ((gapsZ 0 (so.take p)).length = p) := by show _ = _; rw [gapsZ_length, List.length_take, HSL.out]; omega
        by_cases hlt2 : p < q
        · have hpl : p < so.length := by rw [HSL.out]; exact hlt2
          have hc : wr.cell? ⟨g5, p, none⟩ = some (.int .i64 (so.getD p 0)) := by
            rw [HB.out.cell (p := ⟨g5, p, none⟩) HA5.out.1]
            exact HA5.out.2 p hpl
          have hin := HPI.out (so.getD p 0) (by simp [List.getElem?_eq_getElem hpl])
          have e1 : so.take (p + 1) = so.take p ++ [so.getD p 0] := by
            rw [List.take_add_one, List.getElem?_eq_getElem hpl, List.getD_eq_getElem?_getD, List.getElem?_eq_getElem hpl]
            rfl
          have HE : Hid (gapsZ 0 (so.take (p + 1)) = gapsZ 0 (so.take p) ++ [so.getD p 0 - y] ∧ so.getD p 0 = lastZ 0 (so.take (p + 1))) := by
            rw [e1, gapsZ_snoc, lastZ_snoc, ← HY.out]
            exact ⟨rfl, rfl⟩
          generalize so.getD p 0 = x at hc hin HE
          obtain ⟨hin0, hin1⟩ := hin
          have HRW : Hid (wr.ownsRow w5.heap.size 3 1 (.slice (some ⟨g6, 0, none⟩) p c6) p ((gapsZ 0 (so.take p)).map (Value.int .i64))) := by
            have h5 := HR.out.2
            rw [HGLN.out] at h5
            exact h5
          have HP : Hid (p + 1 ≤ q) := hlt2
          have lp : (p : Int) < (q : Int) := by omega
          have lp0 : (0 : Int) ≤ (p : Int) := by omega
          have hx1 : p + 1 ≤ maxLen := by unfold maxLen; omega
          have hx2 : (p + 1) * 8 ≤ 140737488355328 := by omega
          clear hpl e1
          go_wp2_with (at_builtin; refine wp_app1 rfl _ _ 36 rfl w5.heap.size 3 i0 (.int .i64 0) 8 Tryz.underlying36 hi hz0 hz1 hz2 rfl _ _ _ rfl HRW.out (.int .i64 (x - y)) rfl rfl hx1 hx2 hszr ?_; intro g4 c4 w4 hown4 hb4 _; have hc4 : w4.cell? ⟨g5, p, none⟩ = some (.int .i64 x) := (hb4.cell (p := ⟨g5, p, none⟩) HA5.out.1).trans hc)
          have HR4 : Hid (ZRow w5.heap.size (.slice (some ⟨g4, 0, none⟩) (p + 1) c4) (gapsZ 0 (so.take (p + 1))) w4) := by
            refine ZRow.of ?_ (by rw [gapsZ_length, List.length_take, HSL.out]; have := HP.out; omega)
            rw [HE.out.1, List.map_append]
            exact hown4
          clear hown4
          go_roundw
          case rel => exact ⟨p + 1, g4, c4, x, HP.out, by go_num, rfl, hin0, hin1, rfl, HE.out.2, HR4, HB.out.trans hb4⟩
          case measure => have := HP.out; simp [intOf]; omega
        · obtain rfl : p = q := by omega
          have HGA : Hid (At wr g6 gl ∧ p = gl.length) := by
            have h5 := HR.out
            rw [List.take_of_length_le (by rw [HSL.out]; exact Nat.le_refl _), ← HGL.out] at h5
            exact ⟨h5.at.1, h5.at.2⟩
          have hvar := fun w' => specVar p w' (by omega)
          have hrice := fun w' h' => specRice g6 p c6 gl 5 w' h' HGA.out.2 (by omega) HGO.out.1 HGO.out.2
          have HBx : Hid (Below w.heap.size w wr) := HB5.out.trans (HB.out.mono HB5.out.size)
          have hlr : (riceB 5 (gl.map Int.toNat)).length ≤ 300100 := by
            have h5 := ricePut_len gl 5
            rw [ricePut_yes (riceOk_yes HGO.out.1 (by omega) HGO.out.2)] at h5
            exact h5
          have hlv := (varB_length 4 p).2
          generalize (riceB 5 (gl.map Int.toNat)) = rb at hrice HFB hlr
          generalize varB 4 p = vb at hvar HFB hlv
          have HEQ : Hid ((⟨vb.toArray⟩ ++ ⟨rb.toArray⟩ : ByteArray) = ⟨fb.toArray⟩) := by
            show _ = _
            rw [HFB.out]
            apply ByteArray.ext
            simp
          clear hszr HR
          go_wp2_with fail
          refine (hvar _).mono ?_
          rintro e w6 ⟨rfl, b6⟩
          have HGA6 : Hid (At w6 g6 gl) := HGA.out.1.below b6 HGA.out.1.1
          have HB6 : Hid (Below w.heap.size w w6) := HBx.out.trans (b6.mono HBx.out.size)
          clear b6 hvar
          go_wp2_with fail
          refine (hrice _ HGA6.out).mono ?_
          rintro e w7 ⟨rfl, b7⟩
          clear hrice
          go_wp2_with fail
          go_ret
          refine ⟨?_, HB6.out.trans (b7.mono HB6.out.size)⟩
          rw [← HEQ.out]
          rfl

set_option maxHeartbeats 1000000 in
set_option maxRecDepth 100000 in
theorem specFilterOf (g n cap : Nat) (ss : List ByteArray) (key : ByteArray) (w : World) (h : AtS w g ss) (hn : n = ss.length) (hm : n ≤ 1073741824) (hz : ∀ i, i < ss.length → (ss.getD i ByteArray.empty).size ≤ maxLen) (hk : key.size ≤ maxLen) :
    Calls Tryz.prog 6 #[.string key, .slice (some ⟨g, 0, none⟩) n cap] w fun e w' => e = .returned (.string ⟨(filterOf key.data.toList ss).toArray⟩) ∧ Below w.heap.size w w' := by
  have hit := specItems g n cap ss w h hn hm hz
  cases h1 : isSum key.data.toList with
  | false =>
    rw [filterOf_no1 h1]
    clear h hn hit
    go_enter Tryz.func6, Tryz.ntmps6
    go_wp2_with (go_at_call 12; refine (specIsSum _ _ hk).mono ?_; rintro e w1 ⟨rfl, rfl⟩)
    go_ret
    exact ⟨rfl, Below.refl _ _⟩
  | true =>
    cases hok : itemsOkB ss with
    | false =>
      rw [hok] at hit
      rw [filterOf_no2 hok]
      clear hok h hn
      go_enter Tryz.func6, Tryz.ntmps6
      go_wp2_with first
        | (go_at_call 12; refine (specIsSum _ _ hk).mono ?_; rintro e w1 ⟨rfl, rfl⟩)
        | (go_at_call 13; refine hit.mono ?_; rintro e w1 ⟨rfl, rfl⟩)
      go_ret
      exact ⟨rfl, Below.refl _ _⟩
    | true =>
      rw [hok] at hit
      rw [filterOf_yes h1 hok]
      have hf := specFilter g n cap ss key w h hn h1 hok
      generalize filterB key.data.toList ss = fb at hf
      clear hok h hn
      go_enter Tryz.func6, Tryz.ntmps6
      go_wp2_with first
        | (go_at_call 12; refine (specIsSum _ _ hk).mono ?_; rintro e w1 ⟨rfl, rfl⟩)
        | (go_at_call 13; refine hit.mono ?_; rintro e w1 ⟨rfl, rfl⟩)
      refine hf.mono ?_
      rintro e w2 ⟨rfl, b2⟩
      go_wp2_with fail
      go_ret
      exact ⟨rfl, b2⟩

end Go.Proofs.YtifpidhoeikdjaaGreatDoor

set_option linter.unusedVariables false
namespace Go.Proofs.YtifpidhoeikdjaaGreatDoor
open Go.RowKit

/-- Of what lay there block b alone may have turned. -/
def But (b : Nat) (w w' : World) : Prop := w.heap.size ≤ w'.heap.size ∧ ∀ c, c < w.heap.size → c ≠ b → w'.heap[c]? = w.heap[c]?
theorem But.refl (b : Nat) (w : World) : But b w w := ⟨Nat.le_refl _, fun _ _ _ => rfl⟩
theorem But.trans {b : Nat} {u v w : World} (h : But b u v) (k : But b v w) : But b u w :=
  ⟨Nat.le_trans h.1 k.1, fun c hc hb => (k.2 c (Nat.lt_of_lt_of_le hc h.1) hb).trans (h.2 c hc hb)⟩
theorem Only.but {b : Nat} {w w' : World} (h : Only b w w') : But b w w' := ⟨by rw [h.size]; exact Nat.le_refl _, fun c _ hb => h.block c hb⟩
theorem Below.but {b : Nat} {w w' : World} (h : Below w.heap.size w w') : But b w w' := ⟨h.size, fun c hc _ => h.block c hc⟩
theorem But.alloc (b : Nat) (w : World) (o : Obj) : But b w (w.alloc o) := ⟨by simp, fun c hc _ => Below.heap_alloc _ _ _ hc⟩
theorem SRow.but {B b : Nat} {v : Value} {ss : List ByteArray} {w w' : World} (h : SRow B v ss w) (hk : But b w w') (hb : b < B) : SRow B v ss w' := h.keep (fun g hg hl => hk.2 g hl (by omega))

theorem items12_item : ∀ i : Fin 12, isItem (items12.getD i.val ByteArray.empty).data.toList = true := by decide
set_option maxHeartbeats 1000000 in
set_option maxRecDepth 100000 in
theorem drawItemK (B b p : Nat) (w : World) (h : Rd B b p w) (hp : p < 1000000000) :
    Calls Tryz.prog 52 #[.pointer (some ⟨b, 0, none⟩)] w fun e w' => ∃ s : ByteArray, e = .returned (.string s) ∧ isItem s.data.toList = true ∧ Rd B b (p + 1) w' ∧ Below b w w' ∧ But b w w' := by
  have hlt := h.lt
  go_enter Tryz.func52, Tryz.ntmps52
  go_wp2_with fail
  have hbk := heap_alloc_new w (.cells (items12.map Value.string).toArray 9)
  refine (of_walk B b p w.heap.size 12 12 items12 _ (h.keep ((Below.refl _ w).alloc (by omega) _)) hp (by omega) (by omega) (cells_texts hbk rfl 12 (by decide)) (by omega)).mono ?_
  rintro e w2 ⟨x, hx, rfl, hr, ho⟩
  have hsz := items12_item ⟨x, hx⟩
  have hb : Below b w w2 := ((Below.refl b w).alloc (by omega) (.cells (items12.map Value.string).toArray 9)).trans (ho.below (Nat.le_refl _))
  have hbu : But b w w2 := (But.alloc b w _).trans ho.but
  dsimp only at hsz
  generalize items12.getD x ByteArray.empty = s at hsz ⊢
  clear ho hbk
  go_wp2
  go_ret
  exact ⟨s, rfl, hsz, hr, hb, hbu⟩

def ItemsPost (B b p most : Nat) (w : World) (e : Ending) (w' : World) : Prop := ∃ (v : Value) (ss : List ByteArray) (q : Nat), e = .returned v ∧ SRow w.heap.size v ss w' ∧ ss.length ≤ most ∧ (∀ i, i < ss.length → isItem (ss.getD i ByteArray.empty).data.toList = true) ∧ q ≤ p + 1 + most ∧ Rd B b q w' ∧ Below b w w' ∧ But b w w'
def FilterPost (B b p : Nat) (w : World) (e : Ending) (w' : World) : Prop := ∃ (s key : ByteArray) (v : Value) (ss : List ByteArray) (q : Nat), e = .returned (.tuple #[.string s, .string key, v]) ∧ s.size ≤ 300200 ∧ key.size = 16 ∧ SRow w.heap.size v ss w' ∧ ss.length ≤ 8 ∧ (∀ i, i < ss.length → isItem (ss.getD i ByteArray.empty).data.toList = true) ∧ q ≤ p + 20 ∧ Rd B b q w' ∧ Below b w w'

set_option maxHeartbeats 2000000 in
set_option maxRecDepth 100000 in
theorem drawItems (B b p most : Nat) (w : World) (h : Rd B b p w) (hp : p < 1000000000 - 100) (hm : most ≤ 40) :
    Calls Tryz.prog 26 #[.pointer (some ⟨b, 0, none⟩), .int .i64 (most : Int)] w fun e w' => ItemsPost B b p most w e w' := by
  have hlt := h.lt
  obtain ⟨i0, hi, hz0, hz1, hz2⟩ := info_parts infoStr
  have HR0 : Hid (Rd B b p (w.alloc (.cells #[] 9))) := h.keep ((Below.refl _ w).alloc (by omega) _)
  have HZ0 : Hid (SRow w.heap.size (.slice (some ⟨w.heap.size, 0, none⟩) 0 0) [] (w.alloc (.cells #[] 9))) := srow_new w
  have HB0 : Hid (Below b w (w.alloc (.cells #[] 9)) ∧ But b w (w.alloc (.cells #[] 9))) := ⟨(Below.refl _ w).alloc (by omega) _, But.alloc _ _ _⟩
  have hpk := pick_walk B b p ((most : Int) + 1) _ HR0.out (by omega) (by omega)
  clear h
  go_enter Tryz.func26, Tryz.ntmps26
  go_wp2_with fail
  refine hpk.mono ?_
  rintro e w1 ⟨n0, rfl, hn, _, hr1, ho1⟩
  have hn0 : n0 ≤ most := by have := hn (by omega); omega
  have HR1 : Hid (Rd B b (p + 1) w1) := hr1
  have HZ1 : Hid (SRow w.heap.size (.slice (some ⟨w.heap.size, 0, none⟩) 0 0) [] w1) := HZ0.out.but ho1.but hlt
  have HB1 : Hid (Below b w w1 ∧ But b w w1) := ⟨HB0.out.1.trans (ho1.below (Nat.le_refl _)), HB0.out.2.trans ho1.but⟩
  clear hpk hn hr1 ho1 HR0 HZ0 HB0
  go_wp2_with fail
  go_loopw [5, 6] (fun v n wr => ∃ (ss : List ByteArray) (m q k g c : Nat), n = .int .i64 (m : Int) ∧ v = .slice (some ⟨g, 0, none⟩) k c ∧ k + m ≤ most ∧ q ≤ p + 1 + k ∧ Hid (k = ss.length) ∧ Hid (∀ i, i < ss.length → isItem (ss.getD i ByteArray.empty).data.toList = true) ∧ Hid (SRow w.heap.size v ss wr) ∧ Hid (Rd B b q wr) ∧ Hid (Below b w wr ∧ But b w wr)) (fun _ n _ => (intOf n).toNat)
  case atStart => exact ⟨[], n0, p + 1, 0, w.heap.size, 0, rfl, rfl, by omega, by omega, rfl, (fun i hi => by cases hi), HZ1, HR1, HB1⟩
  case round =>
    clear HZ1 HR1 HB1
    obtain ⟨ss, m, q, k, g, c, rfl, rfl, hkm, hq, HK, HS8, HZ, HR, HB⟩ := hrel
    have hszr : w.heap.size ≤ wr.heap.size := HB.out.2.1
    have hltr := HR.out.lt
    by_cases hm0 : 0 < m
    · have hm0' : (0 : Int) < (m : Int) := by omega
      have HM : Hid (m - 1 + 1 = m) := by show _ = _; omega
      have hit := drawItemK B b q wr HR.out (by omega)
      clear hm0
      go_wp2_with fail
      refine hit.mono ?_
      rintro e w2 ⟨s, rfl, hs8, hr2, bl2, bu2⟩
      have HR2 : Hid (Rd B b (q + 1) w2) := hr2
      have hblt := hr2.lt
      have HOW : Hid (w2.ownsRow w.heap.size 9 1 (.slice (some ⟨g, 0, none⟩) k c) k (ss.map Value.string)) := by
        have h5 := (HZ.out.but bu2 hlt).2
        rw [← HK.out] at h5
        exact h5
      have HB2 : Hid (Below b w w2 ∧ But b w w2) := ⟨HB.out.1.trans bl2, HB.out.2.trans bu2⟩
      have hs2 := HB2.out.2.1
      have HS9 : Hid (∀ i, i < (ss ++ [s]).length → isItem ((ss ++ [s]).getD i ByteArray.empty).data.toList = true) := by
        intro i hi
        rcases Nat.lt_or_ge i ss.length with h' | h'
        · have := HS8.out i h'
          rw [List.getD_eq_getElem?_getD, List.getElem?_append_left h', ← List.getD_eq_getElem?_getD]
          exact this
        · have e : i = ss.length := by simp at hi; omega
          subst e
          simp
          exact hs8
      clear hr2 bl2 bu2 hit
      have hx1 : k + 1 ≤ maxLen := by unfold maxLen; omega
      have hx2 : (k + 1) * 16 ≤ 140737488355328 := by omega
      go_wp2_with (at_builtin; refine wp_app1 rfl _ _ 22 rfl w.heap.size 9 i0 (.string ⟨#[]⟩) 16 Tryz.underlying22 hi hz0 hz1 hz2 rfl _ _ _ rfl HOW.out (.string s) rfl rfl hx1 hx2 hs2 ?_; intro g4 c4 w4 hown4 hb4 hkeep4)
      go_roundw
      case rel =>
        refine ⟨ss ++ [s], m - 1, q + 1, k + 1, g4, c4, ?_, rfl, ?_, by omega, ?_, HS9, ?_, HR2.out.keep (hb4.mono (by omega)), HB2.out.1.trans (hb4.mono (by omega)), ?_⟩
        · have := HM.out
          show Value.int .i64 _ = Value.int .i64 _
          congr 1
          omega
        · have := HM.out; omega
        · show _ = _; rw [List.length_append, ← HK.out]; rfl
        · refine SRow.of ?_ (by rw [List.length_append, ← HK.out]; rfl)
          rw [List.map_append]
          exact hown4
        · refine ⟨Nat.le_trans HB2.out.2.1 hb4.size, fun c' hc' hne => ?_⟩
          rw [hb4.block c' hc']
          exact HB2.out.2.2 c' hc' hne
      case measure => have := HM.out; simp [intOf]; omega
    · have hm0' : ¬ (0 : Int) < (m : Int) := by omega
      clear hm0
      go_wp2_with fail
      go_ret
      exact ⟨_, ss, q, rfl, HZ.out, by rw [← HK.out]; omega, HS8.out, by omega, HR.out, HB.out.1, HB.out.2⟩

theorem filterOf_len (k : List UInt8) (ss : List ByteArray) : (filterOf k ss).length ≤ 300200 := by
  cases h1 : isSum k with
  | false => rw [filterOf_no1 h1]; simp
  | true =>
    cases h2 : itemsOkB ss with
    | false => rw [filterOf_no2 h2]; simp
    | true =>
      rw [filterOf_yes h1 h2, filterB, List.length_append]
      have h3 := (varB_length 4 (setL ss).length).2
      have h4 := ricePut_len (gapsL k ss) 5
      have h5 := gaps_ok h1 h2
      rw [ricePut_yes (riceOk_yes h5.1 (by omega) h5.2)] at h4
      have e : (5 : Int).toNat = 5 := rfl
      rw [e] at h4
      omega

end Go.Proofs.YtifpidhoeikdjaaGreatDoor

set_option linter.unusedVariables false
namespace Go.Proofs.YtifpidhoeikdjaaGreatDoor
open Go.RowKit

def items4 : List ByteArray := [⟨#[]⟩, ⟨#[65]⟩, ⟨#[116, 111, 111, 108, 111, 110, 103, 101, 114]⟩, ⟨#[97, 32, 98]⟩]
theorem items4_size : ∀ i : Fin 4, (items4.getD i.val ByteArray.empty).size ≤ 16 := by decide

set_option maxHeartbeats 1000000 in
set_option maxRecDepth 100000 in
theorem drawAnyItem (B b p : Nat) (w : World) (h : Rd B b p w) (hp : p < 1000000000 - 5) :
    Calls Tryz.prog 29 #[.pointer (some ⟨b, 0, none⟩)] w fun e w' => ∃ (s : ByteArray) (q : Nat), e = .returned (.string s) ∧ s.size ≤ 16 ∧ q ≤ p + 2 ∧ Rd B b q w' ∧ Below b w w' := by
  have hlt := h.lt
  go_enter Tryz.func29, Tryz.ntmps29
  go_wp2_with fail
  refine (pick_walk B b p 10 _ h (by omega) (by omega)).mono ?_
  rintro e w1 ⟨x, rfl, _, _, hr1, ho1⟩
  have b1 := ho1.below (Nat.le_refl b)
  have hlt1 := hr1.lt
  by_cases hx : ((x : Int) == 0) = true
  · go_wp2_with fail
    have hbk := heap_alloc_new w1 (.cells (items4.map Value.string).toArray 9)
    refine (of_walk B b (p + 1) w1.heap.size 4 4 items4 _ (hr1.keep ((Below.refl _ w1).alloc (by omega) _)) (by omega) (by omega) (by omega) (cells_texts hbk rfl 4 (by decide)) (by omega)).mono ?_
    rintro e w2 ⟨y, hy, rfl, hr2, ho2⟩
    have hsz := items4_size ⟨y, hy⟩
    have b2 : Below b w w2 := (b1.alloc (by omega) (.cells (items4.map Value.string).toArray 9)).trans (ho2.below (Nat.le_refl _))
    dsimp only at hsz
    generalize items4.getD y ByteArray.empty = s at hsz ⊢
    clear ho2 hbk
    go_wp2
    go_ret
    exact ⟨s, p + 1 + 1, rfl, hsz, by omega, hr2, b2⟩
  · have hx' : ((x : Int) == 0) = false := by simpa using hx
    clear hx
    go_wp2_with fail
    refine (drawItem B b (p + 1) _ hr1 (by omega)).mono ?_
    rintro e w2 ⟨s, rfl, _, hs1, hs8, hr2, b2⟩
    have b12 := b1.trans b2
    go_wp2
    go_ret
    exact ⟨s, p + 1 + 1, rfl, by omega, by omega, hr2, b12⟩

def belows : List Int := [1, 2, 37, 1000, 60000, 0, 60001]
theorem belows_in : ∀ i : Fin 7, 0 ≤ belows.getD i.val 0 ∧ belows.getD i.val 0 ≤ 60001 := by decide

end Go.Proofs.YtifpidhoeikdjaaGreatDoor

set_option linter.unusedVariables false
namespace Go.Proofs.YtifpidhoeikdjaaGreatDoor
open Go.RowKit

set_option maxHeartbeats 1000000 in
set_option maxRecDepth 100000 in
theorem drawSumK (B b p : Nat) (w : World) (h : Rd B b p w) (hp : p < 1000000000 - 5) :
    Calls Tryz.prog 30 #[.pointer (some ⟨b, 0, none⟩)] w fun e w' => ∃ (s : ByteArray) (q : Nat), e = .returned (.string s) ∧ s.size ≤ 16 ∧ q ≤ p + 2 ∧ Rd B b q w' ∧ Below b w w' ∧ But b w w' := by
  have hlt := h.lt
  go_enter Tryz.func30, Tryz.ntmps30
  go_wp2_with fail
  refine (pick_walk B b p 10 _ h (by omega) (by omega)).mono ?_
  rintro e w1 ⟨x, rfl, _, _, hr1, ho1⟩
  have b1 := ho1.below (Nat.le_refl b)
  have HU1 : Hid (But b w w1) := ho1.but
  have hlt1 := hr1.lt
  by_cases hx : ((x : Int) == 0) = true
  · go_wp2_with fail
    have hbk := heap_alloc_new w1 (.cells (sums4.map Value.string).toArray 9)
    refine (of_walk B b (p + 1) w1.heap.size 4 4 sums4 _ (hr1.keep ((Below.refl _ w1).alloc (by omega) _)) (by omega) (by omega) (by omega) (cells_texts hbk rfl 4 (by decide)) (by omega)).mono ?_
    rintro e w2 ⟨y, hy, rfl, hr2, ho2⟩
    have hsz := sums4_size ⟨y, hy⟩
    have b2 : Below b w w2 := (b1.alloc (by omega) (.cells (sums4.map Value.string).toArray 9)).trans (ho2.below (Nat.le_refl _))
    have HU2 : Hid (But b w w2) := (HU1.out.trans (But.alloc b w1 _)).trans ho2.but
    dsimp only at hsz
    generalize sums4.getD y ByteArray.empty = s at hsz ⊢
    clear ho2 hbk
    go_wp2
    go_ret
    exact ⟨s, p + 1 + 1, rfl, hsz, by omega, hr2, b2, HU2.out⟩
  · have hx' : ((x : Int) == 0) = false := by simpa using hx
    clear hx
    go_wp2_with fail
    refine (drawItemK B b (p + 1) _ hr1 (by omega)).mono ?_
    rintro e w2 ⟨s, rfl, hit, hr2, b2, hu2⟩
    have hs8 := isItem_size hit
    have HU2 : Hid (But b w w2) := HU1.out.trans hu2
    clear hit hu2
    have b12 := b1.trans b2
    have hlt2 := hr2.lt
    go_wp2_with fail
    refine (specSum s _ (by omega)).mono ?_
    rintro e w3 ⟨rfl, b3⟩
    have hl16 : (sumB s.data.toList).length = 16 := by simp [sumB, hexOf]
    have hr3 := hr2.keep (b3.mono (by omega))
    have b13 := b12.trans (b3.mono (by omega))
    have HU3 : Hid (But b w w3) := HU2.out.trans (Below.but b3)
    generalize sumB s.data.toList = t at hl16 ⊢
    go_wp2
    go_ret
    exact ⟨⟨t.toArray⟩, p + 1 + 1, rfl, by show t.toArray.size ≤ 16; simp; omega, by omega, hr3, b13, HU3.out⟩

end Go.Proofs.YtifpidhoeikdjaaGreatDoor

set_option linter.unusedVariables false
namespace Go.Proofs.YtifpidhoeikdjaaGreatDoor
open Go.RowKit

set_option maxHeartbeats 1000000 in
set_option maxRecDepth 100000 in
theorem drawAnyItemK (B b p : Nat) (w : World) (h : Rd B b p w) (hp : p < 1000000000 - 5) :
    Calls Tryz.prog 29 #[.pointer (some ⟨b, 0, none⟩)] w fun e w' => ∃ (s : ByteArray) (q : Nat), e = .returned (.string s) ∧ s.size ≤ 16 ∧ q ≤ p + 2 ∧ Rd B b q w' ∧ Below b w w' ∧ But b w w' := by
  have hlt := h.lt
  go_enter Tryz.func29, Tryz.ntmps29
  go_wp2_with fail
  refine (pick_walk B b p 10 _ h (by omega) (by omega)).mono ?_
  rintro e w1 ⟨x, rfl, _, _, hr1, ho1⟩
  have b1 := ho1.below (Nat.le_refl b)
  have HU1 : Hid (But b w w1) := ho1.but
  have hlt1 := hr1.lt
  by_cases hx : ((x : Int) == 0) = true
  · go_wp2_with fail
    have hbk := heap_alloc_new w1 (.cells (items4.map Value.string).toArray 9)
    refine (of_walk B b (p + 1) w1.heap.size 4 4 items4 _ (hr1.keep ((Below.refl _ w1).alloc (by omega) _)) (by omega) (by omega) (by omega) (cells_texts hbk rfl 4 (by decide)) (by omega)).mono ?_
    rintro e w2 ⟨y, hy, rfl, hr2, ho2⟩
    have hsz := items4_size ⟨y, hy⟩
    have b2 : Below b w w2 := (b1.alloc (by omega) (.cells (items4.map Value.string).toArray 9)).trans (ho2.below (Nat.le_refl _))
    have HU2 : Hid (But b w w2) := (HU1.out.trans (But.alloc b w1 _)).trans ho2.but
    dsimp only at hsz
    generalize items4.getD y ByteArray.empty = s at hsz ⊢
    clear ho2 hbk
    go_wp2
    go_ret
    exact ⟨s, p + 1 + 1, rfl, hsz, by omega, hr2, b2, HU2.out⟩
  · have hx' : ((x : Int) == 0) = false := by simpa using hx
    clear hx
    go_wp2_with fail
    refine (drawItemK B b (p + 1) _ hr1 (by omega)).mono ?_
    rintro e w2 ⟨s, rfl, hs8, hr2, b2, u2⟩
    have b12 := b1.trans b2
    have HU2 : Hid (But b w w2) := HU1.out.trans u2
    have hs16 := isItem_size hs8
    go_wp2
    go_ret
    exact ⟨s, p + 1 + 1, rfl, by omega, by omega, hr2, b12, HU2.out⟩

def OfPost (w : World) (e : Ending) (w' : World) : Prop := ∃ (key : ByteArray) (g n c : Nat) (ss : List ByteArray), e = .returned (.tuple #[.string key, .slice (some ⟨g, 0, none⟩) n c]) ∧ key.size ≤ 16 ∧ AtS w' g ss ∧ n = ss.length ∧ n ≤ 21 ∧ (∀ i, i < ss.length → (ss.getD i ByteArray.empty).size ≤ 16) ∧ Below w.heap.size w w'
def most4 : List Int := [0, 3, 8, 20]
theorem most4_in : ∀ i : Fin 4, ∃ m : Nat, most4.getD i.val 0 = (m : Int) ∧ m ≤ 20 := fun i => ⟨(most4.getD i.val 0).toNat, by revert i; decide, by revert i; decide⟩

set_option maxHeartbeats 2000000 in
set_option maxRecDepth 100000 in
theorem drawFilterOf (a : Option Addr) (len cap : Nat) (zs : List Int) (w : World) (h : IsRow .u8 w a len cap zs) :
    Calls Tryz.prog 10 #[.slice a len cap] w fun e w' => OfPost w e w' := by
  obtain ⟨i0, hi, hz0, hz1, hz2⟩ := info_parts infoStr
  go_enter Tryz.func10, Tryz.ntmps10
  go_wp2_with fail
  refine (open_walk a len cap zs _ h).mono ?_
  rintro e w1 ⟨rfl, hr, b1, hs1⟩
  have hlt1 := hr.lt
  clear hs1 h
  have HB1 : Hid (Below w.heap.size w w1) := b1
  have hbk := heap_alloc_new w1 (.cells (most4.map (Value.int .i64)).toArray 3)
  have hone := one_walk w.heap.size w.heap.size 0 w1.heap.size 4 4 most4 _ (hr.keep ((Below.refl _ w1).alloc (by omega) _)) (by omega) (by omega) (by omega) (cells_ints hbk rfl 4 (by decide)) (by omega)
  clear hbk hr b1
  go_wp2_with fail
  refine hone.mono ?_
  rintro e w2 ⟨y, hy, rfl, hr2, ho2⟩
  obtain ⟨most, hmost, hm20⟩ := most4_in ⟨y, hy⟩
  dsimp only at hmost
  rw [hmost]
  have HB2 : Hid (Below w.heap.size w w2) := (HB1.out.alloc (by omega) _).trans (ho2.below (Nat.le_refl _))
  have HR2 : Hid (Rd w.heap.size w.heap.size (0 + 1) w2) := hr2
  have hlt2 := hr2.lt
  clear hone hr2 ho2 hmost hy
  go_wp2_with fail
  refine (drawItems w.heap.size w.heap.size (0 + 1) most _ HR2.out (by omega) (by omega)).mono ?_
  rintro e w3 ⟨v3, ss, q3, rfl, hz3, hl3, hs3, hq3, hr3, b3, u3⟩
  obtain ⟨g3, c3, rfl⟩ := hz3.1
  have HZ : Hid (SRow w2.heap.size (.slice (some ⟨g3, 0, none⟩) ss.length c3) ss w3) := hz3
  have HS : Hid (∀ i, i < ss.length → (ss.getD i ByteArray.empty).size ≤ 16) := fun i hi => by have := isItem_size (hs3 i hi); omega
  have HB3 : Hid (Below w.heap.size w w3) := HB2.out.trans b3
  have HR3 : Hid (Rd w.heap.size w.heap.size q3 w3) := hr3
  have hlt3 := hr3.lt
  have hsz3 : w2.heap.size ≤ w3.heap.size := u3.1
  obtain ⟨n, hn⟩ : ∃ n, n = ss.length := ⟨_, rfl⟩
  rw [← hn] at hl3 HZ ⊢
  have HN : Hid (n = ss.length) := hn
  clear hz3 hs3 b3 hr3 u3 hn
  have hpk := pick_walk w.heap.size w.heap.size q3 12 w3 HR3.out (by omega) (by omega)
  go_wp2_with fail
  refine hpk.mono ?_
  rintro e w4 ⟨x, rfl, _, _, hr4, ho4⟩
  have HB4 : Hid (Below w.heap.size w w4) := HB3.out.trans (ho4.below (Nat.le_refl _))
  have HZ4 : Hid (SRow w2.heap.size (.slice (some ⟨g3, 0, none⟩) n c3) ss w4) := HZ.out.but ho4.but hlt2
  have HR4 : Hid (Rd w.heap.size w.heap.size (q3 + 1) w4) := hr4
  have hlt4 := hr4.lt
  have hsz4 : w2.heap.size ≤ w4.heap.size := by rw [ho4.size]; exact hsz3
  clear hpk hr4 ho4
  by_cases hx : ((x : Int) == 0) = true
  · have hany := drawAnyItemK w.heap.size w.heap.size (q3 + 1) w4 HR4.out (by omega)
    go_wp2_with fail
    refine hany.mono ?_
    rintro e w5 ⟨s, q5, rfl, hs16, hq5, hr5, b5, u5⟩
    have HB5 : Hid (Below w.heap.size w w5) := HB4.out.trans b5
    have HR5 : Hid (Rd w.heap.size w.heap.size q5 w5) := hr5
    have HOW : Hid (w5.ownsRow w2.heap.size 9 1 (.slice (some ⟨g3, 0, none⟩) n c3) n (ss.map Value.string)) := by
      have h5 := (HZ4.out.but u5 hlt2).2
      rw [← HN.out] at h5
      exact h5
    have hs5 : w2.heap.size ≤ w5.heap.size := by have := u5.1; omega
    have HS2 : Hid (∀ i, i < (ss ++ [s]).length → ((ss ++ [s]).getD i ByteArray.empty).size ≤ 16) := by
      intro i hi
      rcases Nat.lt_or_ge i ss.length with h' | h'
      · have := HS.out i h'
        rw [List.getD_eq_getElem?_getD, List.getElem?_append_left h', ← List.getD_eq_getElem?_getD]
        exact this
      · have e : i = ss.length := by simp at hi; omega
        subst e
        simp
        exact hs16
    have hx1 : n + 1 ≤ maxLen := by unfold maxLen; omega
    have hx2 : (n + 1) * 16 ≤ 140737488355328 := by omega
    clear hany hr5 b5 u5
    go_wp2_with (at_builtin; refine wp_app1 rfl _ _ 22 rfl w2.heap.size 9 i0 (.string ⟨#[]⟩) 16 Tryz.underlying22 hi hz0 hz1 hz2 rfl _ _ _ rfl HOW.out (.string s) rfl rfl hx1 hx2 hs5 ?_; intro g6 c6 w6 hown6 hb6 hkeep6)
    have HZ6 : Hid (SRow w2.heap.size (.slice (some ⟨g6, 0, none⟩) (n + 1) c6) (ss ++ [s]) w6) := by
      refine SRow.of ?_ (by rw [List.length_append, ← HN.out]; rfl)
      rw [List.map_append]
      exact hown6
    have HB6 : Hid (Below w.heap.size w w6) := HB5.out.trans (hb6.mono (by omega))
    have HR6 : Hid (Rd w.heap.size w.heap.size q5 w6) := HR5.out.keep (hb6.mono (by omega))
    clear hown6 hb6 hkeep6
    refine (drawSumK w.heap.size w.heap.size q5 w6 HR6.out (by omega)).mono ?_
    rintro e w7 ⟨key, q7, rfl, hk16, _, _, b7, u7⟩
    have HA7 : Hid (AtS w7 g6 (ss ++ [s])) := (HZ6.out.but u7 hlt2).at.1
    have HB7 : Hid (Below w.heap.size w w7) := HB6.out.trans b7
    clear b7 u7
    go_wp2_with fail
    go_ret2
    exact ⟨key, g6, n + 1, c6, ss ++ [s], rfl, hk16, HA7.out, by rw [List.length_append, ← HN.out]; rfl, by omega, HS2.out, HB7.out⟩
  · have hx' : ((x : Int) == 0) = false := by simpa using hx
    clear hx
    go_wp2_with fail
    refine (drawSumK w.heap.size w.heap.size (q3 + 1) w4 HR4.out (by omega)).mono ?_
    rintro e w7 ⟨key, q7, rfl, hk16, _, _, b7, u7⟩
    have HA7 : Hid (AtS w7 g3 ss) := (HZ4.out.but u7 hlt2).at.1
    have HB7 : Hid (Below w.heap.size w w7) := HB4.out.trans b7
    clear b7 u7
    go_wp2_with fail
    go_ret2
    exact ⟨key, g3, n, c3, ss, rfl, hk16, HA7.out, HN.out, by omega, HS.out, HB7.out⟩

end Go.Proofs.YtifpidhoeikdjaaGreatDoor

set_option linter.unusedVariables false
namespace Go.Proofs.YtifpidhoeikdjaaGreatDoor
open Go.RowKit

theorem cells_new (w : World) (e : TypeId) (news : List Value) : ∀ j u, news[j]? = some u → (w.alloc (.cells news.toArray e)).cell? ((⟨w.heap.size, 0, none⟩ : Addr).add j) = some u := by
  intro j u hj
  have e1 : (⟨w.heap.size, 0, none⟩ : Addr).add j = ⟨w.heap.size, j, none⟩ := by unfold Addr.add; split <;> simp_all
  rw [e1, Lib.cell_of_heap (heap_alloc_new w _)]
  simpa using hj
theorem wp_appN {P : Program} {w : World} {ops : Array Oper} {rest : List Oper} {o : Oper} {a : Act} {Q : Exit → Act → World → Prop} (hgd : o.guard = none) (s x : Operand) (t : TypeId)
    (ho : o.op = .call { callee := .builtin .append, args := #[s, x], argTypes := #[t, t] })
    (base : Nat) (e : TypeId) (i : TypeInfo) (z : Value) (size bytes m : Nat) (ht : P.underlying t = some (.slice e)) (hi : P.info? e = some i) (hz : i.zero = some z)
    (hsize : i.size = size) (hby : i.bytes = bytes) (hzs : z.cells.size = size) (hs0 : 0 < size) (hm0 : 0 < m)
    (v : Value) (n : Nat) (xs : List Value) (hs : a.eval s = v) (hown : w.ownsRow base e size v n xs)
    (news : List Value) (hx : a.eval x = .slice (some ⟨w.heap.size, 0, none⟩) m m) (hl : news.length = m * size) (hu : ∀ u ∈ news, u.oneCell' = true)
    (h63 : n + m ≤ maxLen) (hbytes : (n + m) * bytes ≤ 140737488355328) (hbase : base ≤ w.heap.size)
    (h : ∀ g cap w', w'.ownsRow base e size (.slice (some ⟨g, 0, none⟩) (n + m) cap) (n + m) (xs ++ news) → Below base w w' → (∀ b, b < w.heap.size → v.ownBlock ≠ some b → w'.heap[b]? = w.heap[b]?) →
      wpList P ops Q rest (a.put o.dst (.slice (some ⟨g, 0, none⟩) (n + m) cap)) w') :
    wpList P ops Q (o :: rest) a (w.alloc (.cells news.toArray e)) := by
  refine wpList_append_own _ hgd s x t ho base e i z size bytes ht hi hz hsize hby hzs hs0 v n xs hs (hown.alloc _) ⟨w.heap.size, 0, none⟩ m m news hx hl ?_ hu h63 hbytes (by simp; omega) ?_
  · intro j u hj
    have e1 : (⟨w.heap.size, 0, none⟩ : Addr).add j = ⟨w.heap.size, j, none⟩ := by unfold Addr.add; split <;> simp_all
    rw [e1, Lib.cell_of_heap (heap_alloc_new w _)]
    simpa using hj
  · intro v' w' hown' hg _
    obtain ⟨g, cap, rfl⟩ : ∃ g cap, v' = .slice (some ⟨g, 0, none⟩) (n + m) cap := by
      rcases hown'.2 with ⟨_, h0⟩ | ⟨g, cap, cur, hv, _⟩
      · omega
      · exact ⟨g, cap, hv⟩
    refine h g cap w' hown' (((Below.refl base w).alloc hbase _).grown hg (by simp; omega) (fun k hk => (hown.lt k hk).1)) ?_
    intro b hb hne
    rw [hg.block b (by simp; omega) (fun e => hne e.symm)]
    exact Below.heap_alloc _ _ _ hb

end Go.Proofs.YtifpidhoeikdjaaGreatDoor

namespace Go.Proofs.YtifpidhoeikdjaaGreatDoor
open Go.Sort

theorem tx_irr (a : List UInt8) : ¬ a < a := List.lt_irrefl a
theorem tx_trans {a b c : List UInt8} (h1 : a < b) (h2 : b < c) : a < c := List.lt_trans h1 h2
theorem tx_not {a b : List UInt8} : ¬ a < b ↔ b ≤ a := List.not_lt
theorem tx_lt {a b : List UInt8} (h : a ≤ b) (hn : a ≠ b) : a < b := by
  by_cases hl : a < b
  · exact hl
  · exact absurd (List.le_antisymm h (tx_not.1 hl)) hn
theorem tx_lele {a b c : List UInt8} (h1 : a ≤ b) (h2 : b < c) : a < c := by
  by_cases e : a = b
  · rw [e]; exact h2
  · exact tx_trans (tx_lt h1 e) h2
theorem tx_le {a b c : List UInt8} (h1 : a ≤ b) (h2 : b ≤ c) : a ≤ c := List.le_trans h1 h2
/-- Two rows, each in order with none twice, of the same texts. -/
theorem strict_eq : ∀ {a b : List (List UInt8)}, a.Pairwise (· < ·) → b.Pairwise (· < ·) → (∀ x, x ∈ a ↔ x ∈ b) → a = b
  | [], [], _, _, _ => rfl
  | [], y :: s, _, _, h => absurd ((h y).2 (by simp)) (by simp)
  | x :: r, [], _, _, h => absurd ((h x).1 (by simp)) (by simp)
  | x :: r, y :: s, ha, hb, h => by
    have h1 := List.pairwise_cons.1 ha
    have h2 := List.pairwise_cons.1 hb
    have hxy : x = y := by
      rcases List.mem_cons.1 ((h x).1 (by simp)) with e | hx
      · exact e
      · rcases List.mem_cons.1 ((h y).2 (by simp)) with e | hy
        · exact e.symm
        · exact absurd (tx_trans (h1.1 y hy) (h2.1 x hx)) (tx_irr x)
    subst hxy
    refine congrArg _ (strict_eq h1.2 h2.2 fun z => ?_)
    constructor
    · intro hz
      rcases List.mem_cons.1 ((h z).1 (List.mem_cons_of_mem _ hz)) with e | h'
      · subst e; exact absurd (h1.1 z hz) (tx_irr z)
      · exact h'
    · intro hz
      rcases List.mem_cons.1 ((h z).2 (List.mem_cons_of_mem _ hz)) with e | h'
      · subst e; exact absurd (h2.1 z hz) (tx_irr z)
      · exact h'
theorem compact_in (d : Array (List UInt8)) (hs : ∀ j, j + 1 < d.size → d[j]! ≤ d[j + 1]!) : ∀ m, m ≤ d.size →
    (Lib.compactUpTo d m).Pairwise (· < ·) ∧ (∀ x, x ∈ Lib.compactUpTo d m ↔ ∃ j, j < m ∧ d[j]! = x) ∧ (∀ x ∈ Lib.compactUpTo d m, x ≤ d[m - 1]!)
  | 0, _ => by simp [Lib.compactUpTo]
  | m + 1, hm => by
    obtain ⟨h1, h2, h3⟩ := compact_in d hs m (by omega)
    rw [Lib.compactUpTo_succ]
    have hup : ∀ x ∈ Lib.compactUpTo d m, x ≤ d[m]! := by
      intro x hx
      obtain ⟨j, hj, _⟩ := (h2 x).1 hx
      have := hs (m - 1) (by omega)
      rw [show m - 1 + 1 = m by omega] at this
      exact tx_le (h3 x hx) this
    cases hk : Lib.keeps d m with
    | true =>
      simp only [if_true]
      have hlt : ∀ x ∈ Lib.compactUpTo d m, x < d[m]! := by
        intro x hx
        obtain ⟨j, hj, _⟩ := (h2 x).1 hx
        have hne : d[m]! ≠ d[m - 1]! := by
          have := of_decide_eq_true hk
          rcases this with h | h
          · omega
          · exact h
        have := hs (m - 1) (by omega)
        rw [show m - 1 + 1 = m by omega] at this
        exact tx_lele (h3 x hx) (tx_lt this (fun e => hne e.symm))
      refine ⟨List.pairwise_append.2 ⟨h1, by simp, ?_⟩, ?_, ?_⟩
      · intro a ha b hb
        rw [List.mem_singleton.1 hb]
        exact hlt a ha
      · intro x
        rw [List.mem_append, h2, List.mem_singleton]
        constructor
        · rintro (⟨j, hj, e⟩ | e)
          · exact ⟨j, by omega, e⟩
          · exact ⟨m, by omega, e.symm⟩
        · rintro ⟨j, hj, e⟩
          rcases Nat.lt_or_ge j m with h' | h'
          · exact .inl ⟨j, h', e⟩
          · obtain rfl : j = m := by omega
            exact .inr e.symm
      · intro x hx
        rcases List.mem_append.1 hx with hx | hx
        · exact hup x hx
        · rw [List.mem_singleton.1 hx]
          exact tx_not.1 (tx_irr _)
    | false =>
      have hk' := of_decide_eq_false hk
      have hm0 : m ≠ 0 := fun e => hk' (.inl e)
      have he : d[m]! = d[m - 1]! := Classical.byContradiction fun h => hk' (.inr h)
      simp only [Bool.false_eq_true, if_false, List.append_nil]
      refine ⟨h1, fun x => ?_, fun x hx => hup x hx⟩
      rw [h2]
      constructor
      · rintro ⟨j, hj, e⟩; exact ⟨j, by omega, e⟩
      · rintro ⟨j, hj, e⟩
        rcases Nat.lt_or_ge j m with h' | h'
        · exact ⟨j, h', e⟩
        · obtain rfl : j = m := by omega
          exact ⟨j - 1, by omega, by rw [← he]; exact e⟩
theorem compact_sorted (zs : List (List UInt8)) (h : zs.Pairwise (· ≤ ·)) : (Lib.compact zs).Pairwise (· < ·) ∧ ∀ x, x ∈ Lib.compact zs ↔ x ∈ zs := by
  have hg : ∀ j (hj : j < zs.length), zs.toArray[j]! = zs[j] := fun j hj => by simp [getElem!_pos, hj]
  have := compact_in zs.toArray (fun j hj => by
    have hj' : j + 1 < zs.length := by simpa using hj
    rw [hg j (by omega), hg (j + 1) hj']
    exact List.pairwise_iff_getElem.1 h j (j + 1) (by omega) hj' (by omega)) zs.length (by simp)
  refine ⟨this.1, fun x => (this.2.1 x).trans ?_⟩
  rw [List.mem_iff_getElem]
  constructor
  · rintro ⟨j, hj, e⟩; exact ⟨j, hj, by rw [← hg j hj]; exact e⟩
  · rintro ⟨j, hj, e⟩; exact ⟨j, hj, by rw [hg j hj]; exact e⟩
theorem ltB_iff (a b : ByteArray) : ltB a b = decide (a.data.toList < b.data.toList) := by rw [ltB, bytesLess_eq, ByteArray.toList_eq, ByteArray.toList_eq]
theorem setIns_less {x z : ByteArray} (r : List ByteArray) (h : ltB x z = true) : setIns (x :: r) z = x :: setIns r z := by
  unfold setIns
  rw [List.dropWhile_cons_of_pos (p := fun y => ltB y z) h, List.takeWhile_cons_of_pos (p := fun y => ltB y z) h]
  split <;> rfl
theorem setIns_not {x z : ByteArray} (r : List ByteArray) (h : ltB x z = false) : setIns (x :: r) z = if x = z then x :: r else z :: x :: r := by
  have h' : ¬ ltB x z = true := by rw [h]; simp
  unfold setIns
  rw [List.dropWhile_cons_of_neg (p := fun y => ltB y z) h', List.takeWhile_cons_of_neg (p := fun y => ltB y z) h', List.head?_cons, List.nil_append]
  simp only [Option.some.injEq]
theorem data_inj {a b : ByteArray} (h : a.data.toList = b.data.toList) : a = b := toList_inj (by rw [ByteArray.toList_eq, ByteArray.toList_eq]; exact h)
theorem setIns_pair (z : ByteArray) : ∀ (o : List ByteArray), o.Pairwise (fun a b => a.data.toList < b.data.toList) → (setIns o z).Pairwise (fun a b => a.data.toList < b.data.toList)
  | [], _ => by simp [setIns]
  | x :: r, h => by
    have h1 := List.pairwise_cons.1 h
    cases hx : ltB x z with
    | true =>
      have hlt : x.data.toList < z.data.toList := by rw [ltB_iff] at hx; exact of_decide_eq_true hx
      rw [setIns_less r hx]
      refine List.pairwise_cons.2 ⟨?_, setIns_pair z r h1.2⟩
      intro y hy
      rcases setIns_mem.1 hy with rfl | hy
      · exact hlt
      · exact h1.1 y hy
    | false =>
      have hnl : ¬ x.data.toList < z.data.toList := by rw [ltB_iff] at hx; exact of_decide_eq_false hx
      rw [setIns_not r hx]
      split
      · exact h
      · rename_i hne
        have hzx : z.data.toList < x.data.toList := tx_lt (tx_not.1 hnl) (fun e => hne (data_inj e.symm))
        refine List.pairwise_cons.2 ⟨?_, h⟩
        intro y hy
        rcases List.mem_cons.1 hy with rfl | hy
        · exact hzx
        · exact tx_trans hzx (h1.1 y hy)
theorem setL_pair (l : List ByteArray) : (setL l).Pairwise (fun a b => a.data.toList < b.data.toList) := by
  have : ∀ (l o : List ByteArray), o.Pairwise (fun a b => a.data.toList < b.data.toList) → (l.foldl setIns o).Pairwise (fun a b => a.data.toList < b.data.toList) := by
    intro l
    induction l with
    | nil => intro o h; exact h
    | cons a r ih => intro o h; exact ih _ (setIns_pair a o h)
  exact this l [] List.Pairwise.nil
/-- The library's Sort and Compact make the model's set. -/
theorem compact_set (ss : List ByteArray) : Lib.compact ((ss.map fun s => s.data.toList).mergeSort fun x y => decide (x ≤ y)) = (setL ss).map fun s => s.data.toList := by
  have hp := List.pairwise_mergeSort (le := fun x y : List UInt8 => decide (x ≤ y)) (by intro a b c h1 h2; exact decide_eq_true (tx_le (of_decide_eq_true h1) (of_decide_eq_true h2))) (by intro a b; rcases List.le_total a b with h | h <;> simp [h]) (ss.map fun s => s.data.toList)
  have hc := compact_sorted _ (hp.imp (by intro a b h; exact of_decide_eq_true h))
  refine strict_eq hc.1 (List.pairwise_map.2 (setL_pair ss)) fun x => ?_
  rw [hc.2, List.mem_mergeSort, List.mem_map, List.mem_map]
  constructor
  · rintro ⟨s, hs, e⟩; exact ⟨s, (setL_mem ss s).2 hs, e⟩
  · rintro ⟨s, hs, e⟩; exact ⟨s, (setL_mem ss s).1 hs, e⟩

end Go.Proofs.YtifpidhoeikdjaaGreatDoor

set_option linter.unusedVariables false
namespace Go.Proofs.YtifpidhoeikdjaaGreatDoor
open Go.RowKit Go.Sort

theorem enc_data (ss : List ByteArray) : (ss.map fun s => s.data.toList).map encStr = ss.map Value.string := by
  rw [List.map_map]
  apply List.map_congr_left
  intro s _
  rfl
theorem set_left {w w1 : World} {g cap nn q : Nat} {os : Array Obj} {ss : List ByteArray} (hown : w1.ownsRow w.heap.size 9 1 (.slice (some ⟨g, 0, none⟩) ss.length cap) ss.length (ss.map Value.string)) (hbel : Below w.heap.size w w1) (hbg : w.heap.size ≤ g) :
    let so := (ss.map fun s => s.data.toList).mergeSort fun x y => decide (x ≤ y)
    let w3 := putRow encStr (Sort.ahead (grow (putRow encStr (Sort.ahead w1 nn) g 0 so.toArray) os) q) g 0 (Lib.compact so ++ List.replicate (so.length - (Lib.compact so).length) []).toArray
    w3.ownsRow w.heap.size 9 1 (.slice (some ⟨g, 0, none⟩) (setL ss).length cap) (setL ss).length ((setL ss).map Value.string) ∧ Below w.heap.size w w3 := by
  intro so w3
  have hl2 : so.length = (ss.map fun s => s.data.toList).length := List.length_mergeSort _
  have hle := Lib.compact_length_le so
  have hcs : Lib.compact so = (setL ss).map fun s => s.data.toList := compact_set ss
  have hcl : (Lib.compact so).length = (setL ss).length := by rw [hcs, List.length_map]
  have hl3 : so.length = ss.length := by rw [hl2, List.length_map]
  rcases hown.2 with ⟨h0, _⟩ | ⟨g', cap', cur, hv, hbase, hb, h1, h2, h3, h4⟩
  · cases h0
  cases hv
  have hs := ownsRow_sorted (n := nn) (os := os) (ss := so) (ts := so) rfl hbase hb (by rw [hl3]; exact h1) h2 h3
  have hc := Lib.ownsRow_putRow (q := q) (k := (Lib.compact so).length) (ys := Lib.compact so ++ List.replicate (so.length - (Lib.compact so).length) []) hs (by simp; omega) (by omega)
  rw [List.take_left] at hc
  refine ⟨?_, Lib.below_putRow (hbel.grown (grownBy_sorted _) hbel.size (fun j hj => by cases hj; exact hbase)) hbg⟩
  have e1 : (setL ss).map Value.string = (Lib.compact so).map encStr := by rw [hcs, enc_data]
  rw [e1, ← hcl]
  exact hc

end Go.Proofs.YtifpidhoeikdjaaGreatDoor

