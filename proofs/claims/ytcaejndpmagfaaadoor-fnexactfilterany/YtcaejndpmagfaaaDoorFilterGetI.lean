/-
  The program's FilterGet.
-/
import Derived.Test.YtcaejndpmagfaaaDoorRiceGI6
import Derived.Test.YtcaejndpmagfaaaDoorVarGetI
import Derived.Test.YtcaejndpmagfaaaDoorFilterGetM
import Derived.Test.YtcaejndpmagfaaaDoorFilterGetN
import Derived.Test.YtcaejndpmagfaaaDoorOutRowM
import Derived.Test.YtcaejndpmagfaaaDoorRows1
set_option linter.unusedVariables false
namespace Go.Proofs.YtcaejndpmagfaaaDoor
open Go.Shelf Go.RowKit

set_option maxHeartbeats 1000000 in
set_option maxRecDepth 100000 in
theorem implFilterGet (s : ByteArray) (w : World) (hs : s.size ≤ maxLen) :
    Calls Tryd.prog 15 #[.string s] w fun e w' => ∃ v, e = .returned (.tuple #[v, .bool (filterGet s.data.toList).isSome]) ∧ GotRow w.heap.size v w' (filterGet s.data.toList) ∧ Below w.heap.size w w' := by
  obtain ⟨i0, hi, hz0, hz1, hz2⟩ := info_parts infoIntG
  have hvs := varGet_size s.data.toList
  obtain ⟨mn, sz, hvg⟩ : ∃ mn sz, varGet s.data.toList = (mn, sz) := ⟨_, _, rfl⟩
  have hget := implVarGet s w hs
  have hln : s.data.toList.length = s.size := by simp
  have HBAD : Hid ((sz = 0 ∨ 600 < s.size) → filterGet s.data.toList = none) := by
    intro h
    refine filterGet_bad ?_
    rw [hvg, hln]
    exact h
  have HNONE : Hid (riceGet (s.data.toList.drop sz) (mn : Int) 5 = none → filterGet s.data.toList = none) := by
    intro h
    refine filterGet_none ?_
    rw [hvg]
    exact h
  have HSOME : Hid (∀ gaps, ¬ (sz = 0 ∨ 600 < s.size) → riceGet (s.data.toList.drop sz) (mn : Int) 5 = some gaps → filterGet s.data.toList = placesOf mn gaps) := by
    intro gaps h0 h
    have := filterGet_some (o := s.data.toList) (gaps := gaps) (by rw [hvg, hln]; exact h0) (by rw [hvg]; exact h)
    rw [this, hvg]
  rw [hvg] at hvs hget
  rw [hln] at hvs
  dsimp only at hvs hget
  obtain ⟨hsz, hsz5, hmn⟩ := hvs
  clear hvg hln
  by_cases h0 : sz = 0
  · have HG : Hid (filterGet s.data.toList = none) := HBAD.out (.inl h0)
    rw [HG.out]
    subst h0
    go_enter Tryd.func15, Tryd.ntmps15
    go_wp2_with (go_at_call 32; refine hget.mono ?_; rintro e w1 ⟨rfl, b1⟩)
    go_ret2
    exact ⟨_, rfl, rfl, b1⟩
  · have hne : (((sz : Nat) : Int) == 0) = false := by simp; omega
    by_cases h6 : (600 : Int) < (s.size : Int)
    · have HG : Hid (filterGet s.data.toList = none) := HBAD.out (.inr (by omega))
      rw [HG.out]
      go_enter Tryd.func15, Tryd.ntmps15
      go_wp2_with (go_at_call 32; refine hget.mono ?_; rintro e w1 ⟨rfl, b1⟩)
      go_ret2
      exact ⟨_, rfl, rfl, b1⟩
    · have HOK : Hid (¬ (sz = 0 ∨ 600 < s.size)) := by show ¬ _; omega
      have hbd : 0 ≤ (sz : Int) ∧ (sz : Int) ≤ (s.size : Int) := by omega
      have hex : (s.extract sz s.size).data.toList = s.data.toList.drop sz := by
        simp
        exact List.take_of_length_le (by simp)
      have hrg := fun w => implRiceGet (s.extract sz s.size) (mn : Int) 5 w
      rw [hex] at hrg
      cases hr : riceGet (s.data.toList.drop sz) (mn : Int) 5 with
      | none =>
        have HG : Hid (filterGet s.data.toList = none) := HNONE.out hr
        rw [HG.out]
        rw [hr] at hrg
        dsimp only [Option.isSome] at hrg
        clear hr hex
        go_enter Tryd.func15, Tryd.ntmps15
        go_wp2_with first
          | (go_at_call 32; refine hget.mono ?_; rintro e w1 ⟨rfl, b1⟩)
          | (go_at_call 33; refine (hrg _).mono ?_; rintro e w2 ⟨v2, rfl, g2, b2⟩; obtain rfl : v2 = .slice none 0 0 := g2)
        go_ret2
        exact ⟨_, rfl, rfl, b1.trans (b2.mono b1.size)⟩
      | some gaps =>
        have HG : Hid (filterGet s.data.toList = placesOf mn gaps) := HSOME.out gaps HOK.out hr
        rw [HG.out]
        rw [hr] at hrg
        have hgs := riceGet_some hr
        have HGB : Hid (∀ i, gaps.getD i 0 ≤ 60000) := by
          intro i
          rcases Nat.lt_or_ge i gaps.length with h' | h'
          · rw [List.getD_eq_getElem?_getD, List.getElem?_eq_getElem h']
            exact hgs.2.2.1 _ (List.getElem_mem h')
          · rw [List.getD_eq_getElem?_getD, List.getElem?_eq_none h']
            exact Nat.zero_le _
        have hm40 : mn ≤ 40 ∧ gaps.length = mn := by
          have h1 := hgs.1
          simp only [getOk, Bool.and_eq_true, decide_eq_true_eq] at h1
          have h2 := hgs.2.1
          exact ⟨by omega, by simpa using h2⟩
        obtain ⟨hm40, hgl⟩ := hm40
        have HT : Hid (∀ i, total 0 (gaps.take i) ≤ 2400000) := by
          intro i
          refine Nat.le_trans (total_take_le gaps i) (Nat.le_trans (total_bound gaps hgs.2.2.1 0) ?_)
          omega
        have HGL : Hid (gaps.length = mn) := hgl
        dsimp only [Option.isSome] at hrg
        have hmk := makeCap mn (by omega)
        clear hr hex hgs hgl HNONE HSOME HBAD
        go_enter Tryd.func15, Tryd.ntmps15
        go_wp2_with first
          | (go_at_call 32; refine hget.mono ?_; rintro e w1 ⟨rfl, b1⟩)
          | (go_at_call 33; refine (hrg _).mono ?_; rintro e w2 ⟨v2, rfl, g2, b2⟩; obtain ⟨gg, c2, rfl⟩ := g2.1)
        have HG2 : Hid (OutRow w1.heap.size (.slice (some ⟨gg, 0, none⟩) gaps.length c2) gaps w2) := g2
        have HB2 : Hid (Below w.heap.size w w2) := b1.trans (b2.mono b1.size)
        have HL2 : Hid (gg < w2.heap.size) := g2.lt.2
        have HAT : Hid (At w2 gg (gaps.map fun n : Nat => (n : Int))) := outRow_at g2
        rw [HGL.out]
        have HW3 : Hid (OutRow w2.heap.size (.slice (some ⟨w2.heap.size, 0, none⟩) 0 mn) (sumsF 0 (gaps.take 0)) (w2.alloc (.cells (madeCells #[.int .i64 0] mn) 3))) :=
          ⟨⟨_, _, rfl⟩, rfl, .inr ⟨_, _, _, rfl, Nat.le_refl _, World.alloc_heap_new w2 _, Nat.zero_le _, by unfold maxLen; omega, by rw [madeCells_size0]; omega, rfl⟩⟩
        have HB3 : Hid (Below w2.heap.size w2 (w2.alloc (.cells (madeCells #[.int .i64 0] mn) 3))) := (Below.refl _ w2).alloc (Nat.le_refl _) _
        clear b1 b2 g2 hget hrg hmk
        go_loopw [8, 9, 38] (fun v p i wr => ∃ (k q : Nat), k ≤ mn ∧ q ≤ 2400000 ∧ i = .int .i64 (k : Int) ∧ p = .int .i64 (q : Int) ∧ Hid (q = total 0 (gaps.take k)) ∧ Hid (k = 0 ∨ q < mn * 37) ∧ Hid (OutRow w2.heap.size v (sumsF 0 (gaps.take k)) wr) ∧ Hid (Below w2.heap.size w2 wr)) (fun _ _ i _ => mn - (intOf i).toNat)
        case atStart => exact ⟨0, 0, by omega, by omega, rfl, rfl, rfl, .inl rfl, HW3, HB3⟩
        case round =>
          clear HW3 HB3
          obtain ⟨k, q, hk, hq, rfl, rfl, HQ, HLT, HR, HB⟩ := hrel
          obtain ⟨⟨g3, c3, rfl⟩, hrow⟩ := HR.out
          by_cases hlt : k < mn
          · obtain ⟨x, hx⟩ : ∃ x, x = gaps.getD k 0 := ⟨_, rfl⟩
            have hkg : k < gaps.length := by rw [HGL.out]; exact hlt
            have hst := take_sums gaps k hkg
            have hx6 : x ≤ 60000 := by rw [hx]; exact HGB.out k
            have hq2 : q + x ≤ 2400000 := by have := HT.out (k + 1); rw [hst.2, ← HQ.out, ← hx] at this; exact this
            have cx : wr.cell? ⟨gg, k, none⟩ = some (.int .i64 (x : Int)) := by
              rw [HB.out.cell (p := ⟨gg, k, none⟩) HL2.out, HAT.out.2 k (by simpa using hkg), hx, List.getD_eq_getElem?_getD, List.getElem?_map, List.getD_eq_getElem?_getD, List.getElem?_eq_getElem hkg]
              rfl
            have HS : Hid (sumsF 0 (gaps.take (k + 1)) = sumsF 0 (gaps.take k) ++ [q + x] ∧ q + x = total 0 (gaps.take (k + 1))) := by rw [hst.1, hst.2, ← HQ.out, ← hx]; exact ⟨rfl, rfl⟩
            have HKG : Hid (k < gaps.length) := hkg
            have lk : (k : Int) < (mn : Int) := by omega
            have hlen : (sumsF 0 (gaps.take k)).length = k := by rw [sumsF_length]; simp; omega
            rw [hlen] at hrow HR
            have HRW : Hid (wr.ownsRow w2.heap.size 3 1 (.slice (some ⟨g3, 0, none⟩) k c3) k (intCells (sumsF 0 (gaps.take k)))) := hrow
            have hszr := HB.out.size
            rw [hlen]
            clear hx hst hkg hrow hlen
            by_cases hge : mn * 37 ≤ q + x
            · have hge' : (mn : Int) * 37 ≤ (q : Int) + (x : Int) := by omega
              have HG3 : Hid (placesOf mn gaps = none) := by
                show _ = _
                unfold placesOf
                have h1 := total_take_le gaps (k + 1)
                rw [← HS.out.2] at h1
                have h2 : gaps ≠ [] := by intro e; have := HKG.out; rw [e] at this; cases this
                rw [if_neg]
                rintro (h | h)
                · omega
                · exact h2 h
              clear hge
              go_wp2_with fail
              go_ret2
              rw [HG3.out]
              exact ⟨_, rfl, rfl, HB2.out.trans (HB.out.mono HB2.out.size)⟩
            · have hge' : ¬ (mn : Int) * 37 ≤ (q : Int) + (x : Int) := by omega
              have HGE : Hid (q + x < mn * 37) := Nat.lt_of_not_le hge
              clear hge
              have HK : Hid (k + 1 ≤ mn) := hlt
              have hx1 : k + 1 ≤ maxLen := by unfold maxLen; omega
              have hx2 : (k + 1) * 8 ≤ 140737488355328 := by omega
              go_wp2_with (at_builtin; refine wp_app1 rfl _ _ 31 rfl w2.heap.size 3 i0 (.int .i64 0) 8 Tryd.underlying31 hi hz0 hz1 hz2 rfl _ _ _ rfl HRW.out (.int .i64 ((q + x : Nat) : Int)) rfl rfl hx1 hx2 hszr ?_; intro g4 c4 w4 hown4 hb4 _)
              go_roundw
              case rel =>
                refine ⟨k + 1, q + x, HK.out, hq2, by go_num, by go_num, HS.out.2, .inr HGE.out, ⟨⟨g4, c4, ?_⟩, ?_⟩, HB.out.trans hb4⟩
                · rw [sumsF_length, List.length_take, Nat.min_eq_left (by have := HKG.out; omega)]
                · rw [sumsF_length, List.length_take, Nat.min_eq_left (by have := HKG.out; omega), HS.out.1]
                  simpa [intCells] using hown4
              case measure => have := HK.out; simp [intOf]; omega
          · obtain rfl : k = mn := by omega
            have HP : Hid (placesOf k gaps = some (sumsF 0 gaps)) := by
              show _ = _
              unfold placesOf
              have e : gaps.take k = gaps := List.take_of_length_le (by rw [HGL.out]; exact Nat.le_refl _)
              have h1 := HQ.out
              rw [e] at h1
              rw [if_pos]
              rcases HLT.out with h | h
              · right
                exact List.length_eq_zero_iff.1 (by rw [HGL.out]; exact h)
              · left
                rw [← h1]
                exact h
            have HR2 : Hid (OutRow w2.heap.size (.slice (some ⟨g3, 0, none⟩) (sumsF 0 (gaps.take k)).length c3) (sumsF 0 gaps) wr) := by
              have := HR.out
              rw [List.take_of_length_le (by rw [HGL.out]; exact Nat.le_refl _)] at this ⊢
              exact this
            clear hrow
            go_wp2_with fail
            go_ret2
            rw [HP.out]
            exact ⟨_, rfl, ⟨HR2.out.1, ownsRow_mono HR2.out.2 HB2.out.size⟩, HB2.out.trans (HB.out.mono HB2.out.size)⟩

end Go.Proofs.YtcaejndpmagfaaaDoor
