/-
  The specification's root of items.
-/
import Derived.Test.YtcoiafmjkkankaaDoorRootS2
import Derived.Test.YtcoiafmjkkankaaDoorItemsW
set_option linter.unusedVariables false
namespace Go.Proofs.YtcoiafmjkkankaaDoor
open Go.RowKit

theorem rootItemB_16 (ss : List ByteArray) : ∀ s ∈ ss.map rootItemB, s.size = 16 := by
  intro s hs
  obtain ⟨x, _, rfl⟩ := List.mem_map.1 hs
  exact bsum_size _
theorem sumNil (w : World) : Calls Tryd.prog 26 #[.string ⟨#[]⟩] w fun e w' => e = .returned (.string (bsum [])) ∧ Below w.heap.size w w' := by
  have h : ∀ t : ByteArray, t = ⟨#[]⟩ → Calls Tryd.prog 26 #[.string t] w fun e w' => e = .returned (.string (bsum t.data.toList)) ∧ Below w.heap.size w w' := by
    intro t ht
    exact specSum t w (by rw [ht]; decide)
  exact h ⟨#[]⟩ rfl
/-- The root of items that are ok. -/
def rootL (ss : List ByteArray) : ByteArray := if ss = [] then bsum [] else rootR (ss.map rootItemB)

set_option maxHeartbeats 1000000 in
set_option maxRecDepth 100000 in
theorem specRoot (g n cap : Nat) (ss : List ByteArray) (w : World) (h : AtS w g ss) (hn : n = ss.length) (hm : n ≤ 1000000) (hs : ∀ i, i < ss.length → (ss.getD i ByteArray.empty).size ≤ 1048576) :
    Calls Tryd.prog 43 #[.slice (some ⟨g, 0, none⟩) n cap] w fun e w' => e = .returned (.string (rootL ss)) ∧ Below w.heap.size w w' := by
  have hrow := specRow g n cap ss w h hn hm hs
  obtain ⟨R, hRR⟩ : ∃ R, R = rootL ss := ⟨_, rfl⟩
  rw [← hRR]
  have HRR : Hid (R = rootL ss) := hRR
  clear hRR
  obtain ⟨rows, hrows⟩ : ∃ rows, rows = ss.map rootItemB := ⟨_, rfl⟩
  have H16 : Hid (∀ s ∈ rows, s.size = 16) := by rw [hrows]; exact rootItemB_16 ss
  have HRL : Hid (rows.length = ss.length) := by show _ = _; rw [hrows, List.length_map]
  have HRZ : Hid (ss ≠ [] → R = rootR rows) := by
    intro hne
    rw [HRR.out, rootL, if_neg hne, hrows]
  have HR0 : Hid (ss = [] → R = bsum []) := by
    intro he
    rw [HRR.out, rootL, if_pos he]
  rw [← hrows] at hrow
  have HN : Hid (n = ss.length) := hn
  clear hrows HRR hn h hs
  go_enter Tryd.func43, Tryd.ntmps43
  go_wp2_with fail
  refine hrow.mono ?_
  rintro e w1 ⟨v, rfl, hr, b1⟩
  have HB1 : Hid (Below w.heap.size w w1) := b1
  obtain ⟨g1, c1, rfl⟩ := hr.1
  have hlen : rows.length = n := by rw [HRL.out]; exact HN.out.symm
  have HR1 : Hid (SRow w.heap.size (.slice (some ⟨g1, 0, none⟩) rows.length c1) rows w1) := hr
  have HL : Hid (rows.length = n) := hlen
  rw [hlen]
  by_cases h0 : n = 0
  · have hne : ((n : Int) == 0) = true := by simp [h0]
    have HE : Hid (R = bsum []) := HR0.out (List.length_eq_zero_iff.1 (by rw [← HN.out]; exact h0))
    have hsum := sumNil w1
    clear HR0 HRZ
    generalize bsum [] = z at HE hsum
    clear hrow hr b1 hlen h0
    go_wp2_with fail
    refine hsum.mono ?_
    rintro e w2 ⟨rfl, b2⟩
    clear hsum
    go_wp2_with fail
    go_ret
    rw [HE.out]
    exact ⟨rfl, HB1.out.trans (b2.mono HB1.out.size)⟩
  · have hne : ((n : Int) == 0) = false := by simp; omega
    have HE : Hid (R = rootR rows) := HRZ.out (fun e => h0 (by rw [HN.out, e]; rfl))
    clear HR0 HRZ
    have HN0 : Hid (n ≠ 0) := h0
    clear hrow hr b1 hlen h0
    go_wp2_with fail
    go_loopw [3] (fun v wr => ∃ (rs : List ByteArray) (g2 c2 m : Nat), v = .slice (some ⟨g2, 0, none⟩) m c2 ∧ m ≤ n ∧ Hid (m = rs.length ∧ m ≠ 0) ∧ Hid (SRow w.heap.size v rs wr) ∧ Hid (∀ s ∈ rs, s.size = 16) ∧ Hid (rootR rs = rootR rows) ∧ Hid (Below w.heap.size w wr)) (fun v _ => sliceLen2 v)
    case atStart =>
      refine ⟨rows, g1, c1, n, rfl, Nat.le_refl _, ⟨HL.out.symm, HN0.out⟩, ?_, H16, rfl, HB1⟩
      have := HR1.out
      rw [HL.out] at this
      exact this
    case round =>
      obtain ⟨rs, g2, c2, m, rfl, hmn, HM, HR, H6, HT, HB⟩ := hrel
      have hat := HR.out.at
      by_cases h1 : 1 < m
      · have h1' : (1 : Int) < (m : Int) := by omega
        have hup := specUp g2 m c2 rs wr hat.1 HM.out.1 (by omega) H6.out
        have HU : Hid (rootR (upR rs) = rootR rows) := by
          show _ = _
          rw [← HT.out]
          exact (rootR_up (by have := HM.out.1; omega)).symm
        have HUL : Hid ((upR rs).length < m ∧ (upR rs).length ≠ 0) := by
          have := upR_length rs
          have := HM.out.1
          exact ⟨by omega, by omega⟩
        have HU6 : Hid (∀ s ∈ upR rs, s.size = 16) := upR_16 rs H6.out
        clear hat
        go_wp2_with fail
        refine hup.mono ?_
        rintro e w2 ⟨v2, rfl, hr2, b2⟩
        obtain ⟨g3, c3, rfl⟩ := hr2.1
        have HR2 : Hid (SRow wr.heap.size (.slice (some ⟨g3, 0, none⟩) (upR rs).length c3) (upR rs) w2) := hr2
        have HB2 : Hid (Below w.heap.size w w2) := HB.out.trans (b2.mono HB.out.size)
        clear hup hr2 b2
        obtain ⟨m2, hm2⟩ : ∃ m2, m2 = (upR rs).length := ⟨_, rfl⟩
        rw [← hm2] at HR2 HUL ⊢
        have HM2 : Hid (m2 = (upR rs).length) := hm2
        clear hm2
        go_wp2_with fail
        go_roundw
        case rel => exact ⟨upR rs, g3, c3, m2, rfl, by have := HUL.out; omega, ⟨HM2.out, HUL.out.2⟩, HR2.out.mono HB.out.size, HU6, HU, HB2⟩
        case measure => have := HUL.out; simp [sliceLen2]; omega
      · have h1' : ¬ (1 : Int) < (m : Int) := by omega
        have hm1 : m = 1 := by have := HM.out.2; omega
        subst hm1
        have hc := hat.1.2 0 (by rw [← HM.out.1]; omega)
        have HV : Hid (rs.getD 0 ByteArray.empty = rootR rows) := by
          show _ = _
          rw [← HT.out, rootR_one (by rw [← HM.out.1]; omega)]
        generalize rs.getD 0 ByteArray.empty = z at hc HV
        clear hat
        go_wp2_with fail
        go_ret
        rw [HE.out, ← HV.out]
        exact ⟨rfl, HB.out⟩


/-- What RootOf answers. -/
def rootOf (ss : List ByteArray) : ByteArray := if itemsOkB ss = true then rootL ss else ⟨#[]⟩
theorem rootOf_yes {ss : List ByteArray} (h : itemsOkB ss = true) : rootOf ss = rootL ss := by rw [rootOf, if_pos h]
theorem rootOf_no {ss : List ByteArray} (h : itemsOkB ss = false) : rootOf ss = ⟨#[]⟩ := by rw [rootOf, if_neg (by rw [h]; decide)]
set_option maxHeartbeats 1000000 in
set_option maxRecDepth 100000 in
theorem specRootOf (g n cap : Nat) (ss : List ByteArray) (w : World) (h : AtS w g ss) (hn : n = ss.length) (hm : n ≤ 1073741824) (hs : ∀ i, i < ss.length → (ss.getD i ByteArray.empty).size ≤ 1048576) :
    Calls Tryd.prog 15 #[.slice (some ⟨g, 0, none⟩) n cap] w fun e w' => e = .returned (.string (rootOf ss)) ∧ Below w.heap.size w w' := by
  have hit := specItems g n cap ss w h hn hm (fun i hi => by have := hs i hi; unfold maxLen; omega)
  cases hok : itemsOkB ss with
  | false =>
    rw [hok] at hit
    rw [rootOf_no hok]
    clear hok h hn hs hm
    go_enter Tryd.func15, Tryd.ntmps15
    go_wp2_with (go_at_call 42; refine hit.mono ?_; rintro e w1 ⟨rfl, rfl⟩)
    go_ret
    exact ⟨rfl, Below.refl _ _⟩
  | true =>
    have hroot := specRoot g n cap ss w h hn (by have := itemsOk_len hok; omega) hs
    rw [hok] at hit
    rw [rootOf_yes hok]
    generalize rootL ss = R at hroot
    clear hok h hn hs hm
    go_enter Tryd.func15, Tryd.ntmps15
    go_wp2_with (go_at_call 42; refine hit.mono ?_; rintro e w1 ⟨rfl, rfl⟩)
    refine hroot.mono ?_
    rintro e w2 ⟨rfl, b2⟩
    go_wp2_with fail
    go_ret
    exact ⟨rfl, b2⟩

end Go.Proofs.YtcoiafmjkkankaaDoor
