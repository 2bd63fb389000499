/-
  The program's root of items.
-/
import Derived.Test.YtcoiafmjkkankaaDoorRootI
import Derived.Test.YtcoiafmjkkankaaDoorRootS3
import Derived.Test.YtcoiafmjkkankaaDoorItemsW
set_option linter.unusedVariables false
namespace Go.Proofs.YtcoiafmjkkankaaDoor
open Go.RowKit

theorem implSumNil (w : World) (hK : RowG w shaK) : Calls Tryd.prog 10 #[.string ⟨#[]⟩] w fun e w' => e = .returned (.string (bsum [])) ∧ Below w.heap.size w w' := by
  have h : ∀ t : ByteArray, t = ⟨#[]⟩ → Calls Tryd.prog 10 #[.string t] w fun e w' => e = .returned (.string (bsum t.data.toList)) ∧ Below w.heap.size w w' := by
    intro t ht
    exact implSum t w (by rw [ht]; decide) hK
  exact h ⟨#[]⟩ rfl
theorem rootL_nil {ss : List ByteArray} (h : ss = []) : rootL ss = bsum [] := by rw [rootL, if_pos h]
theorem rootL_cons {ss : List ByteArray} (h : ss ≠ []) : rootL ss = rootR (ss.map rootItemB) := by rw [rootL, if_neg h]

set_option maxHeartbeats 1000000 in
set_option maxRecDepth 100000 in
theorem implRootOf (g n cap : Nat) (ss : List ByteArray) (w : World) (h : AtS w g ss) (hn : n = ss.length) (hK : RowG w shaK) :
    Calls Tryd.prog 17 #[.slice (some ⟨g, 0, none⟩) n cap] w fun e w' => e = .returned (.string (rootOf ss)) ∧ Below w.heap.size w w' := by
  obtain ⟨i0, hi, hz0, hz1, hz2⟩ := info_parts infoStr
  have hit := implItemsOk g n cap ss w h hn
  cases hok : itemsOkB ss with
  | false =>
    rw [hok] at hit
    rw [rootOf_no hok]
    clear hok h hn hK
    go_enter Tryd.func17, Tryd.ntmps17
    go_wp2_with (go_at_call 44; refine hit.mono ?_; rintro e w1 ⟨rfl, rfl⟩)
    go_ret
    exact ⟨rfl, Below.refl _ _⟩
  | true =>
    rw [hok] at hit
    rw [rootOf_yes hok]
    have hn40 : n ≤ 40 := by rw [hn]; exact itemsOk_len hok
    have HKG : Hid (RowG w shaK) := hK
    by_cases h0 : n = 0
    · have hq : ((n : Int) == 0) = true := by simp [h0]
      rw [rootL_nil (List.length_eq_zero_iff.1 (by omega))]
      have hsum := implSumNil w hK
      generalize bsum [] = z at hsum
      clear hok h hn hK h0
      go_enter Tryd.func17, Tryd.ntmps17
      go_wp2_with (go_at_call 44; refine hit.mono ?_; rintro e w1 ⟨rfl, rfl⟩)
      refine hsum.mono ?_
      rintro e w2 ⟨rfl, b2⟩
      go_wp2_with fail
      go_ret
      exact ⟨rfl, b2⟩
    · have hq : ((n : Int) == 0) = false := by simp; omega
      have HN0 : Hid (n ≠ 0) := h0
      rw [rootL_cons (fun e => h0 (by rw [hn, e]; rfl))]
      have HA : Hid (AtS w g ss) := h
      have HN : Hid (n = ss.length) := hn
      have HS : Hid (∀ i, i < ss.length → (ss.getD i ByteArray.empty).size ≤ 1048576) := by
        intro i hi
        have := isItem_size (itemsOk_at hok i hi)
        omega
      have hmk := makeCapS n (by omega)
      obtain ⟨R, hR⟩ : ∃ R, R = rootR (ss.map rootItemB) := ⟨_, rfl⟩
      rw [← hR]
      have HR0 : Hid (R = rootR (ss.map rootItemB)) := hR
      have HW0 : Hid (SRow w.heap.size (.slice (some ⟨w.heap.size, 0, none⟩) 0 n) ((ss.take 0).map rootItemB) (w.alloc (.cells (sCells (List.replicate n ⟨#[]⟩)) 9))) := srow_cap w n (by omega)
      have HB0 : Hid (Below w.heap.size w (w.alloc (.cells (sCells (List.replicate n ⟨#[]⟩)) 9))) := (Below.refl _ w).alloc (Nat.le_refl _) _
      clear hok h hn hK h0 hR
      go_enter Tryd.func17, Tryd.ntmps17
      go_wp2_with (go_at_call 44; refine hit.mono ?_; rintro e w1 ⟨rfl, rfl⟩)
      clear hit hmk
      go_loopw [3, 18] (fun v i wr => ∃ (k : Nat), k ≤ n ∧ i = .int .i64 (k : Int) ∧ Hid (SRow w.heap.size v ((ss.take k).map rootItemB) wr) ∧ Hid (Below w.heap.size w wr)) (fun _ i _ => n - (intOf i).toNat)
      case atStart => exact ⟨0, by omega, rfl, HW0, HB0⟩
      case round =>
        clear HW0 HB0
        obtain ⟨k, hk, rfl, HR, HB⟩ := hrel
        obtain ⟨⟨g3, c3, rfl⟩, hrow⟩ := HR.out
        by_cases hlt : k < n
        · have hkl : k < ss.length := by rw [← HN.out]; exact hlt
          have hc : wr.cell? ⟨g, k, none⟩ = some (.string (ss.getD k ByteArray.empty)) := by
            rw [HB.out.cell (p := ⟨g, k, none⟩) HA.out.1]
            exact HA.out.2 k hkl
          have hsz := HS.out k hkl
          obtain ⟨z, hz⟩ : ∃ z, z = ss.getD k ByteArray.empty := ⟨_, rfl⟩
          rw [← hz] at hc hsz
          have HE : Hid ((ss.take (k + 1)).map rootItemB = (ss.take k).map rootItemB ++ [rootItemB z]) := by
            show _ = _
            rw [List.take_add_one, List.getElem?_eq_getElem hkl, List.map_append, hz, List.getD_eq_getElem?_getD, List.getElem?_eq_getElem hkl]
            rfl
          have hlen : ((ss.take k).map rootItemB).length = k := by simp; omega
          rw [hlen] at hrow ⊢
          have HRW : Hid (wr.ownsRow w.heap.size 9 1 (.slice (some ⟨g3, 0, none⟩) k c3) k (((ss.take k).map rootItemB).map Value.string)) := hrow
          have HLN : Hid (((ss.take k).map rootItemB).length = k) := hlen
          have HK : Hid (k + 1 ≤ n) := hlt
          have lk : (k : Int) < (n : Int) := by omega
          have hsum := implRootItem z wr hsz (HKG.out.below HB.out HKG.out.lt)
          generalize rootItemB z = rz at hsum HE
          clear hz hrow hlen hkl
          have hx1 : k + 1 ≤ maxLen := by unfold maxLen; omega
          have hx2 : (k + 1) * 16 ≤ 140737488355328 := by omega
          go_wp2_with fail
          refine hsum.mono ?_
          rintro e w1 ⟨rfl, b1⟩
          have HRW1 : Hid (w1.ownsRow w.heap.size 9 1 (.slice (some ⟨g3, 0, none⟩) k c3) k (((ss.take k).map rootItemB).map Value.string)) := row_below HRW.out b1
          have HB1 : Hid (Below w.heap.size w w1) := HB.out.trans (b1.mono HB.out.size)
          have hsz1 := HB1.out.size
          clear b1 hsum
          go_wp2_with (at_builtin; refine wp_app1 rfl _ _ 30 rfl w.heap.size 9 i0 (.string ⟨#[]⟩) 16 Tryd.underlying30 hi hz0 hz1 hz2 rfl _ _ _ rfl HRW1.out (.string rz) rfl rfl hx1 hx2 hsz1 ?_; intro g4 c4 w4 hown4 hb4 _)
          go_roundw
          case rel =>
            refine ⟨k + 1, HK.out, by go_num, ⟨⟨g4, c4, ?_⟩, ?_⟩, HB1.out.trans hb4⟩
            · rw [HE.out, List.length_append, HLN.out]; rfl
            · rw [HE.out, List.length_append, HLN.out, List.map_append]; exact hown4
          case measure => have := HK.out; simp [intOf]; omega
        · have HE : Hid ((ss.take k).map rootItemB = ss.map rootItemB) := by
            show _ = _
            rw [List.take_of_length_le (by rw [← HN.out]; omega)]
          have hle : ((ss.take k).map rootItemB).length ≤ c3 := by
            rcases hrow.2 with ⟨h5, _⟩ | ⟨g', cap', cur, hv, _, _, h6, _⟩
            · cases h5
            · simp only [Value.slice.injEq, Option.some.injEq, Addr.mk.injEq, and_true] at hv
              rw [hv.2.2]; exact h6
          have hlen : ((ss.take k).map rootItemB).length = n := by rw [HE.out, List.length_map]; exact HN.out.symm
          have hat := HR.out.at
          rw [HE.out] at hat
          rw [hlen] at hle ⊢
          have htop := implTop g3 n c3 (ss.map rootItemB) wr hat.1 (by rw [List.length_map]; exact HN.out) hle (by omega) HN0.out (rootItemB_16 ss) (HKG.out.below HB.out HKG.out.lt)
          rw [← HR0.out] at htop
          clear hrow hlen hat
          go_wp2_with fail
          refine htop.mono ?_
          rintro e w2 ⟨rfl, b2⟩
          go_wp2_with fail
          go_ret
          exact ⟨rfl, HB.out.trans (b2.mono HB.out.size)⟩

end Go.Proofs.YtcoiafmjkkankaaDoor
