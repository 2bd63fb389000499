/-
  The program's row above a row, and what a row comes to.
-/
import Derived.Test.YtcoiafmjkkankaaDoorRootS2
import Derived.Test.YtcoiafmjkkankaaDoorShaI6
set_option linter.unusedVariables false
namespace Go.Proofs.YtcoiafmjkkankaaDoor
open Go.RowKit

set_option maxHeartbeats 1000000 in
set_option maxRecDepth 100000 in
theorem implRootItem (z : ByteArray) (w : World) (hz : z.size ≤ 1048576) (hK : RowG w shaK) :
    Calls Tryd.prog 45 #[.string z] w fun e w' => e = .returned (.string (rootItemB z)) ∧ Below w.heap.size w w' := by
  have hsum := implSum ((⟨#[105, 116, 101, 109, 32]⟩ : ByteArray) ++ z) w (by
    simp only [ByteArray.size_append]
    have e1 : (⟨#[105, 116, 101, 109, 32]⟩ : ByteArray).size = 5 := rfl
    omega) hK
  have et : ((⟨#[105, 116, 101, 109, 32]⟩ : ByteArray) ++ z).data.toList = [105, 116, 101, 109, 32] ++ z.data.toList := by simp
  rw [et] at hsum
  have er : (⟨(sumB ([105, 116, 101, 109, 32] ++ z.data.toList)).toArray⟩ : ByteArray) = rootItemB z := rfl
  rw [er] at hsum
  generalize rootItemB z = rz at hsum
  clear et er hK
  go_enter Tryd.func45, Tryd.ntmps45
  go_wp2_with fail
  refine hsum.mono ?_
  rintro e w1 ⟨rfl, b1⟩
  go_wp2_with fail
  go_ret
  exact ⟨rfl, b1⟩

set_option maxHeartbeats 1000000 in
set_option maxRecDepth 100000 in
theorem implRootBoth (a b : ByteArray) (w : World) (ha : a.size = 16) (hb : b.size = 16) (hK : RowG w shaK) :
    Calls Tryd.prog 47 #[.string a, .string b] w fun e w' => e = .returned (.string (bothB a b)) ∧ Below w.heap.size w w' := by
  have hsum := implSum ((⟨#[98, 111, 116, 104, 32]⟩ : ByteArray) ++ a ++ (⟨#[32]⟩ : ByteArray) ++ b) w (by
    simp only [ByteArray.size_append]
    have e1 : (⟨#[98, 111, 116, 104, 32]⟩ : ByteArray).size = 5 := rfl
    have e2 : (⟨#[32]⟩ : ByteArray).size = 1 := rfl
    omega) hK
  have et : ((⟨#[98, 111, 116, 104, 32]⟩ : ByteArray) ++ a ++ (⟨#[32]⟩ : ByteArray) ++ b).data.toList = [98, 111, 116, 104, 32] ++ a.data.toList ++ [32] ++ b.data.toList := by simp
  rw [et] at hsum
  have er : (⟨(sumB ([98, 111, 116, 104, 32] ++ a.data.toList ++ [32] ++ b.data.toList)).toArray⟩ : ByteArray) = bothB a b := rfl
  rw [er] at hsum
  generalize bothB a b = rz at hsum
  clear et er hK
  go_enter Tryd.func47, Tryd.ntmps47
  go_wp2_with fail
  refine hsum.mono ?_
  rintro e w1 ⟨rfl, b1⟩
  go_wp2_with fail
  go_ret
  exact ⟨rfl, b1⟩

theorem drop_news {w : World} {g : Nat} {ss : List ByteArray} (h : AtS w g ss) (k r off : Nat) (hk : k + r = ss.length) (ho : 0 < r → off = k) : ∀ j u, ((ss.drop k).map Value.string)[j]? = some u → w.cell? ((⟨g, off, none⟩ : Addr).add j) = some u := by
  intro j u hu
  have hj : j < r := by
    have := (List.getElem?_eq_some_iff.1 hu).1
    simp at this
    omega
  have e := ho (by omega)
  subst e
  have hc := h.2 (off + j) (by omega)
  have e2 : ((ss.drop off).map Value.string)[j]? = some (.string (ss.getD (off + j) ByteArray.empty)) := by
    rw [List.getElem?_map, List.getElem?_drop, List.getElem?_eq_getElem (by omega)]
    simp [List.getElem?_eq_getElem (show off + j < ss.length by omega)]
  rw [e2] at hu
  rw [← hu, ← hc]
  rcases j with _ | j
  · simp [Addr.add]
  · simp [Addr.add]

set_option maxHeartbeats 4000000 in
set_option maxRecDepth 100000 in
theorem implAbove (g n cap : Nat) (ss : List ByteArray) (w : World) (h : AtS w g ss) (hn : n = ss.length) (hc : n ≤ cap) (hm : n ≤ 1000000) (hs : ∀ s ∈ ss, s.size = 16) (hK : RowG w shaK) :
    Calls Tryd.prog 72 #[.slice (some ⟨g, 0, none⟩) n cap, .func (.func 47) #[] #[]] w fun e w' => ∃ v, e = .returned v ∧ SRow w.heap.size v (upR ss) w' ∧ Below w.heap.size w w' := by
  obtain ⟨i0, hi, hz0, hz1, hz2⟩ := info_parts infoStr
  have HA : Hid (AtS w g ss) := h
  have HN : Hid (n = ss.length) := hn
  have HKG : Hid (RowG w shaK) := hK
  have HS : Hid (∀ i, i < ss.length → (ss.getD i ByteArray.empty).size = 16) := by
    intro i hi
    refine hs _ ?_
    simp [List.getElem?_eq_getElem hi]
  obtain ⟨m2, hm2⟩ : ∃ m2, m2 = (n + 1) / 2 := ⟨_, rfl⟩
  have hmk := makeCapS m2 (by omega)
  have hq : ((n : Int) + 1) / 2 = (m2 : Int) := by omega
  have HW0 : Hid (SRow w.heap.size (.slice (some ⟨w.heap.size, 0, none⟩) 0 m2) (upR (ss.take 0)) (w.alloc (.cells (sCells (List.replicate m2 ⟨#[]⟩)) 9))) := srow_cap w m2 (by omega)
  have HB0 : Hid (Below w.heap.size w (w.alloc (.cells (sCells (List.replicate m2 ⟨#[]⟩)) 9))) := (Below.refl _ w).alloc (Nat.le_refl _) _
  clear h hn hs hK hm2
  go_enter Tryd.func72, Tryd.ntmps72
  go_wp2_with fail
  clear hmk hq
  go_loopw [0, 5] (fun rv av wr => ∃ (k r off c1 ml c3 g3 : Nat), rv = .slice (some ⟨g, off, none⟩) r c1 ∧ av = .slice (some ⟨g3, 0, none⟩) ml c3 ∧ r ≤ c1 ∧ r ≤ n ∧ ml ≤ n ∧ Hid (k + r = n ∧ k % 2 = 0 ∧ (0 < r → off = k) ∧ ml = (upR (ss.take k)).length) ∧ Hid (SRow w.heap.size av (upR (ss.take k)) wr) ∧ Hid (Below w.heap.size w wr)) (fun rv _ _ => sliceLen2 rv)
  case atStart => exact ⟨0, n, 0, cap, 0, m2, w.heap.size, rfl, rfl, hc, Nat.le_refl _, Nat.zero_le _, ⟨by omega, rfl, fun _ => rfl, rfl⟩, HW0, HB0⟩
  case round =>
    clear HW0 HB0
    obtain ⟨k, r, off, c1, ml, c3, g3, rfl, rfl, hrc, hrn, hmln, HX, HR, HB⟩ := hrel
    have HRW : Hid (wr.ownsRow w.heap.size 9 1 (.slice (some ⟨g3, 0, none⟩) ml c3) ml ((upR (ss.take k)).map Value.string)) := by
      have := HR.out.2
      rw [← HX.out.2.2.2] at this
      exact this
    have hszr := HB.out.size
    have hgw : g < wr.heap.size := Nat.lt_of_lt_of_le HA.out.1 hszr
    have hne : g ≠ g3 := by
      rcases HRW.out.2 with ⟨h2, _⟩ | ⟨g', cap', cur, hv, h2, _⟩
      · cases h2
      · simp only [Value.slice.injEq, Option.some.injEq, Addr.mk.injEq, and_true] at hv
        have := HA.out.1
        omega
    have hx1 : ml + 1 ≤ maxLen := by unfold maxLen; omega
    have hx2 : (ml + 1) * 16 ≤ 140737488355328 := by omega
    by_cases h1 : 1 < r
    · obtain rfl : off = k := HX.out.2.2.1 (by omega)
      have hkl2 : off + 1 < ss.length := by have := HX.out.1; have := HN.out; omega
      have hkl : off < ss.length := by omega
      have hc0 : wr.cell? ⟨g, off, none⟩ = some (.string (ss.getD off ByteArray.empty)) := by
        rw [HB.out.cell (p := ⟨g, off, none⟩) HA.out.1]
        exact HA.out.2 off hkl
      have hc2 : wr.cell? ⟨g, off + 1, none⟩ = some (.string (ss.getD (off + 1) ByteArray.empty)) := by
        rw [HB.out.cell (p := ⟨g, off + 1, none⟩) HA.out.1]
        exact HA.out.2 (off + 1) hkl2
      have hs1 := HS.out off hkl
      have hs2 := HS.out (off + 1) hkl2
      have HE : Hid (upR (ss.take (off + 2)) = upR (ss.take off) ++ [bothB (ss.getD off ByteArray.empty) (ss.getD (off + 1) ByteArray.empty)]) := take_two ss off hkl2 HX.out.2.1
      generalize ss.getD off ByteArray.empty = a at hc0 hs1 HE
      generalize ss.getD (off + 1) ByteArray.empty = b at hc2 hs2 HE
      have h1' : (1 : Int) < (r : Int) := by omega
      have h0' : (0 : Int) < (r : Int) := by omega
      have h0'' : 0 < r := by omega
      have hKr : RowG wr shaK := HKG.out.below HB.out HKG.out.lt
      have HKr : Hid (RowG wr.drew shaK) := hKr.drew
      have hr2 : (2 : Int) ≤ (r : Int) ∧ (r : Int) ≤ (c1 : Int) := by omega
      clear hkl hkl2 hKr
      go_wp2_with fail
      go_region_held3 (fun w' => w'.cell? ⟨g, off, none⟩ = some (.string a) ∧ w'.cell? ⟨g, off + 1, none⟩ = some (.string b)) (first | go_keep | (exact ⟨(b1.cell (p := ⟨g, off, none⟩) hgw).trans hc0, (b1.cell (p := ⟨g, off + 1, none⟩) hgw).trans hc2⟩) | (have hfar : w4.heap[g]? = w1.heap[g]? := (hgrow4.block g (by simp; omega) (by simpa [Value.ownBlock] using hne)).trans (Below.heap_alloc _ _ _ (by omega)); exact ⟨(World.cell?_of_block (a := ⟨g, off, none⟩) hfar).trans ((b1.cell (p := ⟨g, off, none⟩) hgw).trans hc0), (World.cell?_of_block (a := ⟨g, off + 1, none⟩) hfar).trans ((b1.cell (p := ⟨g, off + 1, none⟩) hgw).trans hc2)⟩))
        (first
          | (go_at_call 47; refine (implRootBoth a b _ hs1 hs2 HKr.out).mono ?_; rintro e w1 ⟨rfl, b0⟩; have b1 : Below wr.heap.size wr w1 := ((Below.refl wr.heap.size wr).drew).trans b0; have hb1s : wr.heap.size ≤ w1.heap.size := b1.size; clear b0)
          | ((refine step_append_lies _ (by rfl) _ _ 30 (by rfl) w.heap.size 9 i0 (.string ⟨#[]⟩) 1 16 Tryd.underlying30 hi hz0 hz1 hz2 rfl (by decide) _ ml _ (by rfl) (World.ownsRow.alloc (row_below HRW.out b1) _) ⟨w1.heap.size, 0, none⟩ 1 1 [.string (bothB a b)] (by rfl) rfl (cell_one_new _ _ _) (by simp [Value.oneCell']) (by decide) hx1 hx2 (by simp; omega) _ rfl ?_; intro g4 c4 w4 hown4 hgrow4 hat4 hlt4)))
      have hb4 : Below w.heap.size w w4 := ((HB.out.trans (b1.mono hszr)).alloc (by omega) _).grown hgrow4 (by simp; omega) (fun j hj => by
        rcases HRW.out.2 with ⟨h2, _⟩ | ⟨g', cap', cur, hv, h2, _⟩
        · cases h2
        · simp only [Value.slice.injEq, Option.some.injEq, Addr.mk.injEq, and_true] at hv
          have : g3 = j := by simpa [Value.ownBlock] using hj
          omega)
      have HLN : Hid (ml + 1 = (upR (ss.take (off + 2))).length) := by
        show _ = _
        rw [HE.out, List.length_append, ← HX.out.2.2.2]; rfl
      have HR4 : Hid (SRow w.heap.size (.slice (some ⟨g4, 0, none⟩) (ml + 1) c4) (upR (ss.take (off + 2))) w4) := by
        refine ⟨⟨g4, c4, ?_⟩, ?_⟩
        · rw [← HLN.out]
        · rw [← HLN.out, HE.out, List.map_append]; exact hown4
      have HML : Hid (ml + 1 ≤ n) := by
        have h3 := upR_length (ss.take (off + 2))
        have h4 := HLN.out
        have h5 := HX.out.1
        have h6 : (ss.take (off + 2)).length ≤ off + 2 := by simp; omega
        show _ ≤ _
        omega
      clear hown4 hgrow4 hat4 hlt4 b1
      by_cases hc12 : c1 = 2
      · obtain rfl : r = 2 := by omega
        subst hc12
        go_wp2_with fail
        go_roundw
        case rel =>
          refine ⟨off + 2, 0, _, _, ml + 1, c4, g4, rfl, rfl, by omega, by omega, HML.out, ⟨by have := HX.out.1; omega, by have := HX.out.2.1; omega, fun h => by omega, HLN.out⟩, HR4, hb4⟩
        case measure => simp [sliceLen2]
      · have hc12' : ¬ (c1 : Int) = 2 := by omega
        go_wp2_with fail
        go_roundw
        case rel =>
          refine ⟨off + 2, r - 2, _, _, ml + 1, c4, g4, rfl, rfl, by omega, by omega, HML.out, ⟨by have := HX.out.1; omega, by have := HX.out.2.1; omega, fun h => rfl, HLN.out⟩, HR4, hb4⟩
        case measure => simp [sliceLen2]; omega
    · have h1' : ¬ (1 : Int) < (r : Int) := by omega
      have HE : Hid (upR ss = upR (ss.take k) ++ ss.drop k) := take_rest ss k (by have := HX.out.1; have := HN.out; omega) HX.out.2.1 (by have := HX.out.1; have := HN.out; omega)
      have hnews := drop_news (HA.out.below HB.out HA.out.1) k r off (by have := HX.out.1; have := HN.out; omega) HX.out.2.2.1
      have HLD : Hid (((ss.drop k).map Value.string).length = r * 1) := by
        have := HX.out.1
        have := HN.out
        show _ = _
        simp
        omega
      have h1c : ∀ u ∈ (ss.drop k).map Value.string, u.oneCell' = true := by
        intro u hu
        obtain ⟨x, _, rfl⟩ := List.mem_map.1 hu
        rfl
      have hx3 : ml + r ≤ maxLen := by unfold maxLen; omega
      have hx4 : (ml + r) * 16 ≤ 140737488355328 := by omega
      have HNE : Hid ((upR ss).map Value.string = (upR (ss.take k)).map Value.string ++ (ss.drop k).map Value.string ∧ (upR ss).length = ml + r) := by
        have h3 := HX.out.1
        have h4 := HN.out
        rw [HE.out]
        refine ⟨by rw [List.map_append], ?_⟩
        rw [List.length_append, ← HX.out.2.2.2]
        simp
        omega
      generalize (ss.drop k).map Value.string = news at hnews HLD h1c HNE
      go_wp2_with (at_builtin; refine wpList_append_own _ rfl _ _ 30 rfl w.heap.size 9 i0 (.string ⟨#[]⟩) 1 16 Tryd.underlying30 hi hz0 hz1 hz2 rfl (by decide) (.slice (some ⟨g3, 0, none⟩) ml c3) ml _ rfl HRW.out ⟨g, off, none⟩ r c1 news rfl HLD.out hnews h1c hx3 hx4 hszr ?_; intro v' w4 hown4 hgrow4 hnil4)
      have hb4 : Below w.heap.size w w4 := HB.out.grown hgrow4 hszr (fun j hj => by
        rcases HRW.out.2 with ⟨h2, _⟩ | ⟨g', cap', cur, hv, h2, _⟩
        · cases h2
        · simp only [Value.slice.injEq, Option.some.injEq, Addr.mk.injEq, and_true] at hv
          have : g3 = j := by simpa [Value.ownBlock] using hj
          omega)
      obtain ⟨g4, c4, rfl⟩ : ∃ g4 c4, v' = .slice (some ⟨g4, 0, none⟩) (ml + r) c4 := by
        rcases hown4.2 with ⟨h2, _⟩ | ⟨g', cap', cur, hv, _⟩
        · have := (hnil4.1 h2).1
          cases this
        · exact ⟨g', cap', hv⟩
      have HR4 : Hid (SRow w.heap.size (.slice (some ⟨g4, 0, none⟩) (ml + r) c4) (upR ss) w4) := by
        refine ⟨⟨g4, c4, ?_⟩, ?_⟩
        · rw [HNE.out.2]
        · rw [HNE.out.2, HNE.out.1]; exact hown4
      clear hown4 hgrow4 hnil4
      go_wp2_with fail
      go_ret
      exact ⟨_, rfl, HR4.out, hb4⟩


set_option maxHeartbeats 1000000 in
set_option maxRecDepth 100000 in
theorem implTop (g n cap : Nat) (ss : List ByteArray) (w : World) (h : AtS w g ss) (hn : n = ss.length) (hc : n ≤ cap) (hm : n ≤ 1000000) (h0 : n ≠ 0) (hs : ∀ s ∈ ss, s.size = 16) (hK : RowG w shaK) :
    Calls Tryd.prog 46 #[.slice (some ⟨g, 0, none⟩) n cap, .func (.func 47) #[] #[]] w fun e w' => e = .returned (.string (rootR ss)) ∧ Below w.heap.size w w' := by
  obtain ⟨R, hR⟩ : ∃ R, R = rootR ss := ⟨_, rfl⟩
  rw [← hR]
  have HT0 : Hid (rootR ss = R) := hR.symm
  have HA0 : Hid (AtS w g ss) := h
  have HN0 : Hid (n = ss.length ∧ n ≠ 0) := ⟨hn, h0⟩
  have H60 : Hid (∀ s ∈ ss, s.size = 16) := hs
  have HKG : Hid (RowG w shaK) := hK
  clear hR h hn hs hK h0
  go_enter Tryd.func46, Tryd.ntmps46
  go_wp2_with fail
  go_loopw [0] (fun v wr => ∃ (rs : List ByteArray) (g2 c2 m : Nat), v = .slice (some ⟨g2, 0, none⟩) m c2 ∧ m ≤ n ∧ m ≤ c2 ∧ Hid (m = rs.length ∧ m ≠ 0) ∧ Hid (AtS wr g2 rs) ∧ Hid (∀ s ∈ rs, s.size = 16) ∧ Hid (rootR rs = R) ∧ Hid (Below w.heap.size w wr)) (fun v _ => sliceLen2 v)
  case atStart => exact ⟨ss, g, cap, n, rfl, Nat.le_refl _, hc, HN0, HA0, H60, HT0, Below.refl _ _⟩
  case round =>
    obtain ⟨rs, g2, c2, m, rfl, hmn, hmc, HM, HA, H6, HT, HB⟩ := hrel
    by_cases h1 : 1 < m
    · have h1' : (1 : Int) < (m : Int) := by omega
      have hup := implAbove g2 m c2 rs wr HA.out HM.out.1 hmc (by omega) H6.out (HKG.out.below HB.out HKG.out.lt)
      have HU : Hid (rootR (upR rs) = R) := by
        show _ = _
        rw [← HT.out]
        exact (rootR_up (by have := HM.out.1; omega)).symm
      have HUL : Hid ((upR rs).length < m ∧ (upR rs).length ≠ 0) := by
        have := upR_length rs
        have := HM.out.1
        exact ⟨by omega, by omega⟩
      have HU6 : Hid (∀ s ∈ upR rs, s.size = 16) := upR_16 rs H6.out
      go_wp2_with fail
      refine hup.mono ?_
      rintro e w2 ⟨v2, rfl, hr2, b2⟩
      have hle : ∃ g3 c3, v2 = .slice (some ⟨g3, 0, none⟩) (upR rs).length c3 ∧ (upR rs).length ≤ c3 := by
        obtain ⟨⟨g3, c3, rfl⟩, _, h5⟩ := hr2
        rcases h5 with ⟨h5, _⟩ | ⟨g', cap', cur, hv, _, _, h6, _⟩
        · cases h5
        · simp only [Value.slice.injEq, Option.some.injEq, Addr.mk.injEq, and_true] at hv
          obtain ⟨rfl, _, rfl⟩ := hv
          exact ⟨g3, c3, rfl, h6⟩
      obtain ⟨g3, c3, rfl, hlc⟩ := hle
      have HA2 : Hid (AtS w2 g3 (upR rs)) := hr2.at.1
      have HB2 : Hid (Below w.heap.size w w2) := HB.out.trans (b2.mono HB.out.size)
      clear hup hr2 b2
      obtain ⟨mm, hmm⟩ : ∃ mm, mm = (upR rs).length := ⟨_, rfl⟩
      rw [← hmm] at HUL hlc ⊢
      have HMM : Hid (mm = (upR rs).length) := hmm
      clear hmm
      go_wp2_with fail
      go_roundw
      case rel => exact ⟨upR rs, g3, c3, mm, rfl, by have := HUL.out; omega, hlc, ⟨HMM.out, HUL.out.2⟩, HA2, HU6, HU, HB2⟩
      case measure => have := HUL.out; simp [sliceLen2]; omega
    · have h1' : ¬ (1 : Int) < (m : Int) := by omega
      have hm1 : m = 1 := by have := HM.out.2; omega
      subst hm1
      have hc0 := HA.out.2 0 (by rw [← HM.out.1]; omega)
      have HV : Hid (rs.getD 0 ByteArray.empty = R) := by
        show _ = _
        rw [← HT.out, rootR_one (by rw [← HM.out.1]; omega)]
      generalize rs.getD 0 ByteArray.empty = z at hc0 HV
      go_wp2_with fail
      go_ret
      rw [← HV.out]
      exact ⟨rfl, HB.out⟩

end Go.Proofs.YtcoiafmjkkankaaDoor
