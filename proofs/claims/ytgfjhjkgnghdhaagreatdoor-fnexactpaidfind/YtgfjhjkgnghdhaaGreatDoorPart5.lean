/-
  Texts that the last part needs, joined.
-/
import Derived.Test.YtgfjhjkgnghdhaaGreatDoorPart1
import Derived.Test.YtgfjhjkgnghdhaaGreatDoorPart2
import Derived.Test.YtgfjhjkgnghdhaaGreatDoorPart3
import Derived.Test.YtgfjhjkgnghdhaaGreatDoorPart4
import Derived.WalkKit
import Derived.Below
import Derived.ProofKit
import Derived.OpenShut
import Derived.ShutString
import Derived.ChangeOld
import Derived.ChangeArms
import Derived.WideShapes
import Derived.BigRegion
import Derived.Deep.RegionWith
import Derived.Deep.OwnRows
import Derived.Laws.Rows
import Derived.Laws.Strings
import Derived.Test.YtgfjhjkgnghdhaaGreatDoorProg
import Derived.Deep.RegionHeld3
set_option linter.unusedVariables false
namespace Go.Proofs.YtgfjhjkgnghdhaaGreatDoor
open Go.RowKit

theorem rootItemB_16 (ss : List ByteArray) : ∀ s ∈ ss.map rootItemB, s.size = 16 := by
  intro s hs
  obtain ⟨x, _, rfl⟩ := List.mem_map.1 hs
  exact bsum_size _
theorem sumNil (w : World) : Calls Tryz.prog 55 #[.string ⟨#[]⟩] w fun e w' => e = .returned (.string (bsum [])) ∧ Below w.heap.size w w' := by
  have h : ∀ t : ByteArray, t = ⟨#[]⟩ → Calls Tryz.prog 55 #[.string t] w fun e w' => e = .returned (.string (bsum t.data.toList)) ∧ Below w.heap.size w w' := by
    intro t ht
    exact specSum t w (by rw [ht]; decide)
  exact h ⟨#[]⟩ rfl
/-- The root of items that are ok. -/
def rootL (ss : List ByteArray) : ByteArray := if ss = [] then bsum [] else rootR (ss.map rootItemB)

set_option maxHeartbeats 1000000 in
set_option maxRecDepth 100000 in
theorem specRoot (g n cap : Nat) (ss : List ByteArray) (w : World) (h : AtS w g ss) (hn : n = ss.length) (hm : n ≤ 1000000) (hs : ∀ i, i < ss.length → (ss.getD i ByteArray.empty).size ≤ 1048576) :
    Calls Tryz.prog 40 #[.slice (some ⟨g, 0, none⟩) n cap] w fun e w' => e = .returned (.string (rootL ss)) ∧ Below w.heap.size w w' := by
  have hrow := specRow g n cap ss w h hn hm hs
  obtain ⟨R, hRR⟩ : ∃ R, R = rootL ss := ⟨_, rfl⟩
  rw [← hRR]
  have HRR : Hid (R = rootL ss) := hRR
  clear hRR
  obtain ⟨rows, hrows⟩ : ∃ rows, rows = ss.map rootItemB := ⟨_, rfl⟩
  have H16 : Hid (∀ s ∈ rows, s.size = 16) := by rw [hrows]; exact rootItemB_16 ss
  have HRL : Hid (rows.length = ss.length) := by show _ = _; rw [hrows, List.length_map]
  have HRZ : Hid (ss ≠ [] → R = rootR rows) := by
    intro hne
    rw [HRR.out, rootL, if_neg hne, hrows]
  have HR0 : Hid (ss = [] → R = bsum []) := by
    intro he
    rw [HRR.out, rootL, if_pos he]
  rw [← hrows] at hrow
  have HN : Hid (n = ss.length) := hn
  clear hrows HRR hn h hs
  go_enter Tryz.func40, Tryz.ntmps40
  go_wp2_with fail
  refine hrow.mono ?_
  rintro e w1 ⟨v, rfl, hr, b1⟩
  have HB1 : Hid (Below w.heap.size w w1) := b1
  obtain ⟨g1, c1, rfl⟩ := hr.1
  have hlen : rows.length = n := by rw [HRL.out]; exact HN.out.symm
  have HR1 : Hid (SRow w.heap.size (.slice (some ⟨g1, 0, none⟩) rows.length c1) rows w1) := hr
  have HL : Hid (rows.length = n) := hlen
  rw [hlen]
  by_cases h0 : n = 0
  · have hne : ((n : Int) == 0) = true := by simp [h0]
    have HE : Hid (R = bsum []) := HR0.out (List.length_eq_zero_iff.1 (by rw [← HN.out]; exact h0))
    have hsum := sumNil w1
    clear HR0 HRZ
    generalize bsum [] = z at HE hsum
    clear hrow hr b1 hlen h0
    go_wp2_with fail
    refine hsum.mono ?_
    rintro e w2 ⟨rfl, b2⟩
    clear hsum
    go_wp2_with fail
    go_ret
    rw [HE.out]
    exact ⟨rfl, HB1.out.trans (b2.mono HB1.out.size)⟩
  · have hne : ((n : Int) == 0) = false := by simp; omega
    have HE : Hid (R = rootR rows) := HRZ.out (fun e => h0 (by rw [HN.out, e]; rfl))
    clear HR0 HRZ
    have HN0 : Hid (n ≠ 0) := h0
    clear hrow hr b1 hlen h0
    go_wp2_with fail
    go_loopw [3] (fun v wr => ∃ (rs : List ByteArray) (g2 c2 m : Nat), v = .slice (some ⟨g2, 0, none⟩) m c2 ∧ m ≤ n ∧ Hid (m = rs.length ∧ m ≠ 0) ∧ Hid (SRow w.heap.size v rs wr) ∧ Hid (∀ s ∈ rs, s.size = 16) ∧ Hid (rootR rs = rootR rows) ∧ Hid (Below w.heap.size w wr)) (fun v _ => sliceLen2 v)
    case atStart =>
      refine ⟨rows, g1, c1, n, rfl, Nat.le_refl _, ⟨HL.out.symm, HN0.out⟩, ?_, H16, rfl, HB1⟩
      have := HR1.out
      rw [HL.out] at this
      exact this
    case round =>
      obtain ⟨rs, g2, c2, m, rfl, hmn, HM, HR, H6, HT, HB⟩ := hrel
      have hat := HR.out.at
      by_cases h1 : 1 < m
      · have h1' : (1 : Int) < (m : Int) := by omega
        have hup := specUp g2 m c2 rs wr hat.1 HM.out.1 (by omega) H6.out
        have HU : Hid (rootR (upR rs) = rootR rows) := by
          show _ = _
          rw [← HT.out]
          exact (rootR_up (by have := HM.out.1; omega)).symm
        have HUL : Hid ((upR rs).length < m ∧ (upR rs).length ≠ 0) := by
          have := upR_length rs
          have := HM.out.1
          exact ⟨by omega, by omega⟩
        have HU6 : Hid (∀ s ∈ upR rs, s.size = 16) := upR_16 rs H6.out
        clear hat
        go_wp2_with fail
        refine hup.mono ?_
        rintro e w2 ⟨v2, rfl, hr2, b2⟩
        obtain ⟨g3, c3, rfl⟩ := hr2.1
        have HR2 : Hid (SRow wr.heap.size (.slice (some ⟨g3, 0, none⟩) (upR rs).length c3) (upR rs) w2) := hr2
        have HB2 : Hid (Below w.heap.size w w2) := HB.out.trans (b2.mono HB.out.size)
        clear hup hr2 b2
        obtain ⟨m2, hm2⟩ : ∃ m2, m2 = (upR rs).length := ⟨_, rfl⟩
        rw [← hm2] at HR2 HUL ⊢
        have HM2 : Hid (m2 = (upR rs).length) := hm2
        clear hm2
        go_wp2_with fail
        go_roundw
        case rel => exact ⟨upR rs, g3, c3, m2, rfl, by have := HUL.out; omega, ⟨HM2.out, HUL.out.2⟩, HR2.out.mono HB.out.size, HU6, HU, HB2⟩
        case measure => have := HUL.out; simp [sliceLen2]; omega
      · have h1' : ¬ (1 : Int) < (m : Int) := by omega
        have hm1 : m = 1 := by have := HM.out.2; omega
        subst hm1
        have hc := hat.1.2 0 (by rw [← HM.out.1]; omega)
        have HV : Hid (rs.getD 0 ByteArray.empty = rootR rows) := by
          show _ = _
          rw [← HT.out, rootR_one (by rw [← HM.out.1]; omega)]
        generalize rs.getD 0 ByteArray.empty = z at hc HV
        clear hat
        go_wp2_with fail
        go_ret
        rw [HE.out, ← HV.out]
        exact ⟨rfl, HB.out⟩


/-- What RootOf answers. -/
def rootOf (ss : List ByteArray) : ByteArray := if itemsOkB ss = true then rootL ss else ⟨#[]⟩
theorem rootOf_yes {ss : List ByteArray} (h : itemsOkB ss = true) : rootOf ss = rootL ss := by rw [rootOf, if_pos h]
theorem rootOf_no {ss : List ByteArray} (h : itemsOkB ss = false) : rootOf ss = ⟨#[]⟩ := by rw [rootOf, if_neg (by rw [h]; decide)]
end Go.Proofs.YtgfjhjkgnghdhaaGreatDoor

set_option linter.unusedVariables false
namespace Go.Proofs.YtgfjhjkgnghdhaaGreatDoor
open Go.RowKit

theorem implSumNil (w : World) (hK : RowG w shaK) : Calls Tryz.prog 68 #[.string ⟨#[]⟩] w fun e w' => e = .returned (.string (bsum [])) ∧ Below w.heap.size w w' := by
  have h : ∀ t : ByteArray, t = ⟨#[]⟩ → Calls Tryz.prog 68 #[.string t] w fun e w' => e = .returned (.string (bsum t.data.toList)) ∧ Below w.heap.size w w' := by
    intro t ht
    exact implSum t w (by rw [ht]; decide) hK
  exact h ⟨#[]⟩ rfl
theorem rootL_nil {ss : List ByteArray} (h : ss = []) : rootL ss = bsum [] := by rw [rootL, if_pos h]
theorem rootL_cons {ss : List ByteArray} (h : ss ≠ []) : rootL ss = rootR (ss.map rootItemB) := by rw [rootL, if_neg h]

set_option maxHeartbeats 1000000 in
set_option maxRecDepth 100000 in
theorem implRootOf (g n cap : Nat) (ss : List ByteArray) (w : World) (h : AtS w g ss) (hn : n = ss.length) (hK : RowG w shaK) :
    Calls Tryz.prog 46 #[.slice (some ⟨g, 0, none⟩) n cap] w fun e w' => e = .returned (.string (rootOf ss)) ∧ Below w.heap.size w w' := by
  obtain ⟨i0, hi, hz0, hz1, hz2⟩ := info_parts infoStr
  have hit := implItemsOk g n cap ss w h hn
  cases hok : itemsOkB ss with
  | false =>
    rw [hok] at hit
    rw [rootOf_no hok]
    clear hok h hn hK
    go_enter Tryz.func46, Tryz.ntmps46
    go_wp2_with (go_at_call 67; refine hit.mono ?_; rintro e w1 ⟨rfl, rfl⟩)
    go_ret
    exact ⟨rfl, Below.refl _ _⟩
  | true =>
    rw [hok] at hit
    rw [rootOf_yes hok]
    have hn40 : n ≤ 40 := by rw [hn]; exact itemsOk_len hok
    have HKG : Hid (RowG w shaK) := hK
    by_cases h0 : n = 0
    · have hq : ((n : Int) == 0) = true := by simp [h0]
      rw [rootL_nil (List.length_eq_zero_iff.1 (by omega))]
      have hsum := implSumNil w hK
      generalize bsum [] = z at hsum
      clear hok h hn hK h0
      go_enter Tryz.func46, Tryz.ntmps46
      go_wp2_with (go_at_call 67; refine hit.mono ?_; rintro e w1 ⟨rfl, rfl⟩)
      refine hsum.mono ?_
      rintro e w2 ⟨rfl, b2⟩
      go_wp2_with fail
      go_ret
      exact ⟨rfl, b2⟩
    · have hq : ((n : Int) == 0) = false := by simp; omega
      have HN0 : Hid (n ≠ 0) := h0
      rw [rootL_cons (fun e => h0 (by rw [hn, e]; rfl))]
      have HA : Hid (AtS w g ss) := h
      have HN : Hid (n = ss.length) := hn
      have HS : Hid (∀ i, i < ss.length → (ss.getD i ByteArray.empty).size ≤ 1048576) := by
        intro i hi
        have := isItem_size (itemsOk_at hok i hi)
        omega
      have hmk := makeCapS n (by omega)
      obtain ⟨R, hR⟩ : ∃ R, R = rootR (ss.map rootItemB) := ⟨_, rfl⟩
      rw [← hR]
      have HR0 : Hid (R = rootR (ss.map rootItemB)) := hR
      have HW0 : Hid (SRow w.heap.size (.slice (some ⟨w.heap.size, 0, none⟩) 0 n) ((ss.take 0).map rootItemB) (w.alloc (.cells (sCells (List.replicate n ⟨#[]⟩)) 9))) := srow_cap w n (by omega)
      have HB0 : Hid (Below w.heap.size w (w.alloc (.cells (sCells (List.replicate n ⟨#[]⟩)) 9))) := (Below.refl _ w).alloc (Nat.le_refl _) _
      clear hok h hn hK h0 hR
      go_enter Tryz.func46, Tryz.ntmps46
      go_wp2_with (go_at_call 67; refine hit.mono ?_; rintro e w1 ⟨rfl, rfl⟩)
      clear hit hmk
      go_loopw [3, 18] (fun v i wr => ∃ (k : Nat), k ≤ n ∧ i = .int .i64 (k : Int) ∧ Hid (SRow w.heap.size v ((ss.take k).map rootItemB) wr) ∧ Hid (Below w.heap.size w wr)) (fun _ i _ => n - (intOf i).toNat)
      case atStart => exact ⟨0, by omega, rfl, HW0, HB0⟩
      case round =>
        clear HW0 HB0
        obtain ⟨k, hk, rfl, HR, HB⟩ := hrel
        obtain ⟨⟨g3, c3, rfl⟩, hrow⟩ := HR.out
        by_cases hlt : k < n
        · have hkl : k < ss.length := by rw [← HN.out]; exact hlt
          have hc : wr.cell? ⟨g, k, none⟩ = some (.string (ss.getD k ByteArray.empty)) := by
            rw [HB.out.cell (p := ⟨g, k, none⟩) HA.out.1]
            exact HA.out.2 k hkl
          have hsz := HS.out k hkl
          obtain ⟨z, hz⟩ : ∃ z, z = ss.getD k ByteArray.empty := ⟨_, rfl⟩
          rw [← hz] at hc hsz
          have HE : Hid ((ss.take (k + 1)).map rootItemB = (ss.take k).map rootItemB ++ [rootItemB z]) := by
            show _ = _
            rw [List.take_add_one, List.getElem?_eq_getElem hkl, List.map_append, hz, List.getD_eq_getElem?_getD, List.getElem?_eq_getElem hkl]
            rfl
          have hlen : ((ss.take k).map rootItemB).length = k := by simp; omega
          rw [hlen] at hrow ⊢
          have HRW : Hid (wr.ownsRow w.heap.size 9 1 (.slice (some ⟨g3, 0, none⟩) k c3) k (((ss.take k).map rootItemB).map Value.string)) := hrow
          have HLN : Hid (((ss.take k).map rootItemB).length = k) := hlen
          have HK : Hid (k + 1 ≤ n) := hlt
          have lk : (k : Int) < (n : Int) := by omega
          have hsum := implRootItem z wr hsz (HKG.out.below HB.out HKG.out.lt)
          generalize rootItemB z = rz at hsum HE
          clear hz hrow hlen hkl
          have hx1 : k + 1 ≤ maxLen := by unfold maxLen; omega
          have hx2 : (k + 1) * 16 ≤ 140737488355328 := by omega
          go_wp2_with fail
          refine hsum.mono ?_
          rintro e w1 ⟨rfl, b1⟩
          have HRW1 : Hid (w1.ownsRow w.heap.size 9 1 (.slice (some ⟨g3, 0, none⟩) k c3) k (((ss.take k).map rootItemB).map Value.string)) := row_below HRW.out b1
          have HB1 : Hid (Below w.heap.size w w1) := HB.out.trans (b1.mono HB.out.size)
          have hsz1 := HB1.out.size
          clear b1 hsum
          go_wp2_with (at_builtin; refine wp_app1 rfl _ _ 36 rfl w.heap.size 9 i0 (.string ⟨#[]⟩) 16 Tryz.underlying36 hi hz0 hz1 hz2 rfl _ _ _ rfl HRW1.out (.string rz) rfl rfl hx1 hx2 hsz1 ?_; intro g4 c4 w4 hown4 hb4 _)
          go_roundw
          case rel =>
            refine ⟨k + 1, HK.out, by go_num, ⟨⟨g4, c4, ?_⟩, ?_⟩, HB1.out.trans hb4⟩
            · rw [HE.out, List.length_append, HLN.out]; rfl
            · rw [HE.out, List.length_append, HLN.out, List.map_append]; exact hown4
          case measure => have := HK.out; simp [intOf]; omega
        · have HE : Hid ((ss.take k).map rootItemB = ss.map rootItemB) := by
            show _ = _
            rw [List.take_of_length_le (by rw [← HN.out]; omega)]
          have hle : ((ss.take k).map rootItemB).length ≤ c3 := by
            rcases hrow.2 with ⟨h5, _⟩ | ⟨g', cap', cur, hv, _, _, h6, _⟩
            · cases h5
            · simp only [Value.slice.injEq, Option.some.injEq, Addr.mk.injEq, and_true] at hv
              rw [hv.2.2]; exact h6
          have hlen : ((ss.take k).map rootItemB).length = n := by rw [HE.out, List.length_map]; exact HN.out.symm
          have hat := HR.out.at
          rw [HE.out] at hat
          rw [hlen] at hle ⊢
          have htop := implTop g3 n c3 (ss.map rootItemB) wr hat.1 (by rw [List.length_map]; exact HN.out) hle (by omega) HN0.out (rootItemB_16 ss) (HKG.out.below HB.out HKG.out.lt)
          rw [← HR0.out] at htop
          clear hrow hlen hat
          go_wp2_with fail
          refine htop.mono ?_
          rintro e w2 ⟨rfl, b2⟩
          go_wp2_with fail
          go_ret
          exact ⟨rfl, HB.out.trans (b2.mono HB.out.size)⟩

end Go.Proofs.YtgfjhjkgnghdhaaGreatDoor

set_option linter.unusedVariables false
namespace Go.Proofs.YtgfjhjkgnghdhaaGreatDoor
open Go.ChangeShapes Go.WideShapes Go.ChangeAt Go.RowKit Go.Deep

structure SideV where
  sum : ByteArray
  left : Bool
instance : Inhabited SideV := ⟨⟨⟨#[]⟩, false⟩⟩
def enSide (p : SideV) : List Value := [.string p.sum, .bool p.left]
abbrev AtSide (w : World) (g : Nat) (l : List SideV) : Prop := AtF enSide 2 w g l
theorem AtSide.c0 {w : World} {g : Nat} {l : List SideV} (h : AtSide w g l) (i : Nat) (hi : i < l.length) : w.cell? ⟨g, i * 2, none⟩ = some (.string (l.getD i default).sum) := h.2 i 0 hi (by decide)
theorem AtSide.c1 {w : World} {g : Nat} {l : List SideV} (h : AtSide w g l) (i : Nat) (hi : i < l.length) : w.cell? ⟨g, i * 2 + 1, none⟩ = some (.bool (l.getD i default).left) := h.2 i 1 hi (by decide)
end Go.Proofs.YtgfjhjkgnghdhaaGreatDoor

set_option linter.unusedVariables false
namespace Go.Proofs.YtgfjhjkgnghdhaaGreatDoor
open Go.RowKit Go.Deep

theorem sameB (a b : ByteArray) : (a.toList == b.toList) = decide (a = b) := by
  rw [Bool.eq_iff_iff, beq_iff_eq, decide_eq_true_eq, ByteArray.toList_eq, ByteArray.toList_eq]
  constructor
  · intro h
    exact ByteArray.ext (by simpa using h)
  · intro h
    rw [h]
end Go.Proofs.YtgfjhjkgnghdhaaGreatDoor

set_option linter.unusedVariables false
namespace Go.Proofs.YtgfjhjkgnghdhaaGreatDoor

section
variable {P : Program} {l : List Oper} {Q : Exit → Act → World → Prop} {md : Region.Mode} {S : World → Prop}
theorem takeL (i : Nat) {oi : Oper} {v : Value} {fuel : Nat} {listed : Array Bool} {a : Act} {w : World} (hi : l[i]? = some oi)
    (hs : Region.noSelect l.toArray = true) (hf : Region.free md l.toArray listed i = true) (hr : (Region.ready md l.toArray listed).contains i = true)
    (hQ : ∀ c a w, Q (.panic c) (a.put oi.dst v) w → Q (.panic c) a w) (hw : Region.wanted oi (yielded l.toArray a.tmps) = true) (hy : ∀ w, S w → (execOp a.eval oi).run P w = .ok (.value v) w) (hS : S w)
    (h : wpAnyH P md l.toArray Q S fuel (listed.setIfInBounds i true) (a.put oi.dst v) w) : wpAnyH P md l.toArray Q S (fuel + 1) listed a w :=
  wpAnyH_take (by simpa using hi) hs hf hr hQ (Or.inl ⟨hw, hy⟩) hS h
theorem skipL (i : Nat) {oi : Oper} {fuel : Nat} {listed : Array Bool} {a : Act} {w : World} (hi : l[i]? = some oi)
    (hs : Region.noSelect l.toArray = true) (hf : Region.free md l.toArray listed i = true) (hr : (Region.ready md l.toArray listed).contains i = true)
    (hQ : ∀ c a w, Q (.panic c) (a.put oi.dst undef) w → Q (.panic c) a w) (hw : Region.wanted oi (yielded l.toArray a.tmps) = false) (hS : S w)
    (h : wpAnyH P md l.toArray Q S fuel (listed.setIfInBounds i true) (a.put oi.dst undef) w) : wpAnyH P md l.toArray Q S (fuel + 1) listed a w :=
  wpAnyH_take (by simpa using hi) hs hf hr hQ (Or.inr ⟨hw, rfl⟩) hS h
theorem callL (i : Nat) {o : Oper} {fuel : Nat} {listed : Array Bool} {a : Act} {w : World} (ho : l[i]? = some o) (hr : Region.ready md l.toArray listed = [i])
    (h : ∀ K' : Act → World → Prop, Shut (∀ a w, S w → (S w → wpAnyH P md l.toArray Q S fuel (listed.setIfInBounds i true) a w) → K' a w) → if Region.wanted o (yielded l.toArray a.tmps) = true then Oper.wp P o a w K' Q else K' (a.put o.dst undef) w) : wpAnyH P md l.toArray Q S (fuel + 1) listed a w :=
  wpAnyH_ready hr (by simp) (AllReadyH.cons (by simpa using ho) h AllReadyH.nil)
end

end Go.Proofs.YtgfjhjkgnghdhaaGreatDoor

