/-
  Texts that the last part needs, joined.
-/
import Derived.Test.YtoifgpmbeicmnaaGreatDoorPart1
import Derived.Test.YtoifgpmbeicmnaaGreatDoorPart2
import Derived.Test.YtoifgpmbeicmnaaGreatDoorPart3
import Derived.Test.YtoifgpmbeicmnaaGreatDoorPart4
import Derived.Test.YtoifgpmbeicmnaaGreatDoorPart5
import Derived.Test.YtoifgpmbeicmnaaGreatDoorPart6
import Derived.Test.YtoifgpmbeicmnaaGreatDoorPart7
import Derived.Test.YtoifgpmbeicmnaaGreatDoorPart8
import Derived.Test.YtoifgpmbeicmnaaGreatDoorPart9
import Derived.Deep.Cut
import Derived.Deep.RegionWith
import Derived.Deep.RegionHeld3
import Derived.Laws.Strings
set_option linter.unusedVariables false
namespace Go.Proofs.YtoifgpmbeicmnaaGreatDoor
open Go.RowKit Go.Deep

def lenS : Value → Nat
  | .slice _ n _ => n
  | _ => 0
theorem own_atS {w : World} {B g m c : Nat} {rs : List ByteArray} (h : w.ownsRow B 9 1 (.slice (some ⟨g, 0, none⟩) m c) m (rs.map Value.string)) (hm : m = rs.length) : AtS w g rs := by
  subst hm
  exact (SRow.at (B := B) (cap := c) ⟨⟨g, c, rfl⟩, h⟩).1
theorem stn2 : (89 : TypeId) ≠ 9 := by decide
theorem sts2 : (9 : TypeId) ≠ 89 := by decide
theorem sidesR_len (f : Nat) (ss : List ByteArray) (x : Nat) (h : x < ss.length) : (sidesR f ss x).length ≤ 2 * ss.length := by
  rw [← noteT_mk f ss x h]
  have := noteT_len f (mkN ss 0 x)
  rwa [mkN_len] at this
theorem srow_side (w : World) : (w.alloc (.cells #[] 89)).ownsRow w.heap.size 89 2 (.slice (some ⟨w.heap.size, 0, none⟩) 0 0) 0 (([] : List SideV).flatMap enSide) := (frow_new enSide 89 2 w).2
set_option maxHeartbeats 8000000 in
set_option maxRecDepth 100000 in
theorem specL3Proof (g n cap : Nat) (ss : List ByteArray) (X : Nat) (w : World) (h : AtS w g ss) (hn : n = ss.length) (hm : n ≤ 40) (hX : X < ss.length) (hs : ∀ i, i < ss.length → (ss.getD i ByteArray.empty).size ≤ 1048576) :
    Calls Tryz.prog 39 #[.slice (some ⟨g, 0, none⟩) n cap, .int .i64 (X : Int)] w fun e w' => ∃ v, e = .returned v ∧ Sds w.heap.size v (sidesR n (ss.map rootItemB) X) w' ∧ Below w.heap.size w w' := by
  obtain ⟨i0, hi, hz0, hz1, hz2⟩ := info3 infoSide
  have hb0 : Below w.heap.size w (w.alloc (.cells #[] 89)) := (Below.refl _ w).alloc (Nat.le_refl _) _
  have O0 : Hid ((w.alloc (.cells #[] 89)).ownsRow w.heap.size 89 2 (.slice (some ⟨w.heap.size, 0, none⟩) 0 0) 0 (([] : List SideV).flatMap enSide)) := srow_side w
  have B0 : Hid (Below w.heap.size w (w.alloc (.cells #[] 89))) := hb0
  have hrow := specRow g n cap ss (w.alloc (.cells #[] 89)) (h.below hb0 h.1) hn (by omega) hs
  have H6 : Hid (∀ s ∈ ss.map rootItemB, s.size = 16) := rootItemB_16 ss
  have HLN : Hid ((ss.map rootItemB).length = n) := by show _ = _; rw [List.length_map]; exact hn.symm
  have HX : Hid (X < n ∧ n ≤ 40) := ⟨by omega, hm⟩
  obtain ⟨N, hN⟩ : ∃ N, N = sidesR n (ss.map rootItemB) X := ⟨_, rfl⟩
  have HNL : Hid (N.length ≤ 80) := by
    show _ ≤ _
    have h1 := sidesR_len n (ss.map rootItemB) X (by rw [List.length_map]; exact hX)
    rw [← hN, List.length_map] at h1
    omega
  have HT0 : Hid (sidesR n (ss.map rootItemB) X = N) := hN.symm
  rw [← hN]
  generalize ss.map rootItemB = r0 at hrow H6 HLN HT0
  clear hN
  obtain ⟨Q, hQ⟩ : ∃ Q : Ending → World → Prop, Q = fun e w' => ∃ v, e = .returned v ∧ Sds w.heap.size v N w' ∧ Below w.heap.size w w' := ⟨_, rfl⟩
  have HQ : Hid (∀ (v : Value) (w' : World), w'.ownsRow w.heap.size 89 2 v N.length (N.flatMap enSide) → Below w.heap.size w w' → Q (.returned v) w') := fun v w' h1 h2 => by rw [hQ]; exact ⟨v, rfl, sds_own h1, h2⟩
  show Calls _ _ _ _ (fun e w' => ∃ v, e = .returned v ∧ Sds w.heap.size v N w' ∧ Below w.heap.size w w')
  rw [← hQ]
  clear hQ h hn hm hX hs hb0
  go_enter Tryz.func39, Tryz.ntmps39
  go_wp2_with fail
  refine hrow.mono ?_
  rintro e w1 ⟨v1, rfl, hr1, b1⟩
  obtain ⟨⟨g1, c1, rfl⟩, hr1'⟩ := hr1
  rw [HLN.out] at hr1' ⊢
  have R1 : Hid (w1.ownsRow w.heap.size 9 1 (.slice (some ⟨g1, 0, none⟩) n c1) n (r0.map Value.string)) := ownE_mono hr1' B0.out.size
  have O1 : Hid (w1.ownsRow w.heap.size 89 2 (.slice (some ⟨w.heap.size, 0, none⟩) 0 0) 0 (([] : List SideV).flatMap enSide)) := ownE_below O0.out b1
  have B1 : Hid (Below w.heap.size w w1) := B0.out.trans (b1.mono B0.out.size)
  clear hrow hr1' b1 O0 B0
  go_wp2_with fail
  go_loopw [1, 5, 6] (fun at5 out row wr => ∃ (y f m c2 g2 m5 g5 c5 : Nat) (rs : List ByteArray) (o : List SideV), at5 = .int .i64 (y : Int) ∧ out = .slice (some ⟨g5, 0, none⟩) m5 c5 ∧ row = .slice (some ⟨g2, 0, none⟩) m c2 ∧ m ≤ 40 ∧ Hid (m = rs.length ∧ y < m ∧ m ≤ f ∧ o.length = m5) ∧ Hid (wr.ownsRow w.heap.size 89 2 (.slice (some ⟨g5, 0, none⟩) m5 c5) m5 (o.flatMap enSide)) ∧ Hid (wr.ownsRow w.heap.size 9 1 (.slice (some ⟨g2, 0, none⟩) m c2) m (rs.map Value.string)) ∧ Hid (∀ s ∈ rs, s.size = 16) ∧ Hid (o ++ sidesR f rs y = N) ∧ Hid (Below w.heap.size w wr)) (fun _ _ row _ => lenS row)
  case atStart => exact ⟨X, n, n, c1, g1, 0, w.heap.size, 0, r0, [], rfl, rfl, rfl, HX.out.2, ⟨HLN.out.symm, HX.out.1, Nat.le_refl _, rfl⟩, O1, R1, H6, HT0, B1⟩
  case round =>
    clear O1 R1 H6 HT0 B1
    obtain ⟨y, f, m, c2, g2, m5, g5, c5, rs, o, rfl, rfl, rfl, hm40, HM, OW, RW, H6, HT, HB⟩ := hrel
    by_cases h1 : 1 < m
    · have hn1 : (1 : Int) < (m : Int) := by omega
      obtain ⟨f', hf'⟩ : ∃ f', f = f' + 1 := ⟨f - 1, by have := HM.out; omega⟩
      subst hf'
      obtain ⟨q, hq⟩ : ∃ q, q = y % 2 := ⟨_, rfl⟩
      obtain ⟨z, hz⟩ : ∃ z, z = y + 1 - q * 2 := ⟨_, rfl⟩
      have hml : ¬ rs.length ≤ 1 := by rw [← HM.out.1]; omega
      have HS : Hid (sidesR (f' + 1) rs y = (if z < m then [⟨rs.getD z ByteArray.empty, decide (z < y)⟩] else []) ++ sidesR f' (upR rs) (y / 2)) := by
        show _ = _
        rw [sidesR_step hml, sideV, if_pos (by omega), ← hq, ← hz, ← HM.out.1]
        simp
      have hym := HM.out.2.1
      have hq2 : q < 2 := by omega
      have hr1 : Int.tmod (y : Int) 2 = (q : Int) := by rw [hq]; rfl
      have hr2 : (y : Int) % 2 = (q : Int) := by omega
      have hw1 : IntKind.i64.wrap ((y : Int) + 1) = (y : Int) + 1 := by rw [IntKind.wrap_i64]; omega
      have hw2 : IntKind.i64.wrap ((q : Int) * 2) = (q : Int) * 2 := by rw [IntKind.wrap_i64]; omega
      have hw3 : IntKind.i64.wrap ((y : Int) + 1 - (q : Int) * 2) = (z : Int) := by rw [IntKind.wrap_i64]; omega
      have hwq : IntKind.i64.wrap (q : Int) = (q : Int) := by rw [IntKind.wrap_i64]; omega
      have hd1 : Int.tdiv (y : Int) 2 = ((y / 2 : Nat) : Int) := rfl
      have HUL : Hid (y / 2 < (upR rs).length ∧ (upR rs).length ≤ f' ∧ (upR rs).length < m) := by
        have h3 := upR_length rs
        have h4 := HM.out
        exact ⟨by omega, by omega, by omega⟩
      have HM1 : Hid (m ≤ 40 ∧ y < m) := ⟨hm40, hym⟩
      have HU6 : Hid (∀ s ∈ upR rs, s.size = 16) := upR_16 rs H6.out
      have HML : Hid (m = rs.length) := HM.out.1
      have HOL : Hid (o.length = m5) := HM.out.2.2.2
      have HO80 : Hid (m5 ≤ 80) := by
        show _ ≤ _
        have h2 := congrArg List.length HT.out
        rw [List.length_append] at h2
        have h3 := HNL.out
        have h4 := HOL.out
        omega
      have HUP : Hid (∀ w', AtS w' g2 rs → Calls Tryz.prog 72 #[.slice (some ⟨g2, 0, none⟩) m c2] w' fun e w'' => ∃ v, e = .returned v ∧ SRow w'.heap.size v (upR rs) w'' ∧ Below w'.heap.size w' w'') := fun w' h => specUp g2 m c2 rs w' h HM.out.1 (by omega) H6.out
      clear hq hz hml HM H6
      by_cases hzm : z < m
      · have lz1 : (z : Int) < (m : Int) := by omega
        have lz0 : (0 : Int) ≤ (z : Int) := by omega
        have c0 : wr.cell? ⟨g2, z, none⟩ = some (.string (rs.getD z ByteArray.empty)) := (own_atS RW.out HML.out).2 z (by rw [← HML.out]; exact hzm)
        have HT2 : Hid ((o ++ [⟨rs.getD z ByteArray.empty, decide (z < y)⟩]) ++ sidesR f' (upR rs) (y / 2) = N) := by
          show _ = _
          rw [← HT.out, HS.out, if_pos hzm, List.append_assoc]
        generalize rs.getD z ByteArray.empty = t at c0 HT2
        have hu := enSide_one (⟨t, decide (z < y)⟩ : SideV)
        have hx1 : m5 + 1 ≤ maxLen := by have := HO80.out; unfold maxLen; omega
        have hx2 : (m5 + 1) * 24 ≤ 140737488355328 := by have := HO80.out; omega
        have hsz := HB.out.size
        clear HS HT
        go_upto_region 7 with (at_builtin; refine wp_appN rfl _ _ 29 rfl w.heap.size 89 i0 (.agg #[.string ⟨#[]⟩, .bool false]) 2 24 1 Tryz.underlying29 hi hz0 hz1 hz2 rfl (by decide) (by decide) _ _ _ rfl OW.out (enSide ⟨t, decide (z < y)⟩) (by first | rfl | simp [Act.eval]) rfl hu hx1 hx2 hsz ?_; intro g7 c7 w7 hown7 hb7 hkeep7)
        obtain ⟨o7, ho7⟩ : ∃ o7, o7 = o ++ [⟨t, decide (z < y)⟩] := ⟨_, rfl⟩
        have O7 : Hid (w7.ownsRow w.heap.size 89 2 (.slice (some ⟨g7, 0, none⟩) (m5 + 1) c7) (m5 + 1) (o7.flatMap enSide)) := by
          have h5 : w7.ownsRow w.heap.size 89 2 (.slice (some ⟨g7, 0, none⟩) (m5 + 1) c7) (m5 + 1) (o7.flatMap enSide) := by
            rw [ho7, List.flatMap_append]
            simpa using hown7
          exact h5
        have HO7 : Hid (o7.length = m5 + 1) := by show _ = _; rw [ho7, List.length_append, HOL.out]; rfl
        have HT7 : Hid (o7 ++ sidesR f' (upR rs) (y / 2) = N) := by show _ = _; rw [ho7]; exact HT2.out
        have R7 : Hid (w7.ownsRow w.heap.size 9 1 (.slice (some ⟨g2, 0, none⟩) m c2) m (rs.map Value.string)) := ownE_keep RW.out (fun b hv hlt => by
          obtain ⟨⟨cur, hc⟩, _⟩ := ownE_is RW.out hv
          exact hkeep7 b hlt (ownE_ne OW.out hc sts2))
        have B7 : Hid (Below w.heap.size w w7) := HB.out.trans hb7
        have hup := HUP.out w7 (own_atS R7.out HML.out)
        clear ho7 hown7 hb7 hkeep7 OW RW HB c0 hu hx1 hx2 hsz HT2 HUP hr1 hr2 hw1 hw2 hw3 hwq lz1 lz0 hzm
        go_wp2_with fail
        refine hup.mono ?_
        rintro e w9 ⟨v9, rfl, hr9, b9⟩
        obtain ⟨⟨g9, c9, rfl⟩, hr9'⟩ := hr9
        have R9 : Hid (w9.ownsRow w.heap.size 9 1 (.slice (some ⟨g9, 0, none⟩) (upR rs).length c9) (upR rs).length ((upR rs).map Value.string)) := ownE_mono hr9' B7.out.size
        have O9 : Hid (w9.ownsRow w.heap.size 89 2 (.slice (some ⟨g7, 0, none⟩) (m5 + 1) c7) (m5 + 1) (o7.flatMap enSide)) := ownE_below O7.out b9
        have B9 : Hid (Below w.heap.size w w9) := B7.out.trans (b9.mono B7.out.size)
        clear hup b9 hr9' R7 O7 B7
        obtain ⟨mm, hmm⟩ : ∃ mm, mm = (upR rs).length := ⟨_, rfl⟩
        rw [← hmm] at R9 HUL ⊢
        have HMM : Hid (mm = (upR rs).length) := hmm
        clear hmm
        go_wp2_with fail
        go_roundw
        case rel => exact ⟨y / 2, f', mm, c9, g9, (m5 + 1), g7, c7, upR rs, o7, congrArg (Value.int .i64) (by omega), rfl, rfl, by have h1 := HUL.out; have h2 := HM1.out; omega, ⟨HMM.out, HUL.out.1, HUL.out.2.1, HO7.out⟩, O9, R9, HU6, HT7, B9⟩
        case measure => have h1 := HUL.out; simp [lenS]; omega
      · have lz1 : ¬ (z : Int) < (m : Int) := by omega
        have HT7 : Hid (o ++ sidesR f' (upR rs) (y / 2) = N) := by
          show _ = _
          rw [← HT.out, HS.out, if_neg hzm]
          rfl
        have O7 : Hid (wr.ownsRow w.heap.size 89 2 (.slice (some ⟨g5, 0, none⟩) m5 c5) m5 (o.flatMap enSide)) := OW.out
        have R7 : Hid (wr.ownsRow w.heap.size 9 1 (.slice (some ⟨g2, 0, none⟩) m c2) m (rs.map Value.string)) := RW.out
        have B7 : Hid (Below w.heap.size w wr) := HB.out
        have HO7 : Hid (o.length = m5) := HOL.out
        have hup := HUP.out wr (own_atS RW.out HML.out)
        clear HS HT OW RW HB HUP
        generalize o = o7 at HT7 O7 HO7
        go_wp2_with fail
        refine hup.mono ?_
        rintro e w9 ⟨v9, rfl, hr9, b9⟩
        obtain ⟨⟨g9, c9, rfl⟩, hr9'⟩ := hr9
        have R9 : Hid (w9.ownsRow w.heap.size 9 1 (.slice (some ⟨g9, 0, none⟩) (upR rs).length c9) (upR rs).length ((upR rs).map Value.string)) := ownE_mono hr9' B7.out.size
        have O9 : Hid (w9.ownsRow w.heap.size 89 2 (.slice (some ⟨g5, 0, none⟩) m5 c5) m5 (o7.flatMap enSide)) := ownE_below O7.out b9
        have B9 : Hid (Below w.heap.size w w9) := B7.out.trans (b9.mono B7.out.size)
        clear hup b9 hr9' R7 O7 B7
        obtain ⟨mm, hmm⟩ : ∃ mm, mm = (upR rs).length := ⟨_, rfl⟩
        rw [← hmm] at R9 HUL ⊢
        have HMM : Hid (mm = (upR rs).length) := hmm
        clear hmm
        go_wp2_with fail
        go_roundw
        case rel => exact ⟨y / 2, f', mm, c9, g9, m5, g5, c5, upR rs, o7, congrArg (Value.int .i64) (by omega), rfl, rfl, by have h1 := HUL.out; have h2 := HM1.out; omega, ⟨HMM.out, HUL.out.1, HUL.out.2.1, HO7.out⟩, O9, R9, HU6, HT7, B9⟩
        case measure => have h1 := HUL.out; simp [lenS]; omega
    · have hn1 : ¬ (1 : Int) < (m : Int) := by omega
      have HTN : Hid (o = N) := by
        have h2 := HT.out
        rwa [sidesR_done (by rw [← HM.out.1]; omega), List.append_nil] at h2
      have HFQ : Hid (Q (.returned (.slice (some ⟨g5, 0, none⟩) m5 c5)) wr) := HQ.out _ wr (by rw [← HTN.out, HM.out.2.2.2]; exact OW.out) HB.out
      clear HT HM OW RW H6 HB
      go_wp2_with fail
      exact HFQ.out
end Go.Proofs.YtoifgpmbeicmnaaGreatDoor

set_option linter.unusedVariables false
namespace Go.Proofs.YtoifgpmbeicmnaaGreatDoor
open Go.RowKit Go.Deep

theorem SdBk.lt {w : World} {g n : Nat} (h : SdBk w g n) : g < w.heap.size := by
  obtain ⟨cur, h1, _⟩ := h
  rcases Nat.lt_or_ge g w.heap.size with h' | h'
  · exact h'
  · simp [Array.getElem?_eq_none h'] at h1
theorem SdBk.keep {w w' : World} {g n : Nat} (h : SdBk w g n) (hk : w'.heap[g]? = w.heap[g]?) : SdBk w' g n := by
  obtain ⟨cur, h1, h2⟩ := h
  exact ⟨cur, hk.trans h1, h2⟩
theorem SdBk.below {w w' : World} {g n B : Nat} (h : SdBk w g n) (hb : Below B w w') (hg : g < B) : SdBk w' g n := h.keep (hb.block g hg)
theorem SdBk.cell {w : World} {g n : Nat} (h : SdBk w g n) (i : Nat) (hi : i < n * 2) : (∃ v, w.cell? ⟨g, i, none⟩ = some v) ∧ w.frozen? ⟨g, i, none⟩ = false := by
  obtain ⟨cur, h1, h2⟩ := h
  refine ⟨?_, Lib.frozen_of_heap h1 i⟩
  rw [Lib.cell_of_heap h1]
  have hic : i < cur.size := by omega
  exact ⟨cur[i], Array.getElem?_eq_getElem hic⟩
theorem SdBk.set {w : World} {g n : Nat} (h : SdBk w g n) (i : Nat) (v : Value) : SdBk (w.setCell ⟨g, i, none⟩ v) g n := by
  obtain ⟨cur, h1, h2⟩ := h
  exact ⟨cur.setIfInBounds i v, by simp [World.setCell, Array.getElem?_modify, h1], by simpa using h2⟩
theorem cellSetOtherS {w : World} {g i j : Nat} {v : Value} (h : i ≠ j) : (w.setCell ⟨g, i, none⟩ v).cell? ⟨g, j, none⟩ = w.cell? ⟨g, j, none⟩ := by
  simp [World.setCell, World.cell?, Array.getElem?_modify]
  cases hh : w.heap[g]? with
  | none => simp
  | some o => cases o <;> simp [h]
theorem SdBk.cellSet {w : World} {g n : Nat} (h : SdBk w g n) (i : Nat) (hi : i < n * 2) (v : Value) : (w.setCell ⟨g, i, none⟩ v).cell? ⟨g, i, none⟩ = some v := by
  obtain ⟨cur, h1, h2⟩ := h
  have : (w.setCell ⟨g, i, none⟩ v).heap[g]? = some (.cells (cur.setIfInBounds i v) 89 (0, 0)) := by simp [World.setCell, Array.getElem?_modify, h1]
  rw [Lib.cell_of_heap this]
  have : i < cur.size := by omega
  simp [this]
def b3 (m : Nat) : Bool := decide (m % 3 = 0)
theorem b3_int (m : Nat) : (((m % 3 : Nat) : Int) == 0) = b3 m := by
  rw [b3, Bool.eq_iff_iff]
  simp only [beq_iff_eq, decide_eq_true_eq]
  omega
/-- A list that holds its marks, so far. -/
def MkSd (w : World) (g k n : Nat) : Prop := ∀ i, i < n → w.cell? ⟨g, i * 2, none⟩ = some (.string (mkS (k + 2 * i))) ∧ w.cell? ⟨g, i * 2 + 1, none⟩ = some (.bool (b3 (k + 2 * i + 1)))
theorem MkSd.below {w w' : World} {g k n B : Nat} (h : MkSd w g k n) (hb : Below B w w') (hg : g < B) : MkSd w' g k n := fun i hi =>
  ⟨(hb.cell (p := ⟨g, i * 2, none⟩) hg).trans (h i hi).1, (hb.cell (p := ⟨g, i * 2 + 1, none⟩) hg).trans (h i hi).2⟩
theorem MkSd.step {w : World} {g k j n : Nat} (h : MkSd w g k j) (hb : SdBk w g n) (hj : j < n) : MkSd ((w.setCell ⟨g, j * 2, none⟩ (.string (mkS (k + 2 * j)))).setCell ⟨g, j * 2 + 1, none⟩ (.bool (b3 (k + 2 * j + 1)))) g k (j + 1) := by
  intro i hi
  rcases Nat.lt_or_ge i j with h' | h'
  · obtain ⟨h1, h2⟩ := h i h'
    refine ⟨?_, ?_⟩
    · rw [cellSetOtherS (by omega), cellSetOtherS (by omega)]; exact h1
    · rw [cellSetOtherS (by omega), cellSetOtherS (by omega)]; exact h2
  · obtain rfl : i = j := by omega
    refine ⟨?_, ?_⟩
    · rw [cellSetOtherS (by omega)]; exact hb.cellSet _ (by omega) _
    · exact (hb.set _ _).cellSet _ (by omega) _
theorem setOffS {w wr : World} {g j : Nat} {v : Value} (h : ∀ c, c < w.heap.size → c ≠ g → wr.heap[c]? = w.heap[c]?) : ∀ c, c < w.heap.size → c ≠ g → (wr.setCell ⟨g, j, none⟩ v).heap[c]? = w.heap[c]? := fun c hc hne => by
  rw [← h c hc hne]
  simp [World.setCell, Array.getElem?_modify, Ne.symm hne]
def MSdPost (g n k : Nat) (w : World) (e : Ending) (w' : World) : Prop := e = .returned (.int .i64 ((k + 2 * n : Nat) : Int)) ∧ MkSd w' g k n ∧ (∀ c, c < w.heap.size → c ≠ g → w'.heap[c]? = w.heap[c]?) ∧ Below 0 w w' ∧ SdBk w' g n
set_option maxHeartbeats 2000000 in
set_option maxRecDepth 100000 in
theorem markSides (g n cap k : Nat) (w : World) (h : SdBk w g n) (hn : n ≤ 1048576) (hk : k ≤ 1000000000) :
    Calls Tryz.prog 30 #[.slice (some ⟨g, 0, none⟩) n cap, .int .i64 (k : Int)] w fun e w' => MSdPost g n k w e w' := by
  have H0 : Hid (SdBk w g n) := h
  clear h
  have HQ : Hid (∀ e w', e = .returned (.int .i64 ((k + 2 * n : Nat) : Int)) → MkSd w' g k n → (∀ c, c < w.heap.size → c ≠ g → w'.heap[c]? = w.heap[c]?) → Below 0 w w' → SdBk w' g n → MSdPost g n k w e w') := fun e w' h1 h2 h3 h4 h5 => ⟨h1, h2, h3, h4, h5⟩
  generalize MSdPost g n k w = Q at HQ ⊢
  go_enter Tryz.func30, Tryz.ntmps30
  go_wp2_with fail
  go_loopw [1, 5] (fun m i wr => ∃ j : Nat, j ≤ n ∧ i = .int .i64 (j : Int) ∧ m = .int .i64 ((k + 2 * j : Nat) : Int) ∧ Hid (SdBk wr g n ∧ MkSd wr g k j ∧ (∀ c, c < w.heap.size → c ≠ g → wr.heap[c]? = w.heap[c]?) ∧ Below 0 w wr)) (fun _ i _ => n - (intOf i).toNat)
  case atStart => exact ⟨0, by omega, rfl, rfl, H0.out, fun i hi => by omega, fun c _ _ => rfl, Below.refl _ _⟩
  case round =>
    clear H0
    obtain ⟨j, hj, rfl, rfl, HS⟩ := hrel
    by_cases hlt : j < n
    · have hmk := markText (k + 2 * j) (by omega) wr
      have lj : (j : Int) < (n : Int) := by omega
      have lj0 : (0 : Int) ≤ (j : Int) := by omega
      have HK1 : Hid (j + 1 ≤ n) := hlt
      have hgl := HS.out.1.lt
      obtain ⟨m, hm⟩ : ∃ m, m = k + 2 * j := ⟨_, rfl⟩
      have HM : Hid (m = k + 2 * j) := hm
      have HM1 : Hid (((m : Int) + 1 + 1) = ((k + 2 * (j + 1) : Nat) : Int)) := by show _ = _; omega
      rw [← hm] at hmk ⊢
      have wk : IntKind.i64.wrap ((m : Int) + 1) = (m : Int) + 1 := by rw [IntKind.wrap_i64]; omega
      have wk2 : IntKind.i64.wrap ((m : Int) + 1 + 1) = (m : Int) + 1 + 1 := by rw [IntKind.wrap_i64]; omega
      have wj : IntKind.i64.wrap ((j : Int) + 1) = (j : Int) + 1 := by rw [IntKind.wrap_i64]; omega
      obtain ⟨r3, hr3⟩ : ∃ r3, r3 = (m + 1) % 3 := ⟨_, rfl⟩
      have ht1 : Int.tmod ((m : Int) + 1) 3 = (r3 : Int) := by rw [hr3]; rfl
      have ht2 : ((m : Int) + 1) % 3 = (r3 : Int) := by omega
      have hwr : IntKind.i64.wrap (r3 : Int) = (r3 : Int) := by rw [IntKind.wrap_i64]; omega
      have hbb : ((r3 : Int) == 0) = b3 (m + 1) := by rw [hr3]; exact b3_int (m + 1)
      clear hm hr3
      go_wp2_with fail
      refine hmk.mono ?_
      rintro e w1 ⟨rfl, b1⟩
      have HS1 : Hid (SdBk w1 g n) := HS.out.1.below b1 hgl
      obtain ⟨⟨v0, q0⟩, z0⟩ := HS1.out.cell (j * 2) (by omega)
      obtain ⟨⟨v1, q1⟩, z1⟩ := HS1.out.cell (j * 2 + 1) (by omega)
      have HC1 : Hid (MkSd w1 g k j) := HS.out.2.1.below b1 hgl
      have HU1 : Hid (∀ c, c < w.heap.size → c ≠ g → w1.heap[c]? = w.heap[c]?) := fun c hc hne => (b1.block c (Nat.lt_of_lt_of_le hc HS.out.2.2.2.size)).trans (HS.out.2.2.1 c hc hne)
      have HX1 : Hid (Below 0 w w1) := HS.out.2.2.2.trans (b1.mono (Nat.zero_le _))
      have HN : Hid (SdBk ((w1.setCell ⟨g, j * 2, none⟩ (.string (mkS m))).setCell ⟨g, j * 2 + 1, none⟩ (.bool (b3 (m + 1)))) g n ∧ MkSd ((w1.setCell ⟨g, j * 2, none⟩ (.string (mkS m))).setCell ⟨g, j * 2 + 1, none⟩ (.bool (b3 (m + 1)))) g k (j + 1) ∧ (∀ c, c < w.heap.size → c ≠ g → ((w1.setCell ⟨g, j * 2, none⟩ (.string (mkS m))).setCell ⟨g, j * 2 + 1, none⟩ (.bool (b3 (m + 1)))).heap[c]? = w.heap[c]?) ∧ Below 0 w ((w1.setCell ⟨g, j * 2, none⟩ (.string (mkS m))).setCell ⟨g, j * 2 + 1, none⟩ (.bool (b3 (m + 1))))) := by
        refine ⟨(HS1.out.set _ _).set _ _, ?_, setOffS (setOffS HU1.out), (HX1.out.setCell (p := ⟨g, j * 2, none⟩) (Nat.zero_le _) _).setCell (p := ⟨g, j * 2 + 1, none⟩) (Nat.zero_le _) _⟩
        have := HC1.out.step HS1.out hlt
        rw [← HM.out] at this
        exact this
      clear hmk HS HS1 HC1 HU1 HX1 b1
      generalize mkS m = ms at HN ⊢
      generalize b3 (m + 1) = bb at HN hbb
      go_wp2_with fail
      go_roundw
      case rel => exact ⟨j + 1, HK1.out, by go_num, by show Value.int .i64 _ = Value.int .i64 _; rw [HM1.out], HN⟩
      case measure => have := HK1.out; simp [intOf]; omega
    · obtain rfl : j = n := by omega
      go_wp2_with fail
      exact HQ.out _ _ rfl HS.out.2.1 HS.out.2.2.1 HS.out.2.2.2 HS.out.1

set_option maxHeartbeats 2000000 in
set_option maxRecDepth 100000 in
theorem heldSides (g n cap k : Nat) (w : World) (hg : g < w.heap.size) (h : MkSd w g k n) (hn : n ≤ 1048576) (hk : k ≤ 1000000000) :
    Calls Tryz.prog 32 #[.slice (some ⟨g, 0, none⟩) n cap, .int .i64 (k : Int)] w fun e w' => e = .returned (.int .i64 ((k + 2 * n : Nat) : Int)) ∧ Below w.heap.size w w' := by
  have H0 : Hid (MkSd w g k n) := h
  clear h
  obtain ⟨kn, hkn⟩ : ∃ kn, kn = k + 2 * n := ⟨_, rfl⟩
  rw [← hkn]
  have HKN : Hid (kn = k + 2 * n) := hkn
  clear hkn
  go_enter Tryz.func32, Tryz.ntmps32
  go_wp2_with fail
  go_loopw [1, 5] (fun m i wr => ∃ j : Nat, j ≤ n ∧ i = .int .i64 (j : Int) ∧ m = .int .i64 ((k + 2 * j : Nat) : Int) ∧ Hid (Below w.heap.size w wr)) (fun _ i _ => n - (intOf i).toNat)
  case atStart => exact ⟨0, by omega, rfl, rfl, Below.refl _ _⟩
  case round =>
    obtain ⟨j, hj, rfl, rfl, HB⟩ := hrel
    by_cases hlt : j < n
    · have HMK : Hid (MkSd wr g k n) := H0.out.below HB.out hg
      have HGR : Hid (g < wr.heap.size) := Nat.lt_of_lt_of_le hg HB.out.size
      have c0 := (HMK.out j hlt).1
      have lj : (j : Int) < (n : Int) := by omega
      have lj0 : (0 : Int) ≤ (j : Int) := by omega
      have HK1 : Hid (j + 1 ≤ n) := hlt
      have hmk := fun w' => markText (k + 2 * j) (by omega) w'
      obtain ⟨m, hm⟩ : ∃ m, m = k + 2 * j := ⟨_, rfl⟩
      have HM1 : Hid (((m : Int) + 1 + 1) = ((k + 2 * (j + 1) : Nat) : Int)) := by show _ = _; omega
      have HCC : Hid (∀ w', Below wr.heap.size wr w' → w'.cell? ⟨g, j * 2, none⟩ = some (.string (mkS m)) ∧ w'.cell? ⟨g, j * 2 + 1, none⟩ = some (.bool (b3 (m + 1)))) := fun w' hb => by
        have := HMK.out.below hb HGR.out j hlt
        rw [← hm] at this
        exact this
      rw [← hm] at hmk c0 ⊢
      have wk : IntKind.i64.wrap ((m : Int) + 1) = (m : Int) + 1 := by rw [IntKind.wrap_i64]; omega
      have wk2 : IntKind.i64.wrap ((m : Int) + 1 + 1) = (m : Int) + 1 + 1 := by rw [IntKind.wrap_i64]; omega
      have wj : IntKind.i64.wrap ((j : Int) + 1) = (j : Int) + 1 := by rw [IntKind.wrap_i64]; omega
      obtain ⟨r3, hr3⟩ : ∃ r3, r3 = (m + 1) % 3 := ⟨_, rfl⟩
      have ht1 : Int.tmod ((m : Int) + 1) 3 = (r3 : Int) := by rw [hr3]; rfl
      have ht2 : ((m : Int) + 1) % 3 = (r3 : Int) := by omega
      have hwr : IntKind.i64.wrap (r3 : Int) = (r3 : Int) := by rw [IntKind.wrap_i64]; omega
      have hbb : ((r3 : Int) == 0) = b3 (m + 1) := by rw [hr3]; exact b3_int (m + 1)
      generalize mkS m = ms at hmk c0 HCC
      generalize b3 (m + 1) = bb at HCC hbb
      clear hm hr3
      go_wp2_with fail
      go_region_with (go_at_call 27; refine (hmk _).mono ?_; rintro e w1 ⟨rfl, b1⟩; obtain ⟨q0, q1⟩ := HCC.out w1 ((Below.refl _ wr).drew.trans b1))
      all_goals
        have HB1 : Hid (Below w.heap.size w w1) := HB.out.drew.trans (b1.mono HB.out.size)
        clear b1 HCC HMK
        go_wp2_with fail
        go_roundw
        case rel => exact ⟨j + 1, HK1.out, by go_num, by show Value.int .i64 _ = Value.int .i64 _; rw [HM1.out], HB1⟩
        case measure => have := HK1.out; simp [intOf]; omega
    · obtain rfl : j = n := by omega
      have hv := HKN.out
      rw [← hv]
      go_wp2_with fail
      go_ret
      exact ⟨rfl, HB.out⟩
end Go.Proofs.YtoifgpmbeicmnaaGreatDoor

set_option linter.unusedVariables false
namespace Go.Proofs.YtoifgpmbeicmnaaGreatDoor
open Go.RowKit Go.Deep

theorem Sds.below {B : Nat} {v : Value} {l : List SideV} {w w' : World} (h : Sds B v l w) (hb : Below w.heap.size w w') : Sds B v l w' := by
  rcases h with h | ⟨g, cap, h1, h2, h3, h4⟩
  · exact .inl h
  · exact .inr ⟨g, cap, h1, h2.below hb h2.1, h3.below hb h3.lt, h4⟩
theorem Sds.mono {B C : Nat} {v : Value} {l : List SideV} {w : World} (h : Sds B v l w) (hc : C ≤ B) : Sds C v l w := by
  rcases h with h | ⟨g, cap, h1, h2, h3, h4⟩
  · exact .inl h
  · exact .inr ⟨g, cap, h1, h2, h3, Nat.le_trans hc h4⟩
/-- The block of a value that is a row. -/
def blkS : Value → Nat → Prop
  | .slice (some a) _ _, g => a.block = g
  | _, _ => False
theorem Sds.blk {B : Nat} {v : Value} {l : List SideV} {w : World} (h : Sds B v l w) {g : Nat} (hv : blkS v g) : g < w.heap.size ∧ B ≤ g := by
  rcases h with ⟨rfl, _⟩ | ⟨g', c', rfl, h2, _, h4⟩
  · exact absurd hv (by simp [blkS])
  · have : g' = g := hv
    subst this
    exact ⟨h2.1, h4⟩
theorem Sds.keep {B : Nat} {v : Value} {l : List SideV} {w w' : World} (h : Sds B v l w) (hs : w.heap.size ≤ w'.heap.size) (hk : ∀ g, blkS v g → w'.heap[g]? = w.heap[g]?) : Sds B v l w' := by
  rcases h with h | ⟨g, cap, rfl, h2, h3, h4⟩
  · exact .inl h
  · refine .inr ⟨g, cap, rfl, ⟨Nat.lt_of_lt_of_le h2.1 hs, fun i j hi hj => ?_⟩, h3.keep (hk g rfl), h4⟩
    have := h2.2 i j hi hj
    rw [← this]
    exact World.cell?_of_block (a := ⟨g, i * 2 + j, none⟩) (hk g rfl)
theorem sds_slice {B : Nat} {v : Value} {l : List SideV} {w : World} (h : Sds B v l w) : ∃ a n c, v = .slice a n c := by
  rcases h with ⟨rfl, _⟩ | ⟨g, cap, rfl, _⟩
  · exact ⟨_, _, _, rfl⟩
  · exact ⟨_, _, _, rfl⟩
theorem eqSidesNil (a b : Option Addr) (c d : Nat) (w : World) : Calls Tryz.prog 25 #[.slice a 0 c, .slice b 0 d] w fun e w' => e = .returned (.bool true) ∧ w' = w := by
  go_enter Tryz.func25, Tryz.ntmps25
  go_wp2_with fail
  go_loopw [5] (fun i wr => i = .int .i64 0 ∧ Hid (wr = w)) (fun _ _ => 0)
  case atStart => exact ⟨rfl, rfl⟩
  case round =>
    obtain ⟨rfl, HW⟩ := hrel
    go_wp2_with fail
    go_ret
    exact ⟨rfl, HW.out⟩
theorem sdsEq {B C : Nat} {u v : Value} {l : List SideV} {w : World} (h1 : Sds B u l w) (h2 : Sds C v l w) (hn : l.length ≤ 1048576) : Calls Tryz.prog 25 #[u, v] w fun e w' => e = .returned (.bool true) ∧ Below w.heap.size w w' := by
  have fin : ∀ (a b : Option Addr) (c d : Nat), Calls Tryz.prog 25 #[.slice a 0 c, .slice b 0 d] w fun e w' => e = .returned (.bool true) ∧ Below w.heap.size w w' := fun a b c d => (eqSidesNil a b c d w).mono fun e w' ⟨he, hw⟩ => ⟨he, by rw [hw]; exact Below.refl _ _⟩
  rcases h1 with ⟨rfl, hs⟩ | ⟨g1, c1, rfl, a1, b1, _⟩
  · rcases h2 with ⟨rfl, _⟩ | ⟨g2, c2, rfl, a2, b2, _⟩
    · exact fin none none 0 0
    · subst hs
      exact fin none (some ⟨g2, 0, none⟩) 0 c2
  · rcases h2 with ⟨rfl, hs⟩ | ⟨g2, c2, rfl, a2, b2, _⟩
    · subst hs
      exact fin (some ⟨g1, 0, none⟩) none c1 0
    · exact eqSides g1 g2 l.length c1 c2 l w a1 a2 rfl (by omega)
theorem markSidesNil (k : Nat) (w : World) : Calls Tryz.prog 30 #[.slice none 0 0, .int .i64 (k : Int)] w fun e w' => e = .returned (.int .i64 (k : Int)) ∧ w' = w := by
  go_enter Tryz.func30, Tryz.ntmps30
  go_wp2_with fail
  go_loopw [1, 5] (fun m i wr => m = .int .i64 (k : Int) ∧ i = .int .i64 0 ∧ Hid (wr = w)) (fun _ _ _ => 0)
  case atStart => exact ⟨rfl, rfl, rfl⟩
  case round =>
    obtain ⟨rfl, rfl, HW⟩ := hrel
    go_wp2_with fail
    go_ret
    exact ⟨rfl, HW.out⟩
theorem heldSidesNil (k : Nat) (w : World) : Calls Tryz.prog 32 #[.slice none 0 0, .int .i64 (k : Int)] w fun e w' => e = .returned (.int .i64 (k : Int)) ∧ w' = w := by
  go_enter Tryz.func32, Tryz.ntmps32
  go_wp2_with fail
  go_loopw [1, 5] (fun m i wr => m = .int .i64 (k : Int) ∧ i = .int .i64 0 ∧ Hid (wr = w)) (fun _ _ _ => 0)
  case atStart => exact ⟨rfl, rfl, rfl⟩
  case round =>
    obtain ⟨rfl, rfl, HW⟩ := hrel
    go_wp2_with fail
    go_ret
    exact ⟨rfl, HW.out⟩
/-- A list of sides that holds its marks from k on. -/
def HeldS (v : Value) (n k : Nat) (w : World) : Prop := (v = .slice none 0 0 ∧ n = 0) ∨ ∃ g cap, v = .slice (some ⟨g, 0, none⟩) n cap ∧ g < w.heap.size ∧ MkSd w g k n
theorem HeldS.below {v : Value} {n k : Nat} {w w' : World} (h : HeldS v n k w) (hb : Below w.heap.size w w') : HeldS v n k w' := by
  rcases h with h | ⟨g, cap, h1, h2, h3⟩
  · exact .inl h
  · exact .inr ⟨g, cap, h1, Nat.lt_of_lt_of_le h2 hb.size, h3.below hb h2⟩
theorem sdsMark {B : Nat} {v : Value} {l : List SideV} {w : World} (k : Nat) (hk : k ≤ 1000000000) (h : Sds B v l w) (hn : l.length ≤ 1048576) : Calls Tryz.prog 30 #[v, .int .i64 (k : Int)] w fun e w' => e = .returned (.int .i64 ((k + 2 * l.length : Nat) : Int)) ∧ HeldS v l.length k w' ∧ Below 0 w w' ∧ ∀ b, b < w.heap.size → ¬ blkS v b → w'.heap[b]? = w.heap[b]? := by
  rcases h with ⟨rfl, rfl⟩ | ⟨g, cap, rfl, a, b, hB⟩
  · exact (markSidesNil k w).mono fun e w' ⟨he, hw⟩ => ⟨he, .inl ⟨rfl, rfl⟩, by rw [hw]; exact Below.refl _ _, fun b _ _ => by rw [hw]⟩
  · refine (markSides g l.length cap k w b (by omega) hk).mono ?_
    rintro e w' ⟨rfl, hc, hu, hfr, hb⟩
    exact ⟨rfl, .inr ⟨g, cap, rfl, hb.lt, hc⟩, hfr, fun c hc1 hc2 => hu c hc1 (fun he => hc2 (by rw [he]; rfl))⟩
theorem sdsHeld {v : Value} {n k : Nat} {w : World} (h : HeldS v n k w) (hn : n ≤ 1048576) (hk : k ≤ 1000000000) : Calls Tryz.prog 32 #[v, .int .i64 (k : Int)] w fun e w' => e = .returned (.int .i64 ((k + 2 * n : Nat) : Int)) ∧ Below w.heap.size w w' := by
  rcases h with ⟨rfl, rfl⟩ | ⟨g, cap, rfl, hg, hc⟩
  · exact (heldSidesNil k w).mono fun e w' ⟨he, hw⟩ => ⟨he, by rw [hw]; exact Below.refl _ _⟩
  · exact heldSides g n cap k w hg hc (by omega) hk
theorem rproofL_len (ss : List ByteArray) (x : Int) : (rproofL ss x).length ≤ 1048576 := by
  unfold rproofL
  split
  · rename_i h
    have h1 := itemsOk_len h.1
    have h2 := sidesR_len ss.length (ss.map rootItemB) x.toNat (by rw [List.length_map]; omega)
    rw [List.length_map] at h2
    omega
  · exact Nat.zero_le _
end Go.Proofs.YtoifgpmbeicmnaaGreatDoor

set_option linter.unusedVariables false
namespace Go.Proofs.YtoifgpmbeicmnaaGreatDoor
open Go.RowKit Go.Deep

structure BlkV where
  h : HeadV
  g : Nat
  n : Nat
  cap : Nat
  ss : List ByteArray
instance : Inhabited BlkV := ⟨⟨default, 0, 0, 0, []⟩⟩
def enBlk (b : BlkV) : List Value := [.string b.h.prev, .string b.h.root, .int .i64 b.h.time, .int .i64 b.h.diff, .int .i64 b.h.nonce, .slice (some ⟨b.g, 0, none⟩) b.n b.cap]
theorem enBlk_len (b : BlkV) : (enBlk b).length = 6 := rfl
abbrev AtBlk (w : World) (g : Nat) (l : List BlkV) : Prop := AtF enBlk 6 w g l
/-- The items of a block in memory. -/
def ItemsAt (w : World) (b : BlkV) : Prop := AtS w b.g b.ss ∧ b.n = b.ss.length
theorem AtBlk.c0 {w : World} {g : Nat} {l : List BlkV} (h : AtBlk w g l) (i : Nat) (hi : i < l.length) : w.cell? ⟨g, i * 6, none⟩ = some (.string (l.getD i default).h.prev) := h.2 i 0 hi (by decide)
theorem AtBlk.c1 {w : World} {g : Nat} {l : List BlkV} (h : AtBlk w g l) (i : Nat) (hi : i < l.length) : w.cell? ⟨g, i * 6 + 1, none⟩ = some (.string (l.getD i default).h.root) := h.2 i 1 hi (by decide)
theorem AtBlk.c2 {w : World} {g : Nat} {l : List BlkV} (h : AtBlk w g l) (i : Nat) (hi : i < l.length) : w.cell? ⟨g, i * 6 + 2, none⟩ = some (.int .i64 (l.getD i default).h.time) := h.2 i 2 hi (by decide)
theorem AtBlk.c3 {w : World} {g : Nat} {l : List BlkV} (h : AtBlk w g l) (i : Nat) (hi : i < l.length) : w.cell? ⟨g, i * 6 + 3, none⟩ = some (.int .i64 (l.getD i default).h.diff) := h.2 i 3 hi (by decide)
theorem AtBlk.c4 {w : World} {g : Nat} {l : List BlkV} (h : AtBlk w g l) (i : Nat) (hi : i < l.length) : w.cell? ⟨g, i * 6 + 4, none⟩ = some (.int .i64 (l.getD i default).h.nonce) := h.2 i 4 hi (by decide)
theorem AtBlk.c5 {w : World} {g : Nat} {l : List BlkV} (h : AtBlk w g l) (i : Nat) (hi : i < l.length) : w.cell? ⟨g, i * 6 + 5, none⟩ = some (.slice (some ⟨(l.getD i default).g, 0, none⟩) (l.getD i default).n (l.getD i default).cap) := h.2 i 5 hi (by decide)
abbrev HRow (B : Nat) (v : Value) (l : List HeadV) (w : World) : Prop := FRow enHead 25 5 B v l w
abbrev BRow (B : Nat) (v : Value) (l : List BlkV) (w : World) : Prop := FRow enBlk 48 6 B v l w
theorem getD_map {l : List BlkV} {i : Nat} (h : i < l.length) : (l.map (·.h)).getD i default = (l.getD i default).h := by
  simp [List.getElem?_eq_getElem h]
theorem take_map {l : List BlkV} {k : Nat} (hk : k < l.length) : (l.take (k + 1)).map (·.h) = (l.take k).map (·.h) ++ [(l.getD k default).h] := by
  rw [List.take_add_one, List.getElem?_eq_getElem hk, List.map_append]
  simp [List.getElem?_eq_getElem hk]
theorem enHead_one (h : HeadV) : ∀ u ∈ enHead h, u.oneCell' = true := by
  intro u hu
  simp only [enHead, List.mem_cons, List.not_mem_nil, or_false] at hu
  rcases hu with rfl | rfl | rfl | rfl | rfl <;> rfl
theorem enBlk_one (b : BlkV) : ∀ u ∈ enBlk b, u.oneCell' = true := by
  intro u hu
  simp only [enBlk, List.mem_cons, List.not_mem_nil, or_false] at hu
  rcases hu with rfl | rfl | rfl | rfl | rfl | rfl <;> rfl

set_option maxHeartbeats 2000000 in
set_option maxRecDepth 100000 in
theorem specL4Heads (g n cap : Nat) (bs : List BlkV) (w : World) (h : AtBlk w g bs) (hn : n = bs.length) (hm : n ≤ 1048576) :
    Calls Tryz.prog 37 #[.slice (some ⟨g, 0, none⟩) n cap] w fun e w' => ∃ v, e = .returned v ∧ HRow w.heap.size v (bs.map (·.h)) w' ∧ Below w.heap.size w w' := by
  obtain ⟨i0, hi, hz0, hz1, hz2⟩ := info3 infoHead
  have HA : Hid (AtBlk w g bs) := h
  have HN : Hid (n = bs.length) := hn
  have HE : Hid (bs.map (·.h) = (bs.take n).map (·.h)) := by show _ = _; rw [hn, List.take_length]
  have R0 : Hid (HRow w.heap.size (.slice (some ⟨w.heap.size, 0, none⟩) 0 0) [] (w.alloc (.cells #[] 25))) := frow_new _ _ _ w
  have B0 : Hid (Below w.heap.size w (w.alloc (.cells #[] 25))) := (Below.refl _ w).alloc (Nat.le_refl _) _
  clear h hn
  go_enter Tryz.func37, Tryz.ntmps37
  go_wp2_with fail
  go_loopw [3, 4] (fun v i wr => ∃ k g2 c2 : Nat, k ≤ n ∧ i = .int .i64 (k : Int) ∧ v = .slice (some ⟨g2, 0, none⟩) k c2 ∧ Hid (HRow w.heap.size v ((bs.take k).map (·.h)) wr) ∧ Hid (Below w.heap.size w wr)) (fun _ i _ => n - (intOf i).toNat)
  case atStart => exact ⟨0, w.heap.size, 0, by omega, rfl, rfl, R0, B0⟩
  case round =>
    clear R0 B0
    obtain ⟨k, g2, c2, hk, rfl, rfl, R, HB⟩ := hrel
    by_cases hlt : k < n
    · have hkl : k < bs.length := by rw [← HN.out]; exact hlt
      have HAr : Hid (AtBlk wr g bs) := HA.out.below HB.out HA.out.1
      have q0 := AtBlk.c0 HAr.out k hkl
      have q1 := AtBlk.c1 HAr.out k hkl
      have q2 := AtBlk.c2 HAr.out k hkl
      have q3 := AtBlk.c3 HAr.out k hkl
      have q4 := AtBlk.c4 HAr.out k hkl
      have lk : (k : Int) < (n : Int) := by omega
      have lk0 : (0 : Int) ≤ (k : Int) := by omega
      have wk : IntKind.i64.wrap ((k : Int) + 1) = (k : Int) + 1 := by rw [IntKind.wrap_i64]; omega
      have HK : Hid (k + 1 ≤ n) := hlt
      have HL : Hid ((bs.take k).length = k) := by show _ = _; rw [List.length_take]; omega
      have HT : Hid ((bs.take (k + 1)).map (·.h) = (bs.take k).map (·.h) ++ [(bs.getD k default).h]) := take_map hkl
      have HOW : Hid (wr.ownsRow w.heap.size 25 5 (.slice (some ⟨g2, 0, none⟩) k c2) k (((bs.take k).map (·.h)).flatMap enHead)) := by
        have := R.out.2
        rw [List.length_map, HL.out] at this
        exact this
      have hsz := HB.out.size
      generalize (bs.getD k default).h = p at q0 q1 q2 q3 q4 HT
      have hu := enHead_one p
      have hx1 : k + 1 ≤ maxLen := by unfold maxLen; omega
      have hx2 : (k + 1) * 56 ≤ 140737488355328 := by omega
      clear hkl R
      go_wp2_with (at_builtin; refine wp_appN rfl _ _ 52 rfl w.heap.size 25 i0 (.agg #[.string ⟨#[]⟩, .string ⟨#[]⟩, .int .i64 0, .int .i64 0, .int .i64 0]) 5 56 1 Tryz.underlying52 hi hz0 hz1 hz2 rfl (by decide) (by decide) _ _ _ rfl HOW.out (enHead p) rfl rfl hu hx1 hx2 hsz ?_; intro g4 c4 w4 hown4 hb4 hkeep4)
      have R4 : Hid (HRow w.heap.size (.slice (some ⟨g4, 0, none⟩) (k + 1) c4) ((bs.take (k + 1)).map (·.h)) w4) := by
        refine FRow.of ?_ ?_
        · rw [HT.out, List.flatMap_append]
          simpa using hown4
        · rw [HT.out, List.length_append, List.length_map, HL.out]; rfl
      have B4 : Hid (Below w.heap.size w w4) := HB.out.trans hb4
      clear hown4 hb4 hkeep4
      go_wp2_with fail
      go_roundw
      case rel => exact ⟨k + 1, g4, c4, HK.out, by go_num, rfl, R4, B4⟩
      case measure => have := HK.out; simp [intOf]; omega
    · obtain rfl : k = n := by omega
      go_wp2_with fail
      go_ret
      exact ⟨_, rfl, by rw [HE.out]; exact R.out, HB.out⟩

end Go.Proofs.YtoifgpmbeicmnaaGreatDoor

set_option linter.unusedVariables false
namespace Go.Proofs.YtoifgpmbeicmnaaGreatDoor
open Go.RowKit

theorem meets_yes {h : HeadV} (hok : headOkB h = true) : headMeets h = decide ((headOf (headX h) : Int) / 65536 * h.diff < 32768) := by rw [headMeets, hok, Bool.true_and]
theorem meets_no {h : HeadV} (hok : headOkB h = false) : headMeets h = false := by rw [headMeets, hok, Bool.false_and]

set_option maxHeartbeats 1000000 in
set_option maxRecDepth 100000 in
theorem implHeadMeets (h : HeadV) (w : World) (hK : RowG w shaK) (hP : TabP w) :
    Calls Tryz.prog 75 #[headVal h] w fun e w' => e = .returned (.bool (headMeets h)) ∧ Below w.heap.size w w' := by
  have HK : Hid (RowG w shaK) := hK
  have HP : Hid (∀ w', Below w.heap.size w w' → TabP w') := fun w' hb => TabP.below hP hb (Nat.le_refl _)
  clear hK hP
  have hck := fun w' => implHeadOk h w'
  cases hok : headOkB h with
  | false =>
    rw [meets_no hok]
    unfold headVal
    simp only [hok] at hck
    go_enter Tryz.func75, Tryz.ntmps75
    go_wp2_with (go_at_call 79; refine (hck _).mono ?_; rintro e w1 ⟨rfl, b1⟩)
    go_ret
    exact ⟨rfl, ((Below.refl _ w).alloc (Nat.le_refl _) _).trans (b1.mono (by simp))⟩
  | true =>
    rw [meets_yes hok]
    have hpt := fun w' hk hp => implHeadSum h w' hk hp
    rw [headSum_yes hok] at hpt
    have hsh := fun w' => implSumHead ⟨(sumB (headX h)).toArray⟩ w'
    have e1 : sumHead (⟨(sumB (headX h)).toArray⟩ : ByteArray).data.toList = (headOf (headX h) : Int) := sumHead_sumB _
    rw [e1] at hsh
    clear e1
    have hhl := headOf_lt (headX h)
    generalize sumB (headX h) = sb at hpt hsh
    generalize headOf (headX h) = hd at hsh hhl ⊢
    obtain ⟨_, _, h3, h4, h5⟩ := headOk_in hok
    simp only [hok] at hck
    unfold headVal at hpt ⊢
    clear hok
    obtain ⟨p, r, t, d, n⟩ := h
    dsimp only at h3 h4 h5 hpt hck ⊢
    have ed : (hd : Int).tdiv 65536 = (hd : Int) / 65536 := Int.tdiv_eq_ediv_of_nonneg (by omega)
    have hq0 : 0 ≤ (hd : Int) / 65536 := by omega
    have hq1 : (hd : Int) / 65536 ≤ 32767 := by omega
    generalize (hd : Int) / 65536 = q at ed hq0 hq1 ⊢
    have hm1 : q * d ≤ 32767 * 8 := Int.mul_le_mul hq1 h4.2 (by omega) (by omega)
    have hm0 : 0 ≤ q * d := Int.mul_nonneg hq0 (by omega)
    have wq : IntKind.i64.wrap q = q := by rw [IntKind.wrap_i64]; omega
    have wm : IntKind.i64.wrap (q * d) = q * d := by generalize q * d = x at hm0 hm1 ⊢; rw [IntKind.wrap_i64]; omega
    have S0 : HSt w _ w.heap.size p r t d n := HSt.new w 25 p r t d n
    go_enter Tryz.func75, Tryz.ntmps75
    go_wp2_with fail
    refine (hck _).mono ?_
    rintro e w1 ⟨rfl, b1⟩
    have S1 := S0.call b1
    obtain ⟨c0, c1, c2, c3, c4⟩ := S1.out
    go_wp2_with fail
    go_region_held3 (fun w' => w'.cell? ⟨w.heap.size, 0, none⟩ = some (.string p) ∧ w'.cell? ⟨w.heap.size, 1, none⟩ = some (.string r) ∧ w'.cell? ⟨w.heap.size, 2, none⟩ = some (.int .i64 t) ∧ w'.cell? ⟨w.heap.size, 3, none⟩ = some (.int .i64 d) ∧ w'.cell? ⟨w.heap.size, 4, none⟩ = some (.int .i64 n))
      (first | (with_reducible first | exact S2.out | exact S1.out | exact S1.drew.out) | go_keep)
      (first
        | (go_at_call 102; refine (hpt _ (HK.out.below S1.drew.2.1 HK.out.lt) (HP.out _ S1.drew.2.1)).mono ?_; rintro e w2 ⟨rfl, b2⟩; have S2 : HSt w w2 w.heap.size p r t d n := S1.drew.call b2)
        | (go_at_call 101; refine (hsh _).mono ?_; rintro e w3 ⟨rfl, rfl⟩))
    go_wp2_with fail
    go_ret
    exact ⟨rfl, S2.2.1⟩

set_option maxHeartbeats 1000000 in
set_option maxRecDepth 100000 in
theorem specL3Meets (h : HeadV) (w : World) (hok : headOkB h = true) :
    Calls Tryz.prog 63 #[headVal h] w fun e w' => e = .returned (.bool (headMeets h)) ∧ Below w.heap.size w w' := by
  rw [meets_yes hok]
  have hpt := fun w' => specL3Sum h w' hok
  have hsh := fun w' => specHead ⟨(sumB (headX h)).toArray⟩ w' (isSum_sumB _)
  have e1 : ((hexN ((⟨(sumB (headX h)).toArray⟩ : ByteArray).data.toList.take 8) / 2 : Nat) : Int) = (headOf (headX h) : Int) := rfl
  rw [e1] at hsh
  clear e1
  have hhl := headOf_lt (headX h)
  generalize sumB (headX h) = sb at hpt hsh
  generalize headOf (headX h) = hd at hsh hhl ⊢
  obtain ⟨_, _, h3, h4, h5⟩ := headOk_in hok
  unfold headVal at hpt ⊢
  clear hok
  obtain ⟨p, r, t, d, n⟩ := h
  dsimp only at h3 h4 h5 hpt ⊢
  have ed : (hd : Int).tdiv 65536 = (hd : Int) / 65536 := Int.tdiv_eq_ediv_of_nonneg (by omega)
  have hq0 : 0 ≤ (hd : Int) / 65536 := by omega
  have hq1 : (hd : Int) / 65536 ≤ 32767 := by omega
  generalize (hd : Int) / 65536 = q at ed hq0 hq1 ⊢
  have hm1 : q * d ≤ 32767 * 8 := Int.mul_le_mul hq1 h4.2 (by omega) (by omega)
  have hm0 : 0 ≤ q * d := Int.mul_nonneg hq0 (by omega)
  have wq : IntKind.i64.wrap q = q := by rw [IntKind.wrap_i64]; omega
  have wm : IntKind.i64.wrap (q * d) = q * d := by generalize q * d = x at hm0 hm1 ⊢; rw [IntKind.wrap_i64]; omega
  have S1 : HSt w _ w.heap.size p r t d n := HSt.new w 25 p r t d n
  go_enter Tryz.func63, Tryz.ntmps63
  go_wp2_with fail
  go_region_held3 (fun w' => w'.cell? ⟨w.heap.size, 0, none⟩ = some (.string p) ∧ w'.cell? ⟨w.heap.size, 1, none⟩ = some (.string r) ∧ w'.cell? ⟨w.heap.size, 2, none⟩ = some (.int .i64 t) ∧ w'.cell? ⟨w.heap.size, 3, none⟩ = some (.int .i64 d) ∧ w'.cell? ⟨w.heap.size, 4, none⟩ = some (.int .i64 n))
    (first | (with_reducible first | exact S2.out | exact S1.out | exact S1.drew.out) | go_keep)
    (first
      | (go_at_call 88; refine (hpt _).mono ?_; rintro e w2 ⟨rfl, b2⟩; have S2 : HSt w w2 w.heap.size p r t d n := S1.drew.call b2)
      | (go_at_call 87; refine (hsh _).mono ?_; rintro e w3 ⟨rfl, rfl⟩))
  go_wp2_with fail
  go_ret
  exact ⟨rfl, S2.2.1⟩

end Go.Proofs.YtoifgpmbeicmnaaGreatDoor

set_option linter.unusedVariables false
namespace Go.Proofs.YtoifgpmbeicmnaaGreatDoor
open Go.RowKit

theorem implSumNil (w : World) (hK : RowG w shaK) : Calls Tryz.prog 80 #[.string ⟨#[]⟩] w fun e w' => e = .returned (.string (bsum [])) ∧ Below w.heap.size w w' := by
  have h : ∀ t : ByteArray, t = ⟨#[]⟩ → Calls Tryz.prog 80 #[.string t] w fun e w' => e = .returned (.string (bsum t.data.toList)) ∧ Below w.heap.size w w' := by
    intro t ht
    exact implSum t w (by rw [ht]; decide) hK
  exact h ⟨#[]⟩ rfl
theorem rootL_nil {ss : List ByteArray} (h : ss = []) : rootL ss = bsum [] := by rw [rootL, if_pos h]
theorem rootL_cons {ss : List ByteArray} (h : ss ≠ []) : rootL ss = rootR (ss.map rootItemB) := by rw [rootL, if_neg h]

set_option maxHeartbeats 1000000 in
set_option maxRecDepth 100000 in
theorem implRootOf (g n cap : Nat) (ss : List ByteArray) (w : World) (h : AtS w g ss) (hn : n = ss.length) (hK : RowG w shaK) :
    Calls Tryz.prog 77 #[.slice (some ⟨g, 0, none⟩) n cap] w fun e w' => e = .returned (.string (rootOf ss)) ∧ Below w.heap.size w w' := by
  obtain ⟨i0, hi, hz0, hz1, hz2⟩ := info_parts infoStr
  have hit := implItemsOk g n cap ss w h hn
  cases hok : itemsOkB ss with
  | false =>
    rw [hok] at hit
    rw [rootOf_no hok]
    clear hok h hn hK
    go_enter Tryz.func77, Tryz.ntmps77
    go_wp2_with (go_at_call 52; refine hit.mono ?_; rintro e w1 ⟨rfl, rfl⟩)
    go_ret
    exact ⟨rfl, Below.refl _ _⟩
  | true =>
    rw [hok] at hit
    rw [rootOf_yes hok]
    have hn40 : n ≤ 40 := by rw [hn]; exact itemsOk_len hok
    have HKG : Hid (RowG w shaK) := hK
    by_cases h0 : n = 0
    · have hq : ((n : Int) == 0) = true := by simp [h0]
      rw [rootL_nil (List.length_eq_zero_iff.1 (by omega))]
      have hsum := implSumNil w hK
      generalize bsum [] = z at hsum
      clear hok h hn hK h0
      go_enter Tryz.func77, Tryz.ntmps77
      go_wp2_with (go_at_call 52; refine hit.mono ?_; rintro e w1 ⟨rfl, rfl⟩)
      refine hsum.mono ?_
      rintro e w2 ⟨rfl, b2⟩
      go_wp2_with fail
      go_ret
      exact ⟨rfl, b2⟩
    · have hq : ((n : Int) == 0) = false := by simp; omega
      have HN0 : Hid (n ≠ 0) := h0
      rw [rootL_cons (fun e => h0 (by rw [hn, e]; rfl))]
      have HA : Hid (AtS w g ss) := h
      have HN : Hid (n = ss.length) := hn
      have HS : Hid (∀ i, i < ss.length → (ss.getD i ByteArray.empty).size ≤ 1048576) := by
        intro i hi
        have := isItem_size (itemsOk_at hok i hi)
        omega
      have hmk := makeCapS n (by omega)
      obtain ⟨R, hR⟩ : ∃ R, R = rootR (ss.map rootItemB) := ⟨_, rfl⟩
      rw [← hR]
      have HR0 : Hid (R = rootR (ss.map rootItemB)) := hR
      have HW0 : Hid (SRow w.heap.size (.slice (some ⟨w.heap.size, 0, none⟩) 0 n) ((ss.take 0).map rootItemB) (w.alloc (.cells (sCells (List.replicate n ⟨#[]⟩)) 9))) := srow_cap w n (by omega)
      have HB0 : Hid (Below w.heap.size w (w.alloc (.cells (sCells (List.replicate n ⟨#[]⟩)) 9))) := (Below.refl _ w).alloc (Nat.le_refl _) _
      clear hok h hn hK h0 hR
      go_enter Tryz.func77, Tryz.ntmps77
      go_wp2_with (go_at_call 52; refine hit.mono ?_; rintro e w1 ⟨rfl, rfl⟩)
      clear hit hmk
      go_loopw [3, 18] (fun v i wr => ∃ (k : Nat), k ≤ n ∧ i = .int .i64 (k : Int) ∧ Hid (SRow w.heap.size v ((ss.take k).map rootItemB) wr) ∧ Hid (Below w.heap.size w wr)) (fun _ i _ => n - (intOf i).toNat)
      case atStart => exact ⟨0, by omega, rfl, HW0, HB0⟩
      case round =>
        clear HW0 HB0
        obtain ⟨k, hk, rfl, HR, HB⟩ := hrel
        obtain ⟨⟨g3, c3, rfl⟩, hrow⟩ := HR.out
        by_cases hlt : k < n
        · have hkl : k < ss.length := by rw [← HN.out]; exact hlt
          have hc : wr.cell? ⟨g, k, none⟩ = some (.string (ss.getD k ByteArray.empty)) := by
            rw [HB.out.cell (p := ⟨g, k, none⟩) HA.out.1]
            exact HA.out.2 k hkl
          have hsz := HS.out k hkl
          obtain ⟨z, hz⟩ : ∃ z, z = ss.getD k ByteArray.empty := ⟨_, rfl⟩
          rw [← hz] at hc hsz
          have HE : Hid ((ss.take (k + 1)).map rootItemB = (ss.take k).map rootItemB ++ [rootItemB z]) := by
            show _ = _
            rw [List.take_add_one, List.getElem?_eq_getElem hkl, List.map_append, hz, List.getD_eq_getElem?_getD, List.getElem?_eq_getElem hkl]
            rfl
          have hlen : ((ss.take k).map rootItemB).length = k := by simp; omega
          rw [hlen] at hrow ⊢
          have HRW : Hid (wr.ownsRow w.heap.size 9 1 (.slice (some ⟨g3, 0, none⟩) k c3) k (((ss.take k).map rootItemB).map Value.string)) := hrow
          have HLN : Hid (((ss.take k).map rootItemB).length = k) := hlen
          have HK : Hid (k + 1 ≤ n) := hlt
          have lk : (k : Int) < (n : Int) := by omega
          have hsum := implRootItem z wr hsz (HKG.out.below HB.out HKG.out.lt)
          generalize rootItemB z = rz at hsum HE
          clear hz hrow hlen hkl
          have hx1 : k + 1 ≤ maxLen := by unfold maxLen; omega
          have hx2 : (k + 1) * 16 ≤ 140737488355328 := by omega
          go_wp2_with fail
          refine hsum.mono ?_
          rintro e w1 ⟨rfl, b1⟩
          have HRW1 : Hid (w1.ownsRow w.heap.size 9 1 (.slice (some ⟨g3, 0, none⟩) k c3) k (((ss.take k).map rootItemB).map Value.string)) := row_below HRW.out b1
          have HB1 : Hid (Below w.heap.size w w1) := HB.out.trans (b1.mono HB.out.size)
          have hsz1 := HB1.out.size
          clear b1 hsum
          go_wp2_with (at_builtin; refine wp_app1 rfl _ _ 42 rfl w.heap.size 9 i0 (.string ⟨#[]⟩) 16 Tryz.underlying42 hi hz0 hz1 hz2 rfl _ _ _ rfl HRW1.out (.string rz) rfl rfl hx1 hx2 hsz1 ?_; intro g4 c4 w4 hown4 hb4 _)
          go_roundw
          case rel =>
            refine ⟨k + 1, HK.out, by go_num, ⟨⟨g4, c4, ?_⟩, ?_⟩, HB1.out.trans hb4⟩
            · rw [HE.out, List.length_append, HLN.out]; rfl
            · rw [HE.out, List.length_append, HLN.out, List.map_append]; exact hown4
          case measure => have := HK.out; simp [intOf]; omega
        · have HE : Hid ((ss.take k).map rootItemB = ss.map rootItemB) := by
            show _ = _
            rw [List.take_of_length_le (by rw [← HN.out]; omega)]
          have hle : ((ss.take k).map rootItemB).length ≤ c3 := by
            rcases hrow.2 with ⟨h5, _⟩ | ⟨g', cap', cur, hv, _, _, h6, _⟩
            · cases h5
            · simp only [Value.slice.injEq, Option.some.injEq, Addr.mk.injEq, and_true] at hv
              rw [hv.2.2]; exact h6
          have hlen : ((ss.take k).map rootItemB).length = n := by rw [HE.out, List.length_map]; exact HN.out.symm
          have hat := HR.out.at
          rw [HE.out] at hat
          rw [hlen] at hle ⊢
          have htop := implTop g3 n c3 (ss.map rootItemB) wr hat.1 (by rw [List.length_map]; exact HN.out) hle (by omega) HN0.out (rootItemB_16 ss) (HKG.out.below HB.out HKG.out.lt)
          rw [← HR0.out] at htop
          clear hrow hlen hat
          go_wp2_with fail
          refine htop.mono ?_
          rintro e w2 ⟨rfl, b2⟩
          go_wp2_with fail
          go_ret
          exact ⟨rfl, HB.out.trans (b2.mono HB.out.size)⟩

end Go.Proofs.YtoifgpmbeicmnaaGreatDoor

set_option linter.unusedVariables false
namespace Go.Proofs.YtoifgpmbeicmnaaGreatDoor
open Go.RowKit Go.Deep

theorem sameB (a b : ByteArray) : (a.toList == b.toList) = decide (a = b) := by
  rw [Bool.eq_iff_iff, beq_iff_eq, decide_eq_true_eq, ByteArray.toList_eq, ByteArray.toList_eq]
  constructor
  · intro h
    exact ByteArray.ext (by simpa using h)
  · intro h
    rw [h]
def sideOkB (x : SideV) : Bool := isSum x.sum.data.toList
def sidesOkB (l : List SideV) : Bool := decide (l.length ≤ 8) && (List.range l.length).all fun i => sideOkB (l.getD i default)
theorem sidesOk_no {l : List SideV} (i : Nat) (hi : i < l.length) (h : sideOkB (l.getD i default) = false) : sidesOkB l = false := by
  have : ((List.range l.length).all fun i => sideOkB (l.getD i default)) = false := by
    rw [List.all_eq_false]
    exact ⟨i, List.mem_range.2 hi, by rw [h]; decide⟩
  rw [sidesOkB, this, Bool.and_false]
theorem sidesOk_long {l : List SideV} (h : ¬ l.length ≤ 8) : sidesOkB l = false := by rw [sidesOkB, decide_eq_false h, Bool.false_and]
theorem sidesOk_yes {l : List SideV} (h : l.length ≤ 8) (h2 : ∀ i, i < l.length → sideOkB (l.getD i default) = true) : sidesOkB l = true := by
  rw [sidesOkB, decide_eq_true h, Bool.true_and, List.all_eq_true]
  exact fun i hi => h2 i (List.mem_range.1 hi)
theorem sidesOk_at {l : List SideV} (h : sidesOkB l = true) : l.length ≤ 8 ∧ ∀ i, i < l.length → sideOkB (l.getD i default) = true := by
  rw [sidesOkB, Bool.and_eq_true, decide_eq_true_eq, List.all_eq_true] at h
  exact ⟨h.1, fun i hi => h.2 i (List.mem_range.2 hi)⟩
def stepS (s : ByteArray) (x : SideV) : ByteArray := if x.left = true then bothB x.sum s else bothB s x.sum
def wayTo (s : ByteArray) (l : List SideV) : Nat → ByteArray
  | 0 => s
  | k + 1 => stepS (wayTo s l k) (l.getD k default)
theorem wayTo_size {s : ByteArray} (hs : s.size = 16) (l : List SideV) : ∀ k, (wayTo s l k).size = 16
  | 0 => hs
  | k + 1 => by
    show (stepS _ _).size = 16
    unfold stepS
    split <;> exact bsum_size _
def rootCheckB (root item : ByteArray) (l : List SideV) : Bool := isItem item.data.toList && (sidesOkB l && decide (wayTo (rootItemB item) l l.length = root))

end Go.Proofs.YtoifgpmbeicmnaaGreatDoor

