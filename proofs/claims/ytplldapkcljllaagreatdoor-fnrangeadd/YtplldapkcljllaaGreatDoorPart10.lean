/-
  A range with one head more has one head more, and its work.
-/
import Derived.Test.YtplldapkcljllaaGreatDoorPart1
import Derived.Test.YtplldapkcljllaaGreatDoorPart2
import Derived.Test.YtplldapkcljllaaGreatDoorPart3
import Derived.Test.YtplldapkcljllaaGreatDoorPart4
import Derived.Test.YtplldapkcljllaaGreatDoorPart5
import Derived.Test.YtplldapkcljllaaGreatDoorPart6
import Derived.Test.YtplldapkcljllaaGreatDoorPart7
import Derived.Test.YtplldapkcljllaaGreatDoorPart8
import Derived.Test.YtplldapkcljllaaGreatDoorPart9
import Derived.BigRegion
import Derived.Test.YtplldapkcljllaaGreatDoorCards
import Derived.Test.YtplldapkcljllaaGreatDoorTie
import Derived.WalkKit
import Derived.ProofKit
import Derived.OpenShut
import Derived.ShutString
import Derived.ChangeOld
import Derived.ChangeVars
import Derived.Below
import Derived.Carry
import Derived.Deep.DeepHandedRow
import Derived.Lib.LaidTab
set_option linter.unusedVariables false
namespace Go.Proofs.YtplldapkcljllaaGreatDoor
open Go.RowKit Go.Deep

theorem But.setK {b g : Nat} {w w' : World} (h : But b w w') (hg : w.heap.size ≤ g) (j : Nat) (v : Value) : But b w (w'.setCell ⟨g, j, none⟩ v) :=
  ⟨Nat.le_trans h.1 ((Below.refl 0 w').setCell (p := ⟨g, j, none⟩) (Nat.zero_le _) v).size, fun c hc hb => (((Below.refl (c + 1) w').setCell (p := ⟨g, j, none⟩) (by show c + 1 ≤ g; omega) v).block c (by omega)).trans (h.2 c hc hb)⟩
theorem But.under {b : Nat} {w w' w'' : World} (h : But b w w') (hb : Below w.heap.size w' w'') : But b w w'' :=
  ⟨Nat.le_trans h.1 hb.size, fun c hc hn => (hb.block c hc).trans (h.2 c hc hn)⟩
theorem AtHead.same {w w' : World} {g : Nat} {l : List HeadV} (h : AtHead w g l) (hs : w.heap.size ≤ w'.heap.size) (hk : w'.heap[g]? = w.heap[g]?) : AtHead w' g l :=
  ⟨Nat.lt_of_lt_of_le h.1 hs, fun i j hi hj => (World.cell?_of_block (a := ⟨g, i * 5 + j, none⟩) hk).trans (h.2 i j hi hj)⟩
abbrev five (w : World) (r : Nat) (p2 r2 : ByteArray) (t2 d2 n2 : Int) : World := ((((w.setCell ⟨r, 0, none⟩ (.string p2)).setCell ⟨r, 1, none⟩ (.string r2)).setCell ⟨r, 2, none⟩ (.int .i64 t2)).setCell ⟨r, 3, none⟩ (.int .i64 d2)).setCell ⟨r, 4, none⟩ (.int .i64 n2)
theorem five_fin {B b q r : Nat} {w w9 : World} {p r1 : ByteArray} {t d n : Int} (hB : Below b w w9) (hU : But b w w9) (hr : Rd B b q w9) (hz : HBk w9 r p r1 t d n) (hb : b < r) (hw : w.heap.size ≤ r) (p2 r2 : ByteArray) (t2 d2 n2 : Int) :
    HBk (five w9 r p2 r2 t2 d2 n2) r p2 r2 t2 d2 n2 ∧ Rd B b q (five w9 r p2 r2 t2 d2 n2) ∧ Below b w (five w9 r p2 r2 t2 d2 n2) ∧ But b w (five w9 r p2 r2 t2 d2 n2) := by
  have k : ∀ c, c ≤ r → Below c w9 (five w9 r p2 r2 t2 d2 n2) := fun c hc => (((((Below.refl _ w9).setCell (p := ⟨r, 0, none⟩) hc _).setCell (p := ⟨r, 1, none⟩) hc _).setCell (p := ⟨r, 2, none⟩) hc _).setCell (p := ⟨r, 3, none⟩) hc _).setCell (p := ⟨r, 4, none⟩) hc _
  exact ⟨((((hz.set0 p2).set1 r2).set2 t2).set3 d2).set4 n2, hr.keep (k _ hb), hB.trans (k _ (Nat.le_of_lt hb)), hU.under (k _ hw)⟩
def AnyPostK (B b p : Nat) (w : World) (e : Ending) (w' : World) : Prop := ∃ (v : Value) (cs : List BlkV) (q : Nat), e = .returned v ∧ Loose w.heap.size v cs w' ∧ q ≤ p + 300 ∧ Rd B b q w' ∧ Below b w w' ∧ But b w w'

set_option maxHeartbeats 4000000 in
set_option maxRecDepth 100000 in
theorem drawAnyBlocksK (B b p : Nat) (w : World) (h : Rd B b p w) (hp : p < 1000000000 - 3000) :
    Calls Tryz.prog 46 #[.pointer (some ⟨b, 0, none⟩)] w fun e w' => AnyPostK B b p w e w' := by
  have hlt := h.lt
  have HP : Hid (∀ e w' v cs q, e = .returned v → Loose w.heap.size v cs w' → q ≤ p + 300 → Rd B b q w' → Below b w w' → But b w w' → AnyPostK B b p w e w') := fun e w' v cs q h1 h2 h4 h5 h6 h7 => ⟨v, cs, q, h1, h2, h4, h5, h6, h7⟩
  generalize AnyPostK B b p w = CP at HP ⊢
  have hbl := drawBlocks B b p w h (by omega)
  clear h
  go_enter Tryz.func46, Tryz.ntmps46
  go_wp2_with fail
  refine hbl.mono ?_
  rintro e w1 ⟨v, cs, q, rfl, l1, g1, hq, hr1, bl1, bu1⟩
  obtain ⟨g, c, hv⟩ := l1.row.1
  subst hv
  obtain ⟨n, hn⟩ : ∃ n, n = cs.length := ⟨_, rfl⟩
  rw [← hn] at l1 ⊢
  have HN : Hid (n = cs.length) := hn
  have HL : Hid (BList w.heap.size (.slice (some ⟨g, 0, none⟩) n c) cs w1) := l1
  have HG : Hid (Good cs) := g1
  have HB : Hid (Below b w w1) := bl1
  have HU : Hid (But b w w1) := bu1
  have HR : Hid (Rd B b q w1) := hr1
  have hn20 : n ≤ 20 := by rw [hn]; exact g1.few
  have hsz1 : w.heap.size ≤ w1.heap.size := bu1.1
  clear hbl l1 g1 bl1 bu1 hr1 hn
  by_cases h0 : n = 0
  · subst h0
    go_wp2_with fail
    exact HP.out _ _ _ cs q rfl ⟨HL.out.row, HG.out.few, HG.out.wf⟩ (by omega) HR.out HB.out HU.out
  · have hn0 : (0 : Int) < (n : Int) := by omega
    have hnn : 0 < n := by omega
    have hnd : decide (0 < n) = true := decide_eq_true hnn
    have hpk := pick_walk B b q 5 w1 HR.out (by omega) (by omega)
    go_wp2_with fail
    refine hpk.mono ?_
    rintro e w2 ⟨x2, rfl, hx2, _, hr2, ho2⟩
    have HL2 : Hid (BList w.heap.size (.slice (some ⟨g, 0, none⟩) n c) cs w2) := HL.out.only ho2.but hlt
    have HB2 : Hid (Below b w w2) := HB.out.trans (ho2.below (Nat.le_refl _))
    have HU2 : Hid (But b w w2) := HU.out.trans ho2.but
    have HR2 : Hid (Rd B b (q + 1) w2) := hr2
    have hsz2 : w.heap.size ≤ w2.heap.size := by rw [ho2.size]; exact hsz1
    clear hpk HL HB HR hr2 ho2 h0 hsz1
    by_cases hx0 : x2 = 0
    · subst hx0
      have hpk := pick_walk B b (q + 1) (n : Int) w2 HR2.out (by omega) (by omega)
      go_wp2_with fail
      refine hpk.mono ?_
      rintro e w3 ⟨k, rfl, hk, _, hr3, ho3⟩
      have hkn : k < n := by have := hk (by omega); omega
      have HL3 : Hid (BList w.heap.size (.slice (some ⟨g, 0, none⟩) n c) cs w3) := HL2.out.only ho3.but hlt
      have HB3 : Hid (Below b w w3) := HB2.out.trans (ho3.below (Nat.le_refl _))
      have HU3 : Hid (But b w w3) := HU2.out.trans ho3.but
      have hsz3 : w.heap.size ≤ w3.heap.size := by rw [ho3.size]; exact hsz2
      have hpk4 := pick_walk B b (q + 1 + 1) 5 w3 hr3 (by omega) (by omega)
      clear hpk HL2 HB2 HR2 hr3 ho3 hsz2 hk
      go_wp2_with fail
      refine hpk4.mono ?_
      rintro e w4 ⟨s, rfl, hs, _, hr4, ho4⟩
      have hs5 : s < 5 := by have := hs (by omega); omega
      have HL4 : Hid (BList w.heap.size (.slice (some ⟨g, 0, none⟩) n c) cs w4) := HL3.out.only ho4.but hlt
      have HB4 : Hid (Below b w w4) := HB3.out.trans (ho4.below (Nat.le_refl _))
      have HU4 : Hid (But b w w4) := HU3.out.trans ho4.but
      have hsz4 : w.heap.size ≤ w4.heap.size := by rw [ho4.size]; exact hsz3
      have HR4 : Hid (Rd B b (q + 1 + 1 + 1) w4) := hr4
      have hltr := hr4.lt
      clear hpk4 HL3 HB3 hr4 ho4 hsz3 hs
      have hcase : s = 0 ∨ s = 1 ∨ s = 2 ∨ s = 3 ∨ s = 4 := by omega
      rcases hcase with rfl | rfl | rfl | rfl | rfl
      · have hkl : k < cs.length := by rw [← HN.out]; exact hkn
        have hbk := heap_alloc_new w4 (.cells (non3.map (Value.int .i64)).toArray 3)
        have hone := one_walk B b (q + 1 + 1 + 1) w4.heap.size 3 3 non3 _ (HR4.out.keep ((Below.refl _ _).alloc (by omega) (.cells (non3.map (Value.int .i64)).toArray 3))) (by omega) (by omega) (by omega) (cells_ints hbk rfl 3 (by decide)) (by omega)
        have HL5 : Hid (BList w.heap.size (.slice (some ⟨g, 0, none⟩) n c) cs (w4.alloc (.cells (non3.map (Value.int .i64)).toArray 3))) := HL4.out.below ((Below.refl _ w4).alloc (Nat.le_refl _) _)
        have HB5 : Hid (Below b w (w4.alloc (.cells (non3.map (Value.int .i64)).toArray 3))) := HB4.out.alloc (by omega) _
        have HU5 : Hid (But b w (w4.alloc (.cells (non3.map (Value.int .i64)).toArray 3))) := HU4.out.trans (But.alloc _ _ _)
        have lk : (k : Int) < (n : Int) := by omega
        have lk0 : (0 : Int) ≤ (k : Int) := by omega
        clear hbk HL4 HB4 HR4
        go_wp2_with fail
        refine hone.mono ?_
        rintro e w5 ⟨x, hx, rfl, hr5, ho5⟩
        generalize non3.getD x 0 = nv
        have HL6 : Hid (BList w.heap.size (.slice (some ⟨g, 0, none⟩) n c) cs w5) := HL5.out.only ho5.but hlt
        have HB6 : Hid (Below b w w5) := HB5.out.trans (ho5.below (Nat.le_refl _))
        have HU6 : Hid (But b w w5) := HU5.out.trans ho5.but
        have HR6 : Hid (Rd B b (q + 1 + 1 + 1 + 1) w5) := hr5
        have hcF := AtBlk.c4 (FRow.at enBlk_len HL6.out.row).1 k hkl
        have hfF := BRow.frozen HL6.out.row (k * 6 + 4)
        have hgb := HL6.out.row.at enBlk_len
        have hg1 : w.heap.size ≤ g := hgb.2.2.1
        have HLO : Hid (Loose w.heap.size (.slice (some ⟨g, 0, none⟩) n c) (cs.set k { cs.getD k default with h := { (cs.getD k default).h with nonce := nv } }) (w5.setCell ⟨g, k * 6 + 4, none⟩ (.int .i64 nv))) := Loose.set HL6.out.row HG.out k 4 _ _ hkl (by decide) rfl rfl rfl
        have HR7 : Hid (Rd B b (q + 1 + 1 + 1 + 1) (w5.setCell ⟨g, k * 6 + 4, none⟩ (.int .i64 nv))) := HR6.out.keep ((Below.refl _ _).setCell (p := ⟨g, k * 6 + 4, none⟩) (by show b + 1 ≤ g; omega) _)
        have HB7 : Hid (Below b w (w5.setCell ⟨g, k * 6 + 4, none⟩ (.int .i64 nv))) := HB6.out.setCell (p := ⟨g, k * 6 + 4, none⟩) (by show b ≤ g; omega) _
        have HU7 : Hid (But b w (w5.setCell ⟨g, k * 6 + 4, none⟩ (.int .i64 nv))) := HU6.out.setK (by show w.heap.size ≤ g; omega) _ _
        clear hone HL5 HB5 HL6 hr5 ho5 hgb hkl
        generalize cs.set k { cs.getD k default with h := { (cs.getD k default).h with nonce := nv } } = ds at HLO
        go_wp2_with fail
        exact HP.out _ _ _ ds (q + 1 + 1 + 1 + 1) rfl HLO.out (by omega) HR7.out HB7.out HU7.out
      · obtain ⟨j0, ji, jz0, jz1, jz2⟩ := info_parts infoStr
        have hkl : k < cs.length := by rw [← HN.out]; exact hkn
        have hat := (FRow.at enBlk_len HL4.out.row)
        have q5 := AtBlk.c5 hat.1 k hkl
        have hgw : w.heap.size ≤ g := hat.2.2.1
        have HGL : Hid (g < w4.heap.size) := hat.1.1
        have HOI : Hid (OwnIt w.heap.size w4 (cs.getD k default)) := HL4.out.own _ (getD_mem hkl)
        have HAP : Hid ((cs.getD k default).g ≠ g) := fun h' => HL4.out.apart _ (getD_mem hkl) (by rw [h']; rfl)
        have HIL : Hid ((cs.getD k default).g < w4.heap.size ∧ w.heap.size ≤ (cs.getD k default).g) := ⟨(HL4.out.items _ (getD_mem hkl)).1.1.1, (HL4.out.items _ (getD_mem hkl)).2⟩
        have HNL : Hid ((cs.getD k default).n ≤ 4) := by show _ ≤ _; rw [(HL4.out.items _ (getD_mem hkl)).1.2]; exact HG.out.items _ (getD_mem hkl)
        have HST : Hid (∀ w' bg bn bc bss, BRow w.heap.size (.slice (some ⟨g, 0, none⟩) n c) cs w' → Loose w.heap.size (.slice (some ⟨g, 0, none⟩) n c) (cs.set k { cs.getD k default with g := bg, n := bn, cap := bc, ss := bss }) (w'.setCell ⟨g, k * 6 + 5, none⟩ (.slice (some ⟨bg, 0, none⟩) bn bc))) := fun w' bg bn bc bss hrow => Loose.set hrow HG.out k 5 _ _ hkl (by decide) rfl rfl rfl
        have HRW : Hid (∀ w', w'.heap[g]? = w4.heap[g]? → BRow w.heap.size (.slice (some ⟨g, 0, none⟩) n c) cs w') := fun w' hk' => HL4.out.row.same hk'
        have lk : (k : Int) < (n : Int) := by omega
        have lk0 : (0 : Int) ≤ (k : Int) := by omega
        have hai := drawAnyItemK B b (q + 1 + 1 + 1) w4.drew HR4.out (by omega)
        generalize cs.getD k default = cb at q5 HOI HAP HIL HNL HST
        obtain ⟨ch, cg, cn, cc, css⟩ := cb
        dsimp only at q5 HAP HIL HNL HST
        have hcn4 := HNL.out
        have hx1 : cn + 1 ≤ maxLen := by unfold maxLen; omega
        have hx2 : (cn + 1) * 16 ≤ 140737488355328 := by omega
        have f5 : w4.drew.cell? ⟨g, k * 6 + 5, none⟩ = some (.slice (some ⟨cg, 0, none⟩) cn cc) := q5
        clear hat hkl HR4
        go_wp2_with fail
        go_region_law (first
          | (refine step_append_any rfl (.tmp 50) (.tmp 53) 77 rfl w.heap.size 9 j0 (.string ⟨#[]⟩) 1 16 Tryz.underlying77 ji jz0 jz1 jz2 rfl (by decide) cg cc cn _ (by simp [Act.eval]) HOW.out ⟨w5.heap.size, 0, none⟩ 1 1 [.string it] (by simp [Act.eval]) rfl HCW.out (by simp [Value.oneCell']) hx1 hx2 HSZ.out ?_; intro g6 c6 w6 hown6 hgrow6 hat6 hlt6; have q7 : w6.cell? ⟨g, k * 6 + 5, none⟩ = some (.slice (some ⟨cg, 0, none⟩) cn cc) := (World.cell?_of_block (a := ⟨g, k * 6 + 5, none⟩) (grown_off hgrow6 g HG5.out HAP.out.symm)).trans q6; have z7 : w6.frozen? ⟨g, k * 6 + 5, none⟩ = false := HFZ.out w6 (grown_off hgrow6))
          | (go_simp; refine hai.mono ?_; rintro e w5 ⟨it, q5', rfl, hit, hq5, hr5, bl5, bu5⟩; have q6 : w5.cell? ⟨g, k * 6 + 5, none⟩ = some (.slice (some ⟨cg, 0, none⟩) cn cc) := (World.cell?_of_block (a := ⟨g, k * 6 + 5, none⟩) (bu5.2 g HGL.out (Nat.ne_of_gt (Nat.lt_of_lt_of_le hlt hgw)))).trans q5; have HG5 : Hid (g < w5.heap.size) := Nat.lt_of_lt_of_le HGL.out bu5.1; have q6a : (w5.alloc (.cells #[.string it] 9)).cell? ⟨g, k * 6 + 5, none⟩ = some (.slice (some ⟨cg, 0, none⟩) cn cc) := (((Below.refl _ w5).alloc (Nat.le_refl _) (.cells #[.string it] 9)).cell (p := ⟨g, k * 6 + 5, none⟩) HG5.out).trans q6; have HOW : Hid ((w5.alloc (.cells #[.string it] 9)).ownsRow w.heap.size 9 1 (.slice (some ⟨cg, 0, none⟩) cn cc) cn (css.map Value.string)) := World.ownsRow.alloc (HOI.out.keep (bu5.2 cg HIL.out.1 (Nat.ne_of_gt (Nat.lt_of_lt_of_le hlt HIL.out.2)))) _; have HCW : Hid (∀ j u, ([.string it] : List Value)[j]? = some u → (w5.alloc (.cells #[.string it] 9)).cell? ((⟨w5.heap.size, 0, none⟩ : Addr).add j) = some u) := cells_new w5 9 [.string it]; have HSZ : Hid (w.heap.size ≤ (w5.alloc (.cells #[.string it] 9)).heap.size) := Nat.le_trans (Nat.le_trans hsz4 bu5.1) (size_le_alloc w5 _); have HFZ : Hid (∀ w6 : World, (∀ x, x < w5.heap.size → x ≠ cg → w6.heap[x]? = w5.heap[x]?) → w6.frozen? ⟨g, k * 6 + 5, none⟩ = false) := (fun w6 hf => BRow.frozen (HRW.out w6 ((hf g HG5.out HAP.out.symm).trans (bu5.2 g HGL.out (Nat.ne_of_gt (Nat.lt_of_lt_of_le hlt hgw))))) (k * 6 + 5))))
        all_goals
          have hfar := grown_off hgrow6
          have hs5 : w.heap.size ≤ w5.heap.size := Nat.le_trans hsz4 bu5.1
          have hB6 : Below w.heap.size w5 w6 := ((Below.refl _ w5).alloc hs5 _).grown hgrow6 HSZ.out (fun j hj => by cases hj; exact HIL.out.2)
          have HLO : Hid (Loose w.heap.size (.slice (some ⟨g, 0, none⟩) n c) (cs.set k { (⟨ch, cg, cn, cc, css⟩ : BlkV) with g := g6, n := cn + 1, cap := c6, ss := css ++ [it] }) (w6.setCell ⟨g, k * 6 + 5, none⟩ (.slice (some ⟨g6, 0, none⟩) (cn + 1) c6))) := HST.out w6 g6 (cn + 1) c6 (css ++ [it]) (HRW.out w6 ((hfar g HG5.out HAP.out.symm).trans (bu5.2 g HGL.out (Nat.ne_of_gt (Nat.lt_of_lt_of_le hlt hgw)))))
          have HR7 : Hid (Rd B b q5' (w6.setCell ⟨g, k * 6 + 5, none⟩ (.slice (some ⟨g6, 0, none⟩) (cn + 1) c6))) := (hr5.keep (hB6.mono (by omega))).keep ((Below.refl _ _).setCell (p := ⟨g, k * 6 + 5, none⟩) (by show b + 1 ≤ g; omega) _)
          have HB7 : Hid (Below b w (w6.setCell ⟨g, k * 6 + 5, none⟩ (.slice (some ⟨g6, 0, none⟩) (cn + 1) c6))) := ((HB4.out.drew.trans bl5).trans (hB6.mono (by omega))).setCell (p := ⟨g, k * 6 + 5, none⟩) (by show b ≤ g; omega) _
          have HU7 : Hid (But b w (w6.setCell ⟨g, k * 6 + 5, none⟩ (.slice (some ⟨g6, 0, none⟩) (cn + 1) c6))) := (((show But b w w4.drew from HU4.out).trans bu5).under hB6).setK (by show w.heap.size ≤ g; omega) _ _
          have HQ : Hid (q5' ≤ p + 300) := by show _ ≤ _; omega
          generalize cs.set k { (⟨ch, cg, cn, cc, css⟩ : BlkV) with g := g6, n := cn + 1, cap := c6, ss := css ++ [it] } = ds at HLO
          clear hfar hB6 hown6 hgrow6 hat6 hlt6 HST HRW HOW HCW HFZ HOI q5 q6 q6a q7 z7 f5 bl5 bu5 hr5
          go_wp2_with fail
          first | exact HP.out _ _ _ ds q5' rfl HLO.out HQ.out HR7.out HB7.out HU7.out | (go_ret; exact HP.out _ _ _ ds q5' rfl HLO.out HQ.out HR7.out HB7.out HU7.out)
      · have hkl : k < cs.length := by rw [← HN.out]; exact hkn
        have hbk := heap_alloc_new w4 (.cells (dif4.map (Value.int .i64)).toArray 3)
        have hone := one_walk B b (q + 1 + 1 + 1) w4.heap.size 4 4 dif4 _ (HR4.out.keep ((Below.refl _ _).alloc (by omega) (.cells (dif4.map (Value.int .i64)).toArray 3))) (by omega) (by omega) (by omega) (cells_ints hbk rfl 4 (by decide)) (by omega)
        have HL5 : Hid (BList w.heap.size (.slice (some ⟨g, 0, none⟩) n c) cs (w4.alloc (.cells (dif4.map (Value.int .i64)).toArray 3))) := HL4.out.below ((Below.refl _ w4).alloc (Nat.le_refl _) _)
        have HB5 : Hid (Below b w (w4.alloc (.cells (dif4.map (Value.int .i64)).toArray 3))) := HB4.out.alloc (by omega) _
        have HU5 : Hid (But b w (w4.alloc (.cells (dif4.map (Value.int .i64)).toArray 3))) := HU4.out.trans (But.alloc _ _ _)
        have lk : (k : Int) < (n : Int) := by omega
        have lk0 : (0 : Int) ≤ (k : Int) := by omega
        clear hbk HL4 HB4 HR4
        go_wp2_with fail
        refine hone.mono ?_
        rintro e w5 ⟨x, hx, rfl, hr5, ho5⟩
        generalize dif4.getD x 0 = nv
        have HL6 : Hid (BList w.heap.size (.slice (some ⟨g, 0, none⟩) n c) cs w5) := HL5.out.only ho5.but hlt
        have HB6 : Hid (Below b w w5) := HB5.out.trans (ho5.below (Nat.le_refl _))
        have HU6 : Hid (But b w w5) := HU5.out.trans ho5.but
        have HR6 : Hid (Rd B b (q + 1 + 1 + 1 + 1) w5) := hr5
        have hcF := AtBlk.c3 (FRow.at enBlk_len HL6.out.row).1 k hkl
        have hfF := BRow.frozen HL6.out.row (k * 6 + 3)
        have hgb := HL6.out.row.at enBlk_len
        have hg1 : w.heap.size ≤ g := hgb.2.2.1
        have HLO : Hid (Loose w.heap.size (.slice (some ⟨g, 0, none⟩) n c) (cs.set k { cs.getD k default with h := { (cs.getD k default).h with diff := nv } }) (w5.setCell ⟨g, k * 6 + 3, none⟩ (.int .i64 nv))) := Loose.set HL6.out.row HG.out k 3 _ _ hkl (by decide) rfl rfl rfl
        have HR7 : Hid (Rd B b (q + 1 + 1 + 1 + 1) (w5.setCell ⟨g, k * 6 + 3, none⟩ (.int .i64 nv))) := HR6.out.keep ((Below.refl _ _).setCell (p := ⟨g, k * 6 + 3, none⟩) (by show b + 1 ≤ g; omega) _)
        have HB7 : Hid (Below b w (w5.setCell ⟨g, k * 6 + 3, none⟩ (.int .i64 nv))) := HB6.out.setCell (p := ⟨g, k * 6 + 3, none⟩) (by show b ≤ g; omega) _
        have HU7 : Hid (But b w (w5.setCell ⟨g, k * 6 + 3, none⟩ (.int .i64 nv))) := HU6.out.setK (by show w.heap.size ≤ g; omega) _ _
        clear hone HL5 HB5 HL6 hr5 ho5 hgb hkl
        generalize cs.set k { cs.getD k default with h := { (cs.getD k default).h with diff := nv } } = ds at HLO
        go_wp2_with fail
        exact HP.out _ _ _ ds (q + 1 + 1 + 1 + 1) rfl HLO.out (by omega) HR7.out HB7.out HU7.out
      · have hkl : k < cs.length := by rw [← HN.out]; exact hkn
        have hbk := heap_alloc_new w4 (.cells (tim3.map (Value.int .i64)).toArray 3)
        have hone := one_walk B b (q + 1 + 1 + 1) w4.heap.size 3 3 tim3 _ (HR4.out.keep ((Below.refl _ _).alloc (by omega) (.cells (tim3.map (Value.int .i64)).toArray 3))) (by omega) (by omega) (by omega) (cells_ints hbk rfl 3 (by decide)) (by omega)
        have HL5 : Hid (BList w.heap.size (.slice (some ⟨g, 0, none⟩) n c) cs (w4.alloc (.cells (tim3.map (Value.int .i64)).toArray 3))) := HL4.out.below ((Below.refl _ w4).alloc (Nat.le_refl _) _)
        have HB5 : Hid (Below b w (w4.alloc (.cells (tim3.map (Value.int .i64)).toArray 3))) := HB4.out.alloc (by omega) _
        have HU5 : Hid (But b w (w4.alloc (.cells (tim3.map (Value.int .i64)).toArray 3))) := HU4.out.trans (But.alloc _ _ _)
        have lk : (k : Int) < (n : Int) := by omega
        have lk0 : (0 : Int) ≤ (k : Int) := by omega
        clear hbk HL4 HB4 HR4
        go_wp2_with fail
        refine hone.mono ?_
        rintro e w5 ⟨x, hx, rfl, hr5, ho5⟩
        generalize tim3.getD x 0 = nv
        have HL6 : Hid (BList w.heap.size (.slice (some ⟨g, 0, none⟩) n c) cs w5) := HL5.out.only ho5.but hlt
        have HB6 : Hid (Below b w w5) := HB5.out.trans (ho5.below (Nat.le_refl _))
        have HU6 : Hid (But b w w5) := HU5.out.trans ho5.but
        have HR6 : Hid (Rd B b (q + 1 + 1 + 1 + 1) w5) := hr5
        have hcF := AtBlk.c2 (FRow.at enBlk_len HL6.out.row).1 k hkl
        have hfF := BRow.frozen HL6.out.row (k * 6 + 2)
        have hgb := HL6.out.row.at enBlk_len
        have hg1 : w.heap.size ≤ g := hgb.2.2.1
        have HLO : Hid (Loose w.heap.size (.slice (some ⟨g, 0, none⟩) n c) (cs.set k { cs.getD k default with h := { (cs.getD k default).h with time := nv } }) (w5.setCell ⟨g, k * 6 + 2, none⟩ (.int .i64 nv))) := Loose.set HL6.out.row HG.out k 2 _ _ hkl (by decide) rfl rfl rfl
        have HR7 : Hid (Rd B b (q + 1 + 1 + 1 + 1) (w5.setCell ⟨g, k * 6 + 2, none⟩ (.int .i64 nv))) := HR6.out.keep ((Below.refl _ _).setCell (p := ⟨g, k * 6 + 2, none⟩) (by show b + 1 ≤ g; omega) _)
        have HB7 : Hid (Below b w (w5.setCell ⟨g, k * 6 + 2, none⟩ (.int .i64 nv))) := HB6.out.setCell (p := ⟨g, k * 6 + 2, none⟩) (by show b ≤ g; omega) _
        have HU7 : Hid (But b w (w5.setCell ⟨g, k * 6 + 2, none⟩ (.int .i64 nv))) := HU6.out.setK (by show w.heap.size ≤ g; omega) _ _
        clear hone HL5 HB5 HL6 hr5 ho5 hgb hkl
        generalize cs.set k { cs.getD k default with h := { (cs.getD k default).h with time := nv } } = ds at HLO
        go_wp2_with fail
        exact HP.out _ _ _ ds (q + 1 + 1 + 1 + 1) rfl HLO.out (by omega) HR7.out HB7.out HU7.out
      · obtain ⟨i0, hi, hz0, hz1, hz2⟩ := info3 infoBlk
        have hkl : k < cs.length := by rw [← HN.out]; exact hkn
        obtain ⟨j, hj⟩ : ∃ j, n = j + 1 := ⟨n - 1, by omega⟩
        have hjl : j < cs.length := by rw [← HN.out]; omega
        have hat := (FRow.at enBlk_len HL4.out.row)
        have q0 := AtBlk.c0 hat.1 j hjl
        have q1 := AtBlk.c1 hat.1 j hjl
        have q2 := AtBlk.c2 hat.1 j hjl
        have q3 := AtBlk.c3 hat.1 j hjl
        have q4 := AtBlk.c4 hat.1 j hjl
        have q5 := AtBlk.c5 hat.1 j hjl
        have hgw : w.heap.size ≤ g := hat.2.2.1
        have hcap : n ≤ c := hat.2.2.2
        have HGL : Hid (g < w4.heap.size) := hat.1.1
        have HF : Hid (w4.ownsRow w.heap.size 94 6 (.slice (some ⟨g, 0, none⟩) k c) k ((cs.take k).flatMap enBlk)) := BRow.first HL4.out.row k (by omega)
        have HWF : Hid (∀ x ∈ cs.take k ++ [cs.getD j default], x.h.prev.size ≤ 16 ∧ x.h.root.size ≤ 16) := by
          intro x hx
          rcases List.mem_append.1 hx with h' | h'
          · exact HG.out.wf x (List.mem_of_mem_take h')
          · rw [List.mem_singleton.1 h']
            exact HG.out.wf _ (getD_mem hjl)
        have HTL : Hid ((cs.take k).length = k) := by show _ = _; rw [List.length_take]; omega
        have hw1 : IntKind.i64.wrap ((n : Int) - 1) = (j : Int) := by rw [IntKind.wrap_i64]; omega
        have lj : (j : Int) < (n : Int) := by omega
        have lj0 : (0 : Int) ≤ (j : Int) := by omega
        have lk : (k : Int) ≤ (c : Int) := by omega
        have lk0 : (0 : Int) ≤ (k : Int) := by omega
        have hc0 : ¬ c = 0 := by omega
        generalize cs.getD j default = lb at q0 q1 q2 q3 q4 q5 HWF
        generalize cs.take k = tk at HF HWF HTL
        obtain ⟨⟨lp, lr, lt, ld, ln⟩, lg, lnn, lc, lss⟩ := lb
        dsimp only at q0 q1 q2 q3 q4 q5
        have hx1 : k + 1 ≤ maxLen := by unfold maxLen; omega
        have hx2 : (k + 1) * 80 ≤ 140737488355328 := by omega
        have HRK : Hid (∀ w', Below (b + 1) w4 w' → Rd B b (q + 1 + 1 + 1) w') := fun w' hb => HR4.out.keep hb
        have HK20 : Hid (k + 1 ≤ 20) := by show _ ≤ _; omega
        have HQ : Hid (q + 1 + 1 + 1 ≤ p + 300) := by show _ ≤ _; omega
        have f0 : w4.drew.cell? ⟨g, j * 6, none⟩ = some (.string lp) := q0
        have f1 : w4.drew.cell? ⟨g, j * 6 + 1, none⟩ = some (.string lr) := q1
        have f2 : w4.drew.cell? ⟨g, j * 6 + 2, none⟩ = some (.int .i64 lt) := q2
        have f3 : w4.drew.cell? ⟨g, j * 6 + 3, none⟩ = some (.int .i64 ld) := q3
        have f4 : w4.drew.cell? ⟨g, j * 6 + 4, none⟩ = some (.int .i64 ln) := q4
        have f5 : w4.drew.cell? ⟨g, j * 6 + 5, none⟩ = some (.slice (some ⟨lg, 0, none⟩) lnn lc) := q5
        have HFd : Hid ((w4.drew.alloc (.cells (enBlk ⟨⟨lp, lr, lt, ld, ln⟩, lg, lnn, lc, lss⟩).toArray 94)).ownsRow w.heap.size 94 6 (.slice (some ⟨g, 0, none⟩) k c) k (tk.flatMap enBlk)) := World.ownsRow.alloc (w := w4.drew) HF.out _
        have HCN : Hid (∀ j u, (enBlk ⟨⟨lp, lr, lt, ld, ln⟩, lg, lnn, lc, lss⟩)[j]? = some u → (w4.drew.alloc (.cells (enBlk ⟨⟨lp, lr, lt, ld, ln⟩, lg, lnn, lc, lss⟩).toArray 94)).cell? ((⟨w4.heap.size, 0, none⟩ : Addr).add j) = some u) := cells_new w4.drew 94 (enBlk ⟨⟨lp, lr, lt, ld, ln⟩, lg, lnn, lc, lss⟩)
        clear hj hjl hat HL4 HG hkl hcap HR4
        go_wp2_with fail
        go_region_law (refine step_append_any rfl (.tmp 23) (.tmp 30) 74 rfl w.heap.size 94 i0 (.agg #[.string ⟨#[]⟩, .string ⟨#[]⟩, .int .i64 0, .int .i64 0, .int .i64 0, .slice none 0 0]) 6 80 Tryz.underlying74 hi hz0 hz1 hz2 rfl (by decide) g c k _ (by simp [Act.eval]) HFd.out ⟨w4.heap.size, 0, none⟩ 1 1 (enBlk ⟨⟨lp, lr, lt, ld, ln⟩, lg, lnn, lc, lss⟩) (by simp [Act.eval]) rfl HCN.out (enBlk_one _) hx1 hx2 (by simp; omega) ?_; intro g5 c5 w5 hown5 hgrow5 hat5 hlt5)
        have hgl := HGL.out
        have hB5 : Below w.heap.size w4 w5 := ((Below.refl _ w4).drew.alloc hsz4 _).grown hgrow5 (by simp; omega) (fun j hj => by cases hj; exact hgw)
        have HL5 : Hid (Loose w.heap.size (.slice (some ⟨g5, 0, none⟩) (k + 1) c5) (tk ++ [⟨⟨lp, lr, lt, ld, ln⟩, lg, lnn, lc, lss⟩]) w5) := by
          refine ⟨FRow.of ?_ ?_, ?_, HWF.out⟩
          · rw [List.flatMap_append]
            simpa using hown5
          · rw [List.length_append, HTL.out]; rfl
          · rw [List.length_append, HTL.out]; exact HK20.out
        have HR5 : Hid (Rd B b (q + 1 + 1 + 1) w5) := HRK.out _ (hB5.mono (by omega))
        have HB5 : Hid (Below b w w5) := HB4.out.trans (hB5.mono (by omega))
        have HU5 : Hid (But b w w5) := HU4.out.under hB5
        generalize tk ++ [(⟨⟨lp, lr, lt, ld, ln⟩, lg, lnn, lc, lss⟩ : BlkV)] = ds at HL5
        clear hown5 hgrow5 hat5 hlt5 hB5 HF HFd HCN HWF HTL
        go_wp2_with fail
        go_ret
        exact HP.out _ _ _ ds (q + 1 + 1 + 1) rfl HL5.out HQ.out HR5.out HB5.out HU5.out
    · have hx0' : ((x2 : Int) == 0) = false := beq_eq_false_iff_ne.2 (by omega)
      go_wp2_with fail
      exact HP.out _ _ _ cs (q + 1) rfl ⟨HL2.out.row, HG.out.few, HG.out.wf⟩ (by omega) HR2.out HB2.out HU2.out

set_option maxHeartbeats 600000 in
set_option maxRecDepth 100000 in
theorem drawHeadsK (B b p : Nat) (w : World) (h : Rd B b p w) (hp : p < 1000000000 - 3000) :
    Calls Tryz.prog 24 #[.pointer (some ⟨b, 0, none⟩)] w fun e w' => HeadsPost w.heap.size e w' ∧ ∃ q, q ≤ p + 300 ∧ Rd B b q w' ∧ Below b w w' ∧ But b w w' := by
  have hlt := h.lt
  have HP : Hid (∀ g n c l e w', e = .returned (.slice (some ⟨g, 0, none⟩) n c) → AtHead w' g l → n = l.length → n ≤ c → n ≤ 20 → (∀ i, i < l.length → (l.getD i default).prev.size ≤ 16 ∧ (l.getD i default).root.size ≤ 16) → w.heap.size ≤ g → HeadsPost w.heap.size e w') := fun g n c l e w' h1 h2 h3 h4 h5 h6 h7 => ⟨g, n, c, l, h1, h2, h3, h4, h5, h6, h7⟩
  have hab := drawAnyBlocksK B b p w h hp
  clear h
  go_enter Tryz.func24, Tryz.ntmps24
  go_wp2_with fail
  refine hab.mono ?_
  rintro e w1 ⟨v, cs, q, rfl, lo, hq, hr1, bl1, bu1⟩
  obtain ⟨g, c, hv⟩ := lo.row.1
  subst hv
  have hat := FRow.at enBlk_len lo.row
  have hhd := specL4Heads g cs.length c cs w1 hat.1 rfl (by have := lo.few; omega)
  have HW : Hid (∀ i, i < (cs.map (fun x : BlkV => x.h)).length → ((cs.map (fun x : BlkV => x.h)).getD i default).prev.size ≤ 16 ∧ ((cs.map (fun x : BlkV => x.h)).getD i default).root.size ≤ 16) := by
    intro i hi
    rw [List.length_map] at hi
    rw [getD_map hi]
    exact lo.wf _ (getD_mem hi)
  have HF : Hid (cs.length ≤ 20) := lo.few
  have hs1 : w.heap.size ≤ w1.heap.size := Nat.le_trans (Nat.le_of_eq rfl) (by have := hr1.lt; exact bl1.size)
  have hltr := hr1.lt
  clear lo hat hab
  obtain ⟨nn, hnn⟩ : ∃ n, n = cs.length := ⟨_, rfl⟩
  rw [← hnn] at hhd ⊢
  have HNN : Hid (nn = cs.length) := hnn
  clear hnn
  go_wp2_with fail
  refine hhd.mono ?_
  rintro e w2 ⟨v2, rfl, r2, b2⟩
  obtain ⟨g2, c2, hv2⟩ := r2.1
  subst hv2
  have hat2 := FRow.at enHead_len r2
  rw [List.length_map] at hat2 ⊢
  have HA : Hid (AtHead w2 g2 (cs.map (fun x : BlkV => x.h))) := hat2.1
  have HC : Hid (cs.length ≤ c2) := hat2.2.2.2
  have HGE : Hid (w1.heap.size ≤ g2) := hat2.2.2.1
  have HR2 : Hid (Rd B b q w2) := hr1.keep (b2.mono (by omega))
  have HB2 : Hid (Below b w w2) := bl1.trans (b2.mono (by omega))
  have HU2 : Hid (But b w w2) := bu1.trans (Below.but b2)
  have HLN : Hid (cs.length = (cs.map (fun x : BlkV => x.h)).length) := by show _ = _; rw [List.length_map]
  generalize cs.map (fun x : BlkV => x.h) = l at HA HW HLN
  generalize cs.length = m at HC HF HLN HNN ⊢
  clear hat2 r2 b2 hhd
  go_wp2_with fail
  go_ret
  exact ⟨HP.out g2 m c2 l _ _ rfl HA.out HLN.out HC.out HF.out HW.out (Nat.le_trans hs1 HGE.out), q, hq, HR2.out, HB2.out, HU2.out⟩


def tim4 : List Int := [0, 7, 99999, 100000]
def dif5 : List Int := [1, 2, 8, 9, 1]
def non4 : List Int := [0, 5, 400, 401]
/-- A drawn head: its texts are short. -/
def HeadPost (B b p : Nat) (w : World) (e : Ending) (w' : World) : Prop := ∃ (x : HeadV) (q : Nat), e = .returned (.agg #[.string x.prev, .string x.root, .int .i64 x.time, .int .i64 x.diff, .int .i64 x.nonce]) ∧ x.prev.size ≤ 16 ∧ x.root.size ≤ 16 ∧ q ≤ p + 400 ∧ Rd B b q w' ∧ Below b w w' ∧ But b w w'

set_option maxHeartbeats 4000000 in
set_option maxRecDepth 100000 in
theorem drawHead (B b p : Nat) (w : World) (h : Rd B b p w) (hp : p < 1000000000 - 4000) :
    Calls Tryz.prog 12 #[.pointer (some ⟨b, 0, none⟩)] w fun e w' => HeadPost B b p w e w' := by
  have hlt := h.lt
  have HR : Hid (Rd B b p w) := h
  have HPO : Hid (∀ e w' (x : HeadV) q, e = .returned (.agg #[.string x.prev, .string x.root, .int .i64 x.time, .int .i64 x.diff, .int .i64 x.nonce]) → x.prev.size ≤ 16 → x.root.size ≤ 16 → q ≤ p + 400 → Rd B b q w' → Below b w w' → But b w w' → HeadPost B b p w e w') := fun e w' x q h1 h2 h3 h4 h5 h6 h7 => ⟨x, q, h1, h2, h3, h4, h5, h6, h7⟩
  generalize HeadPost B b p w = CP at HPO ⊢
  clear h
  have HZ : Hid ((w.alloc (.cells #[.string ⟨#[]⟩, .string ⟨#[]⟩, .int .i64 0, .int .i64 0, .int .i64 0] 25)).heap[w.heap.size]? = some (.cells #[.string ⟨#[]⟩, .string ⟨#[]⟩, .int .i64 0, .int .i64 0, .int .i64 0] 25 (0, 0))) := heap_alloc_new w _
  have HU0 : Hid (But b w (w.alloc (.cells #[.string ⟨#[]⟩, .string ⟨#[]⟩, .int .i64 0, .int .i64 0, .int .i64 0] 25))) := But.alloc b w _
  have HB0 : Hid (Below b w (w.alloc (.cells #[.string ⟨#[]⟩, .string ⟨#[]⟩, .int .i64 0, .int .i64 0, .int .i64 0] 25))) := (Below.refl _ w).alloc (by omega) _
  have hs1 := drawSumK B b p _ (HR.out.keep ((Below.refl _ w).alloc (by omega) (.cells #[.string ⟨#[]⟩, .string ⟨#[]⟩, .int .i64 0, .int .i64 0, .int .i64 0] 25))) (by omega)
  have hsz0 : (w.alloc (.cells #[.string ⟨#[]⟩, .string ⟨#[]⟩, .int .i64 0, .int .i64 0, .int .i64 0] 25)).heap.size = w.heap.size + 1 := by simp
  obtain ⟨r, hr⟩ : ∃ r, r = w.heap.size := ⟨_, rfl⟩
  have HRE : Hid (r = w.heap.size) := hr
  rw [← hr] at hlt hsz0 HZ
  clear HR
  go_enter Tryz.func12, Tryz.ntmps12
  go_wp2_with fail
  rw [← hr]
  clear hr
  generalize w.alloc (.cells #[.string ⟨#[]⟩, .string ⟨#[]⟩, .int .i64 0, .int .i64 0, .int .i64 0] 25) = w0 at HZ HU0 HB0 hs1 hsz0 ⊢
  refine hs1.mono ?_
  rintro e w1 ⟨sp, q1, rfl, hp16, hq1, hr1, bl1, bu1⟩
  have hl1 := hr1.lt
  have hg1 : w0.heap.size ≤ w1.heap.size := bu1.1
  have HU1 : Hid (But b w w1) := HU0.out.trans bu1
  have HB1 : Hid (Below b w w1) := HB0.out.trans bl1
  have HZ1 : Hid (w1.heap[r]? = some (.cells #[.string ⟨#[]⟩, .string ⟨#[]⟩, .int .i64 0, .int .i64 0, .int .i64 0] 25 (0, 0))) := (bu1.2 r (by omega) (by omega)).trans HZ.out
  have hs2 := drawSumK B b q1 w1 hr1 (by omega)
  clear hs1 HU0 HB0 HZ bu1 bl1 hr1
  go_wp2_with fail
  refine hs2.mono ?_
  rintro e w2 ⟨sr, q2, rfl, hr16, hq2, hr2, bl2, bu2⟩
  have hl2 := hr2.lt
  have hg2 : w0.heap.size ≤ w2.heap.size := Nat.le_trans hg1 bu2.1
  have HU2 : Hid (But b w w2) := HU1.out.trans bu2
  have HB2 : Hid (Below b w w2) := HB1.out.trans bl2
  have HZ2 : Hid (w2.heap[r]? = some (.cells #[.string ⟨#[]⟩, .string ⟨#[]⟩, .int .i64 0, .int .i64 0, .int .i64 0] 25 (0, 0))) := (bu2.2 r (by omega) (by omega)).trans HZ1.out
  clear hs2 HU1 HB1 HZ1 bu2 bl2 hl1
  have hbk2 := heap_alloc_new w2 (.cells (tim4.map (Value.int .i64)).toArray 3)
  have ho3 := one_walk B b q2 w2.heap.size 4 4 tim4 _ (hr2.keep ((Below.refl _ _).alloc (by omega) (.cells (tim4.map (Value.int .i64)).toArray 3))) (by omega) (by omega) (by omega) (cells_ints hbk2 rfl 4 (by decide)) (by omega)
  have HU2a : Hid (But b w (w2.alloc (.cells (tim4.map (Value.int .i64)).toArray 3))) := HU2.out.trans (But.alloc _ _ _)
  have HB2a : Hid (Below b w (w2.alloc (.cells (tim4.map (Value.int .i64)).toArray 3))) := HB2.out.alloc (by omega) _
  have HZ2a : Hid ((w2.alloc (.cells (tim4.map (Value.int .i64)).toArray 3)).heap[r]? = some (.cells #[.string ⟨#[]⟩, .string ⟨#[]⟩, .int .i64 0, .int .i64 0, .int .i64 0] 25 (0, 0))) := (Below.heap_alloc _ _ _ (by omega)).trans HZ2.out
  have hsa2 : w0.heap.size ≤ (w2.alloc (.cells (tim4.map (Value.int .i64)).toArray 3)).heap.size := Nat.le_trans hg2 (size_le_alloc _ _)
  clear hbk2 HU2 HB2 HZ2 hr2
  go_wp2_with fail
  refine ho3.mono ?_
  rintro e w3 ⟨x3, hx3, rfl, hr3, on3⟩
  generalize tim4.getD x3 0 = tv
  have hl3 := hr3.lt
  have hg3 : w0.heap.size ≤ w3.heap.size := by rw [on3.size]; exact hsa2
  have HU3 : Hid (But b w w3) := HU2a.out.trans on3.but
  have HB3 : Hid (Below b w w3) := HB2a.out.trans (on3.below (Nat.le_refl _))
  have HZ3 : Hid (w3.heap[r]? = some (.cells #[.string ⟨#[]⟩, .string ⟨#[]⟩, .int .i64 0, .int .i64 0, .int .i64 0] 25 (0, 0))) := (on3.block r (by omega)).trans HZ2a.out
  clear ho3 HU2a HB2a HZ2a on3 hl2 hsa2
  have hbk3 := heap_alloc_new w3 (.cells (dif5.map (Value.int .i64)).toArray 3)
  have ho4 := one_walk B b (q2 + 1) w3.heap.size 5 5 dif5 _ (hr3.keep ((Below.refl _ _).alloc (by omega) (.cells (dif5.map (Value.int .i64)).toArray 3))) (by omega) (by omega) (by omega) (cells_ints hbk3 rfl 5 (by decide)) (by omega)
  have HU3a : Hid (But b w (w3.alloc (.cells (dif5.map (Value.int .i64)).toArray 3))) := HU3.out.trans (But.alloc _ _ _)
  have HB3a : Hid (Below b w (w3.alloc (.cells (dif5.map (Value.int .i64)).toArray 3))) := HB3.out.alloc (by omega) _
  have HZ3a : Hid ((w3.alloc (.cells (dif5.map (Value.int .i64)).toArray 3)).heap[r]? = some (.cells #[.string ⟨#[]⟩, .string ⟨#[]⟩, .int .i64 0, .int .i64 0, .int .i64 0] 25 (0, 0))) := (Below.heap_alloc _ _ _ (by omega)).trans HZ3.out
  have hsa3 : w0.heap.size ≤ (w3.alloc (.cells (dif5.map (Value.int .i64)).toArray 3)).heap.size := Nat.le_trans hg3 (size_le_alloc _ _)
  clear hbk3 HU3 HB3 HZ3 hr3
  go_wp2_with fail
  refine ho4.mono ?_
  rintro e w4 ⟨x4, hx4, rfl, hr4, on4⟩
  generalize dif5.getD x4 0 = dv
  have hl4 := hr4.lt
  have hg4 : w0.heap.size ≤ w4.heap.size := by rw [on4.size]; exact hsa3
  have HU4 : Hid (But b w w4) := HU3a.out.trans on4.but
  have HB4 : Hid (Below b w w4) := HB3a.out.trans (on4.below (Nat.le_refl _))
  have HZ4 : Hid (w4.heap[r]? = some (.cells #[.string ⟨#[]⟩, .string ⟨#[]⟩, .int .i64 0, .int .i64 0, .int .i64 0] 25 (0, 0))) := (on4.block r (by omega)).trans HZ3a.out
  clear ho4 HU3a HB3a HZ3a on4 hl3 hsa3
  have hbk4 := heap_alloc_new w4 (.cells (non4.map (Value.int .i64)).toArray 3)
  have ho5 := one_walk B b (q2 + 1 + 1) w4.heap.size 4 4 non4 _ (hr4.keep ((Below.refl _ _).alloc (by omega) (.cells (non4.map (Value.int .i64)).toArray 3))) (by omega) (by omega) (by omega) (cells_ints hbk4 rfl 4 (by decide)) (by omega)
  have HU4a : Hid (But b w (w4.alloc (.cells (non4.map (Value.int .i64)).toArray 3))) := HU4.out.trans (But.alloc _ _ _)
  have HB4a : Hid (Below b w (w4.alloc (.cells (non4.map (Value.int .i64)).toArray 3))) := HB4.out.alloc (by omega) _
  have HZ4a : Hid ((w4.alloc (.cells (non4.map (Value.int .i64)).toArray 3)).heap[r]? = some (.cells #[.string ⟨#[]⟩, .string ⟨#[]⟩, .int .i64 0, .int .i64 0, .int .i64 0] 25 (0, 0))) := (Below.heap_alloc _ _ _ (by omega)).trans HZ4.out
  have hsa4 : w0.heap.size ≤ (w4.alloc (.cells (non4.map (Value.int .i64)).toArray 3)).heap.size := Nat.le_trans hg4 (size_le_alloc _ _)
  clear hbk4 HU4 HB4 HZ4 hr4
  go_wp2_with fail
  refine ho5.mono ?_
  rintro e w5 ⟨x5, hx5, rfl, hr5, on5⟩
  generalize non4.getD x5 0 = nv
  have hl5 := hr5.lt
  have hg5 : w0.heap.size ≤ w5.heap.size := by rw [on5.size]; exact hsa4
  have HU5 : Hid (But b w w5) := HU4a.out.trans on5.but
  have HB5 : Hid (Below b w w5) := HB4a.out.trans (on5.below (Nat.le_refl _))
  have HZ5 : Hid (w5.heap[r]? = some (.cells #[.string ⟨#[]⟩, .string ⟨#[]⟩, .int .i64 0, .int .i64 0, .int .i64 0] 25 (0, 0))) := (on5.block r (by omega)).trans HZ4a.out
  clear ho5 HU4a HB4a HZ4a on5 hl4 hsa4
  have HZ6 : Hid (HBk (w5.alloc (.cells #[.string sp, .string sr, .int .i64 tv, .int .i64 dv, .int .i64 nv] 25)) r ⟨#[]⟩ ⟨#[]⟩ 0 0 0) := (Below.heap_alloc _ _ _ (by omega)).trans HZ5.out
  have HH6 : Hid (HBk (w5.alloc (.cells #[.string sp, .string sr, .int .i64 tv, .int .i64 dv, .int .i64 nv] 25)) w5.heap.size sp sr tv dv nv) := HBk.new w5 sp sr tv dv nv
  have HU6 : Hid (But b w (w5.alloc (.cells #[.string sp, .string sr, .int .i64 tv, .int .i64 dv, .int .i64 nv] 25))) := HU5.out.trans (But.alloc _ _ _)
  have HB6 : Hid (Below b w (w5.alloc (.cells #[.string sp, .string sr, .int .i64 tv, .int .i64 dv, .int .i64 nv] 25))) := HB5.out.alloc (by omega) _
  have hhs := drawHeadsK B b (q2 + 1 + 1 + 1) (w5.alloc (.cells #[.string sp, .string sr, .int .i64 tv, .int .i64 dv, .int .i64 nv] 25)) (hr5.keep ((Below.refl _ _).alloc (by omega) _)) (by omega)
  have hs6 : (w5.alloc (.cells #[.string sp, .string sr, .int .i64 tv, .int .i64 dv, .int .i64 nv] 25)).heap.size = w5.heap.size + 1 := by simp
  have HWR : Hid (w.heap.size ≤ r) := Nat.le_of_eq HRE.out.symm
  clear HU5 HB5 HZ5 hr5 HRE
  go_wp2_with fail
  generalize (w5.alloc (.cells #[.string sp, .string sr, .int .i64 tv, .int .i64 dv, .int .i64 nv] 25)) = w6 at HZ6 HH6 HU6 HB6 hhs hs6 ⊢
  obtain ⟨h5, hh5⟩ : ∃ h5, h5 = w5.heap.size := ⟨_, rfl⟩
  rw [← hh5] at HH6 hs6 hg5 hl5 ⊢
  clear hh5
  refine hhs.mono ?_
  rintro e w7 ⟨⟨g, n, c, l, rfl, hat, hn, hnc, hn20, hsz, hge⟩, q7, hq7, hr7, bl7, bu7⟩
  have HZ7 : Hid (HBk w7 r ⟨#[]⟩ ⟨#[]⟩ 0 0 0) := (bu7.2 r (by omega) (by omega)).trans HZ6.out
  have HH7 : Hid (HBk w7 h5 sp sr tv dv nv) := (bu7.2 h5 (by omega) (by omega)).trans HH6.out
  have HU7 : Hid (But b w w7) := HU6.out.trans bu7
  have HB7 : Hid (Below b w w7) := HB6.out.trans bl7
  have HR7 : Hid (Rd B b q7 w7) := hr7
  have HAT : Hid (AtHead w7 g l) := hat
  have HN : Hid (n = l.length) := hn
  have HSZ : Hid (∀ i, i < l.length → (l.getD i default).prev.size ≤ 16 ∧ (l.getD i default).root.size ≤ 16) := hsz
  have hs7 : w6.heap.size ≤ w7.heap.size := bu7.1
  have HP16 : Hid (sp.size ≤ 16 ∧ sr.size ≤ 16) := ⟨hp16, hr16⟩
  have HQ7 : Hid (q7 ≤ p + 390) := by show _ ≤ _; omega
  have hq9 : q7 < 1000000000 - 100 := by omega
  clear hhs HZ6 HH6 HU6 HB6 bu7 bl7 hr7 hat hn hsz hp16 hr16 hq7 hq1 hq2
  by_cases hn0 : n = 0
  · subst hn0
    obtain ⟨c0, c1, c2, c3, c4, _⟩ := HH7.out.facts
    have HZ : Hid _ := HZ7
    have HB : Hid _ := HB7
    have HU : Hid _ := HU7
    have HRr : Hid _ := HR7
    clear HZ7 HB7 HU7 HR7
    have HF : Hid (HBk (five w7 r sp sr tv dv nv) r sp sr tv dv nv ∧ Rd B b q7 (five w7 r sp sr tv dv nv) ∧ Below b w (five w7 r sp sr tv dv nv) ∧ But b w (five w7 r sp sr tv dv nv)) := five_fin HB.out HU.out HRr.out HZ.out hlt HWR.out sp sr tv dv nv
    obtain ⟨_, _, _, _, _, f0, f1, f2, f3, f4⟩ := HZ.out.facts
    have z0 := HZ.out.facts.1
    have z1 := HZ.out.facts.2.1
    have z2 := HZ.out.facts.2.2.1
    have z3 := HZ.out.facts.2.2.2.1
    have z4 := HZ.out.facts.2.2.2.2.1
    clear HZ HB HU HRr
    go_wp2_with fail
    exact bodyPost_ret (results_cell_row (p := 2) rfl _ _ r 25 #[.string sp, .string sr, .int .i64 tv, .int .i64 dv, .int .i64 nv] (0, 0) _ rfl HF.out.1 Tryz.underlying25 rfl (by kernel_rfl)) rfl (HPO.out _ _ ⟨sp, sr, tv, dv, nv⟩ q7 rfl HP16.out.1 HP16.out.2 (by have := HQ7.out; omega) HF.out.2.1 HF.out.2.2.1 HF.out.2.2.2)
  · have hn1 : (0 : Int) < (n : Int) := by omega
    have hnn : 0 < n := by omega
    have hnd : decide (0 < n) = true := decide_eq_true hnn
    have hpk := pick_walk B b q7 3 w7 HR7.out (by omega) (by omega)
    go_wp2_with fail
    refine hpk.mono ?_
    rintro e w8 ⟨x, rfl, _, _, hr8, on8⟩
    have hs8 : w7.heap.size ≤ w8.heap.size := Nat.le_of_eq on8.size.symm
    have HZ8 : Hid (HBk w8 r ⟨#[]⟩ ⟨#[]⟩ 0 0 0) := (on8.block r (by omega)).trans HZ7.out
    have HH8 : Hid (HBk w8 h5 sp sr tv dv nv) := (on8.block h5 (by omega)).trans HH7.out
    have HU8 : Hid (But b w w8) := HU7.out.trans on8.but
    have HB8 : Hid (Below b w w8) := HB7.out.trans (on8.below (Nat.le_refl _))
    have HR8 : Hid (Rd B b (q7 + 1) w8) := hr8
    have HAT8 : Hid (AtHead w8 g l) := HAT.out.same hs8 (on8.block g (by omega))
    clear hpk HZ7 HH7 HU7 HB7 HR7 HAT on8 hr8
    by_cases hx : x = 0
    · subst hx
      obtain ⟨c0, c1, c2, c3, c4, _⟩ := HH8.out.facts
      have HZ : Hid _ := HZ8
      have HB : Hid _ := HB8
      have HU : Hid _ := HU8
      have HRr : Hid _ := HR8
      clear HZ8 HB8 HU8 HR8
      have HF : Hid (HBk (five w8 r sp sr tv dv nv) r sp sr tv dv nv ∧ Rd B b (q7 + 1) (five w8 r sp sr tv dv nv) ∧ Below b w (five w8 r sp sr tv dv nv) ∧ But b w (five w8 r sp sr tv dv nv)) := five_fin HB.out HU.out HRr.out HZ.out hlt HWR.out sp sr tv dv nv
      obtain ⟨_, _, _, _, _, f0, f1, f2, f3, f4⟩ := HZ.out.facts
      have z0 := HZ.out.facts.1
      have z1 := HZ.out.facts.2.1
      have z2 := HZ.out.facts.2.2.1
      have z3 := HZ.out.facts.2.2.2.1
      have z4 := HZ.out.facts.2.2.2.2.1
      clear HZ HB HU HRr
      go_wp2_with fail
      exact bodyPost_ret (results_cell_row (p := 2) rfl _ _ r 25 #[.string sp, .string sr, .int .i64 tv, .int .i64 dv, .int .i64 nv] (0, 0) _ rfl HF.out.1 Tryz.underlying25 rfl (by kernel_rfl)) rfl (HPO.out _ _ ⟨sp, sr, tv, dv, nv⟩ (q7 + 1) rfl HP16.out.1 HP16.out.2 (by have := HQ7.out; omega) HF.out.2.1 HF.out.2.2.1 HF.out.2.2.2)
    · have hx1 : (0 : Int) < (x : Int) := by omega
      have hxx : 0 < x := by omega
      have hxd : decide (0 < x) = true := decide_eq_true hxx
      have hpk := pick_walk B b (q7 + 1) (n : Int) w8 HR8.out (by omega) (by omega)
      go_wp2_with fail
      refine hpk.mono ?_
      rintro e w9 ⟨k, rfl, hk, _, hr9, on9⟩
      have hkn := hk (by omega)
      have hkl : k < l.length := by rw [← HN.out]; omega
      have hs9 : w8.heap.size ≤ w9.heap.size := Nat.le_of_eq on9.size.symm
      have HZ : Hid (HBk w9 r ⟨#[]⟩ ⟨#[]⟩ 0 0 0) := (on9.block r (by omega)).trans HZ8.out
      have HU : Hid (But b w w9) := HU8.out.trans on9.but
      have HB : Hid (Below b w w9) := HB8.out.trans (on9.below (Nat.le_refl _))
      have HRr : Hid (Rd B b (q7 + 1 + 1) w9) := hr9
      have HAT9 : Hid (AtHead w9 g l) := HAT8.out.same hs9 (on9.block g (by omega))
      have c0 := AtHead.c0 HAT9.out k hkl
      have c1 := AtHead.c1 HAT9.out k hkl
      have c2 := AtHead.c2 HAT9.out k hkl
      have c3 := AtHead.c3 HAT9.out k hkl
      have c4 := AtHead.c4 HAT9.out k hkl
      have HX16 : Hid ((l.getD k default).prev.size ≤ 16 ∧ (l.getD k default).root.size ≤ 16) := HSZ.out k hkl
      have lk0 : (0 : Int) ≤ (k : Int) := by omega
      generalize l.getD k default = y at c0 c1 c2 c3 c4 HX16
      obtain ⟨yp, yr, yt, yd, yn⟩ := y
      dsimp only at c0 c1 c2 c3 c4 HX16
      clear hpk HZ8 HH8 HU8 HB8 HR8 HAT8 on9 hr9 HAT9 hkl hk
      have HF : Hid (HBk (five w9 r yp yr yt yd yn) r yp yr yt yd yn ∧ Rd B b (q7 + 1 + 1) (five w9 r yp yr yt yd yn) ∧ Below b w (five w9 r yp yr yt yd yn) ∧ But b w (five w9 r yp yr yt yd yn)) := five_fin HB.out HU.out HRr.out HZ.out hlt HWR.out yp yr yt yd yn
      obtain ⟨_, _, _, _, _, f0, f1, f2, f3, f4⟩ := HZ.out.facts
      have z0 := HZ.out.facts.1
      have z1 := HZ.out.facts.2.1
      have z2 := HZ.out.facts.2.2.1
      have z3 := HZ.out.facts.2.2.2.1
      have z4 := HZ.out.facts.2.2.2.2.1
      clear HZ HB HU HRr
      go_wp2_with fail
      exact bodyPost_ret (results_cell_row (p := 2) rfl _ _ r 25 #[.string yp, .string yr, .int .i64 yt, .int .i64 yd, .int .i64 yn] (0, 0) _ rfl HF.out.1 Tryz.underlying25 rfl (by kernel_rfl)) rfl (HPO.out _ _ ⟨yp, yr, yt, yd, yn⟩ (q7 + 1 + 1) rfl HX16.out.1 HX16.out.2 (by have := HQ7.out; omega) HF.out.2.1 HF.out.2.2.1 HF.out.2.2.2)

end Go.Proofs.YtplldapkcljllaaGreatDoor

set_option linter.unusedVariables false
namespace Go.Proofs.YtplldapkcljllaaGreatDoor
open Go.RowKit Go.Deep

theorem AtP.same {w w' : World} {g : Nat} {l : List PeakV} (h : AtP w g l) (hs : w.heap.size ≤ w'.heap.size) (hk : w'.heap[g]? = w.heap[g]?) : AtP w' g l :=
  ⟨Nat.lt_of_lt_of_le h.1 hs, fun i j hi hj => (World.cell?_of_block (a := ⟨g, i * 3 + j, none⟩) hk).trans (h.2 i j hi hj)⟩
theorem AtF.put {w : World} {g : Nat} {ps : List PeakV} (h : AtP w g ps) (hb : PBk w g ps.length) (k j : Nat) (hk : k < ps.length) (hj : j < 3) (v : Value) (q : PeakV) (hq : pEnc q = (pEnc (ps.getD k default)).set j v) : AtP (w.setCell ⟨g, k * 3 + j, none⟩ v) g (ps.set k q) := by
  refine ⟨by simpa [World.setCell] using h.1, fun i m hi hm => ?_⟩
  rw [List.length_set] at hi
  by_cases hik : i = k
  · subst hik
    have e : (ps.set i q).getD i default = q := by simp [List.getD_eq_getElem?_getD, hi]
    rw [e, hq]
    by_cases hjm : j = m
    · subst hjm
      rw [hb.cellSet _ (by omega) _, List.getElem?_set_self (by rw [pEnc_len]; exact hj)]
    · rw [cellSetOther (by omega), List.getElem?_set_ne hjm]
      exact h.2 i m hi hm
  · have e : (ps.set k q).getD i default = ps.getD i default := by simp [List.getD_eq_getElem?_getD, List.getElem?_set_ne (Ne.symm hik)]
    rw [e, cellSetOther (by omega)]
    exact h.2 i m hi hm
theorem set_all {C : PeakV → Prop} {ps : List PeakV} {k : Nat} {q : PeakV} (h : ∀ p ∈ ps, C p) (hq : C q) : ∀ p ∈ ps.set k q, C p := by
  intro p hp
  rcases List.mem_or_eq_of_mem_set hp with h' | h'
  · exact h p h'
  · rw [h']; exact hq

/-- What RangeOf hands back, as far as a drawer wants it. -/
def RngOf (B : Nat) (v : Value) (w' : World) : Prop := v = .slice none 0 0 ∨ ∃ ps, PRow B v ps w' ∧ ps.length ≤ 20 ∧ ∀ q ∈ ps, q.sum.size ≤ maxLen
def RnfPost (w : World) (e : Ending) (w' : World) : Prop := ∃ v, e = .returned v ∧ RngOf w.heap.size v w' ∧ Below w.heap.size w w'
theorem rnf_no {w w' : World} (hb : Below w.heap.size w w') : RnfPost w (.returned (.slice none 0 0)) w' := ⟨_, rfl, .inl rfl, hb⟩
theorem rnf_yes {l : List HeadV} {w w' : World} {v : Value} (h : headsB l = true) (hr : PRow w.heap.size v (ofP l l.length) w') (hb : Below w.heap.size w w') : RnfPost w (.returned v) w' := by
  have h1 := heads_len h
  obtain ⟨h2, _, h3⟩ := ofP_ok (heads_at h) h1 l.length (Nat.le_refl _)
  refine ⟨_, rfl, .inr ⟨_, hr, by omega, fun q hq => ?_⟩, hb⟩
  have := h2 q hq
  simp only [peakOkB, Bool.and_eq_true] at this
  rw [sum_size this.1]
  decide

set_option maxHeartbeats 1000000 in
set_option maxRecDepth 100000 in
theorem specRangeOfR (g n cap : Nat) (l : List HeadV) (w : World) (hA : AtHead w g l) (hn : n = l.length) (hm : n ≤ 1048576) (hz : ∀ i, i < l.length → (l.getD i default).prev.size ≤ maxLen ∧ (l.getD i default).root.size ≤ maxLen) :
    Calls Tryz.prog 23 #[.slice (some ⟨g, 0, none⟩) n cap] w fun e w' => RnfPost w e w' := by
  have hhs := specL5Heads g n cap l w hA hn hm hz
  have HOF : Hid (headsB l = true → ∀ w', Below w.heap.size w w' → Calls Tryz.prog 44 #[.slice (some ⟨g, 0, none⟩) n cap] w' fun e w'' => ∃ v, e = .returned v ∧ PRow w'.heap.size v (ofP l n) w'' ∧ Below w'.heap.size w' w'') := fun hk w' hb => specL5Of g n cap l w' (hA.below hb hA.1) hn (by have := heads_len hk; omega) (heads_at hk)
  have HNO : Hid (∀ w', headsB l = false → Below w.heap.size w w' → RnfPost w (.returned (.slice none 0 0)) w') := fun w' h1 h2 => rnf_no h2
  have HYES : Hid (∀ w' v, headsB l = true → PRow w.heap.size v (ofP l n) w' → Below w.heap.size w w' → RnfPost w (.returned v) w') := fun w' v h1 h2 h3 => rnf_yes h1 (by rw [← hn]; exact h2) h3
  generalize RnfPost w = Q at HNO HYES ⊢
  clear hA hn hm hz
  cases hk : headsB l with
  | false =>
    have HV : Hid (∀ w', Below w.heap.size w w' → Q (.returned (.slice none 0 0)) w') := fun w' h => HNO.out w' hk h
    rw [hk] at hhs
    clear HOF HNO HYES
    go_enter Tryz.func23, Tryz.ntmps23
    go_wp2_with fail
    refine hhs.mono ?_
    rintro e w1 ⟨rfl, b1⟩
    go_wp2_with fail
    exact HV.out _ b1
  | true =>
    have HV : Hid (∀ w' v, PRow w.heap.size v (ofP l n) w' → Below w.heap.size w w' → Q (.returned v) w') := fun w' v h2 h3 => HYES.out w' v hk h2 h3
    have HO2 : Hid (∀ w', Below w.heap.size w w' → _) := fun w' hb => HOF.out hk w' hb
    rw [hk] at hhs
    clear HOF HNO HYES
    go_enter Tryz.func23, Tryz.ntmps23
    go_wp2_with fail
    refine hhs.mono ?_
    rintro e w1 ⟨rfl, b1⟩
    have ho := HO2.out w1 b1
    have B1 : Hid (Below w.heap.size w w1) := b1
    clear HO2 b1
    go_wp2_with fail
    refine Calls.mono ho ?_
    rintro e w2 ⟨v, rfl, hr, b2⟩
    have R2 : Hid (PRow w.heap.size v (ofP l n) w2) := hr.mono B1.out.size
    have B2 : Hid (Below w.heap.size w w2) := B1.out.trans (b2.mono B1.out.size)
    clear ho hr b2
    go_wp2_with fail
    exact HV.out _ _ R2.out B2.out


/-- A drawn range: nil, or peaks. -/
def Rng (B : Nat) (v : Value) (w' : World) : Prop := v = .slice none 0 0 ∨ ∃ (g n c : Nat) (ps : List PeakV), v = .slice (some ⟨g, 0, none⟩) n c ∧ AtP w' g ps ∧ n = ps.length ∧ n ≤ 21 ∧ (∀ q ∈ ps, q.sum.size ≤ maxLen) ∧ B ≤ g
def RngPost (B b p : Nat) (w : World) (e : Ending) (w' : World) : Prop := ∃ (v : Value) (q : Nat), e = .returned v ∧ Rng w.heap.size v w' ∧ q ≤ p + 310 ∧ Rd B b q w' ∧ Below b w w'
def cnt5 : List Int := [0, 3, 8, 16, 32]
def wrk3 : List Int := [0, 1, 200]

set_option maxHeartbeats 4000000 in
set_option maxRecDepth 100000 in
theorem drawRange (B b p : Nat) (w : World) (h : Rd B b p w) (hp : p < 1000000000 - 4000) :
    Calls Tryz.prog 11 #[.pointer (some ⟨b, 0, none⟩)] w fun e w' => RngPost B b p w e w' := by
  obtain ⟨i0, hi, hz0, hz1, hz2⟩ := info3 infoPeak
  have hlt := h.lt
  have HLT : Hid (b < w.heap.size) := hlt
  have HP : Hid (∀ v w' {q : Nat}, Rng w.heap.size v w' → q ≤ p + 310 → Rd B b q w' → Below b w w' → RngPost B b p w (.returned v) w') := fun v w' q h1 h2 h3 h4 => ⟨v, q, rfl, h1, h2, h3, h4⟩
  have hhd := drawHeadsK B b p w h (by omega)
  generalize RngPost B b p w = CP at HP ⊢
  clear h
  go_enter Tryz.func11, Tryz.ntmps11
  go_wp2_with fail
  refine hhd.mono ?_
  rintro e w1 ⟨⟨g1, n1, c1, l, rfl, hA1, hn1, -, hn20, hz16, hge1⟩, q1, hq1, hr1, bl1, -⟩
  have hof := specRangeOfR g1 n1 c1 l w1 hA1 hn1 (by omega) (fun i hi => ⟨Nat.le_trans (hz16 i hi).1 (by decide), Nat.le_trans (hz16 i hi).2 (by decide)⟩)
  have HR1 : Hid (Rd B b q1 w1) := hr1
  have HB1 : Hid (Below b w w1) := bl1
  have HS1 : Hid (w.heap.size ≤ w1.heap.size) := bl1.size
  have HQ1 : Hid (q1 ≤ p + 300) := hq1
  clear hhd hA1 hn1 hn20 hz16 hge1 hr1 bl1 hq1
  go_wp2_with fail
  refine hof.mono ?_
  rintro e w2 ⟨v, rfl, hv, b2⟩
  have HR2 : Hid (Rd B b q1 w2) := HR1.out.keep (b2.mono (by have := HR1.out.lt; omega))
  have HB2 : Hid (Below b w w2) := HB1.out.trans (b2.mono (by have := HR1.out.lt; omega))
  have HGE : Hid (w.heap.size ≤ w1.heap.size ∧ b < w1.heap.size) := ⟨HS1.out, HR1.out.lt⟩
  clear hof HR1 HB1 b2
  rcases hv with rfl | ⟨ps, hrow, h20, hz⟩
  · go_wp2_with fail
    exact HP.out _ _ (.inl rfl) (by have := HQ1.out; omega) HR2.out HB2.out
  obtain ⟨g, c, rfl, hA2, hX2, hg2⟩ := PBk.frow hrow
  have HRW : Hid (PRow w1.heap.size (.slice (some ⟨g, 0, none⟩) ps.length c) ps w2) := hrow
  have HX2 : Hid (PBk w2 g ps.length) := hX2
  have HA2 : Hid (AtP w2 g ps) := hA2
  have HN20 : Hid (ps.length ≤ 20) := h20
  have HZ : Hid (∀ q ∈ ps, q.sum.size ≤ maxLen) := hz
  have HGW : Hid (w.heap.size ≤ g) := Nat.le_trans HGE.out.1 hg2
  have HGL : Hid (b < g) := Nat.lt_of_lt_of_le HGE.out.2 hg2
  have HGB : Hid (g ≠ b) := by have := HGL.out; show _ ≠ _; omega
  have HCC : Hid (ps.length ≤ c) := (FRow.at pEnc_len hrow).2.2.2
  have HRB : Hid (w.heap.size ≤ w1.heap.size ∧ b < w1.heap.size) := HGE.out
  obtain ⟨n, hn⟩ : ∃ n, n = ps.length := ⟨_, rfl⟩
  rw [← hn] at HRW HX2 HN20 HCC ⊢
  have HNL : Hid (n = ps.length) := hn
  clear hrow hX2 hA2 h20 hz hg2 hn HS1 HGE
  rcases Nat.eq_zero_or_pos n with hn0 | hn0
  · have HA3 : Hid (Rng w.heap.size (.slice (some ⟨g, 0, none⟩) n c) w2) := .inr ⟨g, n, c, ps, rfl, HA2.out, HNL.out, by have := HN20.out; omega, HZ.out, HGW.out⟩
    have hd : decide ((0 : Int) < ((n : Nat) : Int)) = false := by rw [hn0]; decide
    have hd1 : decide (0 < n) = false := by rw [hn0]; decide
    have hd2 : ¬ (0 < n) := by omega
    clear hn0
    go_wp2_with fail
    exact HP.out _ _ HA3.out (by have := HQ1.out; omega) HR2.out HB2.out
  have hd : decide ((0 : Int) < ((n : Nat) : Int)) = true := decide_eq_true (by omega)
  have hp3 := pick_walk B b q1 4 w2 HR2.out (by have := HQ1.out; omega) (by omega)
  have HN0 : Hid (0 < n) := hn0
  clear HR2
  go_wp2_with fail
  refine hp3.mono ?_
  rintro e w3 ⟨x, rfl, -, -, hr3, on3⟩
  have HR3 : Hid (Rd B b (q1 + 1) w3) := hr3
  have HB3 : Hid (Below b w w3) := HB2.out.trans (on3.below (Nat.le_refl _))
  have HA3 : Hid (AtP w3 g ps) := AtP.same HA2.out (by rw [on3.size]; exact Nat.le_refl _) (on3.block g HGB.out)
  have HX3 : Hid (PBk w3 g n) := HX2.out.keep (on3.block g HGB.out)
  have HW3 : Hid (PRow w1.heap.size (.slice (some ⟨g, 0, none⟩) n c) ps w3) := HRW.out.keep (fun k hk _ => on3.block k (by have := HRB.out; omega))
  clear hp3 hr3 on3 HB2 HA2 HX2 HRW
  by_cases hx : ((x : Int) == 0) = true
  case neg =>
    have HA4 : Hid (Rng w.heap.size (.slice (some ⟨g, 0, none⟩) n c) w3) := .inr ⟨g, n, c, ps, rfl, HA3.out, HNL.out, by have := HN20.out; omega, HZ.out, HGW.out⟩
    go_wp2_with fail
    exact HP.out _ _ HA4.out (by have := HQ1.out; omega) HR3.out HB3.out
  have hp4 := pick_walk B b (q1 + 1) (n : Int) w3 HR3.out (by have := HQ1.out; omega) (by have := HN20.out; omega)
  clear HR3
  go_wp2_with fail
  refine hp4.mono ?_
  rintro e w4a ⟨k, rfl, hkn, -, hr4, on4⟩
  have HKN : Hid (k < n) := by have := hkn (by have := HN0.out; omega); show _ < _; omega
  have HB4a : Hid (Below b w w4a) := HB3.out.trans (on4.below (Nat.le_refl _))
  have HA4a : Hid (AtP w4a g ps) := AtP.same HA3.out (by rw [on4.size]; exact Nat.le_refl _) (on4.block g HGB.out)
  have HX4a : Hid (PBk w4a g n) := HX3.out.keep (on4.block g HGB.out)
  have HW4a : Hid (PRow w1.heap.size (.slice (some ⟨g, 0, none⟩) n c) ps w4a) := HW3.out.keep (fun k hk _ => on4.block k (by have := HRB.out; omega))
  have hp5 := pick_walk B b (q1 + 1 + 1) 4 w4a hr4 (by have := HQ1.out; omega) (by omega)
  clear hp4 hr4 on4 HB3 HA3 HX3 HW3 hkn
  go_wp2_with fail
  refine hp5.mono ?_
  rintro e w4 ⟨y, rfl, -, -, hr5, on5⟩
  have HB4 : Hid (Below b w w4) := HB4a.out.trans (on5.below (Nat.le_refl _))
  have HA4 : Hid (AtP w4 g ps) := AtP.same HA4a.out (by rw [on5.size]; exact Nat.le_refl _) (on5.block g HGB.out)
  have HX4 : Hid (PBk w4 g n) := HX4a.out.keep (on5.block g HGB.out)
  have HW4 : Hid (PRow w1.heap.size (.slice (some ⟨g, 0, none⟩) n c) ps w4) := HW4a.out.keep (fun k hk _ => on5.block k (by have := HRB.out; omega))
  obtain ⟨Q4, hQ4⟩ : ∃ Q, Q = q1 + 1 + 1 + 1 := ⟨_, rfl⟩
  have HQ4 : Hid (Q4 ≤ p + 303 ∧ p < 1000000000 - 4000) := ⟨by have := HQ1.out; omega, hp⟩
  have HR4 : Hid (Rd B b Q4 w4) := by rw [hQ4]; exact hr5
  clear hp5 hr5 on5 HB4a HA4a HX4a HW4a HQ1 hQ4 hp hlt
  have lk0 : (0 : Int) ≤ (k : Int) := by omega
  have lk1 : (k : Int) < (n : Int) := by have := HKN.out; omega
  by_cases hy0 : ((y : Int) == 0) = true
  · clear HW4
    · go_wp2_with fail
      have hbk := heap_alloc_new w4 (.cells (cnt5.map (Value.int .i64)).toArray 3)
      have ho := one_walk B b Q4 w4.heap.size 5 5 cnt5 _ (HR4.out.keep ((Below.refl _ _).alloc (by have := HR4.out.lt; omega) (.cells (cnt5.map (Value.int .i64)).toArray 3))) (by have := HQ4.out; omega) (by omega) (by omega) (cells_ints hbk rfl 5 (by decide)) (by have := HR4.out.lt; omega)
      have HX4a : Hid (PBk (w4.alloc (.cells (cnt5.map (Value.int .i64)).toArray 3)) g n) := HX4.out.keep (Below.heap_alloc _ _ _ HX4.out.lt)
      have HA4a : Hid (AtP (w4.alloc (.cells (cnt5.map (Value.int .i64)).toArray 3)) g ps) := AtP.same HA4.out (size_le_alloc _ _) (Below.heap_alloc _ _ _ HA4.out.1)
      have HB4a : Hid (Below b w (w4.alloc (.cells (cnt5.map (Value.int .i64)).toArray 3))) := HB4.out.alloc (by have := HR4.out.lt; omega) _
      clear hbk HX4 HA4 HB4 HR4
      go_wp2_with fail
      refine ho.mono ?_
      rintro e w5 ⟨x5, hx5, rfl, hr5, on5⟩
      generalize cnt5.getD x5 0 = tv
      have HR5 : Hid (Rd B b (Q4 + 1) w5) := hr5
      have HX5 : Hid (PBk w5 g n) := HX4a.out.keep (on5.block g HGB.out)
      have HA5 : Hid (AtP w5 g ps) := AtP.same HA4a.out (by rw [on5.size]; exact Nat.le_refl _) (on5.block g HGB.out)
      have HB5 : Hid (Below b w w5) := HB4a.out.trans (on5.below (Nat.le_refl _))
      clear ho HX4a HA4a HB4a on5 hr5
      obtain ⟨⟨v0, q0⟩, z0⟩ := HX5.out.cell (k * 3 + 2) (by have := HKN.out; omega)
      have HF : Hid (AtP (w5.setCell ⟨g, k * 3 + 2, none⟩ (.int .i64 tv)) g (ps.set k { ps.getD k default with count := tv })) := AtF.put HA5.out (by rw [← HNL.out]; exact HX5.out) k 2 (by rw [← HNL.out]; exact HKN.out) (by omega) _ _ rfl
      have HZS : Hid (∀ q ∈ ps.set k { ps.getD k default with count := tv }, q.sum.size ≤ maxLen) := set_all HZ.out (getD_all (C := fun q => q.sum.size ≤ maxLen) HZ.out k (by rw [← HNL.out]; exact HKN.out))
      have HRF : Hid (Rd B b (Q4 + 1) (w5.setCell ⟨g, k * 3 + 2, none⟩ (.int .i64 tv))) := HR5.out.keep ((Below.refl _ _).setCell (p := ⟨g, k * 3 + 2, none⟩) (show b + 1 ≤ g from HGL.out) _)
      have HBF : Hid (Below b w (w5.setCell ⟨g, k * 3 + 2, none⟩ (.int .i64 tv))) := HB5.out.setCell (p := ⟨g, k * 3 + 2, none⟩) (show b ≤ g from Nat.le_of_lt HGL.out) _
      have hgl := HX5.out.lt
      clear HR5 HX5 HA5 HB5
      go_wp2_with fail
      exact HP.out _ _ (.inr ⟨g, n, c, ps.set k { ps.getD k default with count := tv }, rfl, HF.out, by rw [List.length_set]; exact HNL.out, by have := HN20.out; omega, HZS.out, HGW.out⟩) (by have := HQ4.out; omega) HRF.out HBF.out
  by_cases hy1 : ((y : Int) == 1) = true
  · clear HW4
    · go_wp2_with fail
      have hbk := heap_alloc_new w4 (.cells (wrk3.map (Value.int .i64)).toArray 3)
      have ho := one_walk B b Q4 w4.heap.size 3 3 wrk3 _ (HR4.out.keep ((Below.refl _ _).alloc (by have := HR4.out.lt; omega) (.cells (wrk3.map (Value.int .i64)).toArray 3))) (by have := HQ4.out; omega) (by omega) (by omega) (cells_ints hbk rfl 3 (by decide)) (by have := HR4.out.lt; omega)
      have HX4a : Hid (PBk (w4.alloc (.cells (wrk3.map (Value.int .i64)).toArray 3)) g n) := HX4.out.keep (Below.heap_alloc _ _ _ HX4.out.lt)
      have HA4a : Hid (AtP (w4.alloc (.cells (wrk3.map (Value.int .i64)).toArray 3)) g ps) := AtP.same HA4.out (size_le_alloc _ _) (Below.heap_alloc _ _ _ HA4.out.1)
      have HB4a : Hid (Below b w (w4.alloc (.cells (wrk3.map (Value.int .i64)).toArray 3))) := HB4.out.alloc (by have := HR4.out.lt; omega) _
      clear hbk HX4 HA4 HB4 HR4
      go_wp2_with fail
      refine ho.mono ?_
      rintro e w5 ⟨x5, hx5, rfl, hr5, on5⟩
      generalize wrk3.getD x5 0 = tv
      have HR5 : Hid (Rd B b (Q4 + 1) w5) := hr5
      have HX5 : Hid (PBk w5 g n) := HX4a.out.keep (on5.block g HGB.out)
      have HA5 : Hid (AtP w5 g ps) := AtP.same HA4a.out (by rw [on5.size]; exact Nat.le_refl _) (on5.block g HGB.out)
      have HB5 : Hid (Below b w w5) := HB4a.out.trans (on5.below (Nat.le_refl _))
      clear ho HX4a HA4a HB4a on5 hr5
      obtain ⟨⟨v0, q0⟩, z0⟩ := HX5.out.cell (k * 3 + 1) (by have := HKN.out; omega)
      have HF : Hid (AtP (w5.setCell ⟨g, k * 3 + 1, none⟩ (.int .i64 tv)) g (ps.set k { ps.getD k default with work := tv })) := AtF.put HA5.out (by rw [← HNL.out]; exact HX5.out) k 1 (by rw [← HNL.out]; exact HKN.out) (by omega) _ _ rfl
      have HZS : Hid (∀ q ∈ ps.set k { ps.getD k default with work := tv }, q.sum.size ≤ maxLen) := set_all HZ.out (getD_all (C := fun q => q.sum.size ≤ maxLen) HZ.out k (by rw [← HNL.out]; exact HKN.out))
      have HRF : Hid (Rd B b (Q4 + 1) (w5.setCell ⟨g, k * 3 + 1, none⟩ (.int .i64 tv))) := HR5.out.keep ((Below.refl _ _).setCell (p := ⟨g, k * 3 + 1, none⟩) (show b + 1 ≤ g from HGL.out) _)
      have HBF : Hid (Below b w (w5.setCell ⟨g, k * 3 + 1, none⟩ (.int .i64 tv))) := HB5.out.setCell (p := ⟨g, k * 3 + 1, none⟩) (show b ≤ g from Nat.le_of_lt HGL.out) _
      have hgl := HX5.out.lt
      clear HR5 HX5 HA5 HB5
      go_wp2_with fail
      exact HP.out _ _ (.inr ⟨g, n, c, ps.set k { ps.getD k default with work := tv }, rfl, HF.out, by rw [List.length_set]; exact HNL.out, by have := HN20.out; omega, HZS.out, HGW.out⟩) (by have := HQ4.out; omega) HRF.out HBF.out
  by_cases hy2 : ((y : Int) == 2) = true
  · have hs := drawSumK B b Q4 w4 HR4.out (by have := HQ4.out; omega)
    clear HW4
    go_wp2_with fail
    refine hs.mono ?_
    rintro e w5 ⟨s, q5, rfl, hs16, hq5, hr5, bl5, bu5⟩
    have HR5 : Hid (Rd B b q5 w5) := hr5
    have HX5 : Hid (PBk w5 g n) := HX4.out.keep (bu5.2 g HX4.out.lt HGB.out)
    have HA5 : Hid (AtP w5 g ps) := AtP.same HA4.out bu5.1 (bu5.2 g HX4.out.lt HGB.out)
    have HB5 : Hid (Below b w w5) := HB4.out.trans bl5
    have HQ5 : Hid (q5 ≤ Q4 + 2) := hq5
    clear hs HX4 HA4 HB4 HR4 hr5 bl5 bu5 hq5
    obtain ⟨⟨v0, q0⟩, z0⟩ := HX5.out.cell (k * 3) (by have := HKN.out; omega)
    have HF : Hid (AtP (w5.setCell ⟨g, k * 3, none⟩ (.string s)) g (ps.set k { ps.getD k default with sum := s })) := AtF.put HA5.out (by rw [← HNL.out]; exact HX5.out) k 0 (by rw [← HNL.out]; exact HKN.out) (by omega) _ _ rfl
    have HZS : Hid (∀ q ∈ ps.set k { ps.getD k default with sum := s }, q.sum.size ≤ maxLen) := set_all HZ.out (Nat.le_trans hs16 (by decide))
    have HRF : Hid (Rd B b q5 (w5.setCell ⟨g, k * 3, none⟩ (.string s))) := HR5.out.keep ((Below.refl _ _).setCell (p := ⟨g, k * 3, none⟩) (show b + 1 ≤ g from HGL.out) _)
    have HBF : Hid (Below b w (w5.setCell ⟨g, k * 3, none⟩ (.string s))) := HB5.out.setCell (p := ⟨g, k * 3, none⟩) (show b ≤ g from Nat.le_of_lt HGL.out) _
    have hgl := HX5.out.lt
    clear HR5 HX5 HA5 HB5 hs16
    go_wp2_with fail
    exact HP.out _ _ (.inr ⟨g, n, c, ps.set k { ps.getD k default with sum := s }, rfl, HF.out, by rw [List.length_set]; exact HNL.out, by have := HN20.out; omega, HZS.out, HGW.out⟩) (by have := HQ4.out; have := HQ5.out; omega) HRF.out HBF.out
  have hkl : k < ps.length := by rw [← HNL.out]; exact HKN.out
  have c0 := AtP.c0 HA4.out k hkl
  have c1 := AtP.c1 HA4.out k hkl
  have c2 := AtP.c2 HA4.out k hkl
  have HZK : Hid ((ps.getD k default).sum.size ≤ maxLen) := getD_all (C := fun q => q.sum.size ≤ maxLen) HZ.out k hkl
  have hx1 : n + 1 ≤ maxLen := by have := HN20.out; unfold maxLen; omega
  have hx2 : (n + 1) * 32 ≤ 140737488355328 := by have := HN20.out; omega
  have hsz : w1.heap.size ≤ w4.heap.size := by have := (FRow.at pEnc_len HW4.out).2.2.1; have := HX4.out.lt; omega
  clear hkl HX4
  generalize ps.getD k default = u at c0 c1 c2 HZK
  have hu := pEnc_one u
  have HROW : Hid (w4.ownsRow w1.heap.size 44 3 (.slice (some ⟨g, 0, none⟩) n c) n (ps.flatMap pEnc)) := by
    have := HW4.out.2
    rw [← HNL.out] at this
    exact this
  go_wp2_with (at_builtin; refine wp_appN rfl _ _ 23 rfl w1.heap.size 44 i0 (.agg #[.string ⟨#[]⟩, .int .i64 0, .int .i64 0]) 3 32 1 Tryz.underlying23 hi hz0 hz1 hz2 rfl (by decide) (by decide) (.slice (some ⟨g, 0, none⟩) n c) n _ rfl HROW.out (pEnc u) (by first | rfl | simp [Act.eval]) rfl hu hx1 hx2 hsz ?_; intro g6 c6 w6 hown6 hb6 hkeep6)
  have R6 : Hid (PRow w1.heap.size (.slice (some ⟨g6, 0, none⟩) (n + 1) c6) (ps ++ [u]) w6) := FRow.of (by rw [List.flatMap_append]; simpa using hown6) (by rw [List.length_append, ← HNL.out]; rfl)
  have HB6 : Hid (Below b w w6) := HB4.out.trans (hb6.mono (by have := HRB.out; omega))
  have HR6 : Hid (Rd B b Q4 w6) := HR4.out.keep (hb6.mono (by have := HRB.out; omega))
  have HA6 : Hid (Rng w.heap.size (.slice (some ⟨g6, 0, none⟩) (n + 1) c6) w6) := by
    obtain ⟨h1, h2, h3, h4⟩ := FRow.at pEnc_len R6.out
    exact .inr ⟨g6, n + 1, c6, ps ++ [u], rfl, h1, h2, by have := HN20.out; omega, fun q hq => by
      rcases List.mem_append.1 hq with h' | h'
      · exact HZ.out q h'
      · obtain rfl := List.mem_singleton.1 h'
        exact HZK.out, Nat.le_trans HRB.out.1 h3⟩
  clear hown6 hb6 hkeep6 R6
  go_wp2_with fail
  exact HP.out _ _ HA6.out (by have := HQ4.out; omega) HR6.out HB6.out
end Go.Proofs.YtplldapkcljllaaGreatDoor

set_option linter.unusedVariables false
namespace Go.Proofs.YtplldapkcljllaaGreatDoor
open Go.RowKit Go.Deep

theorem results_tmp_row {P : Program} {fn : Func} {p u : Tmp} {ty : TypeId} (h : fn.results = #[.tmp u, .cell p ty]) (tmps : Array Value) (w : World) (g : Nat) (t : TypeId) (cs : Array Value) (fr : Nat × Nat) (d : TypeDesc)
    (hp : tmps.getD p undef = .pointer (some ⟨g, 0, none⟩)) (hg : w.heap[g]? = some (.cells cs t fr))
    (hu : P.underlying ty = some d) (hd : (match d with | .struct _ | .array _ _ => true | _ => false) = true) (hi : (P.info? ty).map (·.size) = some cs.size) :
    (results fn tmps).run P w = .ok (.tuple #[tmps.getD u undef, .agg cs]) w := by
  have e : (results fn tmps).run P w = ((asAddr (tmps.getD p undef)).run P w).andThen fun a w₁ => ((loadVar ty a).run P w₁).andThen fun v w₂ => .ok (.tuple #[tmps.getD u undef, v]) w₂ := by
    simp only [results, h]
    simp [Sem.run_bind, Result.andThen]
  rw [e, hp]
  simp [asAddr, run_loadVar_row w g t ty cs fr d hg hu hd hi, Result.andThen]
theorem rowBelowR {k : IntKind} {w w' : World} {a : Option Addr} {len cap : Nat} {zs : List Int} (h : IsRow k w a len cap zs) (hb : Below w.heap.size w w') : IsRow k w' a len cap zs := by
  rcases h with h | ⟨x, h1, h2, h3, h4, h5, h6⟩
  · exact .inl h
  · exact .inr ⟨x, h1, h2, h3, h4, fun i hi => (hb.cell (World.block_lt_of_cell? w _ (h5 i hi))).trans (h5 i hi), h6⟩
theorem Rng.but {B b : Nat} {v : Value} {w w' : World} (h : Rng B v w) (hu : But b w w') (hb : b < B) : Rng B v w' := by
  rcases h with h | ⟨g, n, c, ps, h1, h2, h3, h4, h5, h6⟩
  · exact .inl h
  · exact .inr ⟨g, n, c, ps, h1, AtP.same h2 hu.1 (hu.2 g h2.1 (by omega)), h3, h4, h5, h6⟩
theorem Rng.mono {B C : Nat} {v : Value} {w : World} (h : Rng B v w) (hC : C ≤ B) : Rng C v w := by
  rcases h with h | ⟨g, n, c, ps, h1, h2, h3, h4, h5, h6⟩
  · exact .inl h
  · exact .inr ⟨g, n, c, ps, h1, h2, h3, h4, h5, Nat.le_trans hC h6⟩
theorem Rng.set {B r j : Nat} {v u : Value} {w : World} (h : Rng B v w) (hr : r < B) : Rng B v (w.setCell ⟨r, j, none⟩ u) := by
  rcases h with h | ⟨g, n, c, ps, h1, h2, h3, h4, h5, h6⟩
  · exact .inl h
  · exact .inr ⟨g, n, c, ps, h1, AtP.same h2 (by simp [World.setCell]) (by simp [World.setCell, Array.getElem?_modify]; omega), h3, h4, h5, h6⟩

/-- What the drawer hands back. -/
def AddDrew (w : World) (e : Ending) (w' : World) : Prop := ∃ (v : Value) (x : HeadV), e = .returned (.tuple #[v, headVal x]) ∧ Rng w.heap.size v w' ∧ x.prev.size ≤ 16 ∧ x.root.size ≤ 16 ∧ Below w.heap.size w w'

set_option maxHeartbeats 4000000 in
set_option maxRecDepth 100000 in
theorem dDrawRangeAdd (a : Option Addr) (len cap : Nat) (zs : List Int) (w : World) (h : IsRow .u8 w a len cap zs) :
    Calls Tryz.prog 4 #[.slice a len cap] w fun e w' => AddDrew w e w' := by
  have HPO : Hid (∀ v w' (yp yr : ByteArray) (yt yd yn : Int), Rng w.heap.size v w' → yp.size ≤ 16 → yr.size ≤ 16 → Below w.heap.size w w' → AddDrew w (.returned (.tuple #[v, .agg #[.string yp, .string yr, .int .i64 yt, .int .i64 yd, .int .i64 yn]])) w') := fun v w' yp yr yt yd yn h0 h2 h3 h4 => ⟨v, ⟨yp, yr, yt, yd, yn⟩, rfl, h0, h2, h3, h4⟩
  generalize AddDrew w = CP at HPO ⊢
  have HZ : Hid (HBk (w.alloc (.cells #[.string ⟨#[]⟩, .string ⟨#[]⟩, .int .i64 0, .int .i64 0, .int .i64 0] 25)) w.heap.size ⟨#[]⟩ ⟨#[]⟩ 0 0 0) := HBk.new w ⟨#[]⟩ ⟨#[]⟩ 0 0 0
  have HB : Hid (Below w.heap.size w (w.alloc (.cells #[.string ⟨#[]⟩, .string ⟨#[]⟩, .int .i64 0, .int .i64 0, .int .i64 0] 25))) := (Below.refl _ w).alloc (Nat.le_refl _) _
  have hs0 : (w.alloc (.cells #[.string ⟨#[]⟩, .string ⟨#[]⟩, .int .i64 0, .int .i64 0, .int .i64 0] 25)).heap.size = w.heap.size + 1 := by simp
  have hop := open_walk a len cap zs (w.alloc (.cells #[.string ⟨#[]⟩, .string ⟨#[]⟩, .int .i64 0, .int .i64 0, .int .i64 0] 25)) (rowBelowR h ((Below.refl _ w).alloc (Nat.le_refl _) _))
  clear h
  obtain ⟨r, hr⟩ : ∃ r, r = w.heap.size := ⟨_, rfl⟩
  rw [← hr] at HZ HB hs0 HPO
  go_enter Tryz.func4, Tryz.ntmps4
  go_wp2_with fail
  rw [← hr]
  clear hr
  generalize w.alloc (.cells #[.string ⟨#[]⟩, .string ⟨#[]⟩, .int .i64 0, .int .i64 0, .int .i64 0] 25) = w0 at HZ HB hs0 hop ⊢
  refine hop.mono ?_
  rintro e w1 ⟨rfl, hr1, b1, hs1⟩
  have hdr := drawRange _ _ 0 w1 hr1 (by omega)
  have HZ1 : Hid (HBk w1 r ⟨#[]⟩ ⟨#[]⟩ 0 0 0) := HZ.out.below b1 (by omega)
  have HB1 : Hid (Below r w w1) := HB.out.trans (b1.mono (by omega))
  have HS1 : Hid (w1.heap.size = r + 2) := by show _ = _; omega
  rw [hs0] at hdr
  clear hop HZ HB b1 hr1 hs1
  go_wp2_with fail
  refine hdr.mono ?_
  rintro e w2 ⟨v, q, rfl, hv, hq, hr2, bl2⟩
  have HV2 : Hid (Rng (r + 2) v w2) := hv.mono (by have := HS1.out; omega)
  have HZ2 : Hid (HBk w2 r ⟨#[]⟩ ⟨#[]⟩ 0 0 0) := HZ1.out.below bl2 (by omega)
  have HB2 : Hid (Below r w w2) := HB1.out.trans (bl2.mono (by omega))
  have hdh := drawHead _ _ q w2 hr2 (by omega)
  clear hdr HZ1 HB1 hv bl2 hr2 hq HS1
  go_wp2_with fail
  refine hdh.mono ?_
  rintro e w3 ⟨⟨yp, yr, yt, yd, yn⟩, q3, rfl, hp, hq, _, hr3, bl3, bu3⟩
  have HV3 : Hid (Rng (r + 2) v w3) := HV2.out.but bu3 (by omega)
  have HZ3 : Hid (HBk w3 r ⟨#[]⟩ ⟨#[]⟩ 0 0 0) := HZ2.out.below bl3 (by omega)
  have HB3 : Hid (Below r w w3) := HB2.out.trans (bl3.mono (by omega))
  have HF : Hid (HBk (five w3 r yp yr yt yd yn) r yp yr yt yd yn ∧ Below r w (five w3 r yp yr yt yd yn) ∧ Rng r v (five w3 r yp yr yt yd yn)) := ⟨((((HZ3.out.set0 yp).set1 yr).set2 yt).set3 yd).set4 yn, ((((HB3.out.setCell (p := ⟨r, 0, none⟩) (Nat.le_refl _) _).setCell (p := ⟨r, 1, none⟩) (Nat.le_refl _) _).setCell (p := ⟨r, 2, none⟩) (Nat.le_refl _) _).setCell (p := ⟨r, 3, none⟩) (Nat.le_refl _) _).setCell (p := ⟨r, 4, none⟩) (Nat.le_refl _) _,
    (((((HV3.out.set (j := 0) (u := .string yp) (by omega)).set (j := 1) (u := .string yr) (by omega)).set (j := 2) (u := .int .i64 yt) (by omega)).set (j := 3) (u := .int .i64 yd) (by omega)).set (j := 4) (u := .int .i64 yn) (by omega)).mono (by omega)⟩
  obtain ⟨c0, c1, c2, c3, c4, f0, f1, f2, f3, f4⟩ := HZ3.out.facts
  dsimp only at hp hq
  have HS : Hid (yp.size ≤ 16 ∧ yr.size ≤ 16) := ⟨hp, hq⟩
  clear hdh HV2 HZ2 HB2 HV3 HZ3 HB3 bl3 bu3 hr3 hp hq
  go_wp2_with fail
  exact bodyPost_ret (results_tmp_row (p := 3) (u := 2) rfl _ _ r 25 #[.string yp, .string yr, .int .i64 yt, .int .i64 yd, .int .i64 yn] (0, 0) _ rfl HF.out.1 Tryz.underlying25 rfl (by kernel_rfl)) rfl (HPO.out _ _ yp yr yt yd yn HF.out.2.2 HS.out.1 HS.out.2 HF.out.2.1)
end Go.Proofs.YtplldapkcljllaaGreatDoor

set_option linter.unusedVariables false
namespace Go.Proofs.YtplldapkcljllaaGreatDoor
open Go.RowKit Go.Deep

def sumW : List PeakV → Int
  | [] => 0
  | p :: r => p.work + sumW r
theorem wrk_sum (ps : List PeakV) : ∀ k, k ≤ ps.length → wrkTo ps k = sumW (ps.take k).reverse
  | 0, _ => by simp [wrkTo, sumW]
  | k + 1, hk => by
    rw [wrkTo, wrk_sum ps k (by omega), take_one (by omega), List.reverse_append]
    simp [sumW, Int.add_comm]
theorem wrk_all (ps : List PeakV) : wrkTo ps ps.length = sumW ps.reverse := by
  rw [wrk_sum ps ps.length (Nat.le_refl _), List.take_length]
theorem addR_wrk : ∀ (r : List PeakV) (p : PeakV), sumW (addR r p) = sumW r + p.work
  | [], p => by simp [addR, sumW]
  | x :: r, p => by
    unfold addR
    split
    · rw [addR_wrk r (bothP x p)]
      simp only [sumW, bothP]
      omega
    · simp only [sumW]
      omega
theorem addP_wrk (ps : List PeakV) (p : PeakV) : wrkTo (addP ps p) (addP ps p).length = wrkTo ps ps.length + p.work := by
  rw [wrk_all, wrk_all, addP, List.reverse_reverse, addR_wrk]

theorem coPeaksNil (w : World) : Calls Tryz.prog 7 #[.slice none 0 0, .slice none 0 0] w fun e w' => e = .returned (.bool true) ∧ Below w.heap.size w w' := by
  go_enter Tryz.func7, Tryz.ntmps7
  go_wp2_with fail
  go_loopw [5] (fun i wr => i = .int .i64 0 ∧ Hid (wr = w)) (fun _ _ => 0)
  case atStart => exact ⟨rfl, rfl⟩
  case round =>
    obtain ⟨rfl, HW⟩ := hrel
    go_wp2_with fail
    go_ret
    exact ⟨rfl, by rw [HW.out]; exact Below.refl _ _⟩
theorem samePB_self (p : PeakV) : samePB p p = true := by simp [samePB]

set_option maxHeartbeats 2000000 in
set_option maxRecDepth 100000 in
theorem coPeaksSame (g1 c1 g2 c2 n : Nat) (l : List PeakV) (w : World) (h1 : AtP w g1 l) (h2 : AtP w g2 l) (hn : n = l.length) (hm : n ≤ 1048576) :
    Calls Tryz.prog 7 #[.slice (some ⟨g1, 0, none⟩) n c1, .slice (some ⟨g2, 0, none⟩) n c2] w fun e w' => e = .returned (.bool true) ∧ Below w.heap.size w w' := by
  have H1 : Hid (AtP w g1 l) := h1
  have H2 : Hid (AtP w g2 l) := h2
  have HN : Hid (n = l.length) := hn
  clear h1 h2 hn
  go_enter Tryz.func7, Tryz.ntmps7
  go_wp2_with fail
  go_loopw [5] (fun i wr => ∃ k : Nat, k ≤ n ∧ i = .int .i64 (k : Int) ∧ Hid (Below w.heap.size w wr)) (fun i _ => n - (intOf i).toNat)
  case atStart => exact ⟨0, by omega, rfl, Below.refl _ _⟩
  case round =>
    obtain ⟨k, hk, rfl, HB⟩ := hrel
    by_cases hlt : k < n
    · have hkl : k < l.length := by rw [← HN.out]; exact hlt
      have HA1 : Hid (AtP wr g1 l) := H1.out.below HB.out H1.out.1
      have HA2 : Hid (AtP wr g2 l) := H2.out.below HB.out H2.out.1
      have a0 := AtP.c0 HA1.out k hkl
      have a1 := AtP.c1 HA1.out k hkl
      have a2 := AtP.c2 HA1.out k hkl
      have b0 := AtP.c0 HA2.out k hkl
      have b1 := AtP.c1 HA2.out k hkl
      have b2 := AtP.c2 HA2.out k hkl
      have lk0 : (0 : Int) ≤ (k : Int) := by omega
      have lk1 : (k : Int) < (n : Int) := by omega
      have HK1 : Hid (k + 1 ≤ n) := hlt
      have wk : IntKind.i64.wrap ((k : Int) + 1) = (k : Int) + 1 := by rw [IntKind.wrap_i64]; omega
      generalize l.getD k default = p at a0 a1 a2 b0 b1 b2
      have hse := runSamePk p p
      rw [samePB_self] at hse
      have hgd := eqPkG
      clear hkl HA1 HA2
      go_wp2_with fail
      go_big_region
      go_wp2_with fail
      go_roundw
      case rel => exact ⟨k + 1, HK1.out, by go_num, HB.out.drew⟩
      case measure => have := HK1.out; simp [intOf]; omega
    · obtain rfl : k = n := by omega
      go_wp2_with fail
      go_ret
      exact ⟨rfl, HB.out⟩
end Go.Proofs.YtplldapkcljllaaGreatDoor

set_option linter.unusedVariables false
namespace Go.Proofs.YtplldapkcljllaaGreatDoor
open Go.RowKit Go.Deep

theorem AddPost.no {B : Nat} {ps : List PeakV} {h : HeadV} {e : Ending} {w' : World} (hp : AddPost B ps h e w') (hk : (rangeOkB ps && headOkB h) = false) : e = .returned (.tuple #[.slice none 0 0, .bool false]) := by
  rcases hp with ⟨_, h2⟩ | ⟨h1, _⟩
  · exact h2
  · rw [hk] at h1; cases h1
theorem AddPost.yes {B : Nat} {ps L : List PeakV} {h : HeadV} {e : Ending} {w' : World} {ro : Bool} (hp : AddPost B ps h e w') (hk : (rangeOkB ps && headOkB h) = true) (hro : rangeOkB (addP ps (leafP h)) = ro) (hL : (if rangeOkB (addP ps (leafP h)) then addP ps (leafP h) else ps) = L) : ∃ g c, e = .returned (.tuple #[.slice (some ⟨g, 0, none⟩) L.length c, .bool ro]) ∧ AtP w' g L := by
  rcases hp with ⟨h1, _⟩ | ⟨_, v, h2, h3⟩
  · rw [hk] at h1; cases h1
  · rw [hL] at h3
    rw [hro] at h2
    obtain ⟨g, c, rfl, h4, _, _⟩ := PBk.frow h3
    exact ⟨g, c, h2, h4⟩
/-- What a drawn list answers. -/
structure Ans (w1 : World) (v : Value) (ps : List PeakV) (x : HeadV) : Prop where
  im : ∀ w', Below w1.heap.size w1 w' → Calls Tryz.prog 5 #[v, headVal x] w' fun e w'' => AddPost w'.heap.size ps x e w'' ∧ Below w'.heap.size w' w''
  sp : ∀ w', Below w1.heap.size w1 w' → Calls Tryz.prog 6 #[v, headVal x] w' fun e w'' => AddPost w'.heap.size ps x e w'' ∧ Below w'.heap.size w' w''
  mn : rangeOkB ps = true → ∀ w', Below w1.heap.size w1 w' → Calls Tryz.prog 8 #[v] w' fun e w'' => e = .returned (.tuple #[.int .i64 (cntTo ps ps.length), .int .i64 (wrkTo ps ps.length)]) ∧ Below w'.heap.size w' w''
theorem ans_of {B : Nat} {w1 : World} {v : Value} {x : HeadV} (hv : Rng B v w1) (hp : x.prev.size ≤ 16) (hr : x.root.size ≤ 16) (hK : RowG w1 shaK) (hP : TabP w1) : ∃ ps, Ans w1 v ps x := by
  have hp' : x.prev.size ≤ maxLen := Nat.le_trans hp (by decide)
  have hr' : x.root.size ≤ maxLen := Nat.le_trans hr (by decide)
  rcases hv with rfl | ⟨g, n, c, ps, rfl, hA, hn, h21, hz, _⟩
  · exact ⟨[], fun w' hb => implRangeAddNil [] rfl x w' (hK.below hb hK.lt) (TabP.below hP hb (Nat.le_refl _)), fun w' hb => specRangeAddNil [] rfl x w' hp' hr', fun _ w' hb => implRangeManyNil w'⟩
  · refine ⟨ps, fun w' hb => implRangeAdd g n c ps x w' (hA.below hb hA.1) hn (by omega) (hK.below hb hK.lt) (TabP.below hP hb (Nat.le_refl _)), fun w' hb => specRangeAdd g n c ps x w' (hA.below hb hA.1) hn (by omega) (getD_all (C := fun q => q.sum.size ≤ maxLen) hz) hp' hr', fun hk w' hb => ?_⟩
    have := implRangeMany g n c ps w' (hA.below hb hA.1) hn (by omega)
    rw [many_yes hk] at this
    exact this

set_option maxHeartbeats 8000000 in
set_option maxRecDepth 100000 in
theorem walk_FnRangeAdd (a : Option Addr) (len cap : Nat) (zs : List Int) (w : World) (h : IsRow .u8 w a len cap zs) (hK : RowG w shaK) (hP : TabP w) :
    Calls Tryz.prog 3 #[.slice a len cap] w fun e w' => e = .returned (.bool true) ∧ Below w.heap.size w w' := by
  by_cases hl : (1048576 : Int) < (len : Int)
  · clear hK hP
    go_enter Tryz.func3, Tryz.ntmps3
    go_wp2
    go_ret
    exact ⟨rfl, Below.refl _ _⟩
  have hdr := dDrawRangeAdd a len cap zs w h
  have HK : Hid (RowG w shaK) := hK
  have HP : Hid (∀ w', Below w.heap.size w w' → TabP w') := fun w' hb => TabP.below hP hb (Nat.le_refl _)
  clear hK hP h
  go_enter Tryz.func3, Tryz.ntmps3
  go_wp2_with fail
  refine hdr.mono ?_
  rintro e w1 ⟨v, x, rfl, hv, hxp, hxr, b1⟩
  have HB1 : Hid (Below w.heap.size w w1) := b1
  obtain ⟨ps, hans⟩ := ans_of hv hxp hxr (HK.out.below b1 HK.out.lt) (HP.out w1 b1)
  have HA : Hid (Ans w1 v ps x) := hans
  clear hdr HK HP hv hxp hxr b1 hans
  have C0 : Hid (CBk (w1.alloc (.cells #[.string x.prev, .string x.root, .int .i64 x.time, .int .i64 x.diff, .int .i64 x.nonce] 25)) w1.heap.size 25 #[.string x.prev, .string x.root, .int .i64 x.time, .int .i64 x.diff, .int .i64 x.nonce]) := CBk.new w1 _ _
  have B0 : Hid (Below w1.heap.size w1 (w1.alloc (.cells #[.string x.prev, .string x.root, .int .i64 x.time, .int .i64 x.diff, .int .i64 x.nonce] 25))) := (Below.refl _ w1).alloc (Nat.le_refl _) _
  cases hk : rangeOkB ps && headOkB x with
  | false =>
    have HI : Hid (∀ w', Below w1.heap.size w1 w' → Calls Tryz.prog 5 #[v, headVal x] w' fun e w'' => e = .returned (.tuple #[.slice none 0 0, .bool false]) ∧ Below w'.heap.size w' w'') := fun w' hb => (HA.out.im w' hb).mono fun e w'' h => ⟨h.1.no hk, h.2⟩
    have HS : Hid (∀ w', Below w1.heap.size w1 w' → Calls Tryz.prog 6 #[v, headVal x] w' fun e w'' => e = .returned (.tuple #[.slice none 0 0, .bool false]) ∧ Below w'.heap.size w' w'') := fun w' hb => (HA.out.sp w' hb).mono fun e w'' h => ⟨h.1.no hk, h.2⟩
    clear HA hk
    unfold headVal at HI HS ⊢
    obtain ⟨p, r, t, d, n⟩ := x
    dsimp only at HI HS C0 B0 ⊢
    have hcp := fun w' => coPeaksNil w'
    have h0 := HI.out _ B0.out
    clear HI
    go_wp2_with fail
    generalize (w1.alloc (.cells #[.string p, .string r, .int .i64 t, .int .i64 d, .int .i64 n] 25)) = W0 at C0 B0 h0 ⊢
    obtain ⟨g0, hg0⟩ : ∃ g0, g0 = w1.heap.size := ⟨_, rfl⟩
    rw [← hg0] at C0 ⊢
    clear hg0
    refine Calls.mono h0 ?_
    rintro e w2 ⟨rfl, b2⟩
    have C2 : Hid (CBk w2 g0 25 #[.string p, .string r, .int .i64 t, .int .i64 d, .int .i64 n]) := C0.out.call b2
    have B2 : Hid (Below w1.heap.size w1 w2) := B0.out.trans (b2.mono B0.out.size)
    obtain ⟨e0, e1, e2, e3, e4⟩ := C2.out.cells5
    have h2 := HS.out _ B2.out
    clear C0 B0 b2 h0 HS
    go_wp2_with fail
    refine Calls.mono h2 ?_
    rintro e w3 ⟨rfl, b3⟩
    have B3 : Hid (Below w1.heap.size w1 w3) := B2.out.trans (b3.mono B2.out.size)
    clear B2 b3 h2 C2 e0 e1 e2 e3 e4
    go_wp2_with fail
    refine (hcp _).mono ?_
    rintro e w4 ⟨rfl, b4⟩
    have B4 : Hid (Below w1.heap.size w1 w4) := B3.out.trans (b4.mono B3.out.size)
    clear B3 b4
    go_wp2_with fail
    refine (hcp _).mono ?_
    rintro e w5 ⟨rfl, b5⟩
    have B5 : Hid (Below w1.heap.size w1 w5) := B4.out.trans (b5.mono B4.out.size)
    clear B4 b5 hcp
    go_wp2_with fail
    go_ret
    exact ⟨rfl, HB1.out.trans (B5.out.mono HB1.out.size)⟩
  | true =>
    have hk2 := hk
    rw [Bool.and_eq_true] at hk2
    have hlen := range_len hk2.1
    have hal := addP_len ps (leafP x)
    have HM : Hid (∀ w', Below w1.heap.size w1 w' → Calls Tryz.prog 8 #[v] w' fun e w'' => e = .returned (.tuple #[.int .i64 (cntTo ps ps.length), .int .i64 (wrkTo ps ps.length)]) ∧ Below w'.heap.size w' w'') := HA.out.mn hk2.1
    have HCW : Hid (cntTo (addP ps (leafP x)) (addP ps (leafP x)).length = cntTo ps ps.length + 1 ∧ wrkTo (addP ps (leafP x)) (addP ps (leafP x)).length = wrkTo ps ps.length + x.diff) := ⟨addP_cnt ps (leafP x), addP_wrk ps (leafP x)⟩
    have k1 := cnt_in hk2.1 ps.length (Nat.le_refl _)
    have k2 := range_cnt hk2.1
    have k3 := wrk_in hk2.1 ps.length (Nat.le_refl _)
    have k4 := (headOk_in hk2.2).2.2.2.1
    have hw1 : IntKind.i64.wrap (cntTo ps ps.length + 1) = cntTo ps ps.length + 1 := by rw [IntKind.wrap_i64]; omega
    have hw2 : IntKind.i64.wrap (wrkTo ps ps.length + x.diff) = wrkTo ps ps.length + x.diff := by rw [IntKind.wrap_i64]; omega
    clear k1 k2 k3 k4
    cases hro : rangeOkB (addP ps (leafP x)) with
    | false =>
      have hL : (if rangeOkB (addP ps (leafP x)) then addP ps (leafP x) else ps) = ps := by rw [hro]; rfl
      have HI : Hid (∀ w', Below w1.heap.size w1 w' → Calls Tryz.prog 5 #[v, headVal x] w' fun e w'' => (∃ g c, e = .returned (.tuple #[.slice (some ⟨g, 0, none⟩) ps.length c, .bool false]) ∧ AtP w'' g ps) ∧ Below w'.heap.size w' w'') := fun w' hb => (HA.out.im w' hb).mono fun e w'' h => ⟨h.1.yes hk hro hL, h.2⟩
      have HS : Hid (∀ w', Below w1.heap.size w1 w' → Calls Tryz.prog 6 #[v, headVal x] w' fun e w'' => (∃ g c, e = .returned (.tuple #[.slice (some ⟨g, 0, none⟩) ps.length c, .bool false]) ∧ AtP w'' g ps) ∧ Below w'.heap.size w' w'') := fun w' hb => (HA.out.sp w' hb).mono fun e w'' h => ⟨h.1.yes hk hro hL, h.2⟩
      clear HA hk hro hL HM HCW hw1 hw2 hk2 hal
      unfold headVal at HI HS ⊢
      obtain ⟨p, r, t, d, n⟩ := x
      dsimp only at HI HS C0 B0 ⊢
      have h0 := HI.out _ B0.out
      have HLE : Hid (ps.length ≤ 1048576) := by show _ ≤ _; omega
      clear HI hlen
      go_wp2_with fail
      generalize (w1.alloc (.cells #[.string p, .string r, .int .i64 t, .int .i64 d, .int .i64 n] 25)) = W0 at C0 B0 h0 ⊢
      obtain ⟨g0, hg0⟩ : ∃ g0, g0 = w1.heap.size := ⟨_, rfl⟩
      rw [← hg0] at C0 ⊢
      clear hg0
      refine Calls.mono h0 ?_
      rintro e w2 ⟨⟨ga, ca, rfl, ha⟩, b2⟩
      have C2 : Hid (CBk w2 g0 25 #[.string p, .string r, .int .i64 t, .int .i64 d, .int .i64 n]) := C0.out.call b2
      have B2 : Hid (Below w1.heap.size w1 w2) := B0.out.trans (b2.mono B0.out.size)
      have A2 : Hid (AtP w2 ga ps) := ha
      obtain ⟨e0, e1, e2, e3, e4⟩ := C2.out.cells5
      have h2 := HS.out _ B2.out
      clear C0 B0 b2 h0 HS ha
      go_wp2_with fail
      refine Calls.mono h2 ?_
      rintro e w3 ⟨⟨gb, cb, rfl, hb⟩, b3⟩
      have B3 : Hid (Below w1.heap.size w1 w3) := B2.out.trans (b3.mono B2.out.size)
      have A3 : Hid (AtP w3 ga ps) := A2.out.below b3 A2.out.1
      have D3 : Hid (AtP w3 gb ps) := hb
      clear B2 b3 h2 C2 e0 e1 e2 e3 e4 A2 hb
      have hcp := fun w' (hb : Below w3.heap.size w3 w') => coPeaksSame ga ca gb cb ps.length ps w' (A3.out.below hb A3.out.1) (D3.out.below hb D3.out.1) rfl HLE.out
      go_wp2_with fail
      refine (hcp _ (Below.refl _ _)).mono ?_
      rintro e w4 ⟨rfl, b4⟩
      have B4 : Hid (Below w1.heap.size w1 w4) := B3.out.trans (b4.mono B3.out.size)
      have h4 := hcp w4 b4
      clear hcp b4
      go_wp2_with fail
      refine h4.mono ?_
      rintro e w5 ⟨rfl, b5⟩
      have B5 : Hid (Below w1.heap.size w1 w5) := B4.out.trans (b5.mono B4.out.size)
      clear B4 b5 h4
      go_wp2_with fail
      go_ret
      exact ⟨rfl, HB1.out.trans (B5.out.mono HB1.out.size)⟩
    | true =>
      have hL : (if rangeOkB (addP ps (leafP x)) then addP ps (leafP x) else ps) = addP ps (leafP x) := by rw [hro]; rfl
      have HRO : Hid (rangeOkB (addP ps (leafP x)) = true) := hro
      have HI : Hid (∀ w', Below w1.heap.size w1 w' → Calls Tryz.prog 5 #[v, headVal x] w' fun e w'' => (∃ g c, e = .returned (.tuple #[.slice (some ⟨g, 0, none⟩) (addP ps (leafP x)).length c, .bool true]) ∧ AtP w'' g (addP ps (leafP x))) ∧ Below w'.heap.size w' w'') := fun w' hb => (HA.out.im w' hb).mono fun e w'' h => ⟨h.1.yes hk hro hL, h.2⟩
      have HS : Hid (∀ w', Below w1.heap.size w1 w' → Calls Tryz.prog 6 #[v, headVal x] w' fun e w'' => (∃ g c, e = .returned (.tuple #[.slice (some ⟨g, 0, none⟩) (addP ps (leafP x)).length c, .bool true]) ∧ AtP w'' g (addP ps (leafP x))) ∧ Below w'.heap.size w' w'') := fun w' hb => (HA.out.sp w' hb).mono fun e w'' h => ⟨h.1.yes hk hro hL, h.2⟩
      have HLE : Hid ((addP ps (leafP x)).length ≤ 1048576) := by show _ ≤ _; omega
      have hMM : ∀ g c w', AtP w' g (addP ps (leafP x)) → Calls Tryz.prog 8 #[.slice (some ⟨g, 0, none⟩) (addP ps (leafP x)).length c] w' fun e w'' => e = .returned (.tuple #[.int .i64 (cntTo ps ps.length + 1), .int .i64 (wrkTo ps ps.length + x.diff)]) ∧ Below w'.heap.size w' w'' := fun g c w' hA => by
        have := implRangeMany g _ c (addP ps (leafP x)) w' hA rfl HLE.out
        rw [many_yes HRO.out, HCW.out.1, HCW.out.2] at this
        exact this
      have HMM : Hid (∀ g c w', AtP w' g (addP ps (leafP x)) → _) := hMM
      have hRR : ∀ g c w', AtP w' g (addP ps (leafP x)) → Calls Tryz.prog 9 #[.slice (some ⟨g, 0, none⟩) (addP ps (leafP x)).length c] w' fun e w'' => e = .returned (.bool true) ∧ Below w'.heap.size w' w'' := fun g c w' hA => by
        have := implRangeOk g _ c (addP ps (leafP x)) w' hA rfl (by have := HLE.out; omega)
        rw [HRO.out] at this
        exact this
      have HRR : Hid (∀ g c w', AtP w' g (addP ps (leafP x)) → _) := hRR
      clear HA hk hro hL HCW hk2 hal hlen hMM hRR HRO
      unfold headVal at HI HS ⊢
      obtain ⟨p, r, t, d, n⟩ := x
      dsimp only at HI HS C0 B0 hw2 HMM ⊢
      generalize addP ps (leafP ⟨p, r, t, d, n⟩) = L at HI HS HLE HMM HRR
      generalize cntTo ps ps.length = X at HM HMM hw1
      generalize wrkTo ps ps.length = Y at HM HMM hw2
      have h0 := HI.out _ B0.out
      clear HI
      go_wp2_with fail
      generalize (w1.alloc (.cells #[.string p, .string r, .int .i64 t, .int .i64 d, .int .i64 n] 25)) = W0 at C0 B0 h0 ⊢
      obtain ⟨g0, hg0⟩ : ∃ g0, g0 = w1.heap.size := ⟨_, rfl⟩
      rw [← hg0] at C0 ⊢
      clear hg0
      refine Calls.mono h0 ?_
      rintro e w2 ⟨⟨ga, ca, rfl, ha⟩, b2⟩
      have C2 : Hid (CBk w2 g0 25 #[.string p, .string r, .int .i64 t, .int .i64 d, .int .i64 n]) := C0.out.call b2
      have B2 : Hid (Below w1.heap.size w1 w2) := B0.out.trans (b2.mono B0.out.size)
      have A2 : Hid (AtP w2 ga L) := ha
      obtain ⟨e0, e1, e2, e3, e4⟩ := C2.out.cells5
      have h2 := HS.out _ B2.out
      clear C0 B0 b2 h0 HS ha
      go_wp2_with fail
      refine Calls.mono h2 ?_
      rintro e w3 ⟨⟨gb, cb, rfl, hb⟩, b3⟩
      have C3 : Hid (CBk w3 g0 25 #[.string p, .string r, .int .i64 t, .int .i64 d, .int .i64 n]) := C2.out.call b3
      have B3 : Hid (Below w1.heap.size w1 w3) := B2.out.trans (b3.mono B2.out.size)
      have A3 : Hid (AtP w3 ga L) := A2.out.below b3 A2.out.1
      have hcp := coPeaksSame ga ca gb cb L.length L w3 A3.out hb rfl HLE.out
      clear B2 b3 h2 C2 e0 e1 e2 e3 e4 A2 hb
      go_wp2_with fail
      refine hcp.mono ?_
      rintro e w4 ⟨rfl, b4⟩
      have C4 : Hid (CBk w4 g0 25 #[.string p, .string r, .int .i64 t, .int .i64 d, .int .i64 n]) := C3.out.call b4
      have B4 : Hid (Below w1.heap.size w1 w4) := B3.out.trans (b4.mono B3.out.size)
      have A4 : Hid (AtP w4 ga L) := A3.out.below b4 A3.out.1
      have h4 := HM.out w4 B4.out
      clear hcp b4 C3 B3 A3 HM
      go_wp2_with fail
      refine h4.mono ?_
      rintro e w5 ⟨rfl, b5⟩
      have C5 : Hid (CBk w5 g0 25 #[.string p, .string r, .int .i64 t, .int .i64 d, .int .i64 n]) := C4.out.call b5
      have B5 : Hid (Below w1.heap.size w1 w5) := B4.out.trans (b5.mono B4.out.size)
      have A5 : Hid (AtP w5 ga L) := A4.out.below b5 A4.out.1
      have h5 := HMM.out ga ca w5 A5.out
      clear h4 b5 C4 B4 A4 HMM
      go_wp2_with fail
      refine Calls.mono h5 ?_
      rintro e w6 ⟨rfl, b6⟩
      have C6 : Hid (CBk w6 g0 25 #[.string p, .string r, .int .i64 t, .int .i64 d, .int .i64 n]) := C5.out.call b6
      have B6 : Hid (Below w1.heap.size w1 w6) := B5.out.trans (b6.mono B5.out.size)
      have A6 : Hid (AtP w6 ga L) := A5.out.below b6 A5.out.1
      have h6 := HRR.out ga ca w6 A6.out
      clear h5 b6 C5 B5 A5 HRR
      obtain ⟨e0, e1, e2, e3, e4⟩ := C6.out.cells5
      go_wp2_with fail
      refine Calls.mono h6 ?_
      rintro e w7 ⟨rfl, b7⟩
      have C7 : Hid (CBk w7 g0 25 #[.string p, .string r, .int .i64 t, .int .i64 d, .int .i64 n]) := C6.out.call b7
      have B7 : Hid (Below w1.heap.size w1 w7) := B6.out.trans (b7.mono B6.out.size)
      clear h6 b7 C6 B6 A6 e0 e1 e2 e3 e4
      obtain ⟨e0, e1, e2, e3, e4⟩ := C7.out.cells5
      go_wp2_with fail
      go_ret
      exact ⟨rfl, HB1.out.trans (B7.out.mono HB1.out.size)⟩
end Go.Proofs.YtplldapkcljllaaGreatDoor

namespace Go.Proofs.YtplldapkcljllaaGreatDoor
open Go.ChangeShapes Go.WideShapes Go.ChangeAt Go.RowKit
open Go.ChangeMaps (open_string shut_string)
set_option linter.unusedVariables false

theorem own_fnRangeAdd : ownKnob Tryz.prog.godebug = none := by kernel_rfl
theorem laid_fnRangeAdd : laidOutB Tryz.prog = true := by kernel_rfl
theorem table_fnRangeAdd {W : World} (h : laidMetH Tryz.prog Rows.fnRangeAddRow.laid W) : RowG W shaK ∧ TabP W := tabs_of_laid h

theorem met_fnRangeAdd (os : Os) : laidMet Tryz.prog Rows.fnRangeAddRow.laid ((laidWorld os).forCall (fun _ _ => 0) ⟨#[], #[.slice none 0 0], []⟩).memory :=
  laidMet_of_run' 8 (by kernel_rfl) (by kernel_rfl)
theorem reads_fnRangeAdd (os : Os) {H : Type} (enc : TypeId × Value → H) : ∃ places, DataW.whole enc Tryz.prog ((laidWorld os).forCall (fun _ _ => 0) ⟨#[], #[.slice none 0 0], []⟩).memory Tryz.f3.params.toList Rows.fnRangeAddSpec.vars false (#[.slice none 0 0] : Array Value).toList 8 = some ([.nil], [Rows.laid_loop_example_cordillera_impl_sumRounds], places) :=
  ⟨MemPlace.row ⟨0, 0, none⟩ 64, by kernel_rfl⟩

set_option maxRecDepth 100000 in
theorem lifted_fnRangeAdd (os : Os) (started : os.Started) (H : Type) (enc : TypeId × Value → H) (F : Stop.Interp) :
    ReturnsInHanded {} Tryz.checked os 3 .any ((OpenSpec.ofChange Rows.fnRangeAddSpec).preRow enc Tryz.prog Tryz.f3 Rows.fnRangeAddRow.domain false Rows.fnRangeAddRow.laid) (((OpenSpec.ofChange Rows.fnRangeAddSpec).at F).post enc Tryz.prog Tryz.f3 false true false false) := by
  obtain ⟨places, hx⟩ := reads_fnRangeAdd os enc
  refine returnsInHanded_of_row (C := Tryz.checked) (s := OpenSpec.ofChange Rows.fnRangeAddSpec) own_fnRangeAdd started (by kernel_rfl) Tryz.func3
    (witness_row_at (enc := enc) (C := Tryz.checked) false (laidWorld os) #[.slice none 0 0] rfl (by kernel_rfl) (by kernel_rfl) (by kernel_rfl)
      (OpenSpec.preRow_of_cond 8 hx (by kernel_rfl) (fun k hk => by cases hk) (by kernel_rfl) (met_fnRangeAdd os))) ?_
  intro W base args ds gs before hval0 hW _ _ _ hL _ _
  have hval : ∀ (j : Nat) t v, Tryz.f3.params[j]? = some t → args[j]? = some v → Value.okWide Tryz.prog W .any base t v := hval0
  have hW' := hW
  obtain ⟨p, q, hA0, hV, rfl, hfz, hnd⟩ := hW
  have hA : DataW.TrodAll enc Tryz.prog W 0 (fun _ => true) true Tryz.f3.params.toList args.toList ds p := hA0
  rw [Tryz.params3] at hA hval
  obtain ⟨v0, vs0, d0, ds0, p0, q0, hargs, rfl, rfl, h0, r0⟩ := trodAll_cons hA
  obtain ⟨rfl, rfl, rfl⟩ := trodAll_nil r0
  obtain rfl : args = #[v0] := by cases args; simp_all
  obtain ⟨gv, tv, cv, fv, dv, pv, rfl, hgv, htv, hvv, hdv, rfl⟩ := trodVars_one hV
  obtain ⟨a0, len0, cap0, rfl⟩ := okWide_slice Tryz.underlying22 (hval 0 22 v0 rfl rfl)
  have k0 := h0
  have lt0 : ∀ x ∈ p0, x.block < W.heap.size := by obtain ⟨m, hm⟩ := k0; exact DataW.trod_lt m _ _ _ hm
  obtain ⟨z0, w0⟩ : ∃ zs, IsRow .u8 W a0 len0 cap0 zs := by
    obtain ⟨fuel, hf⟩ := h0
    rcases open_ints Tryz.underlying22 Tryz.underlying5 (by kernel_rfl) hf with ⟨hcs, _⟩ | ⟨x, l, c, zs, hcs, _, hl, hm, hz, _, hcell, hwz⟩
    · simp [Value.cells] at hcs
      obtain ⟨rfl, rfl, rfl⟩ := hcs
      exact ⟨[], .inl ⟨rfl, rfl, rfl, rfl⟩⟩
    · simp [Value.cells] at hcs
      obtain ⟨rfl, rfl, rfl⟩ := hcs
      exact ⟨zs, .inr ⟨_, rfl, hl, hm, by simpa using hz, hcell, hwz⟩⟩
  clear hA0 hval0
  refine (walk_FnRangeAdd a0 len0 cap0 z0 W w0 (table_fnRangeAdd hL).1 (table_fnRangeAdd hL).2).mono fun e W' ⟨he, bel⟩ => ?_
  subst he
  obtain ⟨pv', hpv⟩ := varsBack laid_fnRangeAdd hgv htv hvv hdv bel
  exact ⟨_, rfl, _, _, _, [], _, pv', hW', trodAll_mk1 (shut_bool Tryz.underlying4 _), (trodAll_cons_mk (Below.trod laid_fnRangeAdd (by kernel_rfl) (of_decide_eq_true (by kernel_rfl)) k0 bel lt0) trodAll_mk0), hpv, bel.frame _, fun h => by cases h⟩

theorem fnRangeAdd_said : Rows.FnRangeAddSaid :=
  OpenClaim.holds_of_cond 3 Tryz.f3 rfl rfl rfl rfl rfl rfl rfl ⟨rfl, rfl, rfl, rfl, rfl⟩ rfl rfl rfl rfl rfl (by kernel_rfl) Tryz.func3 (by kernel_rfl)
    (of_decide_eq_true (by kernel_rfl)) (by unfold Func.isWrapper; first | (rw [if_pos (by decide +kernel)]; kernel_rfl) | (rw [if_neg (by decide +kernel)]; exact ⟨rfl, rfl⟩))
    (fun os started H enc _ F => by rw [OpenClaim.pre_eq_preRow]; exact lifted_fnRangeAdd os started H enc F)
theorem plain_fnRangeAdd (f : FuncId) (fn : Func) (hf : Tryz.pinned.checked.prog.funcNamed "loop.example/cordillera/laws.FnRangeAdd" = some f) (hfn : Tryz.pinned.checked.prog.funcs[f]? = some fn) :
    false = Tryz.pinned.checked.prog.looks [] ∧ ∀ (j : Nat) t, fn.params[j]? = some t → Tryz.pinned.checked.prog.wantsStandIn t = false := by
  obtain rfl : f = 3 := Option.some.inj ((show Tryz.prog.funcNamed "loop.example/cordillera/laws.FnRangeAdd" = some 3 by kernel_rfl).symm.trans hf) |>.symm
  obtain rfl : fn = Tryz.f3 := (Option.some.inj (Tryz.func3.symm.trans hfn)).symm
  refine ⟨by kernel_rfl, fun j t ht => ?_⟩
  rw [Tryz.params3] at ht
  have hall : ∀ t ∈ (#[22] : Array TypeId), Tryz.prog.wantsStandIn t = false := by
    intro t ht
    simp only [List.mem_toArray, List.mem_cons, List.not_mem_nil, or_false] at ht
    subst ht; kernel_rfl
  exact hall t (Array.mem_of_getElem? ht)
theorem fnRangeAdd_holds : Rows.FnRangeAddCardSaid :=
  Claim7.holds_tied_plain_at .later [] _ _ _ _ fnRangeAdd_said (fun _ h => by cases h) (by kernel_rfl) (fun _ h => by cases h) fnRangeAdd_row_tie rfl ⟨rfl, rfl⟩ (by kernel_rfl) rfl plain_fnRangeAdd (by kernel_rfl)
#print axioms fnRangeAdd_holds
end Go.Proofs.YtplldapkcljllaaGreatDoor

