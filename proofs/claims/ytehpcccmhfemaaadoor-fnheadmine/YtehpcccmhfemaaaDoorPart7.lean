/-
  What was made is small enough, by the first number by which it is: for every code that draws a head. The package variables that the row lists are as the program's text lays them.
-/
import Derived.Test.YtehpcccmhfemaaaDoorPart1
import Derived.Test.YtehpcccmhfemaaaDoorPart2
import Derived.Test.YtehpcccmhfemaaaDoorPart3
import Derived.Test.YtehpcccmhfemaaaDoorPart4
import Derived.Test.YtehpcccmhfemaaaDoorPart5
import Derived.Test.YtehpcccmhfemaaaDoorPart6
import Derived.Laws.NewBlocks
import Derived.Laws.StructEq
import Derived.Test.YtehpcccmhfemaaaDoorCards
import Derived.Test.YtehpcccmhfemaaaDoorTie
import Derived.WalkKit
import Derived.ProofKit
import Derived.OpenShut
import Derived.ShutString
import Derived.ChangeOld
import Derived.ChangeVars
import Derived.Below
import Derived.Carry
import Derived.Deep.DeepHandedRow
import Derived.Lib.LaidTab
set_option linter.unusedVariables false
namespace Go.Proofs.YtehpcccmhfemaaaDoor
open Go.RowKit Go.Deep

theorem But.setK {b g : Nat} {w w' : World} (h : But b w w') (hg : w.heap.size ≤ g) (j : Nat) (v : Value) : But b w (w'.setCell ⟨g, j, none⟩ v) :=
  ⟨Nat.le_trans h.1 ((Below.refl 0 w').setCell (p := ⟨g, j, none⟩) (Nat.zero_le _) v).size, fun c hc hb => (((Below.refl (c + 1) w').setCell (p := ⟨g, j, none⟩) (by show c + 1 ≤ g; omega) v).block c (by omega)).trans (h.2 c hc hb)⟩
theorem But.under {b : Nat} {w w' w'' : World} (h : But b w w') (hb : Below w.heap.size w' w'') : But b w w'' :=
  ⟨Nat.le_trans h.1 hb.size, fun c hc hn => (hb.block c hc).trans (h.2 c hc hn)⟩
theorem AtHead.same {w w' : World} {g : Nat} {l : List HeadV} (h : AtHead w g l) (hs : w.heap.size ≤ w'.heap.size) (hk : w'.heap[g]? = w.heap[g]?) : AtHead w' g l :=
  ⟨Nat.lt_of_lt_of_le h.1 hs, fun i j hi hj => (World.cell?_of_block (a := ⟨g, i * 5 + j, none⟩) hk).trans (h.2 i j hi hj)⟩
abbrev five (w : World) (r : Nat) (p2 r2 : ByteArray) (t2 d2 n2 : Int) : World := ((((w.setCell ⟨r, 0, none⟩ (.string p2)).setCell ⟨r, 1, none⟩ (.string r2)).setCell ⟨r, 2, none⟩ (.int .i64 t2)).setCell ⟨r, 3, none⟩ (.int .i64 d2)).setCell ⟨r, 4, none⟩ (.int .i64 n2)
theorem five_fin {B b q r : Nat} {w w9 : World} {p r1 : ByteArray} {t d n : Int} (hB : Below b w w9) (hU : But b w w9) (hr : Rd B b q w9) (hz : HBk w9 r p r1 t d n) (hb : b < r) (hw : w.heap.size ≤ r) (p2 r2 : ByteArray) (t2 d2 n2 : Int) :
    HBk (five w9 r p2 r2 t2 d2 n2) r p2 r2 t2 d2 n2 ∧ Rd B b q (five w9 r p2 r2 t2 d2 n2) ∧ Below b w (five w9 r p2 r2 t2 d2 n2) ∧ But b w (five w9 r p2 r2 t2 d2 n2) := by
  have k : ∀ c, c ≤ r → Below c w9 (five w9 r p2 r2 t2 d2 n2) := fun c hc => (((((Below.refl _ w9).setCell (p := ⟨r, 0, none⟩) hc _).setCell (p := ⟨r, 1, none⟩) hc _).setCell (p := ⟨r, 2, none⟩) hc _).setCell (p := ⟨r, 3, none⟩) hc _).setCell (p := ⟨r, 4, none⟩) hc _
  exact ⟨((((hz.set0 p2).set1 r2).set2 t2).set3 d2).set4 n2, hr.keep (k _ hb), hB.trans (k _ (Nat.le_of_lt hb)), hU.under (k _ hw)⟩
def AnyPostK (B b p : Nat) (w : World) (e : Ending) (w' : World) : Prop := ∃ (v : Value) (cs : List BlkV) (q : Nat), e = .returned v ∧ Loose w.heap.size v cs w' ∧ q ≤ p + 300 ∧ Rd B b q w' ∧ Below b w w' ∧ But b w w'

set_option maxHeartbeats 4000000 in
set_option maxRecDepth 100000 in
theorem drawAnyBlocksK (B b p : Nat) (w : World) (h : Rd B b p w) (hp : p < 1000000000 - 3000) :
    Calls Tryd.prog 44 #[.pointer (some ⟨b, 0, none⟩)] w fun e w' => AnyPostK B b p w e w' := by
  have hlt := h.lt
  have HP : Hid (∀ e w' v cs q, e = .returned v → Loose w.heap.size v cs w' → q ≤ p + 300 → Rd B b q w' → Below b w w' → But b w w' → AnyPostK B b p w e w') := fun e w' v cs q h1 h2 h4 h5 h6 h7 => ⟨v, cs, q, h1, h2, h4, h5, h6, h7⟩
  generalize AnyPostK B b p w = CP at HP ⊢
  have hbl := drawBlocks B b p w h (by omega)
  clear h
  go_enter Tryd.func44, Tryd.ntmps44
  go_wp2_with fail
  refine hbl.mono ?_
  rintro e w1 ⟨v, cs, q, rfl, l1, g1, hq, hr1, bl1, bu1⟩
  obtain ⟨g, c, hv⟩ := l1.row.1
  subst hv
  obtain ⟨n, hn⟩ : ∃ n, n = cs.length := ⟨_, rfl⟩
  rw [← hn] at l1 ⊢
  have HN : Hid (n = cs.length) := hn
  have HL : Hid (BList w.heap.size (.slice (some ⟨g, 0, none⟩) n c) cs w1) := l1
  have HG : Hid (Good cs) := g1
  have HB : Hid (Below b w w1) := bl1
  have HU : Hid (But b w w1) := bu1
  have HR : Hid (Rd B b q w1) := hr1
  have hn20 : n ≤ 20 := by rw [hn]; exact g1.few
  have hsz1 : w.heap.size ≤ w1.heap.size := bu1.1
  clear hbl l1 g1 bl1 bu1 hr1 hn
  by_cases h0 : n = 0
  · subst h0
    go_wp2_with fail
    exact HP.out _ _ _ cs q rfl ⟨HL.out.row, HG.out.few, HG.out.wf⟩ (by omega) HR.out HB.out HU.out
  · have hn0 : (0 : Int) < (n : Int) := by omega
    have hnn : 0 < n := by omega
    have hnd : decide (0 < n) = true := decide_eq_true hnn
    have hpk := pick_walk B b q 5 w1 HR.out (by omega) (by omega)
    go_wp2_with fail
    refine hpk.mono ?_
    rintro e w2 ⟨x2, rfl, hx2, _, hr2, ho2⟩
    have HL2 : Hid (BList w.heap.size (.slice (some ⟨g, 0, none⟩) n c) cs w2) := HL.out.only ho2.but hlt
    have HB2 : Hid (Below b w w2) := HB.out.trans (ho2.below (Nat.le_refl _))
    have HU2 : Hid (But b w w2) := HU.out.trans ho2.but
    have HR2 : Hid (Rd B b (q + 1) w2) := hr2
    have hsz2 : w.heap.size ≤ w2.heap.size := by rw [ho2.size]; exact hsz1
    clear hpk HL HB HR hr2 ho2 h0 hsz1
    by_cases hx0 : x2 = 0
    · subst hx0
      have hpk := pick_walk B b (q + 1) (n : Int) w2 HR2.out (by omega) (by omega)
      go_wp2_with fail
      refine hpk.mono ?_
      rintro e w3 ⟨k, rfl, hk, _, hr3, ho3⟩
      have hkn : k < n := by have := hk (by omega); omega
      have HL3 : Hid (BList w.heap.size (.slice (some ⟨g, 0, none⟩) n c) cs w3) := HL2.out.only ho3.but hlt
      have HB3 : Hid (Below b w w3) := HB2.out.trans (ho3.below (Nat.le_refl _))
      have HU3 : Hid (But b w w3) := HU2.out.trans ho3.but
      have hsz3 : w.heap.size ≤ w3.heap.size := by rw [ho3.size]; exact hsz2
      have hpk4 := pick_walk B b (q + 1 + 1) 5 w3 hr3 (by omega) (by omega)
      clear hpk HL2 HB2 HR2 hr3 ho3 hsz2 hk
      go_wp2_with fail
      refine hpk4.mono ?_
      rintro e w4 ⟨s, rfl, hs, _, hr4, ho4⟩
      have hs5 : s < 5 := by have := hs (by omega); omega
      have HL4 : Hid (BList w.heap.size (.slice (some ⟨g, 0, none⟩) n c) cs w4) := HL3.out.only ho4.but hlt
      have HB4 : Hid (Below b w w4) := HB3.out.trans (ho4.below (Nat.le_refl _))
      have HU4 : Hid (But b w w4) := HU3.out.trans ho4.but
      have hsz4 : w.heap.size ≤ w4.heap.size := by rw [ho4.size]; exact hsz3
      have HR4 : Hid (Rd B b (q + 1 + 1 + 1) w4) := hr4
      have hltr := hr4.lt
      clear hpk4 HL3 HB3 hr4 ho4 hsz3 hs
      have hcase : s = 0 ∨ s = 1 ∨ s = 2 ∨ s = 3 ∨ s = 4 := by omega
      rcases hcase with rfl | rfl | rfl | rfl | rfl
      · have hkl : k < cs.length := by rw [← HN.out]; exact hkn
        have hbk := heap_alloc_new w4 (.cells (non3.map (Value.int .i64)).toArray 3)
        have hone := one_walk B b (q + 1 + 1 + 1) w4.heap.size 3 3 non3 _ (HR4.out.keep ((Below.refl _ _).alloc (by omega) (.cells (non3.map (Value.int .i64)).toArray 3))) (by omega) (by omega) (by omega) (cells_ints hbk rfl 3 (by decide)) (by omega)
        have HL5 : Hid (BList w.heap.size (.slice (some ⟨g, 0, none⟩) n c) cs (w4.alloc (.cells (non3.map (Value.int .i64)).toArray 3))) := HL4.out.below ((Below.refl _ w4).alloc (Nat.le_refl _) _)
        have HB5 : Hid (Below b w (w4.alloc (.cells (non3.map (Value.int .i64)).toArray 3))) := HB4.out.alloc (by omega) _
        have HU5 : Hid (But b w (w4.alloc (.cells (non3.map (Value.int .i64)).toArray 3))) := HU4.out.trans (But.alloc _ _ _)
        have lk : (k : Int) < (n : Int) := by omega
        have lk0 : (0 : Int) ≤ (k : Int) := by omega
        clear hbk HL4 HB4 HR4
        go_wp2_with fail
        refine hone.mono ?_
        rintro e w5 ⟨x, hx, rfl, hr5, ho5⟩
        generalize non3.getD x 0 = nv
        have HL6 : Hid (BList w.heap.size (.slice (some ⟨g, 0, none⟩) n c) cs w5) := HL5.out.only ho5.but hlt
        have HB6 : Hid (Below b w w5) := HB5.out.trans (ho5.below (Nat.le_refl _))
        have HU6 : Hid (But b w w5) := HU5.out.trans ho5.but
        have HR6 : Hid (Rd B b (q + 1 + 1 + 1 + 1) w5) := hr5
        have hcF := AtBlk.c4 (FRow.at enBlk_len HL6.out.row).1 k hkl
        have hfF := BRow.frozen HL6.out.row (k * 6 + 4)
        have hgb := HL6.out.row.at enBlk_len
        have hg1 : w.heap.size ≤ g := hgb.2.2.1
        have HLO : Hid (Loose w.heap.size (.slice (some ⟨g, 0, none⟩) n c) (cs.set k { cs.getD k default with h := { (cs.getD k default).h with nonce := nv } }) (w5.setCell ⟨g, k * 6 + 4, none⟩ (.int .i64 nv))) := Loose.set HL6.out.row HG.out k 4 _ _ hkl (by decide) rfl rfl rfl
        have HR7 : Hid (Rd B b (q + 1 + 1 + 1 + 1) (w5.setCell ⟨g, k * 6 + 4, none⟩ (.int .i64 nv))) := HR6.out.keep ((Below.refl _ _).setCell (p := ⟨g, k * 6 + 4, none⟩) (by show b + 1 ≤ g; omega) _)
        have HB7 : Hid (Below b w (w5.setCell ⟨g, k * 6 + 4, none⟩ (.int .i64 nv))) := HB6.out.setCell (p := ⟨g, k * 6 + 4, none⟩) (by show b ≤ g; omega) _
        have HU7 : Hid (But b w (w5.setCell ⟨g, k * 6 + 4, none⟩ (.int .i64 nv))) := HU6.out.setK (by show w.heap.size ≤ g; omega) _ _
        clear hone HL5 HB5 HL6 hr5 ho5 hgb hkl
        generalize cs.set k { cs.getD k default with h := { (cs.getD k default).h with nonce := nv } } = ds at HLO
        go_wp2_with fail
        exact HP.out _ _ _ ds (q + 1 + 1 + 1 + 1) rfl HLO.out (by omega) HR7.out HB7.out HU7.out
      · obtain ⟨j0, ji, jz0, jz1, jz2⟩ := info_parts infoStr
        have hkl : k < cs.length := by rw [← HN.out]; exact hkn
        have hat := (FRow.at enBlk_len HL4.out.row)
        have q5 := AtBlk.c5 hat.1 k hkl
        have hgw : w.heap.size ≤ g := hat.2.2.1
        have HGL : Hid (g < w4.heap.size) := hat.1.1
        have HOI : Hid (OwnIt w.heap.size w4 (cs.getD k default)) := HL4.out.own _ (getD_mem hkl)
        have HAP : Hid ((cs.getD k default).g ≠ g) := fun h' => HL4.out.apart _ (getD_mem hkl) (by rw [h']; rfl)
        have HIL : Hid ((cs.getD k default).g < w4.heap.size ∧ w.heap.size ≤ (cs.getD k default).g) := ⟨(HL4.out.items _ (getD_mem hkl)).1.1.1, (HL4.out.items _ (getD_mem hkl)).2⟩
        have HNL : Hid ((cs.getD k default).n ≤ 4) := by show _ ≤ _; rw [(HL4.out.items _ (getD_mem hkl)).1.2]; exact HG.out.items _ (getD_mem hkl)
        have HST : Hid (∀ w' bg bn bc bss, BRow w.heap.size (.slice (some ⟨g, 0, none⟩) n c) cs w' → Loose w.heap.size (.slice (some ⟨g, 0, none⟩) n c) (cs.set k { cs.getD k default with g := bg, n := bn, cap := bc, ss := bss }) (w'.setCell ⟨g, k * 6 + 5, none⟩ (.slice (some ⟨bg, 0, none⟩) bn bc))) := fun w' bg bn bc bss hrow => Loose.set hrow HG.out k 5 _ _ hkl (by decide) rfl rfl rfl
        have HRW : Hid (∀ w', w'.heap[g]? = w4.heap[g]? → BRow w.heap.size (.slice (some ⟨g, 0, none⟩) n c) cs w') := fun w' hk' => HL4.out.row.same hk'
        have lk : (k : Int) < (n : Int) := by omega
        have lk0 : (0 : Int) ≤ (k : Int) := by omega
        have hai := drawAnyItemK B b (q + 1 + 1 + 1) w4.drew HR4.out (by omega)
        generalize cs.getD k default = cb at q5 HOI HAP HIL HNL HST
        obtain ⟨ch, cg, cn, cc, css⟩ := cb
        dsimp only at q5 HAP HIL HNL HST
        have hcn4 := HNL.out
        have hx1 : cn + 1 ≤ maxLen := by unfold maxLen; omega
        have hx2 : (cn + 1) * 16 ≤ 140737488355328 := by omega
        have f5 : w4.drew.cell? ⟨g, k * 6 + 5, none⟩ = some (.slice (some ⟨cg, 0, none⟩) cn cc) := q5
        clear hat hkl HR4
        go_wp2_with fail
        go_region_law (first
          | (refine step_append_any rfl (.tmp 50) (.tmp 53) 60 rfl w.heap.size 9 j0 (.string ⟨#[]⟩) 1 16 Tryd.underlying60 ji jz0 jz1 jz2 rfl (by decide) cg cc cn _ (by simp [Act.eval]) HOW.out ⟨w5.heap.size, 0, none⟩ 1 1 [.string it] (by simp [Act.eval]) rfl HCW.out (by simp [Value.oneCell']) hx1 hx2 HSZ.out ?_; intro g6 c6 w6 hown6 hgrow6 hat6 hlt6; have q7 : w6.cell? ⟨g, k * 6 + 5, none⟩ = some (.slice (some ⟨cg, 0, none⟩) cn cc) := (World.cell?_of_block (a := ⟨g, k * 6 + 5, none⟩) (grown_off hgrow6 g HG5.out HAP.out.symm)).trans q6; have z7 : w6.frozen? ⟨g, k * 6 + 5, none⟩ = false := HFZ.out w6 (grown_off hgrow6))
          | (go_simp; refine hai.mono ?_; rintro e w5 ⟨it, q5', rfl, hit, hq5, hr5, bl5, bu5⟩; have q6 : w5.cell? ⟨g, k * 6 + 5, none⟩ = some (.slice (some ⟨cg, 0, none⟩) cn cc) := (World.cell?_of_block (a := ⟨g, k * 6 + 5, none⟩) (bu5.2 g HGL.out (Nat.ne_of_gt (Nat.lt_of_lt_of_le hlt hgw)))).trans q5; have HG5 : Hid (g < w5.heap.size) := Nat.lt_of_lt_of_le HGL.out bu5.1; have q6a : (w5.alloc (.cells #[.string it] 9)).cell? ⟨g, k * 6 + 5, none⟩ = some (.slice (some ⟨cg, 0, none⟩) cn cc) := (((Below.refl _ w5).alloc (Nat.le_refl _) (.cells #[.string it] 9)).cell (p := ⟨g, k * 6 + 5, none⟩) HG5.out).trans q6; have HOW : Hid ((w5.alloc (.cells #[.string it] 9)).ownsRow w.heap.size 9 1 (.slice (some ⟨cg, 0, none⟩) cn cc) cn (css.map Value.string)) := World.ownsRow.alloc (HOI.out.keep (bu5.2 cg HIL.out.1 (Nat.ne_of_gt (Nat.lt_of_lt_of_le hlt HIL.out.2)))) _; have HCW : Hid (∀ j u, ([.string it] : List Value)[j]? = some u → (w5.alloc (.cells #[.string it] 9)).cell? ((⟨w5.heap.size, 0, none⟩ : Addr).add j) = some u) := cells_new w5 9 [.string it]; have HSZ : Hid (w.heap.size ≤ (w5.alloc (.cells #[.string it] 9)).heap.size) := Nat.le_trans (Nat.le_trans hsz4 bu5.1) (size_le_alloc w5 _); have HFZ : Hid (∀ w6 : World, (∀ x, x < w5.heap.size → x ≠ cg → w6.heap[x]? = w5.heap[x]?) → w6.frozen? ⟨g, k * 6 + 5, none⟩ = false) := (fun w6 hf => BRow.frozen (HRW.out w6 ((hf g HG5.out HAP.out.symm).trans (bu5.2 g HGL.out (Nat.ne_of_gt (Nat.lt_of_lt_of_le hlt hgw))))) (k * 6 + 5))))
        all_goals
          have hfar := grown_off hgrow6
          have hs5 : w.heap.size ≤ w5.heap.size := Nat.le_trans hsz4 bu5.1
          have hB6 : Below w.heap.size w5 w6 := ((Below.refl _ w5).alloc hs5 _).grown hgrow6 HSZ.out (fun j hj => by cases hj; exact HIL.out.2)
          have HLO : Hid (Loose w.heap.size (.slice (some ⟨g, 0, none⟩) n c) (cs.set k { (⟨ch, cg, cn, cc, css⟩ : BlkV) with g := g6, n := cn + 1, cap := c6, ss := css ++ [it] }) (w6.setCell ⟨g, k * 6 + 5, none⟩ (.slice (some ⟨g6, 0, none⟩) (cn + 1) c6))) := HST.out w6 g6 (cn + 1) c6 (css ++ [it]) (HRW.out w6 ((hfar g HG5.out HAP.out.symm).trans (bu5.2 g HGL.out (Nat.ne_of_gt (Nat.lt_of_lt_of_le hlt hgw)))))
          have HR7 : Hid (Rd B b q5' (w6.setCell ⟨g, k * 6 + 5, none⟩ (.slice (some ⟨g6, 0, none⟩) (cn + 1) c6))) := (hr5.keep (hB6.mono (by omega))).keep ((Below.refl _ _).setCell (p := ⟨g, k * 6 + 5, none⟩) (by show b + 1 ≤ g; omega) _)
          have HB7 : Hid (Below b w (w6.setCell ⟨g, k * 6 + 5, none⟩ (.slice (some ⟨g6, 0, none⟩) (cn + 1) c6))) := ((HB4.out.drew.trans bl5).trans (hB6.mono (by omega))).setCell (p := ⟨g, k * 6 + 5, none⟩) (by show b ≤ g; omega) _
          have HU7 : Hid (But b w (w6.setCell ⟨g, k * 6 + 5, none⟩ (.slice (some ⟨g6, 0, none⟩) (cn + 1) c6))) := (((show But b w w4.drew from HU4.out).trans bu5).under hB6).setK (by show w.heap.size ≤ g; omega) _ _
          have HQ : Hid (q5' ≤ p + 300) := by show _ ≤ _; omega
          generalize cs.set k { (⟨ch, cg, cn, cc, css⟩ : BlkV) with g := g6, n := cn + 1, cap := c6, ss := css ++ [it] } = ds at HLO
          clear hfar hB6 hown6 hgrow6 hat6 hlt6 HST HRW HOW HCW HFZ HOI q5 q6 q6a q7 z7 f5 bl5 bu5 hr5
          go_wp2_with fail
          first | exact HP.out _ _ _ ds q5' rfl HLO.out HQ.out HR7.out HB7.out HU7.out | (go_ret; exact HP.out _ _ _ ds q5' rfl HLO.out HQ.out HR7.out HB7.out HU7.out)
      · have hkl : k < cs.length := by rw [← HN.out]; exact hkn
        have hbk := heap_alloc_new w4 (.cells (dif4.map (Value.int .i64)).toArray 3)
        have hone := one_walk B b (q + 1 + 1 + 1) w4.heap.size 4 4 dif4 _ (HR4.out.keep ((Below.refl _ _).alloc (by omega) (.cells (dif4.map (Value.int .i64)).toArray 3))) (by omega) (by omega) (by omega) (cells_ints hbk rfl 4 (by decide)) (by omega)
        have HL5 : Hid (BList w.heap.size (.slice (some ⟨g, 0, none⟩) n c) cs (w4.alloc (.cells (dif4.map (Value.int .i64)).toArray 3))) := HL4.out.below ((Below.refl _ w4).alloc (Nat.le_refl _) _)
        have HB5 : Hid (Below b w (w4.alloc (.cells (dif4.map (Value.int .i64)).toArray 3))) := HB4.out.alloc (by omega) _
        have HU5 : Hid (But b w (w4.alloc (.cells (dif4.map (Value.int .i64)).toArray 3))) := HU4.out.trans (But.alloc _ _ _)
        have lk : (k : Int) < (n : Int) := by omega
        have lk0 : (0 : Int) ≤ (k : Int) := by omega
        clear hbk HL4 HB4 HR4
        go_wp2_with fail
        refine hone.mono ?_
        rintro e w5 ⟨x, hx, rfl, hr5, ho5⟩
        generalize dif4.getD x 0 = nv
        have HL6 : Hid (BList w.heap.size (.slice (some ⟨g, 0, none⟩) n c) cs w5) := HL5.out.only ho5.but hlt
        have HB6 : Hid (Below b w w5) := HB5.out.trans (ho5.below (Nat.le_refl _))
        have HU6 : Hid (But b w w5) := HU5.out.trans ho5.but
        have HR6 : Hid (Rd B b (q + 1 + 1 + 1 + 1) w5) := hr5
        have hcF := AtBlk.c3 (FRow.at enBlk_len HL6.out.row).1 k hkl
        have hfF := BRow.frozen HL6.out.row (k * 6 + 3)
        have hgb := HL6.out.row.at enBlk_len
        have hg1 : w.heap.size ≤ g := hgb.2.2.1
        have HLO : Hid (Loose w.heap.size (.slice (some ⟨g, 0, none⟩) n c) (cs.set k { cs.getD k default with h := { (cs.getD k default).h with diff := nv } }) (w5.setCell ⟨g, k * 6 + 3, none⟩ (.int .i64 nv))) := Loose.set HL6.out.row HG.out k 3 _ _ hkl (by decide) rfl rfl rfl
        have HR7 : Hid (Rd B b (q + 1 + 1 + 1 + 1) (w5.setCell ⟨g, k * 6 + 3, none⟩ (.int .i64 nv))) := HR6.out.keep ((Below.refl _ _).setCell (p := ⟨g, k * 6 + 3, none⟩) (by show b + 1 ≤ g; omega) _)
        have HB7 : Hid (Below b w (w5.setCell ⟨g, k * 6 + 3, none⟩ (.int .i64 nv))) := HB6.out.setCell (p := ⟨g, k * 6 + 3, none⟩) (by show b ≤ g; omega) _
        have HU7 : Hid (But b w (w5.setCell ⟨g, k * 6 + 3, none⟩ (.int .i64 nv))) := HU6.out.setK (by show w.heap.size ≤ g; omega) _ _
        clear hone HL5 HB5 HL6 hr5 ho5 hgb hkl
        generalize cs.set k { cs.getD k default with h := { (cs.getD k default).h with diff := nv } } = ds at HLO
        go_wp2_with fail
        exact HP.out _ _ _ ds (q + 1 + 1 + 1 + 1) rfl HLO.out (by omega) HR7.out HB7.out HU7.out
      · have hkl : k < cs.length := by rw [← HN.out]; exact hkn
        have hbk := heap_alloc_new w4 (.cells (tim3.map (Value.int .i64)).toArray 3)
        have hone := one_walk B b (q + 1 + 1 + 1) w4.heap.size 3 3 tim3 _ (HR4.out.keep ((Below.refl _ _).alloc (by omega) (.cells (tim3.map (Value.int .i64)).toArray 3))) (by omega) (by omega) (by omega) (cells_ints hbk rfl 3 (by decide)) (by omega)
        have HL5 : Hid (BList w.heap.size (.slice (some ⟨g, 0, none⟩) n c) cs (w4.alloc (.cells (tim3.map (Value.int .i64)).toArray 3))) := HL4.out.below ((Below.refl _ w4).alloc (Nat.le_refl _) _)
        have HB5 : Hid (Below b w (w4.alloc (.cells (tim3.map (Value.int .i64)).toArray 3))) := HB4.out.alloc (by omega) _
        have HU5 : Hid (But b w (w4.alloc (.cells (tim3.map (Value.int .i64)).toArray 3))) := HU4.out.trans (But.alloc _ _ _)
        have lk : (k : Int) < (n : Int) := by omega
        have lk0 : (0 : Int) ≤ (k : Int) := by omega
        clear hbk HL4 HB4 HR4
        go_wp2_with fail
        refine hone.mono ?_
        rintro e w5 ⟨x, hx, rfl, hr5, ho5⟩
        generalize tim3.getD x 0 = nv
        have HL6 : Hid (BList w.heap.size (.slice (some ⟨g, 0, none⟩) n c) cs w5) := HL5.out.only ho5.but hlt
        have HB6 : Hid (Below b w w5) := HB5.out.trans (ho5.below (Nat.le_refl _))
        have HU6 : Hid (But b w w5) := HU5.out.trans ho5.but
        have HR6 : Hid (Rd B b (q + 1 + 1 + 1 + 1) w5) := hr5
        have hcF := AtBlk.c2 (FRow.at enBlk_len HL6.out.row).1 k hkl
        have hfF := BRow.frozen HL6.out.row (k * 6 + 2)
        have hgb := HL6.out.row.at enBlk_len
        have hg1 : w.heap.size ≤ g := hgb.2.2.1
        have HLO : Hid (Loose w.heap.size (.slice (some ⟨g, 0, none⟩) n c) (cs.set k { cs.getD k default with h := { (cs.getD k default).h with time := nv } }) (w5.setCell ⟨g, k * 6 + 2, none⟩ (.int .i64 nv))) := Loose.set HL6.out.row HG.out k 2 _ _ hkl (by decide) rfl rfl rfl
        have HR7 : Hid (Rd B b (q + 1 + 1 + 1 + 1) (w5.setCell ⟨g, k * 6 + 2, none⟩ (.int .i64 nv))) := HR6.out.keep ((Below.refl _ _).setCell (p := ⟨g, k * 6 + 2, none⟩) (by show b + 1 ≤ g; omega) _)
        have HB7 : Hid (Below b w (w5.setCell ⟨g, k * 6 + 2, none⟩ (.int .i64 nv))) := HB6.out.setCell (p := ⟨g, k * 6 + 2, none⟩) (by show b ≤ g; omega) _
        have HU7 : Hid (But b w (w5.setCell ⟨g, k * 6 + 2, none⟩ (.int .i64 nv))) := HU6.out.setK (by show w.heap.size ≤ g; omega) _ _
        clear hone HL5 HB5 HL6 hr5 ho5 hgb hkl
        generalize cs.set k { cs.getD k default with h := { (cs.getD k default).h with time := nv } } = ds at HLO
        go_wp2_with fail
        exact HP.out _ _ _ ds (q + 1 + 1 + 1 + 1) rfl HLO.out (by omega) HR7.out HB7.out HU7.out
      · obtain ⟨i0, hi, hz0, hz1, hz2⟩ := info3 infoBlk
        have hkl : k < cs.length := by rw [← HN.out]; exact hkn
        obtain ⟨j, hj⟩ : ∃ j, n = j + 1 := ⟨n - 1, by omega⟩
        have hjl : j < cs.length := by rw [← HN.out]; omega
        have hat := (FRow.at enBlk_len HL4.out.row)
        have q0 := AtBlk.c0 hat.1 j hjl
        have q1 := AtBlk.c1 hat.1 j hjl
        have q2 := AtBlk.c2 hat.1 j hjl
        have q3 := AtBlk.c3 hat.1 j hjl
        have q4 := AtBlk.c4 hat.1 j hjl
        have q5 := AtBlk.c5 hat.1 j hjl
        have hgw : w.heap.size ≤ g := hat.2.2.1
        have hcap : n ≤ c := hat.2.2.2
        have HGL : Hid (g < w4.heap.size) := hat.1.1
        have HF : Hid (w4.ownsRow w.heap.size 80 6 (.slice (some ⟨g, 0, none⟩) k c) k ((cs.take k).flatMap enBlk)) := BRow.first HL4.out.row k (by omega)
        have HWF : Hid (∀ x ∈ cs.take k ++ [cs.getD j default], x.h.prev.size ≤ 16 ∧ x.h.root.size ≤ 16) := by
          intro x hx
          rcases List.mem_append.1 hx with h' | h'
          · exact HG.out.wf x (List.mem_of_mem_take h')
          · rw [List.mem_singleton.1 h']
            exact HG.out.wf _ (getD_mem hjl)
        have HTL : Hid ((cs.take k).length = k) := by show _ = _; rw [List.length_take]; omega
        have hw1 : IntKind.i64.wrap ((n : Int) - 1) = (j : Int) := by rw [IntKind.wrap_i64]; omega
        have lj : (j : Int) < (n : Int) := by omega
        have lj0 : (0 : Int) ≤ (j : Int) := by omega
        have lk : (k : Int) ≤ (c : Int) := by omega
        have lk0 : (0 : Int) ≤ (k : Int) := by omega
        have hc0 : ¬ c = 0 := by omega
        generalize cs.getD j default = lb at q0 q1 q2 q3 q4 q5 HWF
        generalize cs.take k = tk at HF HWF HTL
        obtain ⟨⟨lp, lr, lt, ld, ln⟩, lg, lnn, lc, lss⟩ := lb
        dsimp only at q0 q1 q2 q3 q4 q5
        have hx1 : k + 1 ≤ maxLen := by unfold maxLen; omega
        have hx2 : (k + 1) * 80 ≤ 140737488355328 := by omega
        have HRK : Hid (∀ w', Below (b + 1) w4 w' → Rd B b (q + 1 + 1 + 1) w') := fun w' hb => HR4.out.keep hb
        have HK20 : Hid (k + 1 ≤ 20) := by show _ ≤ _; omega
        have HQ : Hid (q + 1 + 1 + 1 ≤ p + 300) := by show _ ≤ _; omega
        have f0 : w4.drew.cell? ⟨g, j * 6, none⟩ = some (.string lp) := q0
        have f1 : w4.drew.cell? ⟨g, j * 6 + 1, none⟩ = some (.string lr) := q1
        have f2 : w4.drew.cell? ⟨g, j * 6 + 2, none⟩ = some (.int .i64 lt) := q2
        have f3 : w4.drew.cell? ⟨g, j * 6 + 3, none⟩ = some (.int .i64 ld) := q3
        have f4 : w4.drew.cell? ⟨g, j * 6 + 4, none⟩ = some (.int .i64 ln) := q4
        have f5 : w4.drew.cell? ⟨g, j * 6 + 5, none⟩ = some (.slice (some ⟨lg, 0, none⟩) lnn lc) := q5
        have HFd : Hid ((w4.drew.alloc (.cells (enBlk ⟨⟨lp, lr, lt, ld, ln⟩, lg, lnn, lc, lss⟩).toArray 80)).ownsRow w.heap.size 80 6 (.slice (some ⟨g, 0, none⟩) k c) k (tk.flatMap enBlk)) := World.ownsRow.alloc (w := w4.drew) HF.out _
        have HCN : Hid (∀ j u, (enBlk ⟨⟨lp, lr, lt, ld, ln⟩, lg, lnn, lc, lss⟩)[j]? = some u → (w4.drew.alloc (.cells (enBlk ⟨⟨lp, lr, lt, ld, ln⟩, lg, lnn, lc, lss⟩).toArray 80)).cell? ((⟨w4.heap.size, 0, none⟩ : Addr).add j) = some u) := cells_new w4.drew 80 (enBlk ⟨⟨lp, lr, lt, ld, ln⟩, lg, lnn, lc, lss⟩)
        clear hj hjl hat HL4 HG hkl hcap HR4
        go_wp2_with fail
        go_region_law (refine step_append_any rfl (.tmp 23) (.tmp 30) 63 rfl w.heap.size 80 i0 (.agg #[.string ⟨#[]⟩, .string ⟨#[]⟩, .int .i64 0, .int .i64 0, .int .i64 0, .slice none 0 0]) 6 80 Tryd.underlying63 hi hz0 hz1 hz2 rfl (by decide) g c k _ (by simp [Act.eval]) HFd.out ⟨w4.heap.size, 0, none⟩ 1 1 (enBlk ⟨⟨lp, lr, lt, ld, ln⟩, lg, lnn, lc, lss⟩) (by simp [Act.eval]) rfl HCN.out (enBlk_one _) hx1 hx2 (by simp; omega) ?_; intro g5 c5 w5 hown5 hgrow5 hat5 hlt5)
        have hgl := HGL.out
        have hB5 : Below w.heap.size w4 w5 := ((Below.refl _ w4).drew.alloc hsz4 _).grown hgrow5 (by simp; omega) (fun j hj => by cases hj; exact hgw)
        have HL5 : Hid (Loose w.heap.size (.slice (some ⟨g5, 0, none⟩) (k + 1) c5) (tk ++ [⟨⟨lp, lr, lt, ld, ln⟩, lg, lnn, lc, lss⟩]) w5) := by
          refine ⟨FRow.of ?_ ?_, ?_, HWF.out⟩
          · rw [List.flatMap_append]
            simpa using hown5
          · rw [List.length_append, HTL.out]; rfl
          · rw [List.length_append, HTL.out]; exact HK20.out
        have HR5 : Hid (Rd B b (q + 1 + 1 + 1) w5) := HRK.out _ (hB5.mono (by omega))
        have HB5 : Hid (Below b w w5) := HB4.out.trans (hB5.mono (by omega))
        have HU5 : Hid (But b w w5) := HU4.out.under hB5
        generalize tk ++ [(⟨⟨lp, lr, lt, ld, ln⟩, lg, lnn, lc, lss⟩ : BlkV)] = ds at HL5
        clear hown5 hgrow5 hat5 hlt5 hB5 HF HFd HCN HWF HTL
        go_wp2_with fail
        go_ret
        exact HP.out _ _ _ ds (q + 1 + 1 + 1) rfl HL5.out HQ.out HR5.out HB5.out HU5.out
    · have hx0' : ((x2 : Int) == 0) = false := beq_eq_false_iff_ne.2 (by omega)
      go_wp2_with fail
      exact HP.out _ _ _ cs (q + 1) rfl ⟨HL2.out.row, HG.out.few, HG.out.wf⟩ (by omega) HR2.out HB2.out HU2.out

set_option maxHeartbeats 600000 in
set_option maxRecDepth 100000 in
theorem drawHeadsK (B b p : Nat) (w : World) (h : Rd B b p w) (hp : p < 1000000000 - 3000) :
    Calls Tryd.prog 26 #[.pointer (some ⟨b, 0, none⟩)] w fun e w' => HeadsPost w.heap.size e w' ∧ ∃ q, q ≤ p + 300 ∧ Rd B b q w' ∧ Below b w w' ∧ But b w w' := by
  have hlt := h.lt
  have HP : Hid (∀ g n c l e w', e = .returned (.slice (some ⟨g, 0, none⟩) n c) → AtHead w' g l → n = l.length → n ≤ c → n ≤ 20 → (∀ i, i < l.length → (l.getD i default).prev.size ≤ 16 ∧ (l.getD i default).root.size ≤ 16) → w.heap.size ≤ g → HeadsPost w.heap.size e w') := fun g n c l e w' h1 h2 h3 h4 h5 h6 h7 => ⟨g, n, c, l, h1, h2, h3, h4, h5, h6, h7⟩
  have hab := drawAnyBlocksK B b p w h hp
  clear h
  go_enter Tryd.func26, Tryd.ntmps26
  go_wp2_with fail
  refine hab.mono ?_
  rintro e w1 ⟨v, cs, q, rfl, lo, hq, hr1, bl1, bu1⟩
  obtain ⟨g, c, hv⟩ := lo.row.1
  subst hv
  have hat := FRow.at enBlk_len lo.row
  have hhd := specL4Heads g cs.length c cs w1 hat.1 rfl (by have := lo.few; omega)
  have HW : Hid (∀ i, i < (cs.map (fun x : BlkV => x.h)).length → ((cs.map (fun x : BlkV => x.h)).getD i default).prev.size ≤ 16 ∧ ((cs.map (fun x : BlkV => x.h)).getD i default).root.size ≤ 16) := by
    intro i hi
    rw [List.length_map] at hi
    rw [getD_map hi]
    exact lo.wf _ (getD_mem hi)
  have HF : Hid (cs.length ≤ 20) := lo.few
  have hs1 : w.heap.size ≤ w1.heap.size := Nat.le_trans (Nat.le_of_eq rfl) (by have := hr1.lt; exact bl1.size)
  have hltr := hr1.lt
  clear lo hat hab
  obtain ⟨nn, hnn⟩ : ∃ n, n = cs.length := ⟨_, rfl⟩
  rw [← hnn] at hhd ⊢
  have HNN : Hid (nn = cs.length) := hnn
  clear hnn
  go_wp2_with fail
  refine hhd.mono ?_
  rintro e w2 ⟨v2, rfl, r2, b2⟩
  obtain ⟨g2, c2, hv2⟩ := r2.1
  subst hv2
  have hat2 := FRow.at enHead_len r2
  rw [List.length_map] at hat2 ⊢
  have HA : Hid (AtHead w2 g2 (cs.map (fun x : BlkV => x.h))) := hat2.1
  have HC : Hid (cs.length ≤ c2) := hat2.2.2.2
  have HGE : Hid (w1.heap.size ≤ g2) := hat2.2.2.1
  have HR2 : Hid (Rd B b q w2) := hr1.keep (b2.mono (by omega))
  have HB2 : Hid (Below b w w2) := bl1.trans (b2.mono (by omega))
  have HU2 : Hid (But b w w2) := bu1.trans (Below.but b2)
  have HLN : Hid (cs.length = (cs.map (fun x : BlkV => x.h)).length) := by show _ = _; rw [List.length_map]
  generalize cs.map (fun x : BlkV => x.h) = l at HA HW HLN
  generalize cs.length = m at HC HF HLN HNN ⊢
  clear hat2 r2 b2 hhd
  go_wp2_with fail
  go_ret
  exact ⟨HP.out g2 m c2 l _ _ rfl HA.out HLN.out HC.out HF.out HW.out (Nat.le_trans hs1 HGE.out), q, hq, HR2.out, HB2.out, HU2.out⟩


def tim4 : List Int := [0, 7, 99999, 100000]
def dif5 : List Int := [1, 2, 8, 9, 1]
def non4 : List Int := [0, 5, 400, 401]
/-- A drawn head: its texts are short. -/
def HeadPost (B b p : Nat) (w : World) (e : Ending) (w' : World) : Prop := ∃ (x : HeadV) (q : Nat), e = .returned (.agg #[.string x.prev, .string x.root, .int .i64 x.time, .int .i64 x.diff, .int .i64 x.nonce]) ∧ x.prev.size ≤ 16 ∧ x.root.size ≤ 16 ∧ q ≤ p + 400 ∧ Rd B b q w' ∧ Below b w w' ∧ But b w w'

set_option maxHeartbeats 4000000 in
set_option maxRecDepth 100000 in
theorem drawHead (B b p : Nat) (w : World) (h : Rd B b p w) (hp : p < 1000000000 - 4000) :
    Calls Tryd.prog 13 #[.pointer (some ⟨b, 0, none⟩)] w fun e w' => HeadPost B b p w e w' := by
  have hlt := h.lt
  have HR : Hid (Rd B b p w) := h
  have HPO : Hid (∀ e w' (x : HeadV) q, e = .returned (.agg #[.string x.prev, .string x.root, .int .i64 x.time, .int .i64 x.diff, .int .i64 x.nonce]) → x.prev.size ≤ 16 → x.root.size ≤ 16 → q ≤ p + 400 → Rd B b q w' → Below b w w' → But b w w' → HeadPost B b p w e w') := fun e w' x q h1 h2 h3 h4 h5 h6 h7 => ⟨x, q, h1, h2, h3, h4, h5, h6, h7⟩
  generalize HeadPost B b p w = CP at HPO ⊢
  clear h
  have HZ : Hid ((w.alloc (.cells #[.string ⟨#[]⟩, .string ⟨#[]⟩, .int .i64 0, .int .i64 0, .int .i64 0] 24)).heap[w.heap.size]? = some (.cells #[.string ⟨#[]⟩, .string ⟨#[]⟩, .int .i64 0, .int .i64 0, .int .i64 0] 24 (0, 0))) := heap_alloc_new w _
  have HU0 : Hid (But b w (w.alloc (.cells #[.string ⟨#[]⟩, .string ⟨#[]⟩, .int .i64 0, .int .i64 0, .int .i64 0] 24))) := But.alloc b w _
  have HB0 : Hid (Below b w (w.alloc (.cells #[.string ⟨#[]⟩, .string ⟨#[]⟩, .int .i64 0, .int .i64 0, .int .i64 0] 24))) := (Below.refl _ w).alloc (by omega) _
  have hs1 := drawSumK B b p _ (HR.out.keep ((Below.refl _ w).alloc (by omega) (.cells #[.string ⟨#[]⟩, .string ⟨#[]⟩, .int .i64 0, .int .i64 0, .int .i64 0] 24))) (by omega)
  have hsz0 : (w.alloc (.cells #[.string ⟨#[]⟩, .string ⟨#[]⟩, .int .i64 0, .int .i64 0, .int .i64 0] 24)).heap.size = w.heap.size + 1 := by simp
  obtain ⟨r, hr⟩ : ∃ r, r = w.heap.size := ⟨_, rfl⟩
  have HRE : Hid (r = w.heap.size) := hr
  rw [← hr] at hlt hsz0 HZ
  clear HR
  go_enter Tryd.func13, Tryd.ntmps13
  go_wp2_with fail
  rw [← hr]
  clear hr
  generalize w.alloc (.cells #[.string ⟨#[]⟩, .string ⟨#[]⟩, .int .i64 0, .int .i64 0, .int .i64 0] 24) = w0 at HZ HU0 HB0 hs1 hsz0 ⊢
  refine hs1.mono ?_
  rintro e w1 ⟨sp, q1, rfl, hp16, hq1, hr1, bl1, bu1⟩
  have hl1 := hr1.lt
  have hg1 : w0.heap.size ≤ w1.heap.size := bu1.1
  have HU1 : Hid (But b w w1) := HU0.out.trans bu1
  have HB1 : Hid (Below b w w1) := HB0.out.trans bl1
  have HZ1 : Hid (w1.heap[r]? = some (.cells #[.string ⟨#[]⟩, .string ⟨#[]⟩, .int .i64 0, .int .i64 0, .int .i64 0] 24 (0, 0))) := (bu1.2 r (by omega) (by omega)).trans HZ.out
  have hs2 := drawSumK B b q1 w1 hr1 (by omega)
  clear hs1 HU0 HB0 HZ bu1 bl1 hr1
  go_wp2_with fail
  refine hs2.mono ?_
  rintro e w2 ⟨sr, q2, rfl, hr16, hq2, hr2, bl2, bu2⟩
  have hl2 := hr2.lt
  have hg2 : w0.heap.size ≤ w2.heap.size := Nat.le_trans hg1 bu2.1
  have HU2 : Hid (But b w w2) := HU1.out.trans bu2
  have HB2 : Hid (Below b w w2) := HB1.out.trans bl2
  have HZ2 : Hid (w2.heap[r]? = some (.cells #[.string ⟨#[]⟩, .string ⟨#[]⟩, .int .i64 0, .int .i64 0, .int .i64 0] 24 (0, 0))) := (bu2.2 r (by omega) (by omega)).trans HZ1.out
  clear hs2 HU1 HB1 HZ1 bu2 bl2 hl1
  have hbk2 := heap_alloc_new w2 (.cells (tim4.map (Value.int .i64)).toArray 3)
  have ho3 := one_walk B b q2 w2.heap.size 4 4 tim4 _ (hr2.keep ((Below.refl _ _).alloc (by omega) (.cells (tim4.map (Value.int .i64)).toArray 3))) (by omega) (by omega) (by omega) (cells_ints hbk2 rfl 4 (by decide)) (by omega)
  have HU2a : Hid (But b w (w2.alloc (.cells (tim4.map (Value.int .i64)).toArray 3))) := HU2.out.trans (But.alloc _ _ _)
  have HB2a : Hid (Below b w (w2.alloc (.cells (tim4.map (Value.int .i64)).toArray 3))) := HB2.out.alloc (by omega) _
  have HZ2a : Hid ((w2.alloc (.cells (tim4.map (Value.int .i64)).toArray 3)).heap[r]? = some (.cells #[.string ⟨#[]⟩, .string ⟨#[]⟩, .int .i64 0, .int .i64 0, .int .i64 0] 24 (0, 0))) := (Below.heap_alloc _ _ _ (by omega)).trans HZ2.out
  have hsa2 : w0.heap.size ≤ (w2.alloc (.cells (tim4.map (Value.int .i64)).toArray 3)).heap.size := Nat.le_trans hg2 (size_le_alloc _ _)
  clear hbk2 HU2 HB2 HZ2 hr2
  go_wp2_with fail
  refine ho3.mono ?_
  rintro e w3 ⟨x3, hx3, rfl, hr3, on3⟩
  generalize tim4.getD x3 0 = tv
  have hl3 := hr3.lt
  have hg3 : w0.heap.size ≤ w3.heap.size := by rw [on3.size]; exact hsa2
  have HU3 : Hid (But b w w3) := HU2a.out.trans on3.but
  have HB3 : Hid (Below b w w3) := HB2a.out.trans (on3.below (Nat.le_refl _))
  have HZ3 : Hid (w3.heap[r]? = some (.cells #[.string ⟨#[]⟩, .string ⟨#[]⟩, .int .i64 0, .int .i64 0, .int .i64 0] 24 (0, 0))) := (on3.block r (by omega)).trans HZ2a.out
  clear ho3 HU2a HB2a HZ2a on3 hl2 hsa2
  have hbk3 := heap_alloc_new w3 (.cells (dif5.map (Value.int .i64)).toArray 3)
  have ho4 := one_walk B b (q2 + 1) w3.heap.size 5 5 dif5 _ (hr3.keep ((Below.refl _ _).alloc (by omega) (.cells (dif5.map (Value.int .i64)).toArray 3))) (by omega) (by omega) (by omega) (cells_ints hbk3 rfl 5 (by decide)) (by omega)
  have HU3a : Hid (But b w (w3.alloc (.cells (dif5.map (Value.int .i64)).toArray 3))) := HU3.out.trans (But.alloc _ _ _)
  have HB3a : Hid (Below b w (w3.alloc (.cells (dif5.map (Value.int .i64)).toArray 3))) := HB3.out.alloc (by omega) _
  have HZ3a : Hid ((w3.alloc (.cells (dif5.map (Value.int .i64)).toArray 3)).heap[r]? = some (.cells #[.string ⟨#[]⟩, .string ⟨#[]⟩, .int .i64 0, .int .i64 0, .int .i64 0] 24 (0, 0))) := (Below.heap_alloc _ _ _ (by omega)).trans HZ3.out
  have hsa3 : w0.heap.size ≤ (w3.alloc (.cells (dif5.map (Value.int .i64)).toArray 3)).heap.size := Nat.le_trans hg3 (size_le_alloc _ _)
  clear hbk3 HU3 HB3 HZ3 hr3
  go_wp2_with fail
  refine ho4.mono ?_
  rintro e w4 ⟨x4, hx4, rfl, hr4, on4⟩
  generalize dif5.getD x4 0 = dv
  have hl4 := hr4.lt
  have hg4 : w0.heap.size ≤ w4.heap.size := by rw [on4.size]; exact hsa3
  have HU4 : Hid (But b w w4) := HU3a.out.trans on4.but
  have HB4 : Hid (Below b w w4) := HB3a.out.trans (on4.below (Nat.le_refl _))
  have HZ4 : Hid (w4.heap[r]? = some (.cells #[.string ⟨#[]⟩, .string ⟨#[]⟩, .int .i64 0, .int .i64 0, .int .i64 0] 24 (0, 0))) := (on4.block r (by omega)).trans HZ3a.out
  clear ho4 HU3a HB3a HZ3a on4 hl3 hsa3
  have hbk4 := heap_alloc_new w4 (.cells (non4.map (Value.int .i64)).toArray 3)
  have ho5 := one_walk B b (q2 + 1 + 1) w4.heap.size 4 4 non4 _ (hr4.keep ((Below.refl _ _).alloc (by omega) (.cells (non4.map (Value.int .i64)).toArray 3))) (by omega) (by omega) (by omega) (cells_ints hbk4 rfl 4 (by decide)) (by omega)
  have HU4a : Hid (But b w (w4.alloc (.cells (non4.map (Value.int .i64)).toArray 3))) := HU4.out.trans (But.alloc _ _ _)
  have HB4a : Hid (Below b w (w4.alloc (.cells (non4.map (Value.int .i64)).toArray 3))) := HB4.out.alloc (by omega) _
  have HZ4a : Hid ((w4.alloc (.cells (non4.map (Value.int .i64)).toArray 3)).heap[r]? = some (.cells #[.string ⟨#[]⟩, .string ⟨#[]⟩, .int .i64 0, .int .i64 0, .int .i64 0] 24 (0, 0))) := (Below.heap_alloc _ _ _ (by omega)).trans HZ4.out
  have hsa4 : w0.heap.size ≤ (w4.alloc (.cells (non4.map (Value.int .i64)).toArray 3)).heap.size := Nat.le_trans hg4 (size_le_alloc _ _)
  clear hbk4 HU4 HB4 HZ4 hr4
  go_wp2_with fail
  refine ho5.mono ?_
  rintro e w5 ⟨x5, hx5, rfl, hr5, on5⟩
  generalize non4.getD x5 0 = nv
  have hl5 := hr5.lt
  have hg5 : w0.heap.size ≤ w5.heap.size := by rw [on5.size]; exact hsa4
  have HU5 : Hid (But b w w5) := HU4a.out.trans on5.but
  have HB5 : Hid (Below b w w5) := HB4a.out.trans (on5.below (Nat.le_refl _))
  have HZ5 : Hid (w5.heap[r]? = some (.cells #[.string ⟨#[]⟩, .string ⟨#[]⟩, .int .i64 0, .int .i64 0, .int .i64 0] 24 (0, 0))) := (on5.block r (by omega)).trans HZ4a.out
  clear ho5 HU4a HB4a HZ4a on5 hl4 hsa4
  have HZ6 : Hid (HBk (w5.alloc (.cells #[.string sp, .string sr, .int .i64 tv, .int .i64 dv, .int .i64 nv] 24)) r ⟨#[]⟩ ⟨#[]⟩ 0 0 0) := (Below.heap_alloc _ _ _ (by omega)).trans HZ5.out
  have HH6 : Hid (HBk (w5.alloc (.cells #[.string sp, .string sr, .int .i64 tv, .int .i64 dv, .int .i64 nv] 24)) w5.heap.size sp sr tv dv nv) := HBk.new w5 sp sr tv dv nv
  have HU6 : Hid (But b w (w5.alloc (.cells #[.string sp, .string sr, .int .i64 tv, .int .i64 dv, .int .i64 nv] 24))) := HU5.out.trans (But.alloc _ _ _)
  have HB6 : Hid (Below b w (w5.alloc (.cells #[.string sp, .string sr, .int .i64 tv, .int .i64 dv, .int .i64 nv] 24))) := HB5.out.alloc (by omega) _
  have hhs := drawHeadsK B b (q2 + 1 + 1 + 1) (w5.alloc (.cells #[.string sp, .string sr, .int .i64 tv, .int .i64 dv, .int .i64 nv] 24)) (hr5.keep ((Below.refl _ _).alloc (by omega) _)) (by omega)
  have hs6 : (w5.alloc (.cells #[.string sp, .string sr, .int .i64 tv, .int .i64 dv, .int .i64 nv] 24)).heap.size = w5.heap.size + 1 := by simp
  have HWR : Hid (w.heap.size ≤ r) := Nat.le_of_eq HRE.out.symm
  clear HU5 HB5 HZ5 hr5 HRE
  go_wp2_with fail
  generalize (w5.alloc (.cells #[.string sp, .string sr, .int .i64 tv, .int .i64 dv, .int .i64 nv] 24)) = w6 at HZ6 HH6 HU6 HB6 hhs hs6 ⊢
  obtain ⟨h5, hh5⟩ : ∃ h5, h5 = w5.heap.size := ⟨_, rfl⟩
  rw [← hh5] at HH6 hs6 hg5 hl5 ⊢
  clear hh5
  refine hhs.mono ?_
  rintro e w7 ⟨⟨g, n, c, l, rfl, hat, hn, hnc, hn20, hsz, hge⟩, q7, hq7, hr7, bl7, bu7⟩
  have HZ7 : Hid (HBk w7 r ⟨#[]⟩ ⟨#[]⟩ 0 0 0) := (bu7.2 r (by omega) (by omega)).trans HZ6.out
  have HH7 : Hid (HBk w7 h5 sp sr tv dv nv) := (bu7.2 h5 (by omega) (by omega)).trans HH6.out
  have HU7 : Hid (But b w w7) := HU6.out.trans bu7
  have HB7 : Hid (Below b w w7) := HB6.out.trans bl7
  have HR7 : Hid (Rd B b q7 w7) := hr7
  have HAT : Hid (AtHead w7 g l) := hat
  have HN : Hid (n = l.length) := hn
  have HSZ : Hid (∀ i, i < l.length → (l.getD i default).prev.size ≤ 16 ∧ (l.getD i default).root.size ≤ 16) := hsz
  have hs7 : w6.heap.size ≤ w7.heap.size := bu7.1
  have HP16 : Hid (sp.size ≤ 16 ∧ sr.size ≤ 16) := ⟨hp16, hr16⟩
  have HQ7 : Hid (q7 ≤ p + 390) := by show _ ≤ _; omega
  have hq9 : q7 < 1000000000 - 100 := by omega
  clear hhs HZ6 HH6 HU6 HB6 bu7 bl7 hr7 hat hn hsz hp16 hr16 hq7 hq1 hq2
  by_cases hn0 : n = 0
  · subst hn0
    obtain ⟨c0, c1, c2, c3, c4, _⟩ := HH7.out.facts
    have HZ : Hid _ := HZ7
    have HB : Hid _ := HB7
    have HU : Hid _ := HU7
    have HRr : Hid _ := HR7
    clear HZ7 HB7 HU7 HR7
    have HF : Hid (HBk (five w7 r sp sr tv dv nv) r sp sr tv dv nv ∧ Rd B b q7 (five w7 r sp sr tv dv nv) ∧ Below b w (five w7 r sp sr tv dv nv) ∧ But b w (five w7 r sp sr tv dv nv)) := five_fin HB.out HU.out HRr.out HZ.out hlt HWR.out sp sr tv dv nv
    obtain ⟨_, _, _, _, _, f0, f1, f2, f3, f4⟩ := HZ.out.facts
    have z0 := HZ.out.facts.1
    have z1 := HZ.out.facts.2.1
    have z2 := HZ.out.facts.2.2.1
    have z3 := HZ.out.facts.2.2.2.1
    have z4 := HZ.out.facts.2.2.2.2.1
    clear HZ HB HU HRr
    go_wp2_with fail
    exact bodyPost_ret (results_cell_row (p := 2) rfl _ _ r 24 #[.string sp, .string sr, .int .i64 tv, .int .i64 dv, .int .i64 nv] (0, 0) _ rfl HF.out.1 Tryd.underlying24 rfl (by kernel_rfl)) rfl (HPO.out _ _ ⟨sp, sr, tv, dv, nv⟩ q7 rfl HP16.out.1 HP16.out.2 (by have := HQ7.out; omega) HF.out.2.1 HF.out.2.2.1 HF.out.2.2.2)
  · have hn1 : (0 : Int) < (n : Int) := by omega
    have hnn : 0 < n := by omega
    have hnd : decide (0 < n) = true := decide_eq_true hnn
    have hpk := pick_walk B b q7 3 w7 HR7.out (by omega) (by omega)
    go_wp2_with fail
    refine hpk.mono ?_
    rintro e w8 ⟨x, rfl, _, _, hr8, on8⟩
    have hs8 : w7.heap.size ≤ w8.heap.size := Nat.le_of_eq on8.size.symm
    have HZ8 : Hid (HBk w8 r ⟨#[]⟩ ⟨#[]⟩ 0 0 0) := (on8.block r (by omega)).trans HZ7.out
    have HH8 : Hid (HBk w8 h5 sp sr tv dv nv) := (on8.block h5 (by omega)).trans HH7.out
    have HU8 : Hid (But b w w8) := HU7.out.trans on8.but
    have HB8 : Hid (Below b w w8) := HB7.out.trans (on8.below (Nat.le_refl _))
    have HR8 : Hid (Rd B b (q7 + 1) w8) := hr8
    have HAT8 : Hid (AtHead w8 g l) := HAT.out.same hs8 (on8.block g (by omega))
    clear hpk HZ7 HH7 HU7 HB7 HR7 HAT on8 hr8
    by_cases hx : x = 0
    · subst hx
      obtain ⟨c0, c1, c2, c3, c4, _⟩ := HH8.out.facts
      have HZ : Hid _ := HZ8
      have HB : Hid _ := HB8
      have HU : Hid _ := HU8
      have HRr : Hid _ := HR8
      clear HZ8 HB8 HU8 HR8
      have HF : Hid (HBk (five w8 r sp sr tv dv nv) r sp sr tv dv nv ∧ Rd B b (q7 + 1) (five w8 r sp sr tv dv nv) ∧ Below b w (five w8 r sp sr tv dv nv) ∧ But b w (five w8 r sp sr tv dv nv)) := five_fin HB.out HU.out HRr.out HZ.out hlt HWR.out sp sr tv dv nv
      obtain ⟨_, _, _, _, _, f0, f1, f2, f3, f4⟩ := HZ.out.facts
      have z0 := HZ.out.facts.1
      have z1 := HZ.out.facts.2.1
      have z2 := HZ.out.facts.2.2.1
      have z3 := HZ.out.facts.2.2.2.1
      have z4 := HZ.out.facts.2.2.2.2.1
      clear HZ HB HU HRr
      go_wp2_with fail
      exact bodyPost_ret (results_cell_row (p := 2) rfl _ _ r 24 #[.string sp, .string sr, .int .i64 tv, .int .i64 dv, .int .i64 nv] (0, 0) _ rfl HF.out.1 Tryd.underlying24 rfl (by kernel_rfl)) rfl (HPO.out _ _ ⟨sp, sr, tv, dv, nv⟩ (q7 + 1) rfl HP16.out.1 HP16.out.2 (by have := HQ7.out; omega) HF.out.2.1 HF.out.2.2.1 HF.out.2.2.2)
    · have hx1 : (0 : Int) < (x : Int) := by omega
      have hxx : 0 < x := by omega
      have hxd : decide (0 < x) = true := decide_eq_true hxx
      have hpk := pick_walk B b (q7 + 1) (n : Int) w8 HR8.out (by omega) (by omega)
      go_wp2_with fail
      refine hpk.mono ?_
      rintro e w9 ⟨k, rfl, hk, _, hr9, on9⟩
      have hkn := hk (by omega)
      have hkl : k < l.length := by rw [← HN.out]; omega
      have hs9 : w8.heap.size ≤ w9.heap.size := Nat.le_of_eq on9.size.symm
      have HZ : Hid (HBk w9 r ⟨#[]⟩ ⟨#[]⟩ 0 0 0) := (on9.block r (by omega)).trans HZ8.out
      have HU : Hid (But b w w9) := HU8.out.trans on9.but
      have HB : Hid (Below b w w9) := HB8.out.trans (on9.below (Nat.le_refl _))
      have HRr : Hid (Rd B b (q7 + 1 + 1) w9) := hr9
      have HAT9 : Hid (AtHead w9 g l) := HAT8.out.same hs9 (on9.block g (by omega))
      have c0 := AtHead.c0 HAT9.out k hkl
      have c1 := AtHead.c1 HAT9.out k hkl
      have c2 := AtHead.c2 HAT9.out k hkl
      have c3 := AtHead.c3 HAT9.out k hkl
      have c4 := AtHead.c4 HAT9.out k hkl
      have HX16 : Hid ((l.getD k default).prev.size ≤ 16 ∧ (l.getD k default).root.size ≤ 16) := HSZ.out k hkl
      have lk0 : (0 : Int) ≤ (k : Int) := by omega
      generalize l.getD k default = y at c0 c1 c2 c3 c4 HX16
      obtain ⟨yp, yr, yt, yd, yn⟩ := y
      dsimp only at c0 c1 c2 c3 c4 HX16
      clear hpk HZ8 HH8 HU8 HB8 HR8 HAT8 on9 hr9 HAT9 hkl hk
      have HF : Hid (HBk (five w9 r yp yr yt yd yn) r yp yr yt yd yn ∧ Rd B b (q7 + 1 + 1) (five w9 r yp yr yt yd yn) ∧ Below b w (five w9 r yp yr yt yd yn) ∧ But b w (five w9 r yp yr yt yd yn)) := five_fin HB.out HU.out HRr.out HZ.out hlt HWR.out yp yr yt yd yn
      obtain ⟨_, _, _, _, _, f0, f1, f2, f3, f4⟩ := HZ.out.facts
      have z0 := HZ.out.facts.1
      have z1 := HZ.out.facts.2.1
      have z2 := HZ.out.facts.2.2.1
      have z3 := HZ.out.facts.2.2.2.1
      have z4 := HZ.out.facts.2.2.2.2.1
      clear HZ HB HU HRr
      go_wp2_with fail
      exact bodyPost_ret (results_cell_row (p := 2) rfl _ _ r 24 #[.string yp, .string yr, .int .i64 yt, .int .i64 yd, .int .i64 yn] (0, 0) _ rfl HF.out.1 Tryd.underlying24 rfl (by kernel_rfl)) rfl (HPO.out _ _ ⟨yp, yr, yt, yd, yn⟩ (q7 + 1 + 1) rfl HX16.out.1 HX16.out.2 (by have := HQ7.out; omega) HF.out.2.1 HF.out.2.2.1 HF.out.2.2.2)

end Go.Proofs.YtehpcccmhfemaaaDoor

set_option linter.unusedVariables false
namespace Go.Proofs.YtehpcccmhfemaaaDoor
open Go.RowKit

theorem headMine_bad {h : HeadV} (hok : headOkB (headNo h 0) = false) : headMine h = (zeroH, false) :=
  headMine_no fun j hj => meets_no ((ok_nonce (by omega)).trans hok)
theorem headMine_small {h : HeadV} {N : Nat} (hp : h.prev.size ≤ N) (hr : h.root.size ≤ N) : (headMine h).1.prev.size ≤ N ∧ (headMine h).1.root.size ≤ N := by
  unfold headMine
  split
  · exact ⟨hp, hr⟩
  · exact ⟨Nat.zero_le _, Nat.zero_le _⟩

set_option maxHeartbeats 1000000 in
set_option maxRecDepth 100000 in
theorem specHeadMine (h : HeadV) (w : World) (hp : h.prev.size ≤ maxLen) (hr : h.root.size ≤ maxLen) :
    Calls Tryd.prog 12 #[headVal h] w fun e w' => e = .returned (.tuple #[headVal (headMine h).1, .bool (headMine h).2]) ∧ Below w.heap.size w w' := by
  have hck := fun w' => specL3Ok (headNo h 0) w' hp hr
  have HN : headMine (headNo h 0) = headMine h := rfl
  cases hok : headOkB (headNo h 0) with
  | false =>
    have HM : Hid (headMine h = (zeroH, false)) := headMine_bad hok
    rw [hok] at hck
    clear HN
    generalize headMine h = M at HM ⊢
    obtain ⟨p, r, t, d, n⟩ := h
    unfold headVal
    unfold headNo at hck
    dsimp only at hck ⊢
    have S0 : HTwo w _ p r t d 0 ⟨#[]⟩ ⟨#[]⟩ 0 0 0 := HTwo.new w p r t d 0 ⟨#[]⟩ ⟨#[]⟩ 0 0 0
    go_enter Tryd.func12, Tryd.ntmps12
    go_wp2_with fail
    refine (hck _).mono ?_
    rintro e w1 ⟨rfl, b1⟩
    have S1 := S0.call b1
    obtain ⟨d0, d1, d2, d3, d4, f0, f1, f2, f3, f4⟩ := S1.2.1.facts
    have S4 : Hid (HTwo w _ p r t d 0 ⟨#[]⟩ ⟨#[]⟩ 0 0 0) := S1.back ⟨#[]⟩ ⟨#[]⟩ 0 0 0
    go_wp2_with fail
    exact bodyPost_ret (results_row_tmp (p := 2) (u := 3) rfl _ _ (w.heap.size + 1) 24 #[.string ⟨#[]⟩, .string ⟨#[]⟩, .int .i64 0, .int .i64 0, .int .i64 0] (0, 0) _ rfl S4.out.2.1 Tryd.underlying24 rfl (by kernel_rfl)) rfl ⟨by rw [HM.out]; rfl, S4.out.2.2⟩
  | true =>
    have hmi := fun w' => specL3Mine (headNo h 0) w' hok
    rw [HN] at hmi
    rw [hok] at hck
    clear HN
    generalize headMine h = M at hmi ⊢
    obtain ⟨⟨p2, r2, t2, dd2, n2⟩, ok2⟩ := M
    obtain ⟨p, r, t, d, n⟩ := h
    unfold headVal at hmi ⊢
    unfold headNo at hck hmi
    dsimp only at hck hmi ⊢
    have S0 : HTwo w _ p r t d 0 ⟨#[]⟩ ⟨#[]⟩ 0 0 0 := HTwo.new w p r t d 0 ⟨#[]⟩ ⟨#[]⟩ 0 0 0
    go_enter Tryd.func12, Tryd.ntmps12
    go_wp2_with fail
    refine (hck _).mono ?_
    rintro e w1 ⟨rfl, b1⟩
    have S1 := S0.call b1
    obtain ⟨c0, c1, c2, c3, c4, _⟩ := S1.1.facts
    go_wp2_with fail
    refine (hmi _).mono ?_
    rintro e w2 ⟨rfl, b2⟩
    have S2 := S1.call b2
    clear c0 c1 c2 c3 c4
    obtain ⟨d0, d1, d2, d3, d4, f0, f1, f2, f3, f4⟩ := S2.2.1.facts
    have S4 : Hid (HTwo w _ p r t d 0 p2 r2 t2 dd2 n2) := S2.back p2 r2 t2 dd2 n2
    go_wp2_with fail
    exact bodyPost_ret (results_row_tmp (p := 2) (u := 3) rfl _ _ (w.heap.size + 1) 24 #[.string p2, .string r2, .int .i64 t2, .int .i64 dd2, .int .i64 n2] (0, 0) _ rfl S4.out.2.1 Tryd.underlying24 rfl (by kernel_rfl)) rfl ⟨rfl, S4.out.2.2⟩

end Go.Proofs.YtehpcccmhfemaaaDoor

set_option linter.unusedVariables false
namespace Go.Proofs.YtehpcccmhfemaaaDoor
open Go.RowKit

def sameHB (p q : HeadV) : Bool := p.prev.toList == q.prev.toList && (p.root.toList == q.root.toList && (p.time == q.time && (p.diff == q.diff && p.nonce == q.nonce)))
theorem fieldsHead : (Tryd.prog.fieldsOf 24).toList.map (fun f => (f.name != "_", f.type, f.offset)) = [(true, 9, 0), (true, 9, 1), (true, 3, 2), (true, 3, 3), (true, 3, 4)] := by kernel_rfl
theorem eqHeadT : Tryd.prog.underlying 24 = some (.struct (Tryd.prog.fieldsOf 24)) := by kernel_rfl
theorem eqHeadS : Tryd.prog.stoodInHeld 24 = false := by kernel_rfl
theorem eqHeadG : Tryd.prog.eqGuardType Tryd.prog.depth 24 = false := by kernel_rfl
theorem eqStep {P : Program} {d : Nat} {xs ys : Array Value} {f : Field} {fs : List Field} {w : World} {t o : Nat} {a b : Value} {r r2 : Bool} (hn : (f.name != "_") = true) (ht : f.type = t) (ho : f.offset = o) (ha : (part t xs o).run P w = .ok a w) (hb : (part t ys o).run P w = .ok b w)
    (hr : (Op.equalIn d t a b).run P w = .ok r w) (h2 : (Op.eqFields d xs ys fs).run P w = .ok r2 w) : (Op.eqFields d xs ys (f :: fs)).run P w = .ok (r && r2) w := by
  have hn' : f.name ≠ "_" := by simpa using hn
  subst ht ho
  unfold Op.eqFields
  rw [if_pos hn']
  simp only [Sem.run_bind, ha, hb, hr, Result.andThen_ok, Sem.run_ite, Sem.run_pure, h2]
  cases r <;> simp
theorem runSameHead (p q : HeadV) (w : World) : (Op.equalIn 10000 24 (.agg #[.string p.prev, .string p.root, .int .i64 p.time, .int .i64 p.diff, .int .i64 p.nonce]) (.agg #[.string q.prev, .string q.root, .int .i64 q.time, .int .i64 q.diff, .int .i64 q.nonce])).run Tryd.prog w = .ok (sameHB p q) w := by
  rw [run_equalIn_struct w 9999 _ _ _ eqHeadT eqHeadS]
  have hf := fieldsHead
  generalize (Tryd.prog.fieldsOf 24).toList = fs at hf
  rcases fs with _ | ⟨f0, _ | ⟨f1, _ | ⟨f2, _ | ⟨f3, _ | ⟨f4, _ | ⟨f5, fs⟩⟩⟩⟩⟩⟩
  all_goals try (simp at hf; done)
  simp only [List.map_cons, List.map_nil, List.cons.injEq, Prod.mk.injEq, and_true] at hf
  obtain ⟨⟨n0, t0, o0⟩, ⟨n1, t1, o1⟩, ⟨n2, t2, o2⟩, ⟨n3, t3, o3⟩, n4, t4, o4⟩ := hf
  refine eqStep n0 t0 o0 (by kernel_rfl) (by kernel_rfl) (run_equalIn_string w 9998 _ _ _ Tryd.underlying9) ?_
  refine eqStep n1 t1 o1 (by kernel_rfl) (by kernel_rfl) (run_equalIn_string w 9998 _ _ _ Tryd.underlying9) ?_
  refine eqStep n2 t2 o2 (by kernel_rfl) (by kernel_rfl) (run_equalIn_int w 9998 _ .i64 _ _ _ Tryd.underlying3) ?_
  refine eqStep n3 t3 o3 (by kernel_rfl) (by kernel_rfl) (run_equalIn_int w 9998 _ .i64 _ _ _ Tryd.underlying3) ?_
  have h4 := eqStep (d := 9999) (xs := #[.string p.prev, .string p.root, .int .i64 p.time, .int .i64 p.diff, .int .i64 p.nonce]) (ys := #[.string q.prev, .string q.root, .int .i64 q.time, .int .i64 q.diff, .int .i64 q.nonce]) (fs := []) (w := w) (P := Tryd.prog) (r2 := true) n4 t4 o4 (by kernel_rfl) (by kernel_rfl) (run_equalIn_int w 9998 _ .i64 _ p.nonce q.nonce Tryd.underlying3) (by simp [Op.eqFields])
  rw [Bool.and_true] at h4
  exact h4
theorem runHeadEq (p q : HeadV) (w : World) : (binOp .eql 24 (.agg #[.string p.prev, .string p.root, .int .i64 p.time, .int .i64 p.diff, .int .i64 p.nonce]) (.agg #[.string q.prev, .string q.root, .int .i64 q.time, .int .i64 q.diff, .int .i64 q.nonce])).run Tryd.prog w = .ok (.bool (sameHB p q)) w := by
  rw [run_eql_struct, runSameHead]
  rfl
theorem runHeadNe (p q : HeadV) (w : World) : (binOp .neq 24 (.agg #[.string p.prev, .string p.root, .int .i64 p.time, .int .i64 p.diff, .int .i64 p.nonce]) (.agg #[.string q.prev, .string q.root, .int .i64 q.time, .int .i64 q.diff, .int .i64 q.nonce])).run Tryd.prog w = .ok (.bool (!sameHB p q)) w := by
  rw [run_neq_struct, runSameHead]
  rfl
theorem sameHB_iff (p q : HeadV) : sameHB p q = true ↔ p = q := by
  have hs : ∀ a b : ByteArray, a.toList = b.toList → a = b := fun a b h => by
    rw [ByteArray.toList_eq, ByteArray.toList_eq] at h
    exact ByteArray.ext (by simpa using h)
  constructor
  · intro h
    simp only [sameHB, Bool.and_eq_true, beq_iff_eq] at h
    obtain ⟨h0, h1, h2, h3, h4⟩ := h
    cases p
    cases q
    simp_all
    exact ⟨hs _ _ h0, hs _ _ h1⟩
  · rintro rfl
    simp [sameHB]

end Go.Proofs.YtehpcccmhfemaaaDoor

set_option linter.unusedVariables false
namespace Go.Proofs.YtehpcccmhfemaaaDoor
open Go.RowKit Go.Deep

def OneHead (w : World) (e : Ending) (w' : World) : Prop := (∃ x : HeadV, e = .returned (.agg #[.string x.prev, .string x.root, .int .i64 x.time, .int .i64 x.diff, .int .i64 x.nonce]) ∧ x.prev.size ≤ 16 ∧ x.root.size ≤ 16) ∧ Below w.heap.size w w'
theorem rowBelow {k : IntKind} {w w' : World} {a : Option Addr} {len cap : Nat} {zs : List Int} (h : IsRow k w a len cap zs) (hb : Below w.heap.size w w') : IsRow k w' a len cap zs := by
  rcases h with h | ⟨x, h1, h2, h3, h4, h5, h6⟩
  · exact .inl h
  · exact .inr ⟨x, h1, h2, h3, h4, fun i hi => (hb.cell (World.block_lt_of_cell? w _ (h5 i hi))).trans (h5 i hi), h6⟩
set_option maxHeartbeats 1000000 in
set_option maxRecDepth 100000 in
theorem dDrawHeadMine (a : Option Addr) (len cap : Nat) (zs : List Int) (w : World) (h : IsRow .u8 w a len cap zs) :
    Calls Tryd.prog 10 #[.slice a len cap] w fun e w' => OneHead w e w' := by
  have HPO : Hid (∀ e w' (x : HeadV), e = .returned (.agg #[.string x.prev, .string x.root, .int .i64 x.time, .int .i64 x.diff, .int .i64 x.nonce]) → x.prev.size ≤ 16 → x.root.size ≤ 16 → Below w.heap.size w w' → OneHead w e w') := fun e w' x h1 h2 h3 h4 => ⟨⟨x, h1, h2, h3⟩, h4⟩
  generalize OneHead w = CP at HPO ⊢
  have HZ : Hid (HBk (w.alloc (.cells #[.string ⟨#[]⟩, .string ⟨#[]⟩, .int .i64 0, .int .i64 0, .int .i64 0] 24)) w.heap.size ⟨#[]⟩ ⟨#[]⟩ 0 0 0) := HBk.new w ⟨#[]⟩ ⟨#[]⟩ 0 0 0
  have HB : Hid (Below w.heap.size w (w.alloc (.cells #[.string ⟨#[]⟩, .string ⟨#[]⟩, .int .i64 0, .int .i64 0, .int .i64 0] 24))) := (Below.refl _ w).alloc (Nat.le_refl _) _
  have hs0 : (w.alloc (.cells #[.string ⟨#[]⟩, .string ⟨#[]⟩, .int .i64 0, .int .i64 0, .int .i64 0] 24)).heap.size = w.heap.size + 1 := by simp
  have hop := open_walk a len cap zs (w.alloc (.cells #[.string ⟨#[]⟩, .string ⟨#[]⟩, .int .i64 0, .int .i64 0, .int .i64 0] 24)) (rowBelow h ((Below.refl _ w).alloc (Nat.le_refl _) _))
  clear h
  obtain ⟨r, hr⟩ : ∃ r, r = w.heap.size := ⟨_, rfl⟩
  rw [← hr] at HZ HB hs0 HPO
  go_enter Tryd.func10, Tryd.ntmps10
  go_wp2_with fail
  rw [← hr]
  clear hr
  generalize w.alloc (.cells #[.string ⟨#[]⟩, .string ⟨#[]⟩, .int .i64 0, .int .i64 0, .int .i64 0] 24) = w0 at HZ HB hs0 hop ⊢
  refine hop.mono ?_
  rintro e w1 ⟨rfl, hr1, b1, hs1⟩
  have hdh := drawHead _ _ 0 w1 hr1 (by omega)
  have HZ1 : Hid (HBk w1 r ⟨#[]⟩ ⟨#[]⟩ 0 0 0) := HZ.out.below b1 (by omega)
  have HB1 : Hid (Below r w w1) := HB.out.trans (b1.mono (by omega))
  rw [hs0] at hdh
  clear hop HZ HB b1 hr1 hs1
  go_wp2_with fail
  refine hdh.mono ?_
  rintro e w2 ⟨⟨yp, yr, yt, yd, yn⟩, q, rfl, hp, hq, _, hr2, bl2, bu2⟩
  have HZ2 : Hid (HBk w2 r ⟨#[]⟩ ⟨#[]⟩ 0 0 0) := HZ1.out.below bl2 (by omega)
  have HB2 : Hid (Below r w w2) := HB1.out.trans (bl2.mono (by omega))
  have HF : Hid (HBk (five w2 r yp yr yt yd yn) r yp yr yt yd yn ∧ Below r w (five w2 r yp yr yt yd yn)) := ⟨((((HZ2.out.set0 yp).set1 yr).set2 yt).set3 yd).set4 yn, ((((HB2.out.setCell (p := ⟨r, 0, none⟩) (Nat.le_refl _) _).setCell (p := ⟨r, 1, none⟩) (Nat.le_refl _) _).setCell (p := ⟨r, 2, none⟩) (Nat.le_refl _) _).setCell (p := ⟨r, 3, none⟩) (Nat.le_refl _) _).setCell (p := ⟨r, 4, none⟩) (Nat.le_refl _) _⟩
  obtain ⟨c0, c1, c2, c3, c4, f0, f1, f2, f3, f4⟩ := HZ2.out.facts
  dsimp only at hp hq
  have HS : Hid (yp.size ≤ 16 ∧ yr.size ≤ 16) := ⟨hp, hq⟩
  clear hdh HZ1 HB1 HZ2 HB2 bl2 bu2 hr2 hp hq
  go_wp2_with fail
  exact bodyPost_ret (results_cell_row (p := 2) rfl _ _ r 24 #[.string yp, .string yr, .int .i64 yt, .int .i64 yd, .int .i64 yn] (0, 0) _ rfl HF.out.1 Tryd.underlying24 rfl (by kernel_rfl)) rfl (HPO.out _ _ ⟨yp, yr, yt, yd, yn⟩ rfl HS.out.1 HS.out.2 HF.out.2)

theorem headMine_true {h : HeadV} (hm : (headMine h).2 = true) : ∃ k : Nat, k ≤ 400 ∧ (headMine h).1 = headNo h k ∧ headMeets (headNo h k) = true ∧ ∀ j, j < k → headMeets (headNo h j) = false := by
  unfold headMine at hm ⊢
  split at hm
  · rename_i k hk
    rw [List.find?_range_eq_some] at hk
    obtain ⟨h1, h2, h3⟩ := hk
    exact ⟨k, by have := List.mem_range.1 h2; omega, rfl, h1, fun j hj => by simpa using h3 j hj⟩
  · cases hm
theorem sameHB_self (p : HeadV) : sameHB p p = true := (sameHB_iff p p).2 rfl

set_option maxHeartbeats 4000000 in
set_option maxRecDepth 100000 in
theorem walk_FnHeadMine (a : Option Addr) (len cap : Nat) (zs : List Int) (w : World) (h : IsRow .u8 w a len cap zs) (hK : RowG w shaK) (hP : TabP w) :
    Calls Tryd.prog 4 #[.slice a len cap] w fun e w' => e = .returned (.bool true) ∧ Below w.heap.size w w' := by
  by_cases hl : (1048576 : Int) < (len : Int)
  · clear hK hP
    go_enter Tryd.func4, Tryd.ntmps4
    go_wp2
    go_ret
    exact ⟨rfl, Below.refl _ _⟩
  have hdr := dDrawHeadMine a len cap zs w h
  have HK : Hid (RowG w shaK) := hK
  have HP : Hid (∀ w', Below w.heap.size w w' → TabP w') := fun w' hb => TabP.below hP hb (Nat.le_refl _)
  clear hK hP h
  go_enter Tryd.func4, Tryd.ntmps4
  go_wp2_with fail
  refine hdr.mono ?_
  rintro e w1 ⟨⟨x, rfl, hxp, hxr⟩, b1⟩
  have HB1 : Hid (Below w.heap.size w w1) := b1
  have him := fun w' (hb : Below w.heap.size w w') => implHeadMine x w' (by omega) (by omega) (HK.out.below hb HK.out.lt) (HP.out w' hb)
  have hsp := fun w' => specHeadMine x w' (by unfold maxLen; omega) (by unfold maxLen; omega)
  have hmt := fun (j : Nat) w' (hb : Below w.heap.size w w') => implHeadMeets (headNo x j) w' (HK.out.below hb HK.out.lt) (HP.out w' hb)
  have hgd := eqHeadG
  cases hm2 : (headMine x).2 with
  | false =>
    rw [hm2] at him hsp
    clear hmt hm2 hdr b1 hxp hxr
    have hse := runSameHead (headMine x).1 (headMine x).1
    rw [sameHB_self] at hse
    generalize (headMine x).1 = y at him hsp hse
    unfold headVal at him hsp
    obtain ⟨p, r, t, d, n⟩ := x
    obtain ⟨yp, yr, yt, yd, yn⟩ := y
    dsimp only at him hsp hse ⊢
    have S0 : Hid (HSt w1 _ w1.heap.size p r t d n) := HSt.new w1 24 p r t d n
    go_wp2_with fail
    refine (him _ (HB1.out.trans (S0.out.2.1.mono HB1.out.size))).mono ?_
    rintro e w2 ⟨rfl, b2⟩
    have S2 : Hid (HSt w1 w2 w1.heap.size p r t d n) := S0.out.call b2
    have HY2 : Hid (HBk (w2.alloc (.cells #[.string yp, .string yr, .int .i64 yt, .int .i64 yd, .int .i64 yn] 24)) w2.heap.size yp yr yt yd yn) := HBk.new w2 yp yr yt yd yn
    have S3 : Hid (HSt w1 (w2.alloc (.cells #[.string yp, .string yr, .int .i64 yt, .int .i64 yd, .int .i64 yn] 24)) w1.heap.size p r t d n) := S2.out.alloc _
    obtain ⟨c0, c1, c2, c3, c4⟩ := S3.out.out
    clear S0 b2
    go_wp2_with fail
    generalize w2.alloc (.cells #[.string yp, .string yr, .int .i64 yt, .int .i64 yd, .int .i64 yn] 24) = w3 at HY2 S3 c0 c1 c2 c3 c4 ⊢
    obtain ⟨g4, hg4⟩ : ∃ g4, g4 = w2.heap.size := ⟨_, rfl⟩
    rw [← hg4] at HY2 ⊢
    clear hg4 S2
    refine (hsp _).mono ?_
    rintro e w4 ⟨rfl, b4⟩
    have HY4 : Hid (HBk w4 g4 yp yr yt yd yn) := HY2.out.below b4 HY2.out.lt
    have HY5 : Hid (HBk (w4.alloc (.cells #[.string yp, .string yr, .int .i64 yt, .int .i64 yd, .int .i64 yn] 24)) g4 yp yr yt yd yn) := HY4.out.below ((Below.refl _ w4).alloc (Nat.le_refl _) _) HY4.out.lt
    have HV5 : Hid (HBk (w4.alloc (.cells #[.string yp, .string yr, .int .i64 yt, .int .i64 yd, .int .i64 yn] 24)) w4.heap.size yp yr yt yd yn) := HBk.new w4 yp yr yt yd yn
    have S5 : Hid (HSt w1 (w4.alloc (.cells #[.string yp, .string yr, .int .i64 yt, .int .i64 yd, .int .i64 yn] 24)) w1.heap.size p r t d n) := (S3.out.call b4).alloc _
    obtain ⟨d0, d1, d2, d3, d4, _⟩ := HY5.out.facts
    obtain ⟨e0, e1, e2, e3, e4, _⟩ := HV5.out.facts
    clear HY2 S3 b4 c0 c1 c2 c3 c4
    go_wp2_with fail
    go_ret
    exact ⟨rfl, HB1.out.trans (S5.out.2.1.mono HB1.out.size)⟩
  | true =>
    obtain ⟨k, hk, hmk, hmy, hmj⟩ := headMine_true hm2
    rw [hm2, hmk] at him hsp
    have hse := runSameHead (headNo x k) (headNo x k)
    rw [sameHB_self] at hse
    have hmk' := hmt k
    rw [hmy] at hmk'
    have HMJ : Hid (∀ (j : Nat), j < k → ∀ w' (hb : Below w.heap.size w w'), Calls Tryd.prog 6 #[headVal (headNo x j)] w' fun e w'' => e = .returned (.bool false) ∧ Below w'.heap.size w' w'') := by
      intro j hj w' hb
      have := hmt j w' hb
      rw [hmj j hj] at this
      exact this
    clear hmt hm2 hdr b1 hxp hxr hmk hmy hmj
    unfold headVal headNo at him hsp hmk' HMJ
    unfold headNo at hse
    obtain ⟨p, r, t, d, n⟩ := x
    dsimp only at him hsp hse hmk' HMJ ⊢
    have S0 : Hid (HSt w1 _ w1.heap.size p r t d n) := HSt.new w1 24 p r t d n
    have HX0 : Hid (HBk (w1.alloc (.cells #[.string p, .string r, .int .i64 t, .int .i64 d, .int .i64 n] 24)) w1.heap.size p r t d n) := HBk.new w1 p r t d n
    go_wp2_with fail
    refine (him _ (HB1.out.trans (S0.out.2.1.mono HB1.out.size))).mono ?_
    rintro e w2 ⟨rfl, b2⟩
    have HB2 : Hid (Below w.heap.size w (w2.alloc (.cells #[.string p, .string r, .int .i64 t, .int .i64 d, .int .i64 (k : Int)] 24))) := HB1.out.trans (((S0.out.call b2).alloc _).2.1.mono HB1.out.size)
    have HX2 : Hid (HBk (w2.alloc (.cells #[.string p, .string r, .int .i64 t, .int .i64 d, .int .i64 (k : Int)] 24)) w1.heap.size p r t d n) := (HX0.out.below b2 HX0.out.lt).below ((Below.refl _ w2).alloc (Nat.le_refl _) _) (HX0.out.below b2 HX0.out.lt).lt
    have HY2 : Hid (HBk (w2.alloc (.cells #[.string p, .string r, .int .i64 t, .int .i64 d, .int .i64 (k : Int)] 24)) w2.heap.size p r t d (k : Int)) := HBk.new w2 p r t d (k : Int)
    have h34 : w1.heap.size < w2.heap.size := (HX0.out.below b2 HX0.out.lt).lt
    obtain ⟨c0, c1, c2, c3, c4, _⟩ := HX2.out.facts
    clear S0 b2 HX0
    go_wp2_with fail
    generalize w2.alloc (.cells #[.string p, .string r, .int .i64 t, .int .i64 d, .int .i64 (k : Int)] 24) = w3 at HB2 HX2 HY2 c0 c1 c2 c3 c4 ⊢
    obtain ⟨g4, hg4⟩ : ∃ g4, g4 = w2.heap.size := ⟨_, rfl⟩
    rw [← hg4] at HY2 h34 ⊢
    have HWG0 : Hid (w.heap.size ≤ w1.heap.size) := HB1.out.size
    obtain ⟨g3, hg3⟩ : ∃ g3, g3 = w1.heap.size := ⟨_, rfl⟩
    have HWG3 : Hid (w.heap.size ≤ g3) := by rw [hg3]; exact HWG0
    rw [← hg3] at HX2 h34 c0 c1 c2 c3 c4 ⊢
    clear hg4 hg3
    refine (hsp _).mono ?_
    rintro e w4 ⟨rfl, b4⟩
    have HX4 : Hid (HBk w4 g3 p r t d n) := HX2.out.below b4 HX2.out.lt
    have HY4 : Hid (HBk w4 g4 p r t d (k : Int)) := HY2.out.below b4 HY2.out.lt
    have HB4 : Hid (Below w.heap.size w w4) := HB2.out.trans (b4.mono HB2.out.size)
    have bal := (Below.refl w4.heap.size w4).alloc (Nat.le_refl _) (.cells #[.string p, .string r, .int .i64 t, .int .i64 d, .int .i64 (k : Int)] 24)
    have HX5 : Hid (HBk (w4.alloc (.cells #[.string p, .string r, .int .i64 t, .int .i64 d, .int .i64 (k : Int)] 24)) g3 p r t d n) := HX4.out.below bal HX4.out.lt
    have HY5 : Hid (HBk (w4.alloc (.cells #[.string p, .string r, .int .i64 t, .int .i64 d, .int .i64 (k : Int)] 24)) g4 p r t d (k : Int)) := HY4.out.below bal HY4.out.lt
    have HV5 : Hid (HBk (w4.alloc (.cells #[.string p, .string r, .int .i64 t, .int .i64 d, .int .i64 (k : Int)] 24)) w4.heap.size p r t d (k : Int)) := HBk.new w4 p r t d (k : Int)
    have HB5 : Hid (Below w.heap.size w (w4.alloc (.cells #[.string p, .string r, .int .i64 t, .int .i64 d, .int .i64 (k : Int)] 24))) := HB4.out.trans (bal.mono HB4.out.size)
    have hs5 : g4 < w4.heap.size := HY4.out.lt
    obtain ⟨d0, d1, d2, d3, d4, _⟩ := HY5.out.facts
    obtain ⟨e0, e1, e2, e3, e4, _⟩ := HV5.out.facts
    clear HX2 HY2 b4 c0 c1 c2 c3 c4 bal HX4 HY4 HB4 HB2 him hsp
    have hs6 : (w4.alloc (.cells #[.string p, .string r, .int .i64 t, .int .i64 d, .int .i64 (k : Int)] 24)).heap.size = w4.heap.size + 1 := by simp
    have bal := (Below.refl (w4.alloc (.cells #[.string p, .string r, .int .i64 t, .int .i64 d, .int .i64 (k : Int)] 24)).heap.size (w4.alloc (.cells #[.string p, .string r, .int .i64 t, .int .i64 d, .int .i64 (k : Int)] 24))).alloc (Nat.le_refl _) (.cells #[.string p, .string r, .int .i64 t, .int .i64 d, .int .i64 0] 24)
    have HX6 : Hid (HBk ((w4.alloc (.cells #[.string p, .string r, .int .i64 t, .int .i64 d, .int .i64 (k : Int)] 24)).alloc (.cells #[.string p, .string r, .int .i64 t, .int .i64 d, .int .i64 0] 24)) g3 p r t d n) := HX5.out.below bal HX5.out.lt
    have HY6 : Hid (HBk ((w4.alloc (.cells #[.string p, .string r, .int .i64 t, .int .i64 d, .int .i64 (k : Int)] 24)).alloc (.cells #[.string p, .string r, .int .i64 t, .int .i64 d, .int .i64 0] 24)) g4 p r t d (k : Int)) := HY5.out.below bal HY5.out.lt
    have HL6 : Hid (HBk ((w4.alloc (.cells #[.string p, .string r, .int .i64 t, .int .i64 d, .int .i64 (k : Int)] 24)).alloc (.cells #[.string p, .string r, .int .i64 t, .int .i64 d, .int .i64 0] 24)) (w4.heap.size + 1) p r t d 0) := by
      have := HBk.new (w4.alloc (.cells #[.string p, .string r, .int .i64 t, .int .i64 d, .int .i64 (k : Int)] 24)) p r t d 0
      rwa [hs6] at this
    have HB6 : Hid (Below w.heap.size w ((w4.alloc (.cells #[.string p, .string r, .int .i64 t, .int .i64 d, .int .i64 (k : Int)] 24)).alloc (.cells #[.string p, .string r, .int .i64 t, .int .i64 d, .int .i64 0] 24))) := HB5.out.trans (bal.mono HB5.out.size)
    clear bal hs6
    go_wp2_with fail
    clear d0 d1 d2 d3 d4 e0 e1 e2 e3 e4 HX5 HY5 HV5 HB5
    generalize ((w4.alloc (.cells #[.string p, .string r, .int .i64 t, .int .i64 d, .int .i64 (k : Int)] 24)).alloc (.cells #[.string p, .string r, .int .i64 t, .int .i64 d, .int .i64 0] 24)) = w6 at HX6 HY6 HL6 HB6 ⊢
    obtain ⟨g8, hg8⟩ : ∃ g8, g8 = w4.heap.size + 1 := ⟨_, rfl⟩
    rw [← hg8] at HL6 ⊢
    have h83 : g8 ≠ g3 := by omega
    have h84 : g8 ≠ g4 := by omega
    have h43 : g4 ≠ g3 := by omega
    have HW8 : Hid (w.heap.size ≤ g8) := by
      have := HWG3.out
      show _ ≤ _
      omega
    have HW3 : Hid (w.heap.size ≤ g3) := HWG3.out
    clear hg8 hs5 h34 HB1
    go_loopw [] (fun wr => ∃ j : Nat, j ≤ k ∧ Hid (HBk wr g8 p r t d (j : Int)) ∧ Hid (HBk wr g4 p r t d (k : Int)) ∧ Hid (HBk wr g3 p r t d n) ∧ Hid (Below w.heap.size w wr)) (fun wr => k - (intOf ((wr.cell? ⟨g8, 4, none⟩).getD undef)).toNat)
    case atStart => exact ⟨0, by omega, HL6, HY6, HX6, HB6⟩
    case round =>
      clear HL6 HY6 HX6 HB6
      obtain ⟨j, hj, HL, HY, HX, HB⟩ := hrel
      obtain ⟨c0, c1, c2, c3, c4, z0, z1, z2, z3, z4⟩ := HL.out.facts
      obtain ⟨d0, d1, d2, d3, d4, _⟩ := HY.out.facts
      by_cases hlt : j < k
      · have lj : (j : Int) < (k : Int) := by omega
        have hmj := HMJ.out j hlt wr HB.out
        have HJ1 : Hid (j + 1 ≤ k) := hlt
        have HC4 : Hid (wr.cell? ⟨g8, 4, none⟩ = some (.int .i64 (j : Int))) := c4
        clear hmk' HMJ
        go_wp2_with fail
        refine hmj.mono ?_
        rintro e w7 ⟨rfl, b7⟩
        have HL7 : Hid (HBk w7 g8 p r t d (j : Int)) := HL.out.below b7 HL.out.lt
        have HY7 : Hid (HBk w7 g4 p r t d (k : Int)) := HY.out.below b7 HY.out.lt
        have HX7 : Hid (HBk w7 g3 p r t d n) := HX.out.below b7 HX.out.lt
        have HB7 : Hid (Below w.heap.size w w7) := HB.out.trans (b7.mono HB.out.size)
        clear c0 c1 c2 c3 c4 z0 z1 z2 z3 z4 d0 d1 d2 d3 d4 HL HY HX HB b7 hmj
        obtain ⟨c0, c1, c2, c3, c4, z0, z1, z2, z3, z4⟩ := HL7.out.facts
        have HL8 : Hid (HBk (w7.setCell ⟨g8, 4, none⟩ (.int .i64 ((j : Int) + 1))) g8 p r t d ((j + 1 : Nat) : Int)) := HL7.out.set4 ((j + 1 : Nat) : Int)
        have HY8 : Hid (HBk (w7.setCell ⟨g8, 4, none⟩ (.int .i64 ((j : Int) + 1))) g4 p r t d (k : Int)) := HY7.out.other h84 _
        have HX8 : Hid (HBk (w7.setCell ⟨g8, 4, none⟩ (.int .i64 ((j : Int) + 1))) g3 p r t d n) := HX7.out.other h83 _
        have HB8 : Hid (Below w.heap.size w (w7.setCell ⟨g8, 4, none⟩ (.int .i64 ((j : Int) + 1)))) := HB7.out.setCell (p := ⟨g8, 4, none⟩) HW8.out _
        have wk : IntKind.i64.wrap ((j : Int) + 1) = (j : Int) + 1 := by rw [IntKind.wrap_i64]; omega
        clear HL7 HY7 HX7 HB7
        go_wp2_with fail
        go_roundw
        case rel => exact ⟨j + 1, HJ1.out, HL8, HY8, HX8, HB8⟩
        case measure =>
          have e1 := HL8.out.facts.2.2.2.2.1
          rw [e1, HC4.out]
          have := HJ1.out
          simp [intOf]
          omega
      · obtain rfl : j = k := by omega
        obtain ⟨x0, x1, x2, x3, x4, y0, y1, y2, y3, y4⟩ := HX.out.facts
        have HX8 : Hid (HBk (wr.setCell ⟨g3, 4, none⟩ (.int .i64 (j : Int))) g3 p r t d (j : Int)) := HX.out.set4 (j : Int)
        have HY8 : Hid (HBk (wr.setCell ⟨g3, 4, none⟩ (.int .i64 (j : Int))) g4 p r t d (j : Int)) := HY.out.other h43.symm _
        have HB8 : Hid (Below w.heap.size w (wr.setCell ⟨g3, 4, none⟩ (.int .i64 (j : Int)))) := HB.out.setCell (p := ⟨g3, 4, none⟩) HW3.out _
        obtain ⟨s0, s1, s2, s3, s4, _⟩ := HY8.out.facts
        have hmy := hmk' _ HB8.out
        clear HMJ hmk' HX HY HL HB
        go_wp2_with fail
        generalize wr.setCell ⟨g3, 4, none⟩ (.int .i64 (j : Int)) = w8 at HX8 HY8 HB8 hmy s0 s1 s2 s3 s4 ⊢
        clear c0 c1 c2 c3 c4 z0 z1 z2 z3 z4 d0 d1 d2 d3 d4 x0 x1 x2 x3 x4 y0 y1 y2 y3 y4
        refine hmy.mono ?_
        rintro e w9 ⟨rfl, b9⟩
        have HX9 : Hid (HBk w9 g3 p r t d (j : Int)) := HX8.out.below b9 HX8.out.lt
        have HY9 : Hid (HBk w9 g4 p r t d (j : Int)) := HY8.out.below b9 HY8.out.lt
        obtain ⟨x0, x1, x2, x3, x4, _⟩ := HX9.out.facts
        obtain ⟨d0, d1, d2, d3, d4, _⟩ := HY9.out.facts
        have HB9 : Hid (Below w.heap.size w w9) := HB8.out.trans (b9.mono HB8.out.size)
        clear b9 hmy s0 s1 s2 s3 s4 HX8 HY8 HB8
        go_wp2_with fail
        go_ret
        exact ⟨rfl, HB9.out⟩

end Go.Proofs.YtehpcccmhfemaaaDoor

namespace Go.Proofs.YtehpcccmhfemaaaDoor
open Go.ChangeShapes Go.WideShapes Go.ChangeAt Go.RowKit
open Go.ChangeMaps (open_string shut_string)
set_option linter.unusedVariables false

theorem own_fnHeadMine : ownKnob Tryd.prog.godebug = none := by kernel_rfl
theorem laid_fnHeadMine : laidOutB Tryd.prog = true := by kernel_rfl
theorem table_fnHeadMine {W : World} (h : laidMetH Tryd.prog Rows.fnHeadMineRow.laid W) : RowG W shaK ∧ TabP W := tabs_of_laid h

theorem met_fnHeadMine (os : Os) : laidMet Tryd.prog Rows.fnHeadMineRow.laid ((laidWorld os).forCall (fun _ _ => 0) ⟨#[], #[.slice none 0 0], []⟩).memory :=
  laidMet_of_run' 8 (by kernel_rfl) (by kernel_rfl)
theorem reads_fnHeadMine (os : Os) {H : Type} (enc : TypeId × Value → H) : ∃ places, DataW.whole enc Tryd.prog ((laidWorld os).forCall (fun _ _ => 0) ⟨#[], #[.slice none 0 0], []⟩).memory Tryd.f4.params.toList Rows.fnHeadMineSpec.vars false (#[.slice none 0 0] : Array Value).toList 8 = some ([.nil], [Rows.laid_loop_example_cordillera_impl_sumRounds], places) :=
  ⟨MemPlace.row ⟨0, 0, none⟩ 64, by kernel_rfl⟩

set_option maxRecDepth 100000 in
theorem lifted_fnHeadMine (os : Os) (started : os.Started) (H : Type) (enc : TypeId × Value → H) (F : Stop.Interp) :
    ReturnsInHanded {} Tryd.checked os 4 .any ((OpenSpec.ofChange Rows.fnHeadMineSpec).preRow enc Tryd.prog Tryd.f4 Rows.fnHeadMineRow.domain false Rows.fnHeadMineRow.laid) (((OpenSpec.ofChange Rows.fnHeadMineSpec).at F).post enc Tryd.prog Tryd.f4 false true false false) := by
  obtain ⟨places, hx⟩ := reads_fnHeadMine os enc
  refine returnsInHanded_of_row (C := Tryd.checked) (s := OpenSpec.ofChange Rows.fnHeadMineSpec) own_fnHeadMine started (by kernel_rfl) Tryd.func4
    (witness_row_at (enc := enc) (C := Tryd.checked) false (laidWorld os) #[.slice none 0 0] rfl (by kernel_rfl) (by kernel_rfl) (by kernel_rfl)
      (OpenSpec.preRow_of_cond 8 hx (by kernel_rfl) (fun k hk => by cases hk) (by kernel_rfl) (met_fnHeadMine os))) ?_
  intro W base args ds gs before hval0 hW _ _ _ hL _ _
  have hval : ∀ (j : Nat) t v, Tryd.f4.params[j]? = some t → args[j]? = some v → Value.okWide Tryd.prog W .any base t v := hval0
  have hW' := hW
  obtain ⟨p, q, hA0, hV, rfl, hfz, hnd⟩ := hW
  have hA : DataW.TrodAll enc Tryd.prog W 0 (fun _ => true) true Tryd.f4.params.toList args.toList ds p := hA0
  rw [Tryd.params4] at hA hval
  obtain ⟨v0, vs0, d0, ds0, p0, q0, hargs, rfl, rfl, h0, r0⟩ := trodAll_cons hA
  obtain ⟨rfl, rfl, rfl⟩ := trodAll_nil r0
  obtain rfl : args = #[v0] := by cases args; simp_all
  obtain ⟨gv, tv, cv, fv, dv, pv, rfl, hgv, htv, hvv, hdv, rfl⟩ := trodVars_one hV
  obtain ⟨a0, len0, cap0, rfl⟩ := okWide_slice Tryd.underlying22 (hval 0 22 v0 rfl rfl)
  have k0 := h0
  have lt0 : ∀ x ∈ p0, x.block < W.heap.size := by obtain ⟨m, hm⟩ := k0; exact DataW.trod_lt m _ _ _ hm
  obtain ⟨z0, w0⟩ : ∃ zs, IsRow .u8 W a0 len0 cap0 zs := by
    obtain ⟨fuel, hf⟩ := h0
    rcases open_ints Tryd.underlying22 Tryd.underlying5 (by kernel_rfl) hf with ⟨hcs, _⟩ | ⟨x, l, c, zs, hcs, _, hl, hm, hz, _, hcell, hwz⟩
    · simp [Value.cells] at hcs
      obtain ⟨rfl, rfl, rfl⟩ := hcs
      exact ⟨[], .inl ⟨rfl, rfl, rfl, rfl⟩⟩
    · simp [Value.cells] at hcs
      obtain ⟨rfl, rfl, rfl⟩ := hcs
      exact ⟨zs, .inr ⟨_, rfl, hl, hm, by simpa using hz, hcell, hwz⟩⟩
  clear hA0 hval0
  refine (walk_FnHeadMine a0 len0 cap0 z0 W w0 (table_fnHeadMine hL).1 (table_fnHeadMine hL).2).mono fun e W' ⟨he, bel⟩ => ?_
  subst he
  obtain ⟨pv', hpv⟩ := varsBack laid_fnHeadMine hgv htv hvv hdv bel
  exact ⟨_, rfl, _, _, _, [], _, pv', hW', trodAll_mk1 (shut_bool Tryd.underlying4 _), (trodAll_cons_mk (Below.trod laid_fnHeadMine (by kernel_rfl) (of_decide_eq_true (by kernel_rfl)) k0 bel lt0) trodAll_mk0), hpv, bel.frame _, fun h => by cases h⟩

theorem fnHeadMine_said : Rows.FnHeadMineSaid :=
  OpenClaim.holds_of_cond 4 Tryd.f4 rfl rfl rfl rfl rfl rfl rfl ⟨rfl, rfl, rfl, rfl, rfl⟩ rfl rfl rfl rfl rfl (by kernel_rfl) Tryd.func4 (by kernel_rfl)
    (of_decide_eq_true (by kernel_rfl)) (by unfold Func.isWrapper; first | (rw [if_pos (by decide +kernel)]; kernel_rfl) | (rw [if_neg (by decide +kernel)]; exact ⟨rfl, rfl⟩))
    (fun os started H enc _ F => by rw [OpenClaim.pre_eq_preRow]; exact lifted_fnHeadMine os started H enc F)
theorem plain_fnHeadMine (f : FuncId) (fn : Func) (hf : Tryd.pinned.checked.prog.funcNamed "loop.example/cordillera/laws.FnHeadMine" = some f) (hfn : Tryd.pinned.checked.prog.funcs[f]? = some fn) :
    false = Tryd.pinned.checked.prog.looks [] ∧ ∀ (j : Nat) t, fn.params[j]? = some t → Tryd.pinned.checked.prog.wantsStandIn t = false := by
  obtain rfl : f = 4 := Option.some.inj ((show Tryd.prog.funcNamed "loop.example/cordillera/laws.FnHeadMine" = some 4 by kernel_rfl).symm.trans hf) |>.symm
  obtain rfl : fn = Tryd.f4 := (Option.some.inj (Tryd.func4.symm.trans hfn)).symm
  refine ⟨by kernel_rfl, fun j t ht => ?_⟩
  rw [Tryd.params4] at ht
  have hall : ∀ t ∈ (#[22] : Array TypeId), Tryd.prog.wantsStandIn t = false := by
    intro t ht
    simp only [List.mem_toArray, List.mem_cons, List.not_mem_nil, or_false] at ht
    subst ht; kernel_rfl
  exact hall t (Array.mem_of_getElem? ht)
theorem fnHeadMine_holds : Rows.FnHeadMineCardSaid :=
  Claim7.holds_tied_plain_at .later [] _ _ _ _ fnHeadMine_said (fun _ h => by cases h) (by kernel_rfl) (fun _ h => by cases h) fnHeadMine_row_tie rfl ⟨rfl, rfl⟩ (by kernel_rfl) rfl plain_fnHeadMine (by kernel_rfl)
#print axioms fnHeadMine_holds
end Go.Proofs.YtehpcccmhfemaaaDoor

