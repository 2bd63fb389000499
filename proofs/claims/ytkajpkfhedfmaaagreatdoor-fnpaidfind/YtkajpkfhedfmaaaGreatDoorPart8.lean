/-
  Texts that the last part needs, joined.
-/
import Derived.Test.YtkajpkfhedfmaaaGreatDoorPart1
import Derived.Test.YtkajpkfhedfmaaaGreatDoorPart2
import Derived.Test.YtkajpkfhedfmaaaGreatDoorPart3
import Derived.Test.YtkajpkfhedfmaaaGreatDoorPart4
import Derived.Test.YtkajpkfhedfmaaaGreatDoorPart5
import Derived.Test.YtkajpkfhedfmaaaGreatDoorPart6
import Derived.Test.YtkajpkfhedfmaaaGreatDoorPart7
import Derived.BigRegion
import Derived.SliceStrings
import Derived.WalkKit
import Derived.Below
import Derived.ProofKit
import Derived.OpenShut
import Derived.ShutString
import Derived.ChangeOld
import Derived.ChangeArms
import Derived.WideShapes
import Derived.Deep.RegionWith
import Derived.Deep.OwnRows
import Derived.Laws.Rows
import Derived.Laws.Strings
set_option linter.unusedVariables false
namespace Go.Proofs.YtkajpkfhedfmaaaGreatDoor
open Go.RowKit Go.Deep

/-- A list of blocks, of whose heads the texts are short, and whose items lie there, few and small. -/
structure LooseI (B : Nat) (v : Value) (cs : List BlkV) (w : World) : Prop where
  l : Loose B v cs w
  it : ∀ c ∈ cs, ItemsAt w c ∧ c.ss.length ≤ 5 ∧ ∀ i, i < c.ss.length → (c.ss.getD i ByteArray.empty).size ≤ 1048576
def AnyPostI (B b p : Nat) (w : World) (e : Ending) (w' : World) : Prop := ∃ (v : Value) (cs : List BlkV) (q : Nat), e = .returned v ∧ LooseI w.heap.size v cs w' ∧ q ≤ p + 300 ∧ Rd B b q w' ∧ Below b w w'
def BlocksPostH (B b p : Nat) (w : World) (e : Ending) (w' : World) : Prop := ∃ (v : Value) (cs : List BlkV) (q : Nat), e = .returned v ∧ BList w.heap.size v cs w' ∧ Good cs ∧ (∀ c ∈ cs, itemsOkB c.ss = true) ∧ q ≤ p + 200 ∧ Rd B b q w' ∧ Below b w w' ∧ But b w w'
theorem items_fine {cs : List BlkV} (hg : Good cs) (hi : ∀ c ∈ cs, itemsOkB c.ss = true) {c : BlkV} (hc : c ∈ cs) : c.ss.length ≤ 4 ∧ ∀ i, i < c.ss.length → (c.ss.getD i ByteArray.empty).size ≤ 1048576 :=
  ⟨hg.items c hc, fun i hl => item_small (itemsOk_at (hi c hc) i hl)⟩
theorem items_move {w w' : World} {c : BlkV} (h : ItemsAt w c) (hs : w.heap.size ≤ w'.heap.size) (hk : w'.heap[c.g]? = w.heap[c.g]?) : ItemsAt w' c := ⟨atS_far h.1 hk hs, h.2⟩
theorem looseI_of {B : Nat} {v : Value} {cs : List BlkV} {w : World} (h : BList B v cs w) (hg : Good cs) (hi : ∀ c ∈ cs, itemsOkB c.ss = true) : LooseI B v cs w :=
  ⟨⟨h.row, hg.few, hg.wf⟩, fun c hc => ⟨(h.items c hc).1, by have := (items_fine hg hi hc).1; omega, (items_fine hg hi hc).2⟩⟩
theorem items_far {B g n c : Nat} {cs : List BlkV} {w w' : World} (h : BList B (.slice (some ⟨g, 0, none⟩) n c) cs w) (hg : Good cs) (hi : ∀ c ∈ cs, itemsOkB c.ss = true) (hk : ∀ x, x < w.heap.size → x ≠ g → w'.heap[x]? = w.heap[x]?) (hs : w.heap.size ≤ w'.heap.size) (x : BlkV) (hx : x ∈ cs) : ItemsAt w' x ∧ x.ss.length ≤ 5 ∧ ∀ i, i < x.ss.length → (x.ss.getD i ByteArray.empty).size ≤ 1048576 := by
  have h1 := (h.items x hx).1
  have h2 := items_fine hg hi hx
  have h3 : x.g ≠ g := fun he => h.apart x hx (by rw [he]; rfl)
  exact ⟨items_move h1 hs (hk x.g h1.1.1 h3), by omega, h2.2⟩
theorem set_heap {w : World} {g i : Nat} {v : Value} {x : Nat} (h : x ≠ g) : (w.setCell ⟨g, i, none⟩ v).heap[x]? = w.heap[x]? := by
  have h2 : g ≠ x := fun e => h e.symm
  simp [World.setCell, Array.getElem?_modify, h2]
theorem set_size {w : World} {g i : Nat} {v : Value} : w.heap.size ≤ (w.setCell ⟨g, i, none⟩ v).heap.size := by simp [World.setCell]
theorem LooseI.set {B g n c : Nat} {cs : List BlkV} {w : World} (h : BList B (.slice (some ⟨g, 0, none⟩) n c) cs w) (hg : Good cs) (hi : ∀ c ∈ cs, itemsOkB c.ss = true) (k j : Nat) (v : Value) (b : BlkV) (hk : k < cs.length) (hj : j < 6) (he : enBlk b = (enBlk (cs.getD k default)).set j v) (h1 : b.h.prev = (cs.getD k default).h.prev) (h2 : b.h.root = (cs.getD k default).h.root) (h3 : b.g = (cs.getD k default).g ∧ b.n = (cs.getD k default).n ∧ b.ss = (cs.getD k default).ss) :
    LooseI B (.slice (some ⟨g, 0, none⟩) n c) (cs.set k b) (w.setCell ⟨g, k * 6 + j, none⟩ v) := by
  refine ⟨Loose.set h.row hg k j v b hk hj he h1 h2, fun x hx => ?_⟩
  have hf := items_far (w' := w.setCell ⟨g, k * 6 + j, none⟩ v) h hg hi (fun x _ hx => set_heap hx) set_size
  rcases mem_set hx with rfl | h'
  · have h4 := hf _ (getD_mem hk)
    refine ⟨⟨?_, ?_⟩, ?_, ?_⟩
    · rw [h3.1, h3.2.2]; exact h4.1.1
    · rw [h3.2.1, h3.2.2]; exact h4.1.2
    · rw [h3.2.2]; exact h4.2.1
    · rw [h3.2.2]; exact h4.2.2
  · exact hf x h'
theorem items_app {B g n c k : Nat} {cs : List BlkV} {w w6 : World} {g6 c6 i6 : Nat} {it : ByteArray} {v : Value} (h : BList B (.slice (some ⟨g, 0, none⟩) n c) cs w) (hg : Good cs) (hi : ∀ c ∈ cs, itemsOkB c.ss = true) (hk : k < cs.length) (h1 : it.size ≤ 16) (h2 : AtS w6 g6 ((cs.getD k default).ss ++ [it])) (h3 : g6 ≠ g) (h4 : ∀ x, x < w.heap.size → B ≤ x → x ≠ (cs.getD k default).g → w6.heap[x]? = w.heap[x]?) (h5 : w.heap.size ≤ w6.heap.size) :
    ∀ x ∈ cs.set k { cs.getD k default with g := g6, n := (cs.getD k default).n + 1, cap := c6, ss := (cs.getD k default).ss ++ [it] }, ItemsAt (w6.setCell ⟨g, i6, none⟩ v) x ∧ x.ss.length ≤ 5 ∧ ∀ i, i < x.ss.length → (x.ss.getD i ByteArray.empty).size ≤ 1048576 := by
  intro x hx
  obtain ⟨j, hj, he⟩ := List.mem_iff_getElem.1 hx
  rw [List.length_set] at hj
  rw [List.getElem_set] at he
  have hkm := getD_mem hk
  have hkf := items_fine hg hi hkm
  have hki := (h.items _ hkm).1
  split at he
  · subst he
    refine ⟨⟨atS_far h2 (set_heap h3) set_size, ?_⟩, ?_, ?_⟩
    · show (cs.getD k default).n + 1 = ((cs.getD k default).ss ++ [it]).length
      rw [hki.2, List.length_append]
      rfl
    · show ((cs.getD k default).ss ++ [it]).length ≤ 5
      rw [List.length_append]
      have := hkf.1
      simp only [List.length_cons, List.length_nil]
      omega
    · show ∀ i, i < ((cs.getD k default).ss ++ [it]).length → (((cs.getD k default).ss ++ [it]).getD i ByteArray.empty).size ≤ 1048576
      intro i hl
      rcases Nat.lt_or_ge i (cs.getD k default).ss.length with h' | h'
      · rw [List.getD_eq_getElem?_getD, List.getElem?_append_left h', ← List.getD_eq_getElem?_getD]
        exact hkf.2 i h'
      · have e : i = (cs.getD k default).ss.length := by rw [List.length_append] at hl; simp at hl h' ⊢; omega
        rw [e, List.getD_eq_getElem?_getD, List.getElem?_append_right (Nat.le_refl _), Nat.sub_self]
        show it.size ≤ 1048576
        omega
  · rename_i hne
    have hxm : x ∈ cs := by rw [← he]; exact List.getElem_mem hj
    have hxi := h.items x hxm
    have hxf := items_fine hg hi hxm
    have hxg : x.g ≠ g := fun he => h.apart x hxm (by rw [he]; rfl)
    have hd : x.g ≠ (cs.getD k default).g := by
      have e : cs.getD k default = cs[k] := by rw [List.getD_eq_getElem?_getD, List.getElem?_eq_getElem hk]; rfl
      rw [e, ← he]
      have hs := List.pairwise_iff_getElem.1 h.sep
      rcases Nat.lt_or_ge j k with h' | h'
      · exact hs j k hj hk h'
      · exact (hs k j hk hj (by omega)).symm
    exact ⟨items_move (items_move hxi.1 h5 (h4 x.g hxi.1.1.1 hxi.2 hd)) set_size (set_heap hxg), by omega, hxf.2⟩

set_option maxHeartbeats 2000000 in
set_option maxRecDepth 100000 in
theorem drawBlocksH (B b p : Nat) (w : World) (h : Rd B b p w) (hp : p < 1000000000 - 2000) :
    Calls Tryz.prog 37 #[.pointer (some ⟨b, 0, none⟩)] w fun e w' => BlocksPostH B b p w e w' := by
  have hlt := h.lt
  have HP : Hid (∀ e w' v cs q, e = .returned v → BList w.heap.size v cs w' → Good cs → (∀ c ∈ cs, itemsOkB c.ss = true) → q ≤ p + 200 → Rd B b q w' → Below b w w' → But b w w' → BlocksPostH B b p w e w') := fun e w' v cs q h1 h2 h3 ha h4 h5 h6 h7 => ⟨v, cs, q, h1, h2, h3, ha, h4, h5, h6, h7⟩
  generalize BlocksPostH B b p w = CP at HP ⊢
  have HL0 : Hid (BList w.heap.size (.slice (some ⟨w.heap.size, 0, none⟩) 0 0) [] (w.alloc (.cells #[] 39))) := ⟨frow_new _ _ _ w, (fun c hc => by cases hc), (fun c hc => by cases hc), (fun c hc => by cases hc), List.Pairwise.nil⟩
  have hr0 : Rd B b p (w.alloc (.cells #[] 39)) := h.keep ((Below.refl _ w).alloc (by omega) _)
  have hs0 : (w.alloc (.cells #[] 39)).heap.size = w.heap.size + 1 := by simp
  have hbk := heap_alloc_new (w.alloc (.cells #[] 39)) (.cells (many7.map (Value.int .i64)).toArray 3)
  have hone := one_walk B b p _ 7 7 many7 _ (hr0.keep ((Below.refl _ _).alloc (by omega) (.cells (many7.map (Value.int .i64)).toArray 3))) (by omega) (by omega) (by omega) (cells_ints hbk rfl 7 (by decide)) (by omega)
  rw [hs0] at hone
  have HL1 : Hid (BList w.heap.size (.slice (some ⟨w.heap.size, 0, none⟩) 0 0) [] ((w.alloc (.cells #[] 39)).alloc (.cells (many7.map (Value.int .i64)).toArray 3))) := HL0.out.below ((Below.refl _ _).alloc (Nat.le_refl _) _)
  have HB1 : Hid (Below b w ((w.alloc (.cells #[] 39)).alloc (.cells (many7.map (Value.int .i64)).toArray 3)) ∧ But b w ((w.alloc (.cells #[] 39)).alloc (.cells (many7.map (Value.int .i64)).toArray 3))) := ⟨((Below.refl _ w).alloc (by omega) _).alloc (by simp; omega) _, (But.alloc _ _ _).trans (But.alloc _ _ _)⟩
  clear h hr0 hbk HL0
  go_enter Tryz.func37, Tryz.ntmps37
  go_wp2_with fail
  refine hone.mono ?_
  rintro e w1 ⟨x, hx, rfl, hr1, ho1⟩
  have hin := many7_in ⟨x, hx⟩
  dsimp only at hin
  obtain ⟨n0, hn0⟩ := Int.eq_ofNat_of_zero_le hin.1
  rw [hn0] at hin ⊢
  have HL2 : Hid (BList w.heap.size (.slice (some ⟨w.heap.size, 0, none⟩) 0 0) [] w1) := HL1.out.only ho1.but hlt
  have HB2 : Hid (Below b w w1 ∧ But b w w1) := ⟨HB1.out.1.trans (ho1.below (Nat.le_refl _)), HB1.out.2.trans ho1.but⟩
  have hch := drawChainH B b (p + 1) w.heap.size w.heap.size 0 hlt n0 w1 hr1 (by omega) HL2.out HB2.out.2.1 (by omega)
  have hn13 : n0 ≤ 13 := by omega
  clear hone hs0 HL1 HB1 ho1 hr1 hin hn0
  go_wp2_with fail
  refine hch.mono ?_
  rintro e w2 ⟨v, cs, q, rfl, l2, g2, i2, _, hq, hr2, bl2, bu2⟩
  go_wp2_with fail
  exact HP.out _ _ v cs q rfl l2 g2 i2 (by omega) hr2 (HB2.out.1.trans bl2) (HB2.out.2.trans bu2)

set_option maxHeartbeats 4000000 in
set_option maxRecDepth 100000 in
theorem drawAnyBlocksI (B b p : Nat) (w : World) (h : Rd B b p w) (hp : p < 1000000000 - 3000) :
    Calls Tryz.prog 15 #[.pointer (some ⟨b, 0, none⟩)] w fun e w' => AnyPostI B b p w e w' := by
  have hlt := h.lt
  have HP : Hid (∀ e w' v cs q, e = .returned v → LooseI w.heap.size v cs w' → q ≤ p + 300 → Rd B b q w' → Below b w w' → AnyPostI B b p w e w') := fun e w' v cs q h1 h2 h4 h5 h6 => ⟨v, cs, q, h1, h2, h4, h5, h6⟩
  generalize AnyPostI B b p w = CP at HP ⊢
  have hbl := drawBlocksH B b p w h (by omega)
  clear h
  go_enter Tryz.func15, Tryz.ntmps15
  go_wp2_with fail
  refine hbl.mono ?_
  rintro e w1 ⟨v, cs, q, rfl, l1, g1, i1, hq, hr1, bl1, bu1⟩
  obtain ⟨g, c, hv⟩ := l1.row.1
  subst hv
  obtain ⟨n, hn⟩ : ∃ n, n = cs.length := ⟨_, rfl⟩
  rw [← hn] at l1 ⊢
  have HN : Hid (n = cs.length) := hn
  have HL : Hid (BList w.heap.size (.slice (some ⟨g, 0, none⟩) n c) cs w1) := l1
  have HG : Hid (Good cs) := g1
  have HIO : Hid (∀ c ∈ cs, itemsOkB c.ss = true) := i1
  have HB : Hid (Below b w w1) := bl1
  have HR : Hid (Rd B b q w1) := hr1
  have hn20 : n ≤ 20 := by rw [hn]; exact g1.few
  have hsz1 : w.heap.size ≤ w1.heap.size := bu1.1
  clear hbl l1 g1 i1 bl1 bu1 hr1 hn
  by_cases h0 : n = 0
  · subst h0
    go_wp2_with fail
    exact HP.out _ _ _ cs q rfl (looseI_of HL.out HG.out HIO.out) (by omega) HR.out HB.out
  · have hn0 : (0 : Int) < (n : Int) := by omega
    have hnn : 0 < n := by omega
    have hnd : decide (0 < n) = true := decide_eq_true hnn
    have hpk := pick_walk B b q 5 w1 HR.out (by omega) (by omega)
    go_wp2_with fail
    refine hpk.mono ?_
    rintro e w2 ⟨x2, rfl, hx2, _, hr2, ho2⟩
    have HL2 : Hid (BList w.heap.size (.slice (some ⟨g, 0, none⟩) n c) cs w2) := HL.out.only ho2.but hlt
    have HB2 : Hid (Below b w w2) := HB.out.trans (ho2.below (Nat.le_refl _))
    have HR2 : Hid (Rd B b (q + 1) w2) := hr2
    have hsz2 : w.heap.size ≤ w2.heap.size := by rw [ho2.size]; exact hsz1
    clear hpk HL HB HR hr2 ho2 h0 hsz1
    by_cases hx0 : x2 = 0
    · subst hx0
      have hpk := pick_walk B b (q + 1) (n : Int) w2 HR2.out (by omega) (by omega)
      go_wp2_with fail
      refine hpk.mono ?_
      rintro e w3 ⟨k, rfl, hk, _, hr3, ho3⟩
      have hkn : k < n := by have := hk (by omega); omega
      have HL3 : Hid (BList w.heap.size (.slice (some ⟨g, 0, none⟩) n c) cs w3) := HL2.out.only ho3.but hlt
      have HB3 : Hid (Below b w w3) := HB2.out.trans (ho3.below (Nat.le_refl _))
      have hsz3 : w.heap.size ≤ w3.heap.size := by rw [ho3.size]; exact hsz2
      have hpk4 := pick_walk B b (q + 1 + 1) 5 w3 hr3 (by omega) (by omega)
      clear hpk HL2 HB2 HR2 hr3 ho3 hsz2 hk
      go_wp2_with fail
      refine hpk4.mono ?_
      rintro e w4 ⟨s, rfl, hs, _, hr4, ho4⟩
      have hs5 : s < 5 := by have := hs (by omega); omega
      have HL4 : Hid (BList w.heap.size (.slice (some ⟨g, 0, none⟩) n c) cs w4) := HL3.out.only ho4.but hlt
      have HB4 : Hid (Below b w w4) := HB3.out.trans (ho4.below (Nat.le_refl _))
      have hsz4 : w.heap.size ≤ w4.heap.size := by rw [ho4.size]; exact hsz3
      have HR4 : Hid (Rd B b (q + 1 + 1 + 1) w4) := hr4
      have hltr := hr4.lt
      clear hpk4 HL3 HB3 hr4 ho4 hsz3 hs
      have hcase : s = 0 ∨ s = 1 ∨ s = 2 ∨ s = 3 ∨ s = 4 := by omega
      rcases hcase with rfl | rfl | rfl | rfl | rfl
      · have hkl : k < cs.length := by rw [← HN.out]; exact hkn
        have hbk := heap_alloc_new w4 (.cells (non3.map (Value.int .i64)).toArray 3)
        have hone := one_walk B b (q + 1 + 1 + 1) w4.heap.size 3 3 non3 _ (HR4.out.keep ((Below.refl _ _).alloc (by omega) (.cells (non3.map (Value.int .i64)).toArray 3))) (by omega) (by omega) (by omega) (cells_ints hbk rfl 3 (by decide)) (by omega)
        have HL5 : Hid (BList w.heap.size (.slice (some ⟨g, 0, none⟩) n c) cs (w4.alloc (.cells (non3.map (Value.int .i64)).toArray 3))) := HL4.out.below ((Below.refl _ w4).alloc (Nat.le_refl _) _)
        have HB5 : Hid (Below b w (w4.alloc (.cells (non3.map (Value.int .i64)).toArray 3))) := HB4.out.alloc (by omega) _
        have lk : (k : Int) < (n : Int) := by omega
        have lk0 : (0 : Int) ≤ (k : Int) := by omega
        clear hbk HL4 HB4 HR4
        go_wp2_with fail
        refine hone.mono ?_
        rintro e w5 ⟨x, hx, rfl, hr5, ho5⟩
        generalize non3.getD x 0 = nv
        have HL6 : Hid (BList w.heap.size (.slice (some ⟨g, 0, none⟩) n c) cs w5) := HL5.out.only ho5.but hlt
        have HB6 : Hid (Below b w w5) := HB5.out.trans (ho5.below (Nat.le_refl _))
        have HR6 : Hid (Rd B b (q + 1 + 1 + 1 + 1) w5) := hr5
        have hcF := AtBlk.c4 (FRow.at enBlk_len HL6.out.row).1 k hkl
        have hfF := BRow.frozen HL6.out.row (k * 6 + 4)
        have hgb := HL6.out.row.at enBlk_len
        have hg1 : w.heap.size ≤ g := hgb.2.2.1
        have HLO : Hid (LooseI w.heap.size (.slice (some ⟨g, 0, none⟩) n c) (cs.set k { cs.getD k default with h := { (cs.getD k default).h with nonce := nv } }) (w5.setCell ⟨g, k * 6 + 4, none⟩ (.int .i64 nv))) := LooseI.set HL6.out HG.out HIO.out k 4 _ _ hkl (by decide) rfl rfl rfl ⟨rfl, rfl, rfl⟩
        have HR7 : Hid (Rd B b (q + 1 + 1 + 1 + 1) (w5.setCell ⟨g, k * 6 + 4, none⟩ (.int .i64 nv))) := HR6.out.keep ((Below.refl _ _).setCell (p := ⟨g, k * 6 + 4, none⟩) (by show b + 1 ≤ g; omega) _)
        have HB7 : Hid (Below b w (w5.setCell ⟨g, k * 6 + 4, none⟩ (.int .i64 nv))) := HB6.out.setCell (p := ⟨g, k * 6 + 4, none⟩) (by show b ≤ g; omega) _
        clear hone HL5 HB5 HL6 hr5 ho5 hgb hkl
        generalize cs.set k { cs.getD k default with h := { (cs.getD k default).h with nonce := nv } } = ds at HLO
        go_wp2_with fail
        exact HP.out _ _ _ ds (q + 1 + 1 + 1 + 1) rfl HLO.out (by omega) HR7.out HB7.out
      · obtain ⟨j0, ji, jz0, jz1, jz2⟩ := info_parts infoStr
        have hkl : k < cs.length := by rw [← HN.out]; exact hkn
        have hat := (FRow.at enBlk_len HL4.out.row)
        have q5 := AtBlk.c5 hat.1 k hkl
        have hgw : w.heap.size ≤ g := hat.2.2.1
        have HGL : Hid (g < w4.heap.size) := hat.1.1
        have HOI : Hid (OwnIt w.heap.size w4 (cs.getD k default)) := HL4.out.own _ (getD_mem hkl)
        have HAP : Hid ((cs.getD k default).g ≠ g) := fun h' => HL4.out.apart _ (getD_mem hkl) (by rw [h']; rfl)
        have HIL : Hid ((cs.getD k default).g < w4.heap.size ∧ w.heap.size ≤ (cs.getD k default).g) := ⟨(HL4.out.items _ (getD_mem hkl)).1.1.1, (HL4.out.items _ (getD_mem hkl)).2⟩
        have HNL : Hid ((cs.getD k default).n ≤ 4) := by show _ ≤ _; rw [(HL4.out.items _ (getD_mem hkl)).1.2]; exact HG.out.items _ (getD_mem hkl)
        have HST : Hid (∀ w' bg bn bc bss, BRow w.heap.size (.slice (some ⟨g, 0, none⟩) n c) cs w' → Loose w.heap.size (.slice (some ⟨g, 0, none⟩) n c) (cs.set k { cs.getD k default with g := bg, n := bn, cap := bc, ss := bss }) (w'.setCell ⟨g, k * 6 + 5, none⟩ (.slice (some ⟨bg, 0, none⟩) bn bc))) := fun w' bg bn bc bss hrow => Loose.set hrow HG.out k 5 _ _ hkl (by decide) rfl rfl rfl
        have HITM : Hid (∀ (w6 : World) (g6 c6 : Nat) (it : ByteArray) (v : Value), it.size ≤ 16 → AtS w6 g6 ((cs.getD k default).ss ++ [it]) → g6 ≠ g → (∀ x, x < w4.heap.size → w.heap.size ≤ x → x ≠ (cs.getD k default).g → w6.heap[x]? = w4.heap[x]?) → w4.heap.size ≤ w6.heap.size → ∀ x ∈ cs.set k { cs.getD k default with g := g6, n := (cs.getD k default).n + 1, cap := c6, ss := (cs.getD k default).ss ++ [it] }, ItemsAt (w6.setCell ⟨g, k * 6 + 5, none⟩ v) x ∧ x.ss.length ≤ 5 ∧ ∀ i, i < x.ss.length → (x.ss.getD i ByteArray.empty).size ≤ 1048576) := fun w6 g6 c6 it v h1 h2 h3 h4 h5 => items_app HL4.out HG.out HIO.out hkl h1 h2 h3 h4 h5
        have HRW : Hid (∀ w', w'.heap[g]? = w4.heap[g]? → BRow w.heap.size (.slice (some ⟨g, 0, none⟩) n c) cs w') := fun w' hk' => HL4.out.row.same hk'
        have lk : (k : Int) < (n : Int) := by omega
        have lk0 : (0 : Int) ≤ (k : Int) := by omega
        have hai := drawAnyItemK B b (q + 1 + 1 + 1) w4.drew HR4.out (by omega)
        generalize cs.getD k default = cb at q5 HOI HAP HIL HNL HST HITM
        obtain ⟨ch, cg, cn, cc, css⟩ := cb
        dsimp only at q5 HAP HIL HNL HST HITM
        have hcn4 := HNL.out
        have hx1 : cn + 1 ≤ maxLen := by unfold maxLen; omega
        have hx2 : (cn + 1) * 16 ≤ 140737488355328 := by omega
        have f5 : w4.drew.cell? ⟨g, k * 6 + 5, none⟩ = some (.slice (some ⟨cg, 0, none⟩) cn cc) := q5
        clear hat hkl HR4
        go_wp2_with fail
        go_region_law (first
          | (refine step_append_any rfl (.tmp 50) (.tmp 53) 37 rfl w.heap.size 9 j0 (.string ⟨#[]⟩) 1 16 Tryz.underlying37 ji jz0 jz1 jz2 rfl (by decide) cg cc cn _ (by simp [Act.eval]) HOW.out ⟨w5.heap.size, 0, none⟩ 1 1 [.string it] (by simp [Act.eval]) rfl HCW.out (by simp [Value.oneCell']) hx1 hx2 HSZ.out ?_; intro g6 c6 w6 hown6 hgrow6 hat6 hlt6; have q7 : w6.cell? ⟨g, k * 6 + 5, none⟩ = some (.slice (some ⟨cg, 0, none⟩) cn cc) := (World.cell?_of_block (a := ⟨g, k * 6 + 5, none⟩) (grown_off hgrow6 g HG5.out HAP.out.symm)).trans q6; have z7 : w6.frozen? ⟨g, k * 6 + 5, none⟩ = false := HFZ.out w6 (grown_off hgrow6))
          | (go_simp; refine hai.mono ?_; rintro e w5 ⟨it, q5', rfl, hit, hq5, hr5, bl5, bu5⟩; have q6 : w5.cell? ⟨g, k * 6 + 5, none⟩ = some (.slice (some ⟨cg, 0, none⟩) cn cc) := (World.cell?_of_block (a := ⟨g, k * 6 + 5, none⟩) (bu5.2 g HGL.out (Nat.ne_of_gt (Nat.lt_of_lt_of_le hlt hgw)))).trans q5; have HG5 : Hid (g < w5.heap.size) := Nat.lt_of_lt_of_le HGL.out bu5.1; have q6a : (w5.alloc (.cells #[.string it] 9)).cell? ⟨g, k * 6 + 5, none⟩ = some (.slice (some ⟨cg, 0, none⟩) cn cc) := (((Below.refl _ w5).alloc (Nat.le_refl _) (.cells #[.string it] 9)).cell (p := ⟨g, k * 6 + 5, none⟩) HG5.out).trans q6; have HOW : Hid ((w5.alloc (.cells #[.string it] 9)).ownsRow w.heap.size 9 1 (.slice (some ⟨cg, 0, none⟩) cn cc) cn (css.map Value.string)) := World.ownsRow.alloc (HOI.out.keep (bu5.2 cg HIL.out.1 (Nat.ne_of_gt (Nat.lt_of_lt_of_le hlt HIL.out.2)))) _; have HCW : Hid (∀ j u, ([.string it] : List Value)[j]? = some u → (w5.alloc (.cells #[.string it] 9)).cell? ((⟨w5.heap.size, 0, none⟩ : Addr).add j) = some u) := cells_new w5 9 [.string it]; have HSZ : Hid (w.heap.size ≤ (w5.alloc (.cells #[.string it] 9)).heap.size) := Nat.le_trans (Nat.le_trans hsz4 bu5.1) (size_le_alloc w5 _); have HFZ : Hid (∀ w6 : World, (∀ x, x < w5.heap.size → x ≠ cg → w6.heap[x]? = w5.heap[x]?) → w6.frozen? ⟨g, k * 6 + 5, none⟩ = false) := (fun w6 hf => BRow.frozen (HRW.out w6 ((hf g HG5.out HAP.out.symm).trans (bu5.2 g HGL.out (Nat.ne_of_gt (Nat.lt_of_lt_of_le hlt hgw))))) (k * 6 + 5))))
        all_goals
          have hfar := grown_off hgrow6
          have hs5 : w.heap.size ≤ w5.heap.size := Nat.le_trans hsz4 bu5.1
          have hB6 : Below w.heap.size w5 w6 := ((Below.refl _ w5).alloc hs5 _).grown hgrow6 HSZ.out (fun j hj => by cases hj; exact HIL.out.2)
          have HLO0 : Hid (Loose w.heap.size (.slice (some ⟨g, 0, none⟩) n c) (cs.set k { (⟨ch, cg, cn, cc, css⟩ : BlkV) with g := g6, n := cn + 1, cap := c6, ss := css ++ [it] }) (w6.setCell ⟨g, k * 6 + 5, none⟩ (.slice (some ⟨g6, 0, none⟩) (cn + 1) c6))) := HST.out w6 g6 (cn + 1) c6 (css ++ [it]) (HRW.out w6 ((hfar g HG5.out HAP.out.symm).trans (bu5.2 g HGL.out (Nat.ne_of_gt (Nat.lt_of_lt_of_le hlt hgw)))))
          have HITX := HITM.out w6 g6 c6 it (.slice (some ⟨g6, 0, none⟩) (cn + 1) c6) hit (by
            have h7 := hown6
            have h8 : w6.ownsRow w.heap.size 9 1 (.slice (some ⟨g6, 0, none⟩) (cn + 1) c6) (cn + 1) ((css ++ [it]).map Value.string) := by simpa using h7
            have h9 : cn + 1 = (css ++ [it]).length := by
              have := h8.1
              simpa using this.symm
            exact (SRow.at (srow_of h8 h9)).1) (by
            have h7 := HG5.out
            rcases hat6.out with h8 | h8
            · rw [← h8]; exact HAP.out
            · rw [h8]; have := size_le_alloc w5 (.cells #[.string it] 9); omega) (fun x hx1 hx2 hx3 => (hfar x (Nat.lt_of_lt_of_le hx1 bu5.1) hx3).trans (bu5.2 x hx1 (by omega))) (Nat.le_trans bu5.1 (Nat.le_trans (size_le_alloc w5 _) hgrow6.size))
          have HLO : Hid (LooseI w.heap.size (.slice (some ⟨g, 0, none⟩) n c) (cs.set k { (⟨ch, cg, cn, cc, css⟩ : BlkV) with g := g6, n := cn + 1, cap := c6, ss := css ++ [it] }) (w6.setCell ⟨g, k * 6 + 5, none⟩ (.slice (some ⟨g6, 0, none⟩) (cn + 1) c6))) := ⟨HLO0.out, HITX⟩
          clear HLO0 HITX HITM
          have HR7 : Hid (Rd B b q5' (w6.setCell ⟨g, k * 6 + 5, none⟩ (.slice (some ⟨g6, 0, none⟩) (cn + 1) c6))) := (hr5.keep (hB6.mono (by omega))).keep ((Below.refl _ _).setCell (p := ⟨g, k * 6 + 5, none⟩) (by show b + 1 ≤ g; omega) _)
          have HB7 : Hid (Below b w (w6.setCell ⟨g, k * 6 + 5, none⟩ (.slice (some ⟨g6, 0, none⟩) (cn + 1) c6))) := ((HB4.out.drew.trans bl5).trans (hB6.mono (by omega))).setCell (p := ⟨g, k * 6 + 5, none⟩) (by show b ≤ g; omega) _
          have HQ : Hid (q5' ≤ p + 300) := by show _ ≤ _; omega
          generalize cs.set k { (⟨ch, cg, cn, cc, css⟩ : BlkV) with g := g6, n := cn + 1, cap := c6, ss := css ++ [it] } = ds at HLO
          clear hfar hB6 hown6 hgrow6 hat6 hlt6 HST HRW HOW HCW HFZ HOI q5 q6 q6a q7 z7 f5 bl5 bu5 hr5
          go_wp2_with fail
          first | exact HP.out _ _ _ ds q5' rfl HLO.out HQ.out HR7.out HB7.out | (go_ret; exact HP.out _ _ _ ds q5' rfl HLO.out HQ.out HR7.out HB7.out)
      · have hkl : k < cs.length := by rw [← HN.out]; exact hkn
        have hbk := heap_alloc_new w4 (.cells (dif4.map (Value.int .i64)).toArray 3)
        have hone := one_walk B b (q + 1 + 1 + 1) w4.heap.size 4 4 dif4 _ (HR4.out.keep ((Below.refl _ _).alloc (by omega) (.cells (dif4.map (Value.int .i64)).toArray 3))) (by omega) (by omega) (by omega) (cells_ints hbk rfl 4 (by decide)) (by omega)
        have HL5 : Hid (BList w.heap.size (.slice (some ⟨g, 0, none⟩) n c) cs (w4.alloc (.cells (dif4.map (Value.int .i64)).toArray 3))) := HL4.out.below ((Below.refl _ w4).alloc (Nat.le_refl _) _)
        have HB5 : Hid (Below b w (w4.alloc (.cells (dif4.map (Value.int .i64)).toArray 3))) := HB4.out.alloc (by omega) _
        have lk : (k : Int) < (n : Int) := by omega
        have lk0 : (0 : Int) ≤ (k : Int) := by omega
        clear hbk HL4 HB4 HR4
        go_wp2_with fail
        refine hone.mono ?_
        rintro e w5 ⟨x, hx, rfl, hr5, ho5⟩
        generalize dif4.getD x 0 = nv
        have HL6 : Hid (BList w.heap.size (.slice (some ⟨g, 0, none⟩) n c) cs w5) := HL5.out.only ho5.but hlt
        have HB6 : Hid (Below b w w5) := HB5.out.trans (ho5.below (Nat.le_refl _))
        have HR6 : Hid (Rd B b (q + 1 + 1 + 1 + 1) w5) := hr5
        have hcF := AtBlk.c3 (FRow.at enBlk_len HL6.out.row).1 k hkl
        have hfF := BRow.frozen HL6.out.row (k * 6 + 3)
        have hgb := HL6.out.row.at enBlk_len
        have hg1 : w.heap.size ≤ g := hgb.2.2.1
        have HLO : Hid (LooseI w.heap.size (.slice (some ⟨g, 0, none⟩) n c) (cs.set k { cs.getD k default with h := { (cs.getD k default).h with diff := nv } }) (w5.setCell ⟨g, k * 6 + 3, none⟩ (.int .i64 nv))) := LooseI.set HL6.out HG.out HIO.out k 3 _ _ hkl (by decide) rfl rfl rfl ⟨rfl, rfl, rfl⟩
        have HR7 : Hid (Rd B b (q + 1 + 1 + 1 + 1) (w5.setCell ⟨g, k * 6 + 3, none⟩ (.int .i64 nv))) := HR6.out.keep ((Below.refl _ _).setCell (p := ⟨g, k * 6 + 3, none⟩) (by show b + 1 ≤ g; omega) _)
        have HB7 : Hid (Below b w (w5.setCell ⟨g, k * 6 + 3, none⟩ (.int .i64 nv))) := HB6.out.setCell (p := ⟨g, k * 6 + 3, none⟩) (by show b ≤ g; omega) _
        clear hone HL5 HB5 HL6 hr5 ho5 hgb hkl
        generalize cs.set k { cs.getD k default with h := { (cs.getD k default).h with diff := nv } } = ds at HLO
        go_wp2_with fail
        exact HP.out _ _ _ ds (q + 1 + 1 + 1 + 1) rfl HLO.out (by omega) HR7.out HB7.out
      · have hkl : k < cs.length := by rw [← HN.out]; exact hkn
        have hbk := heap_alloc_new w4 (.cells (tim3.map (Value.int .i64)).toArray 3)
        have hone := one_walk B b (q + 1 + 1 + 1) w4.heap.size 3 3 tim3 _ (HR4.out.keep ((Below.refl _ _).alloc (by omega) (.cells (tim3.map (Value.int .i64)).toArray 3))) (by omega) (by omega) (by omega) (cells_ints hbk rfl 3 (by decide)) (by omega)
        have HL5 : Hid (BList w.heap.size (.slice (some ⟨g, 0, none⟩) n c) cs (w4.alloc (.cells (tim3.map (Value.int .i64)).toArray 3))) := HL4.out.below ((Below.refl _ w4).alloc (Nat.le_refl _) _)
        have HB5 : Hid (Below b w (w4.alloc (.cells (tim3.map (Value.int .i64)).toArray 3))) := HB4.out.alloc (by omega) _
        have lk : (k : Int) < (n : Int) := by omega
        have lk0 : (0 : Int) ≤ (k : Int) := by omega
        clear hbk HL4 HB4 HR4
        go_wp2_with fail
        refine hone.mono ?_
        rintro e w5 ⟨x, hx, rfl, hr5, ho5⟩
        generalize tim3.getD x 0 = nv
        have HL6 : Hid (BList w.heap.size (.slice (some ⟨g, 0, none⟩) n c) cs w5) := HL5.out.only ho5.but hlt
        have HB6 : Hid (Below b w w5) := HB5.out.trans (ho5.below (Nat.le_refl _))
        have HR6 : Hid (Rd B b (q + 1 + 1 + 1 + 1) w5) := hr5
        have hcF := AtBlk.c2 (FRow.at enBlk_len HL6.out.row).1 k hkl
        have hfF := BRow.frozen HL6.out.row (k * 6 + 2)
        have hgb := HL6.out.row.at enBlk_len
        have hg1 : w.heap.size ≤ g := hgb.2.2.1
        have HLO : Hid (LooseI w.heap.size (.slice (some ⟨g, 0, none⟩) n c) (cs.set k { cs.getD k default with h := { (cs.getD k default).h with time := nv } }) (w5.setCell ⟨g, k * 6 + 2, none⟩ (.int .i64 nv))) := LooseI.set HL6.out HG.out HIO.out k 2 _ _ hkl (by decide) rfl rfl rfl ⟨rfl, rfl, rfl⟩
        have HR7 : Hid (Rd B b (q + 1 + 1 + 1 + 1) (w5.setCell ⟨g, k * 6 + 2, none⟩ (.int .i64 nv))) := HR6.out.keep ((Below.refl _ _).setCell (p := ⟨g, k * 6 + 2, none⟩) (by show b + 1 ≤ g; omega) _)
        have HB7 : Hid (Below b w (w5.setCell ⟨g, k * 6 + 2, none⟩ (.int .i64 nv))) := HB6.out.setCell (p := ⟨g, k * 6 + 2, none⟩) (by show b ≤ g; omega) _
        clear hone HL5 HB5 HL6 hr5 ho5 hgb hkl
        generalize cs.set k { cs.getD k default with h := { (cs.getD k default).h with time := nv } } = ds at HLO
        go_wp2_with fail
        exact HP.out _ _ _ ds (q + 1 + 1 + 1 + 1) rfl HLO.out (by omega) HR7.out HB7.out
      · obtain ⟨i0, hi, hz0, hz1, hz2⟩ := info3 infoBlk
        have hkl : k < cs.length := by rw [← HN.out]; exact hkn
        obtain ⟨j, hj⟩ : ∃ j, n = j + 1 := ⟨n - 1, by omega⟩
        have hjl : j < cs.length := by rw [← HN.out]; omega
        have hat := (FRow.at enBlk_len HL4.out.row)
        have q0 := AtBlk.c0 hat.1 j hjl
        have q1 := AtBlk.c1 hat.1 j hjl
        have q2 := AtBlk.c2 hat.1 j hjl
        have q3 := AtBlk.c3 hat.1 j hjl
        have q4 := AtBlk.c4 hat.1 j hjl
        have q5 := AtBlk.c5 hat.1 j hjl
        have hgw : w.heap.size ≤ g := hat.2.2.1
        have hcap : n ≤ c := hat.2.2.2
        have HGL : Hid (g < w4.heap.size) := hat.1.1
        have HF : Hid (w4.ownsRow w.heap.size 39 6 (.slice (some ⟨g, 0, none⟩) k c) k ((cs.take k).flatMap enBlk)) := BRow.first HL4.out.row k (by omega)
        have HWF : Hid (∀ x ∈ cs.take k ++ [cs.getD j default], x.h.prev.size ≤ 16 ∧ x.h.root.size ≤ 16) := by
          intro x hx
          rcases List.mem_append.1 hx with h' | h'
          · exact HG.out.wf x (List.mem_of_mem_take h')
          · rw [List.mem_singleton.1 h']
            exact HG.out.wf _ (getD_mem hjl)
        have HIT5 : Hid (∀ w5 : World, (∀ x, x < w4.heap.size → x ≠ g → w5.heap[x]? = w4.heap[x]?) → w4.heap.size ≤ w5.heap.size → ∀ x ∈ cs.take k ++ [cs.getD j default], ItemsAt w5 x ∧ x.ss.length ≤ 5 ∧ ∀ i, i < x.ss.length → (x.ss.getD i ByteArray.empty).size ≤ 1048576) := fun w5 h1 h2 x hx => items_far HL4.out HG.out HIO.out h1 h2 x (by
          rcases List.mem_append.1 hx with h' | h'
          · exact List.mem_of_mem_take h'
          · rw [List.mem_singleton.1 h']; exact getD_mem hjl)
        have HTL : Hid ((cs.take k).length = k) := by show _ = _; rw [List.length_take]; omega
        have hw1 : IntKind.i64.wrap ((n : Int) - 1) = (j : Int) := by rw [IntKind.wrap_i64]; omega
        have lj : (j : Int) < (n : Int) := by omega
        have lj0 : (0 : Int) ≤ (j : Int) := by omega
        have lk : (k : Int) ≤ (c : Int) := by omega
        have lk0 : (0 : Int) ≤ (k : Int) := by omega
        have hc0 : ¬ c = 0 := by omega
        generalize cs.getD j default = lb at q0 q1 q2 q3 q4 q5 HWF HIT5
        generalize cs.take k = tk at HF HWF HTL HIT5
        obtain ⟨⟨lp, lr, lt, ld, ln⟩, lg, lnn, lc, lss⟩ := lb
        dsimp only at q0 q1 q2 q3 q4 q5
        have hx1 : k + 1 ≤ maxLen := by unfold maxLen; omega
        have hx2 : (k + 1) * 80 ≤ 140737488355328 := by omega
        have HRK : Hid (∀ w', Below (b + 1) w4 w' → Rd B b (q + 1 + 1 + 1) w') := fun w' hb => HR4.out.keep hb
        have HK20 : Hid (k + 1 ≤ 20) := by show _ ≤ _; omega
        have HQ : Hid (q + 1 + 1 + 1 ≤ p + 300) := by show _ ≤ _; omega
        have f0 : w4.drew.cell? ⟨g, j * 6, none⟩ = some (.string lp) := q0
        have f1 : w4.drew.cell? ⟨g, j * 6 + 1, none⟩ = some (.string lr) := q1
        have f2 : w4.drew.cell? ⟨g, j * 6 + 2, none⟩ = some (.int .i64 lt) := q2
        have f3 : w4.drew.cell? ⟨g, j * 6 + 3, none⟩ = some (.int .i64 ld) := q3
        have f4 : w4.drew.cell? ⟨g, j * 6 + 4, none⟩ = some (.int .i64 ln) := q4
        have f5 : w4.drew.cell? ⟨g, j * 6 + 5, none⟩ = some (.slice (some ⟨lg, 0, none⟩) lnn lc) := q5
        have HFd : Hid ((w4.drew.alloc (.cells (enBlk ⟨⟨lp, lr, lt, ld, ln⟩, lg, lnn, lc, lss⟩).toArray 39)).ownsRow w.heap.size 39 6 (.slice (some ⟨g, 0, none⟩) k c) k (tk.flatMap enBlk)) := World.ownsRow.alloc (w := w4.drew) HF.out _
        have HCN : Hid (∀ j u, (enBlk ⟨⟨lp, lr, lt, ld, ln⟩, lg, lnn, lc, lss⟩)[j]? = some u → (w4.drew.alloc (.cells (enBlk ⟨⟨lp, lr, lt, ld, ln⟩, lg, lnn, lc, lss⟩).toArray 39)).cell? ((⟨w4.heap.size, 0, none⟩ : Addr).add j) = some u) := cells_new w4.drew 39 (enBlk ⟨⟨lp, lr, lt, ld, ln⟩, lg, lnn, lc, lss⟩)
        clear hj hjl hat HL4 HG hkl hcap HR4
        go_wp2_with fail
        go_region_law (refine step_append_any rfl (.tmp 23) (.tmp 30) 23 rfl w.heap.size 39 i0 (.agg #[.string ⟨#[]⟩, .string ⟨#[]⟩, .int .i64 0, .int .i64 0, .int .i64 0, .slice none 0 0]) 6 80 Tryz.underlying23 hi hz0 hz1 hz2 rfl (by decide) g c k _ (by simp [Act.eval]) HFd.out ⟨w4.heap.size, 0, none⟩ 1 1 (enBlk ⟨⟨lp, lr, lt, ld, ln⟩, lg, lnn, lc, lss⟩) (by simp [Act.eval]) rfl HCN.out (enBlk_one _) hx1 hx2 (by simp; omega) ?_; intro g5 c5 w5 hown5 hgrow5 hat5 hlt5)
        have hgl := HGL.out
        have hB5 : Below w.heap.size w4 w5 := ((Below.refl _ w4).drew.alloc hsz4 _).grown hgrow5 (by simp; omega) (fun j hj => by cases hj; exact hgw)
        have HIX := HIT5.out w5 (fun x h1 h2 => (hgrow5.block x (Nat.lt_of_lt_of_le h1 (size_le_alloc w4 _)) (by simpa using h2)).trans (Below.heap_alloc _ _ _ h1)) (Nat.le_trans (size_le_alloc w4 _) hgrow5.size)
        have HL5 : Hid (LooseI w.heap.size (.slice (some ⟨g5, 0, none⟩) (k + 1) c5) (tk ++ [⟨⟨lp, lr, lt, ld, ln⟩, lg, lnn, lc, lss⟩]) w5) := by
          refine ⟨⟨FRow.of ?_ ?_, ?_, HWF.out⟩, HIX⟩
          · rw [List.flatMap_append]
            simpa using hown5
          · rw [List.length_append, HTL.out]; rfl
          · rw [List.length_append, HTL.out]; exact HK20.out
        have HR5 : Hid (Rd B b (q + 1 + 1 + 1) w5) := HRK.out _ (hB5.mono (by omega))
        have HB5 : Hid (Below b w w5) := HB4.out.trans (hB5.mono (by omega))
        generalize tk ++ [(⟨⟨lp, lr, lt, ld, ln⟩, lg, lnn, lc, lss⟩ : BlkV)] = ds at HL5
        clear hown5 hgrow5 hat5 hlt5 hB5 HF HFd HCN HWF HTL HIT5 HIX
        go_wp2_with fail
        go_ret
        exact HP.out _ _ _ ds (q + 1 + 1 + 1) rfl HL5.out HQ.out HR5.out HB5.out
    · have hx0' : ((x2 : Int) == 0) = false := beq_eq_false_iff_ne.2 (by omega)
      go_wp2_with fail
      exact HP.out _ _ _ cs (q + 1) rfl (looseI_of HL2.out HG.out HIO.out) (by omega) HR2.out HB2.out

end Go.Proofs.YtkajpkfhedfmaaaGreatDoor

set_option linter.unusedVariables false
namespace Go.Proofs.YtkajpkfhedfmaaaGreatDoor
open Go.RowKit

def SzOk (zs : List ByteArray) (len : Nat) (e : Ending) : Prop := e = .returned (.int .i64 (-1)) ∨ ∃ r : Nat, e = .returned (.int .i64 (r : Int)) ∧ len ≤ 1048576 ∧ ∀ i, i < len → (zs.getD i ByteArray.empty).size ≤ 1048576
end Go.Proofs.YtkajpkfhedfmaaaGreatDoor

set_option linter.unusedVariables false
namespace Go.Proofs.YtkajpkfhedfmaaaGreatDoor
open Go.ChangeShapes Go.WideShapes Go.ChangeAt Go.RowKit Go.Deep

def blockVal (h : HeadV) (s : Value) : Value := .agg #[.string h.prev, .string h.root, .int .i64 h.time, .int .i64 h.diff, .int .i64 h.nonce, s]
theorem six_of_parts {cs : Array Value} {b : Value} {h : List Value} (hl : cs.toList.length = 6) (h0 : (cs.toList.drop 0).take 5 = h) (h1 : (cs.toList.drop 5).take 1 = [b]) : cs.toList = h ++ [b] := by
  rw [← h0, ← h1, List.drop_zero, List.take_of_length_le (l := cs.toList.drop 5) (by rw [List.length_drop, hl]; decide), List.take_append_drop]
theorem cellsStrs : Tryz.prog.cellsOf 37 = 1 := by kernel_rfl
/-- A block of memory, its cells written out. -/
def CBk (w : World) (g : Nat) (T : TypeId) (cs : Array Value) : Prop := w.heap[g]? = some (.cells cs T (0, 0))
theorem CBk.lt {w : World} {g : Nat} {T : TypeId} {cs : Array Value} (h : CBk w g T cs) : g < w.heap.size := by
  rcases Nat.lt_or_ge g w.heap.size with h' | h'
  · exact h'
  · simp [CBk, Array.getElem?_eq_none h'] at h
theorem CBk.below {w w' : World} {g B : Nat} {T : TypeId} {cs : Array Value} (h : CBk w g T cs) (hb : Below B w w') (hg : g < B) : CBk w' g T cs := by
  unfold CBk at h ⊢
  rw [hb.block g hg]
  exact h
theorem CBk.call {w w' : World} {g : Nat} {T : TypeId} {cs : Array Value} (h : CBk w g T cs) (hb : Below w.heap.size w w') : CBk w' g T cs := h.below hb h.lt
theorem CBk.alloc {w : World} {g : Nat} {T : TypeId} {cs : Array Value} (h : CBk w g T cs) (o : Obj) : CBk (w.alloc o) g T cs := h.call ((Below.refl _ w).alloc (Nat.le_refl _) o)
theorem CBk.new (w : World) (T : TypeId) (cs : Array Value) : CBk (w.alloc (.cells cs T)) w.heap.size T cs := heap_alloc_new w _
theorem CBk.cell {w : World} {g : Nat} {T : TypeId} {cs : Array Value} (h : CBk w g T cs) (i : Nat) : w.cell? ⟨g, i, none⟩ = cs[i]? := by rw [Lib.cell_of_heap h]
theorem CBk.frozen {w : World} {g : Nat} {T : TypeId} {cs : Array Value} (h : CBk w g T cs) (i : Nat) : w.frozen? ⟨g, i, none⟩ = false := Lib.frozen_of_heap h i
theorem CBk.set {w : World} {g : Nat} {T : TypeId} {cs : Array Value} (h : CBk w g T cs) (i : Nat) (v : Value) : CBk (w.setCell ⟨g, i, none⟩ v) g T (cs.setIfInBounds i v) := by
  unfold CBk at h ⊢
  simp only [World.setCell, Array.getElem?_modify, h]
  simp
theorem CBk.other {w : World} {g g' j : Nat} {T : TypeId} {cs : Array Value} (h : CBk w g T cs) (hg : g' ≠ g) (v : Value) : CBk (w.setCell ⟨g', j, none⟩ v) g T cs := by
  unfold CBk at h ⊢; simp [World.setCell, Array.getElem?_modify, h, hg]
theorem CBk.six {w : World} {g : Nat} {T : TypeId} {a b c d e f : Value} (h : CBk w g T #[a, b, c, d, e, f]) : w.cell? ⟨g, 0, none⟩ = some a ∧ w.cell? ⟨g, 1, none⟩ = some b ∧ w.cell? ⟨g, 2, none⟩ = some c ∧ w.cell? ⟨g, 3, none⟩ = some d ∧ w.cell? ⟨g, 4, none⟩ = some e ∧ w.cell? ⟨g, 5, none⟩ = some f ∧ w.frozen? ⟨g, 0, none⟩ = false ∧ w.frozen? ⟨g, 1, none⟩ = false ∧ w.frozen? ⟨g, 2, none⟩ = false ∧ w.frozen? ⟨g, 3, none⟩ = false ∧ w.frozen? ⟨g, 4, none⟩ = false ∧ w.frozen? ⟨g, 5, none⟩ = false :=
  ⟨h.cell 0, h.cell 1, h.cell 2, h.cell 3, h.cell 4, h.cell 5, h.frozen 0, h.frozen 1, h.frozen 2, h.frozen 3, h.frozen 4, h.frozen 5⟩

theorem rowS_other {w : World} {g g' : Nat} {l : List ByteArray} (h : RowS w g l) (hg : g' ≠ g) (j : Nat) (v : Value) : RowS (w.setCell ⟨g', j, none⟩ v) g l := by
  unfold RowS at h ⊢; simp [World.setCell, Array.getElem?_modify, h, hg]
/-- What a copy of a block leaves. -/
def BackB (h : HeadV) (len : Nat) (zs : List ByteArray) (w : World) (e : Ending) (w' : World) : Prop := ∃ g, e = .returned (blockVal h (.slice (some ⟨g, 0, none⟩) len len)) ∧ RowS w' g (zs.take len) ∧ w.heap.size ≤ g ∧ Below w.heap.size w w'

end Go.Proofs.YtkajpkfhedfmaaaGreatDoor

set_option linter.unusedVariables false
namespace Go.Proofs.YtkajpkfhedfmaaaGreatDoor
open Go.RowKit

set_option maxHeartbeats 1000000 in
set_option maxRecDepth 100000 in
theorem implRootItem (z : ByteArray) (w : World) (hz : z.size ≤ 1048576) (hK : RowG w shaK) :
    Calls Tryz.prog 70 #[.string z] w fun e w' => e = .returned (.string (rootItemB z)) ∧ Below w.heap.size w w' := by
  have hsum := implSum ((⟨#[105, 116, 101, 109, 32]⟩ : ByteArray) ++ z) w (by
    simp only [ByteArray.size_append]
    have e1 : (⟨#[105, 116, 101, 109, 32]⟩ : ByteArray).size = 5 := rfl
    omega) hK
  have et : ((⟨#[105, 116, 101, 109, 32]⟩ : ByteArray) ++ z).data.toList = [105, 116, 101, 109, 32] ++ z.data.toList := by simp
  rw [et] at hsum
  have er : (⟨(sumB ([105, 116, 101, 109, 32] ++ z.data.toList)).toArray⟩ : ByteArray) = rootItemB z := rfl
  rw [er] at hsum
  generalize rootItemB z = rz at hsum
  clear et er hK
  go_enter Tryz.func70, Tryz.ntmps70
  go_wp2_with fail
  refine hsum.mono ?_
  rintro e w1 ⟨rfl, b1⟩
  go_wp2_with fail
  go_ret
  exact ⟨rfl, b1⟩

set_option maxHeartbeats 1000000 in
set_option maxRecDepth 100000 in
theorem implRootBoth (a b : ByteArray) (w : World) (ha : a.size = 16) (hb : b.size = 16) (hK : RowG w shaK) :
    Calls Tryz.prog 73 #[.string a, .string b] w fun e w' => e = .returned (.string (bothB a b)) ∧ Below w.heap.size w w' := by
  have hsum := implSum ((⟨#[98, 111, 116, 104, 32]⟩ : ByteArray) ++ a ++ (⟨#[32]⟩ : ByteArray) ++ b) w (by
    simp only [ByteArray.size_append]
    have e1 : (⟨#[98, 111, 116, 104, 32]⟩ : ByteArray).size = 5 := rfl
    have e2 : (⟨#[32]⟩ : ByteArray).size = 1 := rfl
    omega) hK
  have et : ((⟨#[98, 111, 116, 104, 32]⟩ : ByteArray) ++ a ++ (⟨#[32]⟩ : ByteArray) ++ b).data.toList = [98, 111, 116, 104, 32] ++ a.data.toList ++ [32] ++ b.data.toList := by simp
  rw [et] at hsum
  have er : (⟨(sumB ([98, 111, 116, 104, 32] ++ a.data.toList ++ [32] ++ b.data.toList)).toArray⟩ : ByteArray) = bothB a b := rfl
  rw [er] at hsum
  generalize bothB a b = rz at hsum
  clear et er hK
  go_enter Tryz.func73, Tryz.ntmps73
  go_wp2_with fail
  refine hsum.mono ?_
  rintro e w1 ⟨rfl, b1⟩
  go_wp2_with fail
  go_ret
  exact ⟨rfl, b1⟩

theorem drop_news {w : World} {g : Nat} {ss : List ByteArray} (h : AtS w g ss) (k r off : Nat) (hk : k + r = ss.length) (ho : 0 < r → off = k) : ∀ j u, ((ss.drop k).map Value.string)[j]? = some u → w.cell? ((⟨g, off, none⟩ : Addr).add j) = some u := by
  intro j u hu
  have hj : j < r := by
    have := (List.getElem?_eq_some_iff.1 hu).1
    simp at this
    omega
  have e := ho (by omega)
  subst e
  have hc := h.2 (off + j) (by omega)
  have e2 : ((ss.drop off).map Value.string)[j]? = some (.string (ss.getD (off + j) ByteArray.empty)) := by
    rw [List.getElem?_map, List.getElem?_drop, List.getElem?_eq_getElem (by omega)]
    simp [List.getElem?_eq_getElem (show off + j < ss.length by omega)]
  rw [e2] at hu
  rw [← hu, ← hc]
  rcases j with _ | j
  · simp [Addr.add]
  · simp [Addr.add]

set_option maxHeartbeats 4000000 in
set_option maxRecDepth 100000 in
theorem implAbove (g n cap : Nat) (ss : List ByteArray) (w : World) (h : AtS w g ss) (hn : n = ss.length) (hc : n ≤ cap) (hm : n ≤ 1000000) (hs : ∀ s ∈ ss, s.size = 16) (hK : RowG w shaK) :
    Calls Tryz.prog 125 #[.slice (some ⟨g, 0, none⟩) n cap, .func (.func 73) #[] #[]] w fun e w' => ∃ v, e = .returned v ∧ SRow w.heap.size v (upR ss) w' ∧ Below w.heap.size w w' := by
  obtain ⟨i0, hi, hz0, hz1, hz2⟩ := info_parts infoStr
  have HA : Hid (AtS w g ss) := h
  have HN : Hid (n = ss.length) := hn
  have HKG : Hid (RowG w shaK) := hK
  have HS : Hid (∀ i, i < ss.length → (ss.getD i ByteArray.empty).size = 16) := by
    intro i hi
    refine hs _ ?_
    simp [List.getElem?_eq_getElem hi]
  obtain ⟨m2, hm2⟩ : ∃ m2, m2 = (n + 1) / 2 := ⟨_, rfl⟩
  have hmk := makeCapS m2 (by omega)
  have hq : ((n : Int) + 1) / 2 = (m2 : Int) := by omega
  have HW0 : Hid (SRow w.heap.size (.slice (some ⟨w.heap.size, 0, none⟩) 0 m2) (upR (ss.take 0)) (w.alloc (.cells (sCells (List.replicate m2 ⟨#[]⟩)) 9))) := srow_cap w m2 (by omega)
  have HB0 : Hid (Below w.heap.size w (w.alloc (.cells (sCells (List.replicate m2 ⟨#[]⟩)) 9))) := (Below.refl _ w).alloc (Nat.le_refl _) _
  clear h hn hs hK hm2
  go_enter Tryz.func125, Tryz.ntmps125
  go_wp2_with fail
  clear hmk hq
  go_loopw [0, 5] (fun rv av wr => ∃ (k r off c1 ml c3 g3 : Nat), rv = .slice (some ⟨g, off, none⟩) r c1 ∧ av = .slice (some ⟨g3, 0, none⟩) ml c3 ∧ r ≤ c1 ∧ r ≤ n ∧ ml ≤ n ∧ Hid (k + r = n ∧ k % 2 = 0 ∧ (0 < r → off = k) ∧ ml = (upR (ss.take k)).length) ∧ Hid (SRow w.heap.size av (upR (ss.take k)) wr) ∧ Hid (Below w.heap.size w wr)) (fun rv _ _ => sliceLen2 rv)
  case atStart => exact ⟨0, n, 0, cap, 0, m2, w.heap.size, rfl, rfl, hc, Nat.le_refl _, Nat.zero_le _, ⟨by omega, rfl, fun _ => rfl, rfl⟩, HW0, HB0⟩
  case round =>
    clear HW0 HB0
    obtain ⟨k, r, off, c1, ml, c3, g3, rfl, rfl, hrc, hrn, hmln, HX, HR, HB⟩ := hrel
    have HRW : Hid (wr.ownsRow w.heap.size 9 1 (.slice (some ⟨g3, 0, none⟩) ml c3) ml ((upR (ss.take k)).map Value.string)) := by
      have := HR.out.2
      rw [← HX.out.2.2.2] at this
      exact this
    have hszr := HB.out.size
    have hgw : g < wr.heap.size := Nat.lt_of_lt_of_le HA.out.1 hszr
    have hne : g ≠ g3 := by
      rcases HRW.out.2 with ⟨h2, _⟩ | ⟨g', cap', cur, hv, h2, _⟩
      · cases h2
      · simp only [Value.slice.injEq, Option.some.injEq, Addr.mk.injEq, and_true] at hv
        have := HA.out.1
        omega
    have hx1 : ml + 1 ≤ maxLen := by unfold maxLen; omega
    have hx2 : (ml + 1) * 16 ≤ 140737488355328 := by omega
    by_cases h1 : 1 < r
    · obtain rfl : off = k := HX.out.2.2.1 (by omega)
      have hkl2 : off + 1 < ss.length := by have := HX.out.1; have := HN.out; omega
      have hkl : off < ss.length := by omega
      have hc0 : wr.cell? ⟨g, off, none⟩ = some (.string (ss.getD off ByteArray.empty)) := by
        rw [HB.out.cell (p := ⟨g, off, none⟩) HA.out.1]
        exact HA.out.2 off hkl
      have hc2 : wr.cell? ⟨g, off + 1, none⟩ = some (.string (ss.getD (off + 1) ByteArray.empty)) := by
        rw [HB.out.cell (p := ⟨g, off + 1, none⟩) HA.out.1]
        exact HA.out.2 (off + 1) hkl2
      have hs1 := HS.out off hkl
      have hs2 := HS.out (off + 1) hkl2
      have HE : Hid (upR (ss.take (off + 2)) = upR (ss.take off) ++ [bothB (ss.getD off ByteArray.empty) (ss.getD (off + 1) ByteArray.empty)]) := take_two ss off hkl2 HX.out.2.1
      generalize ss.getD off ByteArray.empty = a at hc0 hs1 HE
      generalize ss.getD (off + 1) ByteArray.empty = b at hc2 hs2 HE
      have h1' : (1 : Int) < (r : Int) := by omega
      have h0' : (0 : Int) < (r : Int) := by omega
      have h0'' : 0 < r := by omega
      have hKr : RowG wr shaK := HKG.out.below HB.out HKG.out.lt
      have HKr : Hid (RowG wr.drew shaK) := hKr.drew
      have hr2 : (2 : Int) ≤ (r : Int) ∧ (r : Int) ≤ (c1 : Int) := by omega
      clear hkl hkl2 hKr
      go_wp2_with fail
      go_region_held3 (fun w' => w'.cell? ⟨g, off, none⟩ = some (.string a) ∧ w'.cell? ⟨g, off + 1, none⟩ = some (.string b)) (first | go_keep | (exact ⟨(b1.cell (p := ⟨g, off, none⟩) hgw).trans hc0, (b1.cell (p := ⟨g, off + 1, none⟩) hgw).trans hc2⟩) | (have hfar : w4.heap[g]? = w1.heap[g]? := (hgrow4.block g (by simp; omega) (by simpa [Value.ownBlock] using hne)).trans (Below.heap_alloc _ _ _ (by omega)); exact ⟨(World.cell?_of_block (a := ⟨g, off, none⟩) hfar).trans ((b1.cell (p := ⟨g, off, none⟩) hgw).trans hc0), (World.cell?_of_block (a := ⟨g, off + 1, none⟩) hfar).trans ((b1.cell (p := ⟨g, off + 1, none⟩) hgw).trans hc2)⟩))
        (first
          | (go_at_call 73; refine (implRootBoth a b _ hs1 hs2 HKr.out).mono ?_; rintro e w1 ⟨rfl, b0⟩; have b1 : Below wr.heap.size wr w1 := ((Below.refl wr.heap.size wr).drew).trans b0; have hb1s : wr.heap.size ≤ w1.heap.size := b1.size; clear b0)
          | ((refine step_append_lies _ (by rfl) _ _ 37 (by rfl) w.heap.size 9 i0 (.string ⟨#[]⟩) 1 16 Tryz.underlying37 hi hz0 hz1 hz2 rfl (by decide) _ ml _ (by rfl) (World.ownsRow.alloc (row_below HRW.out b1) _) ⟨w1.heap.size, 0, none⟩ 1 1 [.string (bothB a b)] (by rfl) rfl (cell_one_new _ _ _) (by simp [Value.oneCell']) (by decide) hx1 hx2 (by simp; omega) _ rfl ?_; intro g4 c4 w4 hown4 hgrow4 hat4 hlt4)))
      have hb4 : Below w.heap.size w w4 := ((HB.out.trans (b1.mono hszr)).alloc (by omega) _).grown hgrow4 (by simp; omega) (fun j hj => by
        rcases HRW.out.2 with ⟨h2, _⟩ | ⟨g', cap', cur, hv, h2, _⟩
        · cases h2
        · simp only [Value.slice.injEq, Option.some.injEq, Addr.mk.injEq, and_true] at hv
          have : g3 = j := by simpa [Value.ownBlock] using hj
          omega)
      have HLN : Hid (ml + 1 = (upR (ss.take (off + 2))).length) := by
        show _ = _
        rw [HE.out, List.length_append, ← HX.out.2.2.2]; rfl
      have HR4 : Hid (SRow w.heap.size (.slice (some ⟨g4, 0, none⟩) (ml + 1) c4) (upR (ss.take (off + 2))) w4) := by
        refine ⟨⟨g4, c4, ?_⟩, ?_⟩
        · rw [← HLN.out]
        · rw [← HLN.out, HE.out, List.map_append]; exact hown4
      have HML : Hid (ml + 1 ≤ n) := by
        have h3 := upR_length (ss.take (off + 2))
        have h4 := HLN.out
        have h5 := HX.out.1
        have h6 : (ss.take (off + 2)).length ≤ off + 2 := by simp; omega
        show _ ≤ _
        omega
      clear hown4 hgrow4 hat4 hlt4 b1
      by_cases hc12 : c1 = 2
      · obtain rfl : r = 2 := by omega
        subst hc12
        go_wp2_with fail
        go_roundw
        case rel =>
          refine ⟨off + 2, 0, _, _, ml + 1, c4, g4, rfl, rfl, by omega, by omega, HML.out, ⟨by have := HX.out.1; omega, by have := HX.out.2.1; omega, fun h => by omega, HLN.out⟩, HR4, hb4⟩
        case measure => simp [sliceLen2]
      · have hc12' : ¬ (c1 : Int) = 2 := by omega
        go_wp2_with fail
        go_roundw
        case rel =>
          refine ⟨off + 2, r - 2, _, _, ml + 1, c4, g4, rfl, rfl, by omega, by omega, HML.out, ⟨by have := HX.out.1; omega, by have := HX.out.2.1; omega, fun h => rfl, HLN.out⟩, HR4, hb4⟩
        case measure => simp [sliceLen2]; omega
    · have h1' : ¬ (1 : Int) < (r : Int) := by omega
      have HE : Hid (upR ss = upR (ss.take k) ++ ss.drop k) := take_rest ss k (by have := HX.out.1; have := HN.out; omega) HX.out.2.1 (by have := HX.out.1; have := HN.out; omega)
      have hnews := drop_news (HA.out.below HB.out HA.out.1) k r off (by have := HX.out.1; have := HN.out; omega) HX.out.2.2.1
      have HLD : Hid (((ss.drop k).map Value.string).length = r * 1) := by
        have := HX.out.1
        have := HN.out
        show _ = _
        simp
        omega
      have h1c : ∀ u ∈ (ss.drop k).map Value.string, u.oneCell' = true := by
        intro u hu
        obtain ⟨x, _, rfl⟩ := List.mem_map.1 hu
        rfl
      have hx3 : ml + r ≤ maxLen := by unfold maxLen; omega
      have hx4 : (ml + r) * 16 ≤ 140737488355328 := by omega
      have HNE : Hid ((upR ss).map Value.string = (upR (ss.take k)).map Value.string ++ (ss.drop k).map Value.string ∧ (upR ss).length = ml + r) := by
        have h3 := HX.out.1
        have h4 := HN.out
        rw [HE.out]
        refine ⟨by rw [List.map_append], ?_⟩
        rw [List.length_append, ← HX.out.2.2.2]
        simp
        omega
      generalize (ss.drop k).map Value.string = news at hnews HLD h1c HNE
      go_wp2_with (at_builtin; refine wpList_append_own _ rfl _ _ 37 rfl w.heap.size 9 i0 (.string ⟨#[]⟩) 1 16 Tryz.underlying37 hi hz0 hz1 hz2 rfl (by decide) (.slice (some ⟨g3, 0, none⟩) ml c3) ml _ rfl HRW.out ⟨g, off, none⟩ r c1 news rfl HLD.out hnews h1c hx3 hx4 hszr ?_; intro v' w4 hown4 hgrow4 hnil4)
      have hb4 : Below w.heap.size w w4 := HB.out.grown hgrow4 hszr (fun j hj => by
        rcases HRW.out.2 with ⟨h2, _⟩ | ⟨g', cap', cur, hv, h2, _⟩
        · cases h2
        · simp only [Value.slice.injEq, Option.some.injEq, Addr.mk.injEq, and_true] at hv
          have : g3 = j := by simpa [Value.ownBlock] using hj
          omega)
      obtain ⟨g4, c4, rfl⟩ : ∃ g4 c4, v' = .slice (some ⟨g4, 0, none⟩) (ml + r) c4 := by
        rcases hown4.2 with ⟨h2, _⟩ | ⟨g', cap', cur, hv, _⟩
        · have := (hnil4.1 h2).1
          cases this
        · exact ⟨g', cap', hv⟩
      have HR4 : Hid (SRow w.heap.size (.slice (some ⟨g4, 0, none⟩) (ml + r) c4) (upR ss) w4) := by
        refine ⟨⟨g4, c4, ?_⟩, ?_⟩
        · rw [HNE.out.2]
        · rw [HNE.out.2, HNE.out.1]; exact hown4
      clear hown4 hgrow4 hnil4
      go_wp2_with fail
      go_ret
      exact ⟨_, rfl, HR4.out, hb4⟩


set_option maxHeartbeats 1000000 in
set_option maxRecDepth 100000 in
theorem implTop (g n cap : Nat) (ss : List ByteArray) (w : World) (h : AtS w g ss) (hn : n = ss.length) (hc : n ≤ cap) (hm : n ≤ 1000000) (h0 : n ≠ 0) (hs : ∀ s ∈ ss, s.size = 16) (hK : RowG w shaK) :
    Calls Tryz.prog 89 #[.slice (some ⟨g, 0, none⟩) n cap, .func (.func 73) #[] #[]] w fun e w' => e = .returned (.string (rootR ss)) ∧ Below w.heap.size w w' := by
  obtain ⟨R, hR⟩ : ∃ R, R = rootR ss := ⟨_, rfl⟩
  rw [← hR]
  have HT0 : Hid (rootR ss = R) := hR.symm
  have HA0 : Hid (AtS w g ss) := h
  have HN0 : Hid (n = ss.length ∧ n ≠ 0) := ⟨hn, h0⟩
  have H60 : Hid (∀ s ∈ ss, s.size = 16) := hs
  have HKG : Hid (RowG w shaK) := hK
  clear hR h hn hs hK h0
  go_enter Tryz.func89, Tryz.ntmps89
  go_wp2_with fail
  go_loopw [0] (fun v wr => ∃ (rs : List ByteArray) (g2 c2 m : Nat), v = .slice (some ⟨g2, 0, none⟩) m c2 ∧ m ≤ n ∧ m ≤ c2 ∧ Hid (m = rs.length ∧ m ≠ 0) ∧ Hid (AtS wr g2 rs) ∧ Hid (∀ s ∈ rs, s.size = 16) ∧ Hid (rootR rs = R) ∧ Hid (Below w.heap.size w wr)) (fun v _ => sliceLen2 v)
  case atStart => exact ⟨ss, g, cap, n, rfl, Nat.le_refl _, hc, HN0, HA0, H60, HT0, Below.refl _ _⟩
  case round =>
    obtain ⟨rs, g2, c2, m, rfl, hmn, hmc, HM, HA, H6, HT, HB⟩ := hrel
    by_cases h1 : 1 < m
    · have h1' : (1 : Int) < (m : Int) := by omega
      have hup := implAbove g2 m c2 rs wr HA.out HM.out.1 hmc (by omega) H6.out (HKG.out.below HB.out HKG.out.lt)
      have HU : Hid (rootR (upR rs) = R) := by
        show _ = _
        rw [← HT.out]
        exact (rootR_up (by have := HM.out.1; omega)).symm
      have HUL : Hid ((upR rs).length < m ∧ (upR rs).length ≠ 0) := by
        have := upR_length rs
        have := HM.out.1
        exact ⟨by omega, by omega⟩
      have HU6 : Hid (∀ s ∈ upR rs, s.size = 16) := upR_16 rs H6.out
      go_wp2_with fail
      refine hup.mono ?_
      rintro e w2 ⟨v2, rfl, hr2, b2⟩
      have hle : ∃ g3 c3, v2 = .slice (some ⟨g3, 0, none⟩) (upR rs).length c3 ∧ (upR rs).length ≤ c3 := by
        obtain ⟨⟨g3, c3, rfl⟩, _, h5⟩ := hr2
        rcases h5 with ⟨h5, _⟩ | ⟨g', cap', cur, hv, _, _, h6, _⟩
        · cases h5
        · simp only [Value.slice.injEq, Option.some.injEq, Addr.mk.injEq, and_true] at hv
          obtain ⟨rfl, _, rfl⟩ := hv
          exact ⟨g3, c3, rfl, h6⟩
      obtain ⟨g3, c3, rfl, hlc⟩ := hle
      have HA2 : Hid (AtS w2 g3 (upR rs)) := hr2.at.1
      have HB2 : Hid (Below w.heap.size w w2) := HB.out.trans (b2.mono HB.out.size)
      clear hup hr2 b2
      obtain ⟨mm, hmm⟩ : ∃ mm, mm = (upR rs).length := ⟨_, rfl⟩
      rw [← hmm] at HUL hlc ⊢
      have HMM : Hid (mm = (upR rs).length) := hmm
      clear hmm
      go_wp2_with fail
      go_roundw
      case rel => exact ⟨upR rs, g3, c3, mm, rfl, by have := HUL.out; omega, hlc, ⟨HMM.out, HUL.out.2⟩, HA2, HU6, HU, HB2⟩
      case measure => have := HUL.out; simp [sliceLen2]; omega
    · have h1' : ¬ (1 : Int) < (m : Int) := by omega
      have hm1 : m = 1 := by have := HM.out.2; omega
      subst hm1
      have hc0 := HA.out.2 0 (by rw [← HM.out.1]; omega)
      have HV : Hid (rs.getD 0 ByteArray.empty = R) := by
        show _ = _
        rw [← HT.out, rootR_one (by rw [← HM.out.1]; omega)]
      generalize rs.getD 0 ByteArray.empty = z at hc0 HV
      go_wp2_with fail
      go_ret
      rw [← HV.out]
      exact ⟨rfl, HB.out⟩

end Go.Proofs.YtkajpkfhedfmaaaGreatDoor

set_option linter.unusedVariables false
namespace Go.Proofs.YtkajpkfhedfmaaaGreatDoor
open Go.RowKit

theorem implSumNil (w : World) (hK : RowG w shaK) : Calls Tryz.prog 26 #[.string ⟨#[]⟩] w fun e w' => e = .returned (.string (bsum [])) ∧ Below w.heap.size w w' := by
  have h : ∀ t : ByteArray, t = ⟨#[]⟩ → Calls Tryz.prog 26 #[.string t] w fun e w' => e = .returned (.string (bsum t.data.toList)) ∧ Below w.heap.size w w' := by
    intro t ht
    exact implSum t w (by rw [ht]; decide) hK
  exact h ⟨#[]⟩ rfl
theorem rootL_nil {ss : List ByteArray} (h : ss = []) : rootL ss = bsum [] := by rw [rootL, if_pos h]
theorem rootL_cons {ss : List ByteArray} (h : ss ≠ []) : rootL ss = rootR (ss.map rootItemB) := by rw [rootL, if_neg h]

set_option maxHeartbeats 1000000 in
set_option maxRecDepth 100000 in
theorem implRootOf (g n cap : Nat) (ss : List ByteArray) (w : World) (h : AtS w g ss) (hn : n = ss.length) (hK : RowG w shaK) :
    Calls Tryz.prog 51 #[.slice (some ⟨g, 0, none⟩) n cap] w fun e w' => e = .returned (.string (rootOf ss)) ∧ Below w.heap.size w w' := by
  obtain ⟨i0, hi, hz0, hz1, hz2⟩ := info_parts infoStr
  have hit := implItemsOk g n cap ss w h hn
  cases hok : itemsOkB ss with
  | false =>
    rw [hok] at hit
    rw [rootOf_no hok]
    clear hok h hn hK
    go_enter Tryz.func51, Tryz.ntmps51
    go_wp2_with (go_at_call 69; refine hit.mono ?_; rintro e w1 ⟨rfl, rfl⟩)
    go_ret
    exact ⟨rfl, Below.refl _ _⟩
  | true =>
    rw [hok] at hit
    rw [rootOf_yes hok]
    have hn40 : n ≤ 40 := by rw [hn]; exact itemsOk_len hok
    have HKG : Hid (RowG w shaK) := hK
    by_cases h0 : n = 0
    · have hq : ((n : Int) == 0) = true := by simp [h0]
      rw [rootL_nil (List.length_eq_zero_iff.1 (by omega))]
      have hsum := implSumNil w hK
      generalize bsum [] = z at hsum
      clear hok h hn hK h0
      go_enter Tryz.func51, Tryz.ntmps51
      go_wp2_with (go_at_call 69; refine hit.mono ?_; rintro e w1 ⟨rfl, rfl⟩)
      refine hsum.mono ?_
      rintro e w2 ⟨rfl, b2⟩
      go_wp2_with fail
      go_ret
      exact ⟨rfl, b2⟩
    · have hq : ((n : Int) == 0) = false := by simp; omega
      have HN0 : Hid (n ≠ 0) := h0
      rw [rootL_cons (fun e => h0 (by rw [hn, e]; rfl))]
      have HA : Hid (AtS w g ss) := h
      have HN : Hid (n = ss.length) := hn
      have HS : Hid (∀ i, i < ss.length → (ss.getD i ByteArray.empty).size ≤ 1048576) := by
        intro i hi
        have := isItem_size (itemsOk_at hok i hi)
        omega
      have hmk := makeCapS n (by omega)
      obtain ⟨R, hR⟩ : ∃ R, R = rootR (ss.map rootItemB) := ⟨_, rfl⟩
      rw [← hR]
      have HR0 : Hid (R = rootR (ss.map rootItemB)) := hR
      have HW0 : Hid (SRow w.heap.size (.slice (some ⟨w.heap.size, 0, none⟩) 0 n) ((ss.take 0).map rootItemB) (w.alloc (.cells (sCells (List.replicate n ⟨#[]⟩)) 9))) := srow_cap w n (by omega)
      have HB0 : Hid (Below w.heap.size w (w.alloc (.cells (sCells (List.replicate n ⟨#[]⟩)) 9))) := (Below.refl _ w).alloc (Nat.le_refl _) _
      clear hok h hn hK h0 hR
      go_enter Tryz.func51, Tryz.ntmps51
      go_wp2_with (go_at_call 69; refine hit.mono ?_; rintro e w1 ⟨rfl, rfl⟩)
      clear hit hmk
      go_loopw [3, 18] (fun v i wr => ∃ (k : Nat), k ≤ n ∧ i = .int .i64 (k : Int) ∧ Hid (SRow w.heap.size v ((ss.take k).map rootItemB) wr) ∧ Hid (Below w.heap.size w wr)) (fun _ i _ => n - (intOf i).toNat)
      case atStart => exact ⟨0, by omega, rfl, HW0, HB0⟩
      case round =>
        clear HW0 HB0
        obtain ⟨k, hk, rfl, HR, HB⟩ := hrel
        obtain ⟨⟨g3, c3, rfl⟩, hrow⟩ := HR.out
        by_cases hlt : k < n
        · have hkl : k < ss.length := by rw [← HN.out]; exact hlt
          have hc : wr.cell? ⟨g, k, none⟩ = some (.string (ss.getD k ByteArray.empty)) := by
            rw [HB.out.cell (p := ⟨g, k, none⟩) HA.out.1]
            exact HA.out.2 k hkl
          have hsz := HS.out k hkl
          obtain ⟨z, hz⟩ : ∃ z, z = ss.getD k ByteArray.empty := ⟨_, rfl⟩
          rw [← hz] at hc hsz
          have HE : Hid ((ss.take (k + 1)).map rootItemB = (ss.take k).map rootItemB ++ [rootItemB z]) := by
            show _ = _
            rw [List.take_add_one, List.getElem?_eq_getElem hkl, List.map_append, hz, List.getD_eq_getElem?_getD, List.getElem?_eq_getElem hkl]
            rfl
          have hlen : ((ss.take k).map rootItemB).length = k := by simp; omega
          rw [hlen] at hrow ⊢
          have HRW : Hid (wr.ownsRow w.heap.size 9 1 (.slice (some ⟨g3, 0, none⟩) k c3) k (((ss.take k).map rootItemB).map Value.string)) := hrow
          have HLN : Hid (((ss.take k).map rootItemB).length = k) := hlen
          have HK : Hid (k + 1 ≤ n) := hlt
          have lk : (k : Int) < (n : Int) := by omega
          have hsum := implRootItem z wr hsz (HKG.out.below HB.out HKG.out.lt)
          generalize rootItemB z = rz at hsum HE
          clear hz hrow hlen hkl
          have hx1 : k + 1 ≤ maxLen := by unfold maxLen; omega
          have hx2 : (k + 1) * 16 ≤ 140737488355328 := by omega
          go_wp2_with fail
          refine hsum.mono ?_
          rintro e w1 ⟨rfl, b1⟩
          have HRW1 : Hid (w1.ownsRow w.heap.size 9 1 (.slice (some ⟨g3, 0, none⟩) k c3) k (((ss.take k).map rootItemB).map Value.string)) := row_below HRW.out b1
          have HB1 : Hid (Below w.heap.size w w1) := HB.out.trans (b1.mono HB.out.size)
          have hsz1 := HB1.out.size
          clear b1 hsum
          go_wp2_with (at_builtin; refine wp_app1 rfl _ _ 37 rfl w.heap.size 9 i0 (.string ⟨#[]⟩) 16 Tryz.underlying37 hi hz0 hz1 hz2 rfl _ _ _ rfl HRW1.out (.string rz) rfl rfl hx1 hx2 hsz1 ?_; intro g4 c4 w4 hown4 hb4 _)
          go_roundw
          case rel =>
            refine ⟨k + 1, HK.out, by go_num, ⟨⟨g4, c4, ?_⟩, ?_⟩, HB1.out.trans hb4⟩
            · rw [HE.out, List.length_append, HLN.out]; rfl
            · rw [HE.out, List.length_append, HLN.out, List.map_append]; exact hown4
          case measure => have := HK.out; simp [intOf]; omega
        · have HE : Hid ((ss.take k).map rootItemB = ss.map rootItemB) := by
            show _ = _
            rw [List.take_of_length_le (by rw [← HN.out]; omega)]
          have hle : ((ss.take k).map rootItemB).length ≤ c3 := by
            rcases hrow.2 with ⟨h5, _⟩ | ⟨g', cap', cur, hv, _, _, h6, _⟩
            · cases h5
            · simp only [Value.slice.injEq, Option.some.injEq, Addr.mk.injEq, and_true] at hv
              rw [hv.2.2]; exact h6
          have hlen : ((ss.take k).map rootItemB).length = n := by rw [HE.out, List.length_map]; exact HN.out.symm
          have hat := HR.out.at
          rw [HE.out] at hat
          rw [hlen] at hle ⊢
          have htop := implTop g3 n c3 (ss.map rootItemB) wr hat.1 (by rw [List.length_map]; exact HN.out) hle (by omega) HN0.out (rootItemB_16 ss) (HKG.out.below HB.out HKG.out.lt)
          rw [← HR0.out] at htop
          clear hrow hlen hat
          go_wp2_with fail
          refine htop.mono ?_
          rintro e w2 ⟨rfl, b2⟩
          go_wp2_with fail
          go_ret
          exact ⟨rfl, HB.out.trans (b2.mono HB.out.size)⟩

end Go.Proofs.YtkajpkfhedfmaaaGreatDoor

set_option linter.unusedVariables false
namespace Go.Proofs.YtkajpkfhedfmaaaGreatDoor
open Go.ChangeShapes Go.WideShapes Go.ChangeAt Go.RowKit Go.Deep

structure SideV where
  sum : ByteArray
  left : Bool
instance : Inhabited SideV := ⟨⟨⟨#[]⟩, false⟩⟩
def enSide (p : SideV) : List Value := [.string p.sum, .bool p.left]
theorem enSide_len (p : SideV) : (enSide p).length = 2 := rfl
/-- Its texts can be held. -/
def wfSide (p : SideV) : Prop := p.sum.size ≤ maxLen
/-- Its texts are small. -/
def smallSide (p : SideV) : Prop := p.sum.size ≤ 1048576
abbrev IsSides (w : World) (a : Option Addr) (len cap : Nat) (l : List SideV) : Prop := IsFlat enSide wfSide 2 w a len cap l
abbrev RowSide (w : World) (g : Nat) (l : List SideV) : Prop := RowF enSide 131 w g l
abbrev AtSide (w : World) (g : Nat) (l : List SideV) : Prop := AtF enSide 2 w g l
theorem AtSide.c0 {w : World} {g : Nat} {l : List SideV} (h : AtSide w g l) (i : Nat) (hi : i < l.length) : w.cell? ⟨g, i * 2, none⟩ = some (.string (l.getD i default).sum) := h.2 i 0 hi (by decide)
theorem AtSide.c1 {w : World} {g : Nat} {l : List SideV} (h : AtSide w g l) (i : Nat) (hi : i < l.length) : w.cell? ⟨g, i * 2 + 1, none⟩ = some (.bool (l.getD i default).left) := h.2 i 1 hi (by decide)
theorem cellsSide {w : World} {x : Addr} {p : SideV} (h : ∀ j, j < 2 → w.cell? (x.add j) = (enSide p)[j]?) : w.cell? x = some (.string p.sum) ∧ w.cell? ⟨x.block, x.off + 1, none⟩ = some (.bool p.left) := by
  exact ⟨h 0 (by decide), h 1 (by decide)⟩
theorem partsSide {cs : List Value} {a0 a1 : Value} (hl : cs.length = 2) (h0 : (cs.drop 0).take 1 = [a0]) (h1 : (cs.drop 1).take 1 = [a1]) : cs = [a0, a1] := by
  match cs, hl with
  | [x0, x1], _ =>
    simp at h0 h1
    subst h0 h1
    rfl
theorem oneSide_b : Tryz.prog.cellsOf 4 = 1 := by kernel_rfl
theorem oneSide_s : Tryz.prog.cellsOf 9 = 1 := by kernel_rfl
theorem alloc3_midS (w : World) (o1 o2 o3 : Obj) : (((w.alloc o1).alloc o2).alloc o3).heap[w.heap.size + 1]? = some o2 := by
  have e : w.heap.size + 1 = (w.alloc o1).heap.size := by simp
  rw [e, Below.heap_alloc _ _ _ (by simp)]
  exact heap_alloc_new _ _
theorem infoSide : (Tryz.prog.info? 131).map (fun i => (i.zero, i.size, i.bytes)) = some (some (.agg #[.string ⟨#[]⟩, .bool false]), 2, 24) := by kernel_rfl
def zeroSide : SideV := ⟨⟨#[]⟩, false⟩
theorem makeSide (n : Nat) (hn : n ≤ 1099511627776) (w : World) : (Instr.makeSlice 45 (.int .i64 (n : Int)) (.int .i64 (n : Int))).run Tryz.prog w = .ok (.slice (some ⟨w.heap.size, 0, none⟩) n n) (w.alloc (.cells ((List.replicate n zeroSide).flatMap enSide).toArray 131)) := by
  obtain ⟨i, hi, hz, hs, hb⟩ := info_parts infoSide
  have hb' : (i.bytes : Int) * (n : Int) ≤ 281474976710656 := by rw [hb]; omega
  have hr := run_make (P := Tryz.prog) w 45 131 i _ Tryz.underlying45 hi hz .i64 .i64 (n : Int) (n : Int) (by omega) (by omega) hb' (by omega)
  simp only [Int.toNat_natCast, hs, Value.cells] at hr
  rw [← made_flat 2 enSide enSide_len (by decide) zeroSide n]
  exact hr
theorem RowSide.put {w : World} {g : Nat} {l : List SideV} (h : RowSide w g l) (i : Nat) (hi : i < l.length) (p : SideV) :
    RowSide ((w.setCell ⟨g, i * 2, none⟩ (.string p.sum)).setCell ⟨g, i * 2 + 1, none⟩ (.bool p.left)) g (l.set i p) := by
  show _ = _
  rw [← flat_put 2 enSide enSide_len l i p hi]
  exact (rowSet (rowSet h _) _)

end Go.Proofs.YtkajpkfhedfmaaaGreatDoor

set_option linter.unusedVariables false
namespace Go.Proofs.YtkajpkfhedfmaaaGreatDoor
open Go.RowKit Go.Deep

theorem sameB (a b : ByteArray) : (a.toList == b.toList) = decide (a = b) := by
  rw [Bool.eq_iff_iff, beq_iff_eq, decide_eq_true_eq, ByteArray.toList_eq, ByteArray.toList_eq]
  constructor
  · intro h
    exact ByteArray.ext (by simpa using h)
  · intro h
    rw [h]
def sideOkB (x : SideV) : Bool := isSum x.sum.data.toList
def sidesOkB (l : List SideV) : Bool := decide (l.length ≤ 8) && (List.range l.length).all fun i => sideOkB (l.getD i default)
theorem sidesOk_no {l : List SideV} (i : Nat) (hi : i < l.length) (h : sideOkB (l.getD i default) = false) : sidesOkB l = false := by
  have : ((List.range l.length).all fun i => sideOkB (l.getD i default)) = false := by
    rw [List.all_eq_false]
    exact ⟨i, List.mem_range.2 hi, by rw [h]; decide⟩
  rw [sidesOkB, this, Bool.and_false]
theorem sidesOk_long {l : List SideV} (h : ¬ l.length ≤ 8) : sidesOkB l = false := by rw [sidesOkB, decide_eq_false h, Bool.false_and]
theorem sidesOk_yes {l : List SideV} (h : l.length ≤ 8) (h2 : ∀ i, i < l.length → sideOkB (l.getD i default) = true) : sidesOkB l = true := by
  rw [sidesOkB, decide_eq_true h, Bool.true_and, List.all_eq_true]
  exact fun i hi => h2 i (List.mem_range.1 hi)
theorem sidesOk_at {l : List SideV} (h : sidesOkB l = true) : l.length ≤ 8 ∧ ∀ i, i < l.length → sideOkB (l.getD i default) = true := by
  rw [sidesOkB, Bool.and_eq_true, decide_eq_true_eq, List.all_eq_true] at h
  exact ⟨h.1, fun i hi => h.2 i (List.mem_range.2 hi)⟩
def stepS (s : ByteArray) (x : SideV) : ByteArray := if x.left = true then bothB x.sum s else bothB s x.sum
def wayTo (s : ByteArray) (l : List SideV) : Nat → ByteArray
  | 0 => s
  | k + 1 => stepS (wayTo s l k) (l.getD k default)
theorem wayTo_size {s : ByteArray} (hs : s.size = 16) (l : List SideV) : ∀ k, (wayTo s l k).size = 16
  | 0 => hs
  | k + 1 => by
    show (stepS _ _).size = 16
    unfold stepS
    split <;> exact bsum_size _
def rootCheckB (root item : ByteArray) (l : List SideV) : Bool := isItem item.data.toList && (sidesOkB l && decide (wayTo (rootItemB item) l l.length = root))

set_option maxHeartbeats 1000000 in
set_option maxRecDepth 100000 in
theorem implSidesOk (g n cap : Nat) (ps : List SideV) (w : World) (h : AtSide w g ps) (hn : n = ps.length) (hm : n ≤ 1073741824) :
    Calls Tryz.prog 105 #[.slice (some ⟨g, 0, none⟩) n cap] w fun e w' => e = .returned (.bool (sidesOkB ps)) ∧ Below w.heap.size w w' := by
  have HA : Hid (AtSide w g ps) := h
  have HN : Hid (n = ps.length) := hn
  clear h hn
  by_cases hl : (8 : Int) < (n : Int)
  · have HNO : Hid (sidesOkB ps = false) := sidesOk_long (by rw [← HN.out]; omega)
    go_enter Tryz.func105, Tryz.ntmps105
    go_wp2_with fail
    go_ret
    exact ⟨by rw [HNO.out]; rfl, Below.refl _ _⟩
  go_enter Tryz.func105, Tryz.ntmps105
  go_wp2_with fail
  go_loopw [10] (fun i wr => ∃ k : Nat, k ≤ n ∧ i = .int .i64 (k : Int) ∧ Hid (∀ q, q < k → sideOkB (ps.getD q default) = true) ∧ Hid (Below w.heap.size w wr)) (fun i _ => n - (intOf i).toNat)
  case atStart => exact ⟨0, by omega, rfl, fun q hq => by omega, Below.refl _ _⟩
  case round =>
    obtain ⟨k, hk, rfl, HS, HB⟩ := hrel
    by_cases hlt : k < n
    · have hkl : k < ps.length := by rw [← HN.out]; exact hlt
      have HAr : Hid (AtSide wr g ps) := HA.out.below HB.out HA.out.1
      have c0 := AtSide.c0 HAr.out k hkl
      have c1 := AtSide.c1 HAr.out k hkl
      have lk : (k : Int) < (n : Int) := by omega
      have HK : Hid (k + 1 ≤ n) := hlt
      have HNO : Hid (sideOkB (ps.getD k default) = false → sidesOkB ps = false) := fun h => sidesOk_no k hkl h
      have HNX : Hid (sideOkB (ps.getD k default) = true → ∀ q, q < k + 1 → sideOkB (ps.getD q default) = true) := by
        intro h q hq
        rcases Nat.lt_or_ge q k with h' | h'
        · exact HS.out q h'
        · obtain rfl : q = k := by omega
          exact h
      unfold sideOkB at HNO HNX
      generalize ps.getD k default = p at c0 c1 HNO HNX
      have hb : ∀ o, Below w.heap.size w (wr.alloc o) := fun o => HB.out.alloc HB.out.size o
      clear hkl
      cases hok : isSum p.sum.data.toList with
      | false =>
        have HN2 : Hid (sidesOkB ps = false) := HNO.out hok
        clear HNO HNX
        go_wp2_with (go_at_call 90; refine (implSumOk _ _).mono ?_; rintro e w1 ⟨rfl, rfl⟩)
        go_ret
        exact ⟨by rw [HN2.out]; rfl, hb _⟩
      | true =>
        have HN2 : Hid (∀ q, q < k + 1 → sideOkB (ps.getD q default) = true) := HNX.out hok
        clear HNO HNX
        go_wp2_with (go_at_call 90; refine (implSumOk _ _).mono ?_; rintro e w1 ⟨rfl, rfl⟩)
        go_roundw
        case rel => exact ⟨k + 1, HK.out, by go_num, HN2, hb _⟩
        case measure => have := HK.out; simp [intOf]; omega
    · have HN2 : Hid (sidesOkB ps = true) := sidesOk_yes (by rw [← HN.out]; omega) (fun i hi => HS.out i (by rw [← HN.out] at hi; omega))
      go_wp2_with fail
      go_ret
      exact ⟨by rw [HN2.out]; rfl, HB.out⟩

set_option maxHeartbeats 1000000 in
set_option maxRecDepth 100000 in
theorem implRootWay (g n cap : Nat) (w : World) :
    Calls Tryz.prog 106 #[.slice (some ⟨g, 0, none⟩) n cap] w fun e w' => e = .returned (.func (.func 131) #[] #[.pointer (some ⟨w.heap.size, 0, none⟩)]) ∧ w' = w.alloc (.cells #[.slice (some ⟨g, 0, none⟩) n cap] 45) := by
  go_enter Tryz.func106, Tryz.ntmps106
  go_wp2_with fail
  go_ret
  exact ⟨rfl, rfl⟩

set_option maxHeartbeats 1000000 in
set_option maxRecDepth 100000 in
theorem implWay (x g n cap : Nat) (r0 : ByteArray) (ps : List SideV) (w : World) (h : AtSide w g ps) (hx : w.cell? ⟨x, 0, none⟩ = some (.slice (some ⟨g, 0, none⟩) n cap)) (hn : n = ps.length) (hm : n ≤ 8) (hr : r0.size = 16) (hs : ∀ i, i < ps.length → (ps.getD i default).sum.size = 16) (hK : RowG w shaK) :
    Calls Tryz.prog 131 #[.string r0, .pointer (some ⟨x, 0, none⟩)] w fun e w' => e = .returned (.string (wayTo r0 ps ps.length)) ∧ Below w.heap.size w w' := by
  have HA : Hid (AtSide w g ps) := h
  have HN : Hid (n = ps.length) := hn
  have HK : Hid (RowG w shaK) := hK
  have HS : Hid (∀ i, i < ps.length → (ps.getD i default).sum.size = 16) := hs
  have HR : Hid (r0.size = 16) := hr
  rw [← hn]
  clear h hn hs hr hK
  go_enter Tryz.func131, Tryz.ntmps131
  go_wp2_with fail
  clear hx
  go_loopw [0, 8] (fun s i wr => ∃ (k : Nat) (t : ByteArray), k ≤ n ∧ i = .int .i64 (k : Int) ∧ s = .string t ∧ t.size = 16 ∧ Hid (t = wayTo r0 ps k) ∧ Hid (Below w.heap.size w wr)) (fun _ i _ => n - (intOf i).toNat)
  case atStart => exact ⟨0, r0, by omega, rfl, rfl, HR.out, rfl, Below.refl _ _⟩
  case round =>
    obtain ⟨k, t, hk, rfl, rfl, ht, HT, HB⟩ := hrel
    by_cases hlt : k < n
    · have hkl : k < ps.length := by rw [← HN.out]; exact hlt
      have HAr : Hid (AtSide wr g ps) := HA.out.below HB.out HA.out.1
      have c0 := AtSide.c0 HAr.out k hkl
      have c1 := AtSide.c1 HAr.out k hkl
      have hp16 := HS.out k hkl
      have lk : (k : Int) < (n : Int) := by omega
      have HK1 : Hid (k + 1 ≤ n) := hlt
      have HT2 : Hid (wayTo r0 ps (k + 1) = stepS t (ps.getD k default)) := by show _ = _; rw [HT.out]; rfl
      have HKr : Hid (∀ o, RowG (wr.alloc o) shaK) := fun o => HK.out.below (HB.out.alloc HB.out.size o) HK.out.lt
      generalize ps.getD k default = p at c0 c1 hp16 HT2
      obtain ⟨ps1, left⟩ := p
      dsimp only at c0 c1 hp16
      unfold stepS at HT2
      dsimp only at HT2
      clear hkl HT
      cases left with
      | true =>
        have hbt := fun w' hk => implRootBoth ps1 t w' hp16 ht hk
        have HT3 : Hid (bothB ps1 t = wayTo r0 ps (k + 1)) := by show _ = _; rw [HT2.out]; rfl
        have ht2 : (bothB ps1 t).size = 16 := bsum_size _
        clear HT2
        generalize bothB ps1 t = t2 at hbt HT3 ht2
        go_wp2_with fail
        refine (hbt _ (HKr.out _)).mono ?_
        rintro e w1 ⟨rfl, b1⟩
        have HB2 : Hid (Below w.heap.size w w1) := (HB.out.alloc HB.out.size _).trans (b1.mono (HB.out.alloc HB.out.size _).size)
        clear hbt b1 c0 c1 HKr HAr HB
        go_wp2_with fail
        go_roundw
        case rel => exact ⟨k + 1, t2, HK1.out, by go_num, rfl, ht2, HT3, HB2⟩
        case measure => have := HK1.out; simp [intOf]; omega
      | false =>
        have hbt := fun w' hk => implRootBoth t ps1 w' ht hp16 hk
        have HT3 : Hid (bothB t ps1 = wayTo r0 ps (k + 1)) := by show _ = _; rw [HT2.out]; rfl
        have ht2 : (bothB t ps1).size = 16 := bsum_size _
        clear HT2
        generalize bothB t ps1 = t2 at hbt HT3 ht2
        go_wp2_with fail
        refine (hbt _ (HKr.out _)).mono ?_
        rintro e w1 ⟨rfl, b1⟩
        have HB2 : Hid (Below w.heap.size w w1) := (HB.out.alloc HB.out.size _).trans (b1.mono (HB.out.alloc HB.out.size _).size)
        clear hbt b1 c0 c1 HKr HAr HB
        go_wp2_with fail
        go_roundw
        case rel => exact ⟨k + 1, t2, HK1.out, by go_num, rfl, ht2, HT3, HB2⟩
        case measure => have := HK1.out; simp [intOf]; omega
    · obtain rfl : k = n := by omega
      go_wp2_with fail
      go_ret
      exact ⟨by rw [← HT.out]; rfl, HB.out⟩

set_option maxHeartbeats 1000000 in
set_option maxRecDepth 100000 in
theorem implRootCheck (g n cap : Nat) (root item : ByteArray) (ps : List SideV) (w : World) (h : AtSide w g ps) (hn : n = ps.length) (hm : n ≤ 1073741824) (hK : RowG w shaK) :
    Calls Tryz.prog 65 #[.string root, .string item, .slice (some ⟨g, 0, none⟩) n cap] w fun e w' => e = .returned (.bool (rootCheckB root item ps)) ∧ Below w.heap.size w w' := by
  have HA : Hid (AtSide w g ps) := h
  have HN : Hid (n = ps.length) := hn
  have HK : Hid (RowG w shaK) := hK
  have hit := implItemOk item w
  have hso := fun w' h' => implSidesOk g n cap ps w' h' hn hm
  clear h hn hK
  cases hi : isItem item.data.toList with
  | false =>
    have HR : Hid (rootCheckB root item ps = false) := by show _ = _; rw [rootCheckB, hi, Bool.false_and]
    rw [hi] at hit
    go_enter Tryz.func65, Tryz.ntmps65
    go_wp2_with fail
    refine hit.mono ?_
    rintro e w1 ⟨rfl, rfl⟩
    go_wp2_with fail
    go_ret
    exact ⟨by rw [HR.out]; rfl, Below.refl _ _⟩
  | true =>
    cases hs : sidesOkB ps with
    | false =>
      have HR : Hid (rootCheckB root item ps = false) := by show _ = _; rw [rootCheckB, hs, Bool.false_and, Bool.and_false]
      rw [hi] at hit
      rw [hs] at hso
      go_enter Tryz.func65, Tryz.ntmps65
      go_wp2_with fail
      refine hit.mono ?_
      rintro e w1 ⟨rfl, rfl⟩
      go_wp2_with fail
      refine (hso _ HA.out).mono ?_
      rintro e w2 ⟨rfl, b2⟩
      go_wp2_with fail
      go_ret
      exact ⟨by rw [HR.out]; rfl, b2⟩
    | true =>
      rw [hi] at hit
      rw [hs] at hso
      obtain ⟨h8, hall⟩ := sidesOk_at hs
      have HS : Hid (∀ i, i < ps.length → (ps.getD i default).sum.size = 16) := fun i hi => sum_size (hall i hi)
      have hn8 : n ≤ 8 := by rw [HN.out]; exact h8
      have hiz := (isItem_size hi).2
      have hri := fun w' hk => implRootItem item w' (by omega) hk
      have hri16 : (rootItemB item).size = 16 := bsum_size _
      have HR : Hid (rootCheckB root item ps = decide (wayTo (rootItemB item) ps ps.length = root)) := by show _ = _; rw [rootCheckB, hi, hs]; rfl
      generalize rootItemB item = r0 at hri hri16 HR
      have HWY : Hid (∀ (x : Nat) w', AtSide w' g ps → w'.cell? ⟨x, 0, none⟩ = some (.slice (some ⟨g, 0, none⟩) n cap) → RowG w' shaK → Calls Tryz.prog 131 #[.string r0, .pointer (some ⟨x, 0, none⟩)] w' fun e w'' => e = .returned (.string (wayTo r0 ps ps.length)) ∧ Below w'.heap.size w' w'') := fun x w' h1 h2 h3 => implWay x g n cap r0 ps w' h1 h2 HN.out hn8 hri16 HS.out h3
      generalize wayTo r0 ps ps.length = T at HR HWY
      clear hall hi hs
      go_enter Tryz.func65, Tryz.ntmps65
      go_wp2_with fail
      refine hit.mono ?_
      rintro e w1 ⟨rfl, rfl⟩
      go_wp2_with fail
      refine (hso _ HA.out).mono ?_
      rintro e w2 ⟨rfl, b2⟩
      go_wp2_with fail
      refine (implRootWay g n cap w2).mono ?_
      rintro e w3 ⟨rfl, h3⟩
      have b3 : Below w.heap.size w w3 := by rw [h3]; exact b2.alloc b2.size _
      have X3 : w3.heap[w2.heap.size]? = some (.cells #[.slice (some ⟨g, 0, none⟩) n cap] 45 (0, 0)) := by rw [h3]; exact heap_alloc_new w2 _
      have l3 : w2.heap.size < w3.heap.size := by rw [h3]; simp
      clear h3
      have HX3 : Hid (w3.heap[w2.heap.size]? = some (.cells #[.slice (some ⟨g, 0, none⟩) n cap] 45 (0, 0))) := X3
      clear X3
      go_wp2_with fail
      refine (hri _ (HK.out.below b3 HK.out.lt)).mono ?_
      rintro e w4 ⟨rfl, b4⟩
      have b5 : Below w.heap.size w w4 := b3.trans (b4.mono b3.size)
      have X4 : w4.cell? ⟨w2.heap.size, 0, none⟩ = some (.slice (some ⟨g, 0, none⟩) n cap) := by
        rw [b4.cell (p := ⟨w2.heap.size, 0, none⟩) l3, Lib.cell_of_heap HX3.out]
        rfl
      have hwy := HWY.out w2.heap.size w4 (HA.out.below b5 HA.out.1) X4 (HK.out.below b5 HK.out.lt)
      clear X4
      go_wp2_with fail
      refine hwy.mono ?_
      rintro e w6 ⟨rfl, b6⟩
      go_wp2_with fail
      go_ret
      refine ⟨?_, b5.trans (b6.mono b5.size)⟩
      rw [HR.out]
      show Ending.returned (Value.bool (T.toList == root.toList)) = _
      rw [sameB]

end Go.Proofs.YtkajpkfhedfmaaaGreatDoor

