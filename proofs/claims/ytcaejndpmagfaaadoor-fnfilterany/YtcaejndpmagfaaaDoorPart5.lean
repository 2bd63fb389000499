/-
  Texts that the last part needs, joined.
-/
import Derived.Test.YtcaejndpmagfaaaDoorPart1
import Derived.Test.YtcaejndpmagfaaaDoorPart2
import Derived.Test.YtcaejndpmagfaaaDoorPart3
import Derived.Test.YtcaejndpmagfaaaDoorPart4
import Derived.BigQuiet
import Derived.Lib.Strings
import Derived.Test.YtcaejndpmagfaaaDoorProg
import Derived.WalkSpells
import Derived.OwnWalk
import Derived.WalkKit
import Derived.Below
import Derived.ArgAppend
import Derived.Laws.IdiomStrings
import Derived.Lib.Builder
import Derived.Lib.UnsafeStr
import Derived.RegionTactic
import Derived.Deep.RegionWith
import Derived.Deep.RegionHeld2
import Derived.Deep.Cut
import Derived.BigRegion
import Derived.Deep.QuietTactic
import Derived.ChangeAlike
set_option linter.unusedVariables false
namespace Go.Proofs.YtcaejndpmagfaaaDoor
open Go.RowKit

set_option maxHeartbeats 2000000 in
set_option maxRecDepth 100000 in
theorem implVarGet (s : ByteArray) (w : World) (hs : s.size ≤ maxLen) :
    Calls Tryd.prog 32 #[.string s] w fun e w' => e = .returned (.tuple #[.int .i64 (varGet s.data.toList).1, .int .i64 (varGet s.data.toList).2]) ∧ Below w.heap.size w w' := by
  unfold maxLen at hs
  go_enter Tryd.func32, Tryd.ntmps32
  go_wp2
  go_loopw [4, 5] (fun n i wr => ∃ k : Nat, k ≤ s.size ∧ k ≤ 5 ∧ i = .int .i64 k ∧ n = .int .i64 (vNum (s.data.toList.take k)) ∧ vg (5 - k) (s.data.toList.take k) (s.data.toList.drop k) = varGet s.data.toList ∧ Below w.heap.size w wr) (fun _ i _ => s.size - (intOf i).toNat)
  case atStart => exact ⟨0, by omega, by omega, rfl, rfl, rfl, Below.refl _ _⟩
  case round =>
    obtain ⟨k, hk, hk5, rfl, rfl, heq, hbw⟩ := hrel
    by_cases hlt : k < s.size ∧ k < 5
    · obtain ⟨hlt, h5⟩ := hlt
      have hor : bits .or .i64 (vNum (s.data.toList.take k) : Int) (wrap64 ((s[k].toNat : Int) % 128 * 2 ^ (7 * k))) = (vNum (s.data.toList.take (k + 1)) : Int) := by
        rw [take_snoc s k hlt, vNum_snoc, take_len s k hk]
        have := or_step (vNum (s.data.toList.take k)) (s[k].toNat % 128) k (by have := vNum_lt (s.data.toList.take k); rwa [take_len s k hk] at this) (by omega) h5
        simpa using this
      by_cases hb : 128 ≤ s[k].toNat
      · have hb' : (128 : Int) ≤ (s[k].toNat : Int) := by omega
        have HE : Hid (vg (5 - (k + 1)) (s.data.toList.take (k + 1)) (s.data.toList.drop (k + 1)) = varGet s.data.toList) := by rw [← vg_on s k hlt h5 hb]; exact heq
        clear heq
        go_wp2
        go_roundw
        case rel => exact ⟨k + 1, by omega, by omega, by go_num, rfl, HE.out, hbw⟩
        case measure => simp [intOf]; omega
      · have hb' : ¬ (128 : Int) ≤ (s[k].toNat : Int) := by omega
        have hw1 : IntKind.i64.wrap ((k : Int) + 1) = (k : Int) + 1 := by rw [IntKind.wrap_i64]; omega
        have hbd : 0 ≤ (k : Int) + 1 ∧ (k : Int) + 1 ≤ (s.size : Int) := by omega
        have hex : (s.extract 0 (k + 1)).toList = s.data.toList.take (k + 1) := by rw [Lib.extract_toList]; simp
        by_cases hp : varPut (vNum (s.data.toList.take (k + 1))) = s.data.toList.take (k + 1)
        · have HE : Hid (varGet s.data.toList = (vNum (s.data.toList.take (k + 1)), k + 1)) := by rw [← heq]; exact vg_yes s k hlt h5 hb hp
          have hcmp : (varPut (vNum (s.data.toList.take (k + 1))) == (s.extract 0 (k + 1)).toList) = true := by rw [hex, hp]; simp
          clear heq hex hp
          go_wp2_with fail
          go_region_with (go_at_call 47; refine (implVarPut _ _).mono ?_; rintro e w1 ⟨rfl, b1⟩)
          all_goals
            go_wp2
            go_ret2
            rw [HE.out]
            exact ⟨by simp, hbw.trans ((Below.drew (Below.refl _ wr)).trans b1 |>.mono hbw.size)⟩
        · have HE : Hid (varGet s.data.toList = (0, 0)) := by rw [← heq]; exact vg_no s k hlt h5 hb hp
          have hcmp : (varPut (vNum (s.data.toList.take (k + 1))) == (s.extract 0 (k + 1)).toList) = false := by rw [hex]; simpa using hp
          clear heq hex hp
          go_wp2_with fail
          go_region_with (go_at_call 47; refine (implVarPut _ _).mono ?_; rintro e w1 ⟨rfl, b1⟩)
          all_goals
            go_wp2
            go_ret2
            rw [HE.out]
            exact ⟨by simp, hbw.trans ((Below.drew (Below.refl _ wr)).trans b1 |>.mono hbw.size)⟩
    · have HE : Hid (varGet s.data.toList = (0, 0)) := by rw [← heq]; exact vg_end s k hlt
      clear heq
      by_cases hl : k < s.size
      · have h5 : ¬ k < 5 := fun h => hlt ⟨hl, h⟩
        clear hlt
        go_wp2
        go_ret2
        rw [HE.out]
        exact ⟨rfl, hbw⟩
      · clear hlt
        go_wp2
        go_ret2
        rw [HE.out]
        exact ⟨rfl, hbw⟩

end Go.Proofs.YtcaejndpmagfaaaDoor

namespace Go.Proofs.YtcaejndpmagfaaaDoor
open Go.RowKit

/-- Each the sum of all up to it. -/
def sumsF : Nat → List Nat → List Nat
  | _, [] => []
  | a, x :: r => (a + x) :: sumsF (a + x) r
def total (a : Nat) (l : List Nat) : Nat := l.foldl (· + ·) a
theorem total_cons (a x : Nat) (l : List Nat) : total a (x :: l) = total (a + x) l := rfl
theorem total_snoc (a x : Nat) (l : List Nat) : total a (l ++ [x]) = total a l + x := by simp [total]
theorem sumsF_length (l : List Nat) : ∀ a, (sumsF a l).length = l.length := by
  induction l with
  | nil => intro a; rfl
  | cons x r ih => intro a; simp [sumsF, ih]
theorem sumsF_snoc (l : List Nat) (x : Nat) : ∀ a, sumsF a (l ++ [x]) = sumsF a l ++ [total a l + x] := by
  induction l with
  | nil => intro a; rfl
  | cons y r ih => intro a; simp [sumsF, ih, total_cons]
theorem le_total (l : List Nat) : ∀ a, a ≤ total a l := by
  induction l with
  | nil => intro a; exact Nat.le_refl _
  | cons x r ih => intro a; rw [total_cons]; have := ih (a + x); omega
theorem sumsF_le (l : List Nat) : ∀ a, ∀ p ∈ sumsF a l, a ≤ p ∧ p ≤ total a l := by
  induction l with
  | nil => intro a p hp; cases hp
  | cons x r ih =>
    intro a p hp
    rw [total_cons]
    rcases List.mem_cons.1 hp with rfl | hp
    · exact ⟨by omega, le_total r _⟩
    · have := ih (a + x) p hp
      exact ⟨by omega, this.2⟩
theorem sumsF_last (l : List Nat) (h : l ≠ []) : ∀ a, total a l ∈ sumsF a l := by
  induction l with
  | nil => exact absurd rfl h
  | cons x r ih =>
    intro a
    cases r with
    | nil => simp [sumsF, total]
    | cons y t => exact List.mem_cons_of_mem _ (ih (by simp) (a + x))
theorem total_bound (l : List Nat) (h : ∀ x ∈ l, x ≤ 60000) : ∀ a, total a l ≤ a + 60000 * l.length := by
  induction l with
  | nil => intro a; exact Nat.le_refl _
  | cons x r ih =>
    intro a
    have h1 := ih (fun y hy => h y (by simp [hy])) (a + x)
    have h2 := h x (by simp)
    rw [total_cons, List.length_cons]
    omega

/-- Where the items fall, if all are below. -/
def placesOf (many : Nat) (gaps : List Nat) : Option (List Nat) := if total 0 gaps < many * 37 ∨ gaps = [] then some (sumsF 0 gaps) else none
noncomputable def filterGet (o : List UInt8) : Option (List Nat) :=
  if (varGet o).2 = 0 ∨ 600 < o.length then none
  else match riceGet (o.drop (varGet o).2) ((varGet o).1 : Int) 5 with
    | none => none
    | some gaps => placesOf (varGet o).1 gaps
theorem filterGet_bad {o : List UInt8} (h : (varGet o).2 = 0 ∨ 600 < o.length) : filterGet o = none := by rw [filterGet, if_pos h]
theorem filterGet_none {o : List UInt8} (h : riceGet (o.drop (varGet o).2) ((varGet o).1 : Int) 5 = none) : filterGet o = none := by
  unfold filterGet
  split
  · rfl
  · rw [h]
theorem filterGet_some {o : List UInt8} {gaps : List Nat} (h0 : ¬ ((varGet o).2 = 0 ∨ 600 < o.length)) (h : riceGet (o.drop (varGet o).2) ((varGet o).1 : Int) 5 = some gaps) : filterGet o = placesOf (varGet o).1 gaps := by
  rw [filterGet, if_neg h0, h]

theorem vg_size (f : Nat) : ∀ (l r : List UInt8), (vg f l r).2 ≤ l.length + r.length ∧ (vg f l r).2 ≤ l.length + f ∧ (vg f l r).1 ≤ 2147483647 := by
  induction f with
  | zero => intro l r; simp [vg]
  | succ f ih =>
    intro l r
    cases r with
    | nil => simp [vg]
    | cons b r =>
      rw [vg]
      split
      · have := ih (l ++ [b]) r
        simp at this ⊢
        omega
      · split
        · rename_i hb hv
          refine ⟨by simp, by simp, ?_⟩
          show vNum (l ++ [b]) ≤ 2147483647
          unfold varPut at hv
          split at hv
          · rename_i h
            omega
          · simp at hv
        · simp
theorem varGet_size (o : List UInt8) : (varGet o).2 ≤ o.length ∧ (varGet o).2 ≤ 5 ∧ (varGet o).1 ≤ 2147483647 := by
  have := vg_size 5 [] o
  simpa [varGet] using this

end Go.Proofs.YtcaejndpmagfaaaDoor

namespace Go.Proofs.YtcaejndpmagfaaaDoor
open Go.RowKit

theorem take_sums (l : List Nat) (i : Nat) (h : i < l.length) : sumsF 0 (l.take (i + 1)) = sumsF 0 (l.take i) ++ [total 0 (l.take i) + l.getD i 0] ∧ total 0 (l.take (i + 1)) = total 0 (l.take i) + l.getD i 0 := by
  have e : l.take (i + 1) = l.take i ++ [l.getD i 0] := by
    rw [List.take_add_one, List.getElem?_eq_getElem h, List.getD_eq_getElem?_getD, List.getElem?_eq_getElem h]
    rfl
  rw [e, sumsF_snoc, total_snoc]
  exact ⟨rfl, rfl⟩
theorem total_take_le (l : List Nat) (i : Nat) : total 0 (l.take i) ≤ total 0 l := by
  have e : total 0 l = total (total 0 (l.take i)) (l.drop i) := by
    rw [total, total, total, ← List.foldl_append, List.take_append_drop]
  rw [e]
  exact le_total _ _

end Go.Proofs.YtcaejndpmagfaaaDoor

set_option linter.unusedVariables false
namespace Go.Proofs.YtcaejndpmagfaaaDoor
open Go.Shelf Go.RowKit

set_option maxHeartbeats 1000000 in
set_option maxRecDepth 100000 in
theorem implFilterGet (s : ByteArray) (w : World) (hs : s.size ≤ maxLen) :
    Calls Tryd.prog 15 #[.string s] w fun e w' => ∃ v, e = .returned (.tuple #[v, .bool (filterGet s.data.toList).isSome]) ∧ GotRow w.heap.size v w' (filterGet s.data.toList) ∧ Below w.heap.size w w' := by
  obtain ⟨i0, hi, hz0, hz1, hz2⟩ := info_parts infoIntG
  have hvs := varGet_size s.data.toList
  obtain ⟨mn, sz, hvg⟩ : ∃ mn sz, varGet s.data.toList = (mn, sz) := ⟨_, _, rfl⟩
  have hget := implVarGet s w hs
  have hln : s.data.toList.length = s.size := by simp
  have HBAD : Hid ((sz = 0 ∨ 600 < s.size) → filterGet s.data.toList = none) := by
    intro h
    refine filterGet_bad ?_
    rw [hvg, hln]
    exact h
  have HNONE : Hid (riceGet (s.data.toList.drop sz) (mn : Int) 5 = none → filterGet s.data.toList = none) := by
    intro h
    refine filterGet_none ?_
    rw [hvg]
    exact h
  have HSOME : Hid (∀ gaps, ¬ (sz = 0 ∨ 600 < s.size) → riceGet (s.data.toList.drop sz) (mn : Int) 5 = some gaps → filterGet s.data.toList = placesOf mn gaps) := by
    intro gaps h0 h
    have := filterGet_some (o := s.data.toList) (gaps := gaps) (by rw [hvg, hln]; exact h0) (by rw [hvg]; exact h)
    rw [this, hvg]
  rw [hvg] at hvs hget
  rw [hln] at hvs
  dsimp only at hvs hget
  obtain ⟨hsz, hsz5, hmn⟩ := hvs
  clear hvg hln
  by_cases h0 : sz = 0
  · have HG : Hid (filterGet s.data.toList = none) := HBAD.out (.inl h0)
    rw [HG.out]
    subst h0
    go_enter Tryd.func15, Tryd.ntmps15
    go_wp2_with (go_at_call 32; refine hget.mono ?_; rintro e w1 ⟨rfl, b1⟩)
    go_ret2
    exact ⟨_, rfl, rfl, b1⟩
  · have hne : (((sz : Nat) : Int) == 0) = false := by simp; omega
    by_cases h6 : (600 : Int) < (s.size : Int)
    · have HG : Hid (filterGet s.data.toList = none) := HBAD.out (.inr (by omega))
      rw [HG.out]
      go_enter Tryd.func15, Tryd.ntmps15
      go_wp2_with (go_at_call 32; refine hget.mono ?_; rintro e w1 ⟨rfl, b1⟩)
      go_ret2
      exact ⟨_, rfl, rfl, b1⟩
    · have HOK : Hid (¬ (sz = 0 ∨ 600 < s.size)) := by show ¬ _; omega
      have hbd : 0 ≤ (sz : Int) ∧ (sz : Int) ≤ (s.size : Int) := by omega
      have hex : (s.extract sz s.size).data.toList = s.data.toList.drop sz := by
        simp
        exact List.take_of_length_le (by simp)
      have hrg := fun w => implRiceGet (s.extract sz s.size) (mn : Int) 5 w
      rw [hex] at hrg
      cases hr : riceGet (s.data.toList.drop sz) (mn : Int) 5 with
      | none =>
        have HG : Hid (filterGet s.data.toList = none) := HNONE.out hr
        rw [HG.out]
        rw [hr] at hrg
        dsimp only [Option.isSome] at hrg
        clear hr hex
        go_enter Tryd.func15, Tryd.ntmps15
        go_wp2_with first
          | (go_at_call 32; refine hget.mono ?_; rintro e w1 ⟨rfl, b1⟩)
          | (go_at_call 33; refine (hrg _).mono ?_; rintro e w2 ⟨v2, rfl, g2, b2⟩; obtain rfl : v2 = .slice none 0 0 := g2)
        go_ret2
        exact ⟨_, rfl, rfl, b1.trans (b2.mono b1.size)⟩
      | some gaps =>
        have HG : Hid (filterGet s.data.toList = placesOf mn gaps) := HSOME.out gaps HOK.out hr
        rw [HG.out]
        rw [hr] at hrg
        have hgs := riceGet_some hr
        have HGB : Hid (∀ i, gaps.getD i 0 ≤ 60000) := by
          intro i
          rcases Nat.lt_or_ge i gaps.length with h' | h'
          · rw [List.getD_eq_getElem?_getD, List.getElem?_eq_getElem h']
            exact hgs.2.2.1 _ (List.getElem_mem h')
          · rw [List.getD_eq_getElem?_getD, List.getElem?_eq_none h']
            exact Nat.zero_le _
        have hm40 : mn ≤ 40 ∧ gaps.length = mn := by
          have h1 := hgs.1
          simp only [getOk, Bool.and_eq_true, decide_eq_true_eq] at h1
          have h2 := hgs.2.1
          exact ⟨by omega, by simpa using h2⟩
        obtain ⟨hm40, hgl⟩ := hm40
        have HT : Hid (∀ i, total 0 (gaps.take i) ≤ 2400000) := by
          intro i
          refine Nat.le_trans (total_take_le gaps i) (Nat.le_trans (total_bound gaps hgs.2.2.1 0) ?_)
          omega
        have HGL : Hid (gaps.length = mn) := hgl
        dsimp only [Option.isSome] at hrg
        have hmk := makeCap mn (by omega)
        clear hr hex hgs hgl HNONE HSOME HBAD
        go_enter Tryd.func15, Tryd.ntmps15
        go_wp2_with first
          | (go_at_call 32; refine hget.mono ?_; rintro e w1 ⟨rfl, b1⟩)
          | (go_at_call 33; refine (hrg _).mono ?_; rintro e w2 ⟨v2, rfl, g2, b2⟩; obtain ⟨gg, c2, rfl⟩ := g2.1)
        have HG2 : Hid (OutRow w1.heap.size (.slice (some ⟨gg, 0, none⟩) gaps.length c2) gaps w2) := g2
        have HB2 : Hid (Below w.heap.size w w2) := b1.trans (b2.mono b1.size)
        have HL2 : Hid (gg < w2.heap.size) := g2.lt.2
        have HAT : Hid (At w2 gg (gaps.map fun n : Nat => (n : Int))) := outRow_at g2
        rw [HGL.out]
        have HW3 : Hid (OutRow w2.heap.size (.slice (some ⟨w2.heap.size, 0, none⟩) 0 mn) (sumsF 0 (gaps.take 0)) (w2.alloc (.cells (madeCells #[.int .i64 0] mn) 3))) :=
          ⟨⟨_, _, rfl⟩, rfl, .inr ⟨_, _, _, rfl, Nat.le_refl _, World.alloc_heap_new w2 _, Nat.zero_le _, by unfold maxLen; omega, by rw [madeCells_size0]; omega, rfl⟩⟩
        have HB3 : Hid (Below w2.heap.size w2 (w2.alloc (.cells (madeCells #[.int .i64 0] mn) 3))) := (Below.refl _ w2).alloc (Nat.le_refl _) _
        clear b1 b2 g2 hget hrg hmk
        go_loopw [8, 9, 38] (fun v p i wr => ∃ (k q : Nat), k ≤ mn ∧ q ≤ 2400000 ∧ i = .int .i64 (k : Int) ∧ p = .int .i64 (q : Int) ∧ Hid (q = total 0 (gaps.take k)) ∧ Hid (k = 0 ∨ q < mn * 37) ∧ Hid (OutRow w2.heap.size v (sumsF 0 (gaps.take k)) wr) ∧ Hid (Below w2.heap.size w2 wr)) (fun _ _ i _ => mn - (intOf i).toNat)
        case atStart => exact ⟨0, 0, by omega, by omega, rfl, rfl, rfl, .inl rfl, HW3, HB3⟩
        case round =>
          clear HW3 HB3
          obtain ⟨k, q, hk, hq, rfl, rfl, HQ, HLT, HR, HB⟩ := hrel
          obtain ⟨⟨g3, c3, rfl⟩, hrow⟩ := HR.out
          by_cases hlt : k < mn
          · obtain ⟨x, hx⟩ : ∃ x, x = gaps.getD k 0 := ⟨_, rfl⟩
            have hkg : k < gaps.length := by rw [HGL.out]; exact hlt
            have hst := take_sums gaps k hkg
            have hx6 : x ≤ 60000 := by rw [hx]; exact HGB.out k
            have hq2 : q + x ≤ 2400000 := by have := HT.out (k + 1); rw [hst.2, ← HQ.out, ← hx] at this; exact this
            have cx : wr.cell? ⟨gg, k, none⟩ = some (.int .i64 (x : Int)) := by
              rw [HB.out.cell (p := ⟨gg, k, none⟩) HL2.out, HAT.out.2 k (by simpa using hkg), hx, List.getD_eq_getElem?_getD, List.getElem?_map, List.getD_eq_getElem?_getD, List.getElem?_eq_getElem hkg]
              rfl
            have HS : Hid (sumsF 0 (gaps.take (k + 1)) = sumsF 0 (gaps.take k) ++ [q + x] ∧ q + x = total 0 (gaps.take (k + 1))) := by rw [hst.1, hst.2, ← HQ.out, ← hx]; exact ⟨rfl, rfl⟩
            have HKG : Hid (k < gaps.length) := hkg
            have lk : (k : Int) < (mn : Int) := by omega
            have hlen : (sumsF 0 (gaps.take k)).length = k := by rw [sumsF_length]; simp; omega
            rw [hlen] at hrow HR
            have HRW : Hid (wr.ownsRow w2.heap.size 3 1 (.slice (some ⟨g3, 0, none⟩) k c3) k (intCells (sumsF 0 (gaps.take k)))) := hrow
            have hszr := HB.out.size
            rw [hlen]
            clear hx hst hkg hrow hlen
            by_cases hge : mn * 37 ≤ q + x
            · have hge' : (mn : Int) * 37 ≤ (q : Int) + (x : Int) := by omega
              have HG3 : Hid (placesOf mn gaps = none) := by
                show _ = _
                unfold placesOf
                have h1 := total_take_le gaps (k + 1)
                rw [← HS.out.2] at h1
                have h2 : gaps ≠ [] := by intro e; have := HKG.out; rw [e] at this; cases this
                rw [if_neg]
                rintro (h | h)
                · omega
                · exact h2 h
              clear hge
              go_wp2_with fail
              go_ret2
              rw [HG3.out]
              exact ⟨_, rfl, rfl, HB2.out.trans (HB.out.mono HB2.out.size)⟩
            · have hge' : ¬ (mn : Int) * 37 ≤ (q : Int) + (x : Int) := by omega
              have HGE : Hid (q + x < mn * 37) := Nat.lt_of_not_le hge
              clear hge
              have HK : Hid (k + 1 ≤ mn) := hlt
              have hx1 : k + 1 ≤ maxLen := by unfold maxLen; omega
              have hx2 : (k + 1) * 8 ≤ 140737488355328 := by omega
              go_wp2_with (at_builtin; refine wp_app1 rfl _ _ 31 rfl w2.heap.size 3 i0 (.int .i64 0) 8 Tryd.underlying31 hi hz0 hz1 hz2 rfl _ _ _ rfl HRW.out (.int .i64 ((q + x : Nat) : Int)) rfl rfl hx1 hx2 hszr ?_; intro g4 c4 w4 hown4 hb4 _)
              go_roundw
              case rel =>
                refine ⟨k + 1, q + x, HK.out, hq2, by go_num, by go_num, HS.out.2, .inr HGE.out, ⟨⟨g4, c4, ?_⟩, ?_⟩, HB.out.trans hb4⟩
                · rw [sumsF_length, List.length_take, Nat.min_eq_left (by have := HKG.out; omega)]
                · rw [sumsF_length, List.length_take, Nat.min_eq_left (by have := HKG.out; omega), HS.out.1]
                  simpa [intCells] using hown4
              case measure => have := HK.out; simp [intOf]; omega
          · obtain rfl : k = mn := by omega
            have HP : Hid (placesOf k gaps = some (sumsF 0 gaps)) := by
              show _ = _
              unfold placesOf
              have e : gaps.take k = gaps := List.take_of_length_le (by rw [HGL.out]; exact Nat.le_refl _)
              have h1 := HQ.out
              rw [e] at h1
              rw [if_pos]
              rcases HLT.out with h | h
              · right
                exact List.length_eq_zero_iff.1 (by rw [HGL.out]; exact h)
              · left
                rw [← h1]
                exact h
            have HR2 : Hid (OutRow w2.heap.size (.slice (some ⟨g3, 0, none⟩) (sumsF 0 (gaps.take k)).length c3) (sumsF 0 gaps) wr) := by
              have := HR.out
              rw [List.take_of_length_le (by rw [HGL.out]; exact Nat.le_refl _)] at this ⊢
              exact this
            clear hrow
            go_wp2_with fail
            go_ret2
            rw [HP.out]
            exact ⟨_, rfl, ⟨HR2.out.1, ownsRow_mono HR2.out.2 HB2.out.size⟩, HB2.out.trans (HB.out.mono HB2.out.size)⟩

end Go.Proofs.YtcaejndpmagfaaaDoor

set_option linter.unusedVariables false
namespace Go.Proofs.YtcaejndpmagfaaaDoor
open Go.RowKit

set_option maxHeartbeats 2000000 in
set_option maxRecDepth 100000 in
theorem specGet (s : ByteArray) (w : World) (hs : s.size ≤ maxLen) :
    Calls Tryd.prog 55 #[.string s] w fun e w' => e = .returned (.tuple #[.int .i64 (varGet s.data.toList).1, .int .i64 (varGet s.data.toList).2]) ∧ w = w' := by
  unfold maxLen at hs
  go_enter Tryd.func55, Tryd.ntmps55
  go_wp2
  go_loop [4, 5, 6] (fun n b i => ∃ k p v : Nat, k ≤ s.size ∧ k ≤ 5 ∧ i = .int .i64 k ∧ n = .int .i64 v ∧ b = .int .i64 p ∧ Hid (p = 128 ^ k) ∧ Hid (v = vNum (s.data.toList.take k)) ∧ (∀ c ∈ s.data.toList.take k, 128 ≤ c.toNat) ∧ Hid (vg (5 - k) (s.data.toList.take k) (s.data.toList.drop k) = varGet s.data.toList)) (fun _ _ i => s.size - (intOf i).toNat)
  case atStart => exact ⟨0, 1, 0, by omega, by omega, rfl, rfl, rfl, rfl, rfl, by simp, rfl⟩
  case round =>
    obtain ⟨k, p, v, hk, hk5, rfl, rfl, rfl, HP, HV, hall, heq⟩ := hrel
    have hlen := take_len s k hk
    have hvlt : v < p := by rw [HP.out, HV.out]; have := vNum_lt (s.data.toList.take k); rwa [hlen] at this
    by_cases hlt : k < s.size ∧ k < 5
    · obtain ⟨hlt, h5⟩ := hlt
      have hby : (s[k].toNat : Int) < 256 := by have := s[k].toNat_lt; omega
      have hp1 : p ≤ 268435456 := by rw [HP.out]; exact Nat.pow_le_pow_right (by decide) (show k ≤ 4 by omega)
      obtain ⟨q, hq⟩ : ∃ q, q = s[k].toNat % 128 * p := ⟨_, rfl⟩
      have hq1 : q ≤ 127 * 268435456 := by rw [hq]; exact Nat.mul_le_mul (by omega) hp1
      have hmul : wrap64 ((s[k].toNat : Int) % 128 * (p : Int)) = (q : Int) := by
        have : (s[k].toNat : Int) % 128 * (p : Int) = (q : Int) := by rw [hq]; simp
        rw [this]; unfold wrap64; omega
      have HV1 : Hid (v + q = vNum (s.data.toList.take (k + 1))) := by
        have : v + q = vNum (s.data.toList.take (k + 1)) := by rw [take_snoc s k hlt, vNum_snoc, hlen, ← HV.out, hq, HP.out]
        exact this
      have HP1 : Hid (p * 128 = 128 ^ (k + 1)) := by
        have : p * 128 = 128 ^ (k + 1) := by rw [Nat.pow_succ, ← HP.out]
        exact this
      clear hq
      by_cases hb : 128 ≤ s[k].toNat
      · have hb' : ¬ (s[k].toNat : Int) < 128 := by omega
        have HE : Hid (vg (5 - (k + 1)) (s.data.toList.take (k + 1)) (s.data.toList.drop (k + 1)) = varGet s.data.toList) := by
          have := heq.out
          rw [vg_on s k hlt h5 hb] at this; exact this
        have HA : Hid (∀ c ∈ s.data.toList.take (k + 1), 128 ≤ c.toNat) := by
          intro c hc
          rw [take_snoc s k hlt] at hc
          rcases List.mem_append.1 hc with hc | hc
          · exact hall c hc
          · simp at hc; subst hc; exact hb
        clear heq hall
        go_wp2
        go_round
        case rel => exact ⟨k + 1, p * 128, v + q, by omega, by omega, by go_num, by go_num, by go_num, HP1, HV1, HA, HE⟩
        case measure => simp [intOf]; omega
      · have hb' : (s[k].toNat : Int) < 128 := by omega
        have hends : vEnds (s.data.toList.take k) s[k] := ⟨hall, by omega⟩
        have hiff := varPut_vNum _ _ hends (by omega)
        rw [← take_snoc s k hlt, ← HV1.out] at hiff
        by_cases hp : (s.data.toList.take k = [] ∨ s[k] ≠ 0) ∧ v + q ≤ 2147483647
        · have hpp := hiff.2 hp
          have HE : Hid (varGet s.data.toList = (v + q, k + 1)) := by
            have := heq.out
            rw [vg_yes s k hlt h5 hb (by rw [← HV1.out]; rw [HV1.out] at hpp ⊢; exact hpp), ← HV1.out] at this; exact this.symm
          have h31 : ¬ (2147483647 : Int) < (v : Int) + (q : Int) := by omega
          by_cases hk0 : k = 0
          · subst hk0
            clear heq hall hiff hpp hends
            go_wp2
            go_ret2
            rw [HE.out]
            exact ⟨by simp, rfl⟩
          · have hk1 : (0 : Int) < (k : Int) := by omega
            have hne : ((s[k].toNat : Int) == 0) = false := by
              rcases hp.1 with h0 | h0
              · rw [h0] at hlen; simp at hlen; omega
              · simp
                intro h1
                exact h0 (UInt8.toNat.inj (by simpa using h1))
            clear heq hall hiff hpp hends hp
            go_wp2
            go_ret2
            rw [HE.out]
            exact ⟨by simp, rfl⟩
        · have HE : Hid (varGet s.data.toList = (0, 0)) := by
            have := heq.out
            rw [vg_no s k hlt h5 hb (by rw [← HV1.out]; intro hh; rw [HV1.out] at hh hp hiff; exact hp (hiff.1 hh))] at this; exact this.symm
          by_cases h31 : v + q ≤ 2147483647
          · have h31' : ¬ (2147483647 : Int) < (v : Int) + (q : Int) := by omega
            have hk0 : ¬ k = 0 := by
              intro hk0
              exact hp ⟨Or.inl (List.length_eq_zero_iff.1 (by omega)), h31⟩
            have hk1 : (0 : Int) < (k : Int) := by omega
            have he0 : ((s[k].toNat : Int) == 0) = true := by
              by_cases hz : s[k] = 0
              · simp [hz]
              · exact absurd ⟨Or.inr hz, h31⟩ hp
            clear heq hall hiff hends hp
            go_wp2
            go_ret2
            rw [HE.out]
            exact ⟨rfl, rfl⟩
          · have h31' : (2147483647 : Int) < (v : Int) + (q : Int) := by omega
            clear heq hall hiff hends hp
            by_cases hk0 : k = 0
            · subst hk0
              go_wp2
              go_ret2
              rw [HE.out]
              exact ⟨rfl, rfl⟩
            · have hk1 : (0 : Int) < (k : Int) := by omega
              by_cases he0 : ((s[k].toNat : Int) == 0) = true
              · go_wp2
                go_ret2
                rw [HE.out]
                exact ⟨rfl, rfl⟩
              · have he1 : ((s[k].toNat : Int) == 0) = false := by simpa using he0
                clear he0
                go_wp2
                go_ret2
                rw [HE.out]
                exact ⟨rfl, rfl⟩
    · have HE : Hid (varGet s.data.toList = (0, 0)) := by rw [← heq.out]; exact vg_end s k hlt
      clear heq hall
      by_cases hl : k < s.size
      · have h5 : ¬ k < 5 := fun h => hlt ⟨hl, h⟩
        clear hlt
        go_wp2
        go_ret2
        rw [HE.out]
        exact ⟨rfl, rfl⟩
      · clear hlt
        go_wp2
        go_ret2
        rw [HE.out]
        exact ⟨rfl, rfl⟩

end Go.Proofs.YtcaejndpmagfaaaDoor

set_option linter.unusedVariables false
namespace Go.Proofs.YtcaejndpmagfaaaDoor
open Go.Shelf Go.RowKit

/-- How many a filter tells, if it is one. -/
noncomputable def manyOf2 (o : List UInt8) : Nat := if (filterGet o).isSome then (varGet o).1 else 0

set_option maxHeartbeats 1000000 in
set_option maxRecDepth 100000 in
theorem specPlaces (s : ByteArray) (w : World) (hs : s.size ≤ 1048576) :
    Calls Tryd.prog 39 #[.string s] w fun e w' => ∃ v, e = .returned (.tuple #[v, .int .i64 ((manyOf2 s.data.toList : Nat) : Int), .bool (filterGet s.data.toList).isSome]) ∧ GotRow w.heap.size v w' (filterGet s.data.toList) ∧ Below w.heap.size w w' := by
  obtain ⟨i0, hi, hz0, hz1, hz2⟩ := info_parts infoIntB
  have hvs := varGet_size s.data.toList
  obtain ⟨mn, sz, hvg⟩ : ∃ mn sz, varGet s.data.toList = (mn, sz) := ⟨_, _, rfl⟩
  have hget := specGet s w (by unfold maxLen; omega)
  have hln : s.data.toList.length = s.size := by simp
  have HMY : Hid (∀ l, filterGet s.data.toList = some l → manyOf2 s.data.toList = mn) := by
    intro l h
    unfold manyOf2
    rw [h, hvg]
    rfl
  have HMN : Hid (filterGet s.data.toList = none → ((manyOf2 s.data.toList : Nat) : Int) = 0) := by
    intro h
    unfold manyOf2
    rw [h]
    rfl
  have HBAD : Hid ((sz = 0 ∨ 600 < s.size) → filterGet s.data.toList = none) := by
    intro h
    refine filterGet_bad ?_
    rw [hvg, hln]
    exact h
  have HNONE : Hid (riceGet (s.data.toList.drop sz) (mn : Int) 5 = none → filterGet s.data.toList = none) := by
    intro h
    refine filterGet_none ?_
    rw [hvg]
    exact h
  have HSOME : Hid (∀ gaps, ¬ (sz = 0 ∨ 600 < s.size) → riceGet (s.data.toList.drop sz) (mn : Int) 5 = some gaps → filterGet s.data.toList = placesOf mn gaps) := by
    intro gaps h0 h
    have := filterGet_some (o := s.data.toList) (gaps := gaps) (by rw [hvg, hln]; exact h0) (by rw [hvg]; exact h)
    rw [this, hvg]
  rw [hvg] at hvs hget
  rw [hln] at hvs
  dsimp only at hvs hget
  obtain ⟨hsz, hsz5, hmn⟩ := hvs
  clear hvg hln
  by_cases h0 : sz = 0
  · have HG : Hid (filterGet s.data.toList = none) := HBAD.out (.inl h0)
    rw [HMN.out HG.out, HG.out]
    subst h0
    go_enter Tryd.func39, Tryd.ntmps39
    go_wp2_with (go_at_call 55; refine hget.mono ?_; rintro e w1 ⟨rfl, rfl⟩)
    go_ret3
    exact ⟨_, rfl, rfl, Below.refl _ _⟩
  have hne : (((sz : Nat) : Int) == 0) = false := by simp; omega
  by_cases h40 : (40 : Int) < (mn : Int)
  · have HG : Hid (filterGet s.data.toList = none) := HNONE.out (riceGet_bad (by
      have e1 : decide (0 ≤ (mn : Int) ∧ (mn : Int) ≤ 40) = false := decide_eq_false (by omega)
      simp only [getOk, e1, Bool.false_and]))
    rw [HMN.out HG.out, HG.out]
    go_enter Tryd.func39, Tryd.ntmps39
    go_wp2_with (go_at_call 55; refine hget.mono ?_; rintro e w1 ⟨rfl, rfl⟩)
    go_ret3
    exact ⟨_, rfl, rfl, Below.refl _ _⟩
  by_cases h6 : (600 : Int) < (s.size : Int)
  · have HG : Hid (filterGet s.data.toList = none) := HBAD.out (.inr (by omega))
    rw [HMN.out HG.out, HG.out]
    go_enter Tryd.func39, Tryd.ntmps39
    go_wp2_with (go_at_call 55; refine hget.mono ?_; rintro e w1 ⟨rfl, rfl⟩)
    go_ret3
    exact ⟨_, rfl, rfl, Below.refl _ _⟩
  have HOK : Hid (¬ (sz = 0 ∨ 600 < s.size)) := by show ¬ _; omega
  have hm40 : mn ≤ 40 := by omega
  have hbd : 0 ≤ (sz : Int) ∧ (sz : Int) ≤ (s.size : Int) := by omega
  have hex : (s.extract sz s.size).data.toList = s.data.toList.drop sz := by
    simp
    exact List.take_of_length_le (by simp)
  have hrg := fun w => specRiceGet (s.extract sz s.size) (mn : Int) 5 w (by simp; omega)
  rw [hex] at hrg
  cases hr : riceGet (s.data.toList.drop sz) (mn : Int) 5 with
  | none =>
    have HG : Hid (filterGet s.data.toList = none) := HNONE.out hr
    rw [HMN.out HG.out, HG.out]
    rw [hr] at hrg
    dsimp only [Option.isSome] at hrg
    clear hr hex
    go_enter Tryd.func39, Tryd.ntmps39
    go_wp2_with first
      | (go_at_call 55; refine hget.mono ?_; rintro e w1 ⟨rfl, rfl⟩)
      | (go_at_call 56; refine (hrg _).mono ?_; rintro e w2 ⟨v2, rfl, g2, b2⟩; obtain rfl : v2 = .slice none 0 0 := g2)
    have HB2 : Hid (Below w.heap.size w (w2.alloc (.cells #[] 3))) := b2.alloc b2.size _
    clear b2
    go_loop [11] (fun i => i = .int .i64 0) (fun _ => 0)
    case atStart => rfl
    case round =>
      subst hrel
      go_wp2_with fail
      go_ret3
      exact ⟨_, rfl, rfl, HB2.out⟩
  | some gaps =>
    have HG : Hid (filterGet s.data.toList = placesOf mn gaps) := HSOME.out gaps HOK.out hr
    rw [hr] at hrg
    have hgs := riceGet_some hr
    have HGB : Hid (∀ i, gaps.getD i 0 ≤ 60000) := by
      intro i
      rcases Nat.lt_or_ge i gaps.length with h' | h'
      · rw [List.getD_eq_getElem?_getD, List.getElem?_eq_getElem h']
        exact hgs.2.2.1 _ (List.getElem_mem h')
      · rw [List.getD_eq_getElem?_getD, List.getElem?_eq_none h']
        exact Nat.zero_le _
    have hgl : gaps.length = mn := by simpa using hgs.2.1
    have HT : Hid (∀ i, total 0 (gaps.take i) ≤ 2400000) := by
      intro i
      refine Nat.le_trans (total_take_le gaps i) (Nat.le_trans (total_bound gaps hgs.2.2.1 0) ?_)
      omega
    have HGL : Hid (gaps.length = mn) := hgl
    dsimp only [Option.isSome] at hrg
    clear hr hex hgs hgl HNONE HSOME HBAD
    go_enter Tryd.func39, Tryd.ntmps39
    go_wp2_with first
      | (go_at_call 55; refine hget.mono ?_; rintro e w1 ⟨rfl, rfl⟩)
      | (go_at_call 56; refine (hrg _).mono ?_; rintro e w2 ⟨v2, rfl, g2, b2⟩; obtain ⟨gg, c2, rfl⟩ := g2.1)
    have HB2 : Hid (Below w.heap.size w w2) := b2
    have HL2 : Hid (gg < w2.heap.size) := g2.lt.2
    have HAT : Hid (At w2 gg (gaps.map fun n : Nat => (n : Int))) := outRow_at g2
    rw [HGL.out]
    have HW3 : Hid (OutRow w2.heap.size (.slice (some ⟨w2.heap.size, 0, none⟩) 0 0) (sumsF 0 (gaps.take 0)) (w2.alloc (.cells #[] 3))) := newRow w2
    have HB3 : Hid (Below w2.heap.size w2 (w2.alloc (.cells #[] 3))) := (Below.refl _ w2).alloc (Nat.le_refl _) _
    clear b2 g2 hget hrg
    go_loopw [9, 10, 11] (fun v p i wr => ∃ (k q : Nat), k ≤ mn ∧ q ≤ 2400000 ∧ i = .int .i64 (k : Int) ∧ p = .int .i64 (q : Int) ∧ Hid (q = total 0 (gaps.take k)) ∧ Hid (OutRow w2.heap.size v (sumsF 0 (gaps.take k)) wr) ∧ Hid (Below w2.heap.size w2 wr)) (fun _ _ i _ => mn - (intOf i).toNat)
    case atStart => exact ⟨0, 0, by omega, by omega, rfl, rfl, rfl, HW3, HB3⟩
    case round =>
      clear HW3 HB3
      obtain ⟨k, q, hk, hq, rfl, rfl, HQ, HR, HB⟩ := hrel
      obtain ⟨⟨g3, c3, rfl⟩, hrow⟩ := HR.out
      by_cases hlt : k < mn
      · obtain ⟨x, hx⟩ : ∃ x, x = gaps.getD k 0 := ⟨_, rfl⟩
        have hkg : k < gaps.length := by rw [HGL.out]; exact hlt
        have hst := take_sums gaps k hkg
        have hx6 : x ≤ 60000 := by rw [hx]; exact HGB.out k
        have hq2 : q + x ≤ 2400000 := by have := HT.out (k + 1); rw [hst.2, ← HQ.out, ← hx] at this; exact this
        have cx : wr.cell? ⟨gg, k, none⟩ = some (.int .i64 (x : Int)) := by
          rw [HB.out.cell (p := ⟨gg, k, none⟩) HL2.out, HAT.out.2 k (by simpa using hkg), hx, List.getD_eq_getElem?_getD, List.getElem?_map, List.getD_eq_getElem?_getD, List.getElem?_eq_getElem hkg]
          rfl
        have HS : Hid (sumsF 0 (gaps.take (k + 1)) = sumsF 0 (gaps.take k) ++ [q + x] ∧ q + x = total 0 (gaps.take (k + 1))) := by rw [hst.1, hst.2, ← HQ.out, ← hx]; exact ⟨rfl, rfl⟩
        have HKG : Hid (k < gaps.length) := hkg
        have lk : (k : Int) < (mn : Int) := by omega
        have hlen : (sumsF 0 (gaps.take k)).length = k := by rw [sumsF_length]; simp; omega
        rw [hlen] at hrow HR
        have HRW : Hid (wr.ownsRow w2.heap.size 3 1 (.slice (some ⟨g3, 0, none⟩) k c3) k (intCells (sumsF 0 (gaps.take k)))) := hrow
        have hszr := HB.out.size
        rw [hlen]
        clear hx hst hkg hrow hlen
        have HK : Hid (k + 1 ≤ mn) := hlt
        have hx1 : k + 1 ≤ maxLen := by unfold maxLen; omega
        have hx2 : (k + 1) * 8 ≤ 140737488355328 := by omega
        go_wp2_with (at_builtin; refine wp_app1 rfl _ _ 31 rfl w2.heap.size 3 i0 (.int .i64 0) 8 Tryd.underlying31 hi hz0 hz1 hz2 rfl _ _ _ rfl HRW.out (.int .i64 ((q + x : Nat) : Int)) rfl rfl hx1 hx2 hszr ?_; intro g4 c4 w4 hown4 hb4 _)
        go_roundw
        case rel =>
          refine ⟨k + 1, q + x, HK.out, hq2, by go_num, by go_num, HS.out.2, ⟨⟨g4, c4, ?_⟩, ?_⟩, HB.out.trans hb4⟩
          · rw [sumsF_length, List.length_take, Nat.min_eq_left (by have := HKG.out; omega)]
          · rw [sumsF_length, List.length_take, Nat.min_eq_left (by have := HKG.out; omega), HS.out.1]
            simpa [intCells] using hown4
        case measure => have := HK.out; simp [intOf]; omega
      · obtain rfl : k = mn := by omega
        have e : gaps.take k = gaps := List.take_of_length_le (by rw [HGL.out]; exact Nat.le_refl _)
        have HR2 : Hid (OutRow w2.heap.size (.slice (some ⟨g3, 0, none⟩) (sumsF 0 gaps).length c3) (sumsF 0 gaps) wr) := by
          have := HR.out
          rw [e] at this
          exact this
        have HQ2 : Hid (q = total 0 gaps) := by have := HQ.out; rw [e] at this; exact this
        rw [e]
        have HBB : Hid (Below w.heap.size w wr) := HB2.out.trans (HB.out.mono HB2.out.size)
        clear hrow e
        by_cases hge : k * 37 ≤ q
        · have hge' : (k : Int) * 37 ≤ (q : Int) := by omega
          by_cases hk0 : k = 0
          · subst hk0
            have HF : Hid (filterGet s.data.toList = some (sumsF 0 gaps)) := by
              show _ = _
              rw [HG.out, placesOf, if_pos]
              exact .inr (List.length_eq_zero_iff.1 HGL.out)
            go_wp2_with fail
            go_ret3
            rw [HMY.out _ HF.out, HF.out]
            exact ⟨_, rfl, ⟨HR2.out.1, ownsRow_mono HR2.out.2 HB2.out.size⟩, HBB.out⟩
          · have hk1 : (0 : Int) < (k : Int) := by omega
            have HF : Hid (filterGet s.data.toList = none) := by
              show _ = _
              rw [HG.out, placesOf, if_neg]
              rintro (h | h)
              · rw [← HQ2.out] at h; omega
              · have := HGL.out
                rw [h] at this
                exact hk0 this.symm
            clear hk0 hge
            go_wp2_with fail
            go_ret3
            rw [HMN.out HF.out, HF.out]
            exact ⟨_, rfl, rfl, HBB.out⟩
        · have hge' : ¬ (k : Int) * 37 ≤ (q : Int) := by omega
          have HF : Hid (filterGet s.data.toList = some (sumsF 0 gaps)) := by
            show _ = _
            rw [HG.out, placesOf, if_pos]
            exact .inl (by rw [← HQ2.out]; omega)
          clear hge
          go_wp2_with fail
          go_ret3
          rw [HMY.out _ HF.out, HF.out]
          exact ⟨_, rfl, ⟨HR2.out.1, ownsRow_mono HR2.out.2 HB2.out.size⟩, HBB.out⟩

end Go.Proofs.YtcaejndpmagfaaaDoor

set_option linter.unusedVariables false
namespace Go.Proofs.YtcaejndpmagfaaaDoor
open Go.RowKit

theorem figIndex (b : UInt8) (w : World) :
    Calls Tryd.prog 41 #[.string ⟨#[48, 49, 50, 51, 52, 53, 54, 55, 56, 57, 97, 98, 99, 100, 101, 102]⟩, .int .u8 b.toNat] w fun e w' => e = .returned (.int .i64 (figAt b)) ∧ w = w' := by
  refine (Tryd.strings_IndexByte _ _ _).mono ?_
  rintro e w' ⟨rfl, rfl⟩
  refine ⟨?_, rfl⟩
  have : ((b.toNat : Int).toNat).toUInt8 = b := by simp
  rw [this]
  exact congrArg (fun x => Ending.returned (Value.int .i64 x)) (figAt_eq b)

set_option maxHeartbeats 2000000 in
set_option maxRecDepth 100000 in
theorem implSumOk (s : ByteArray) (w : World) :
    Calls Tryd.prog 21 #[.string s] w fun e w' => e = .returned (.bool (isSum s.data.toList)) ∧ w = w' := by
  by_cases hl : s.size = 16
  · have hl' : ((s.size : Int) != 16) = false := by simp [hl]
    go_enter Tryd.func21, Tryd.ntmps21
    go_wp2
    go_loop [9] (fun i => ∃ k : Nat, k ≤ s.size ∧ i = .int .i64 k ∧ Hid (∀ j (hj : j < s.size), j < k → hexB s[j] = true)) (fun i => s.size - (intOf i).toNat)
    case atStart => exact ⟨0, by omega, rfl, fun j hj h => by omega⟩
    case round =>
      obtain ⟨k, hk, rfl, hall⟩ := hrel
      by_cases hlt : k < s.size
      · cases hx : hexB s[k] with
        | true =>
          have hf : ¬ figAt s[k] < 0 := by rw [figAt_yes _ hx]; omega
          go_wp2_with (go_at_call 41; refine (figIndex _ _).mono ?_; rintro e w1 ⟨rfl, rfl⟩)
          go_round
          case rel =>
            refine ⟨k + 1, by omega, by go_num, ?_⟩
            intro j hj hjk
            rcases Nat.lt_or_ge j k with h | h
            · exact hall.out j hj h
            · obtain rfl : j = k := by omega
              exact hx
          case measure => simp [intOf]; omega
        | false =>
          have hf : figAt s[k] < 0 := by rw [figAt_no _ hx]; decide
          have hno := isSum_no k hlt hx
          go_wp2_with (go_at_call 41; refine (figIndex _ _).mono ?_; rintro e w1 ⟨rfl, rfl⟩)
          go_ret
          rw [hno]
          exact ⟨rfl, rfl⟩
      · have hyes := isSum_yes hl (fun j hj => hall.out j hj (by omega))
        go_wp2
        go_ret
        exact ⟨rfl, rfl⟩
  · have hl' : ((s.size : Int) != 16) = true := by simp; omega
    have hno : isSum s.data.toList = false := by
      cases hh : isSum s.data.toList with
      | false => rfl
      | true => exact absurd (by simpa using isSum_len hh) hl
    go_enter Tryd.func21, Tryd.ntmps21
    go_wp2
    go_ret
    rw [hno]
    exact ⟨rfl, rfl⟩

set_option maxHeartbeats 2000000 in
set_option maxRecDepth 100000 in
theorem implSumHead (s : ByteArray) (w : World) :
    Calls Tryd.prog 34 #[.string s] w fun e w' => e = .returned (.int .i64 (sumHead s.data.toList)) ∧ w = w' := by
  cases hx : isSum s.data.toList with
  | false =>
    have hv : sumHead s.data.toList = -1 := by simp [sumHead, hx]
    rw [hv]
    go_enter Tryd.func34, Tryd.ntmps34
    go_wp2_with (go_at_call 21; refine (implSumOk _ _).mono ?_; rintro e w1 ⟨rfl, rfl⟩)
    go_ret
    exact ⟨rfl, rfl⟩
  | true =>
    have HV : Hid (sumHead s.data.toList = ((hexN (s.data.toList.take 8) / 2 : Nat) : Int)) := by simp [Hid, sumHead, hx]
    have hsz : s.size = 16 := by simpa using isSum_len hx
    have HX : Hid (isSum s.data.toList = true) := hx
    go_enter Tryd.func34, Tryd.ntmps34
    go_wp2_with (go_at_call 21; refine (implSumOk _ _).mono ?_; rintro e w1 ⟨rfl, rfl⟩)
    clear hx
    go_loop [3, 8] (fun h i => ∃ k n : Nat, k ≤ 8 ∧ i = .int .i64 k ∧ h = .int .u32 n ∧ Hid (n = hexN (s.data.toList.take k))) (fun _ i => 8 - (intOf i).toNat)
    case atStart => exact ⟨0, 0, by omega, rfl, rfl, rfl⟩
    case round =>
      obtain ⟨k, n, hk, rfl, rfl, hn⟩ := hrel
      by_cases hlt : k < 8
      · have hks : k < s.size := by omega
        have hxk := isSum_at HX.out k hks
        have hf : figAt s[k] = (hexV s[k] : Int) := figAt_yes _ hxk
        have hvl := hexV_lt _ hxk
        have hall : (s.data.toList.take k).all hexB = true := by
          rw [List.all_eq_true]
          intro b hb
          have := HX.out
          simp only [isSum, Bool.and_eq_true, List.all_eq_true] at this
          exact this.2 b (List.mem_of_mem_take hb)
        have hle := hexN_le _ hall
        rw [take_len s k (by omega), ← hn.out] at hle
        have h7 : 16 ^ k ≤ 16 ^ 7 := Nat.pow_le_pow_right (by decide) (by omega)
        have hor := or16 n (hexV s[k]) (by omega) hvl
        have HN : Hid (n * 16 + hexV s[k] = hexN (s.data.toList.take (k + 1))) := by
          have := hexN_snoc (s.data.toList.take k) s[k]
          rw [← take_snoc s k hks, ← hn.out] at this
          exact this.symm
        clear hall hle h7
        go_wp2_with (go_at_call 41; refine (figIndex _ _).mono ?_; rintro e w1 ⟨rfl, rfl⟩)
        go_round
        case rel => exact ⟨k + 1, _, by omega, by go_num, rfl, HN⟩
        case measure => simp [intOf]; omega
      · obtain rfl : k = 8 := by omega
        have hall : (s.data.toList.take 8).all hexB = true := by
          rw [List.all_eq_true]
          intro b hb
          have := HX.out
          simp only [isSum, Bool.and_eq_true, List.all_eq_true] at this
          exact this.2 b (List.mem_of_mem_take hb)
        have hle := hexN_le _ hall
        rw [take_len s 8 (by omega), ← hn.out] at hle
        clear hall
        go_wp2
        go_ret
        rw [HV.out, ← hn.out]
        exact ⟨by simp, rfl⟩

end Go.Proofs.YtcaejndpmagfaaaDoor

set_option linter.unusedVariables false
namespace Go.Proofs.YtcaejndpmagfaaaDoor
open Go.RowKit

theorem turn32_eq (x j : Nat) (hx : x < 4294967296) (hj : j ≤ 31) : bits .or .u32 ((x : Int) / 2 ^ j) ((x : Int) * 2 ^ (32 - j) % 4294967296) = ((rotr x j : Nat) : Int) := by
  have e1 : (x : Int) * 2 ^ (32 - j) % 4294967296 = ((x * 2 ^ (32 - j) % 4294967296 : Nat) : Int) := by simp
  have e2 : (x : Int) / 2 ^ j = ((x / 2 ^ j : Nat) : Int) := by simp
  rw [e1, e2, or32 _ _ (Nat.lt_of_le_of_lt (Nat.div_le_self _ _) hx) (Nat.mod_lt _ (by decide))]
  rfl

set_option maxHeartbeats 400000 in
set_option maxRecDepth 100000 in
theorem turnI (x : Nat) (k : Int) (w : World) (hx : x < 4294967296) (hk : 1 ≤ k) (hk' : k ≤ 31) :
    Calls Tryd.prog 88 #[.int .u32 x, .int .u64 k] w fun e w' => e = .returned (.int .u32 (rotr x k.toNat : Nat)) ∧ w = w' := by
  obtain ⟨j, rfl⟩ := Int.eq_ofNat_of_zero_le (show 0 ≤ k by omega)
  go_enter Tryd.func88, Tryd.ntmps88
  go_wp2
  go_ret
  rw [Int.toNat_natCast, ← turn32_eq x j hx (by omega)]
  exact ⟨rfl, rfl⟩

theorem x332 (p q r v : Nat) (hp : p < 4294967296) (hq : q < 4294967296) (hr : r < 4294967296) (hv : v = p ^^^ q ^^^ r) : bits .xor .u32 (bits .xor .u32 (p : Int) (q : Int)) (r : Int) = (v : Int) := by
  rw [xor32 _ _ hp hq, xor32 _ _ (xor_lt hp hq) hr, hv]

set_option maxHeartbeats 400000 in
set_option maxRecDepth 100000 in
theorem firstI (x : Nat) (w : World) (hx : x < 4294967296) :
    Calls Tryd.prog 71 #[.int .u32 x] w fun e w' => e = .returned (.int .u32 (big0 x : Nat)) ∧ w = w' := by
  have r := x332 (rotr x 2) (rotr x 13) (rotr x 22) (big0 x) (rotr_lt _ _ hx) (rotr_lt _ _ hx) (rotr_lt _ _ hx) rfl
  go_enter Tryd.func71, Tryd.ntmps71
  go_wp2_with (go_at_call 88; refine (turnI _ _ _ hx (by omega) (by omega)).mono ?_; rintro e w1 ⟨rfl, rfl⟩)
  go_ret
  exact ⟨rfl, rfl⟩

set_option maxHeartbeats 400000 in
set_option maxRecDepth 100000 in
theorem fifthI (x : Nat) (w : World) (hx : x < 4294967296) :
    Calls Tryd.prog 69 #[.int .u32 x] w fun e w' => e = .returned (.int .u32 (big1 x : Nat)) ∧ w = w' := by
  have r := x332 (rotr x 6) (rotr x 11) (rotr x 25) (big1 x) (rotr_lt _ _ hx) (rotr_lt _ _ hx) (rotr_lt _ _ hx) rfl
  go_enter Tryd.func69, Tryd.ntmps69
  go_wp2_with (go_at_call 88; refine (turnI _ _ _ hx (by omega) (by omega)).mono ?_; rintro e w1 ⟨rfl, rfl⟩)
  go_ret
  exact ⟨rfl, rfl⟩

set_option maxHeartbeats 400000 in
set_option maxRecDepth 100000 in
theorem nearI (x : Nat) (w : World) (hx : x < 4294967296) :
    Calls Tryd.prog 73 #[.int .u32 x] w fun e w' => e = .returned (.int .u32 (sig0 x : Nat)) ∧ w = w' := by
  have r := x332 (rotr x 7) (rotr x 18) (x / 8) (sig0 x) (rotr_lt _ _ hx) (rotr_lt _ _ hx) (by omega) rfl
  rw [show ((x / 8 : Nat) : Int) = (x : Int) / 8 from by simp] at r
  go_enter Tryd.func73, Tryd.ntmps73
  go_wp2_with (go_at_call 88; refine (turnI _ _ _ hx (by omega) (by omega)).mono ?_; rintro e w1 ⟨rfl, rfl⟩)
  go_ret
  exact ⟨rfl, rfl⟩

set_option maxHeartbeats 400000 in
set_option maxRecDepth 100000 in
theorem farI (x : Nat) (w : World) (hx : x < 4294967296) :
    Calls Tryd.prog 74 #[.int .u32 x] w fun e w' => e = .returned (.int .u32 (sig1 x : Nat)) ∧ w = w' := by
  have r := x332 (rotr x 17) (rotr x 19) (x / 1024) (sig1 x) (rotr_lt _ _ hx) (rotr_lt _ _ hx) (by omega) rfl
  rw [show ((x / 1024 : Nat) : Int) = (x : Int) / 1024 from by simp] at r
  go_enter Tryd.func74, Tryd.ntmps74
  go_wp2_with (go_at_call 88; refine (turnI _ _ _ hx (by omega) (by omega)).mono ?_; rintro e w1 ⟨rfl, rfl⟩)
  go_ret
  exact ⟨rfl, rfl⟩

set_option maxHeartbeats 400000 in
set_option maxRecDepth 100000 in
theorem chooseI (e f g : Nat) (w : World) (he : e < 4294967296) (hf : f < 4294967296) (hg : g < 4294967296) :
    Calls Tryd.prog 70 #[.int .u32 e, .int .u32 f, .int .u32 g] w fun r w' => r = .returned (.int .u32 (chs e f g : Nat)) ∧ w = w' := by
  have h1 : bits .xor .u32 IntKind.u32.max (e : Int) = ((4294967295 ^^^ e : Nat) : Int) := by
    have hm : IntKind.u32.max = ((4294967295 : Nat) : Int) := by decide
    rw [hm]
    exact xor32 4294967295 e (by decide) he
  have h2 : 4294967295 ^^^ e < 4294967296 := xor_lt (by decide) he
  have r : bits .xor .u32 (bits .and .u32 (e : Int) (f : Int)) (bits .and .u32 (bits .xor .u32 IntKind.u32.max (e : Int)) (g : Int)) = ((chs e f g : Nat) : Int) := by
    rw [h1, and32 _ _ he hf, and32 _ _ h2 hg, xor32 _ _ (and_lt hf) (and_lt hg)]
    rfl
  clear h1 h2
  go_enter Tryd.func70, Tryd.ntmps70
  go_wp2
  go_ret
  exact ⟨rfl, rfl⟩

set_option maxHeartbeats 400000 in
set_option maxRecDepth 100000 in
theorem mostI (a b c : Nat) (w : World) (ha : a < 4294967296) (hb : b < 4294967296) (hc : c < 4294967296) :
    Calls Tryd.prog 72 #[.int .u32 a, .int .u32 b, .int .u32 c] w fun r w' => r = .returned (.int .u32 (maj a b c : Nat)) ∧ w = w' := by
  have r : bits .xor .u32 (bits .xor .u32 (bits .and .u32 (a : Int) (b : Int)) (bits .and .u32 (a : Int) (c : Int))) (bits .and .u32 (b : Int) (c : Int)) = ((maj a b c : Nat) : Int) := by
    rw [and32 _ _ ha hb, and32 _ _ ha hc, and32 _ _ hb hc]
    exact x332 _ _ _ _ (and_lt hb) (and_lt hc) (and_lt hc) rfl
  go_enter Tryd.func72, Tryd.ntmps72
  go_wp2
  go_ret
  exact ⟨rfl, rfl⟩

end Go.Proofs.YtcaejndpmagfaaaDoor

namespace Go.Proofs.YtcaejndpmagfaaaDoor
open Go.RowKit

/-- A row of bytes of the call's own: none of its places is frozen. -/
def ByteRow (e : TypeId) (base : Nat) (w : World) (v : Value) (l : List UInt8) : Prop :=
  ∃ g cap cur fz, v = .slice (some ⟨g, 0, none⟩) l.length cap ∧ base ≤ g ∧ w.heap[g]? = some (.cells cur e fz) ∧ (fz = (0, 0) ∨ cap ≤ fz.1) ∧ l.length ≤ cap ∧ cap ≤ maxLen ∧ cur.size = cap ∧ cur.toList.take l.length = Lib.byteCells l

theorem ByteRow.cells {e : TypeId} {base : Nat} {w : World} {g n cap : Nat} {l : List UInt8} (h : ByteRow e base w (.slice (some ⟨g, 0, none⟩) n cap) l) (j : Nat) (hj : j < l.length) : w.cell? ⟨g, j, none⟩ = some (.int .u8 (l[j].toNat : Int)) := by
  obtain ⟨g', cap', cur, fz, hv, _, hb, _, _, _, hs, ht⟩ := h
  simp only [Value.slice.injEq, Option.some.injEq, Addr.mk.injEq, and_true] at hv
  obtain ⟨rfl, _, rfl⟩ := hv
  rw [Lib.cell_of_heap hb]
  have : cur.toList[j]? = (Lib.byteCells l)[j]? := by rw [← ht, List.getElem?_take]; simp [hj]
  rw [← Array.getElem?_toList, this]
  simp [Lib.byteCells, List.getElem?_eq_getElem hj]

theorem ByteRow.frozen {e : TypeId} {base : Nat} {w : World} {g n cap : Nat} {l : List UInt8} (h : ByteRow e base w (.slice (some ⟨g, 0, none⟩) n cap) l) (j : Nat) (hj : j < cap) : w.frozen? ⟨g, j, none⟩ = false ∧ (w.cell? ⟨g, j, none⟩).isSome = true := by
  obtain ⟨g', cap', cur, fz, hv, _, hb, hfz, _, _, hs, _⟩ := h
  simp only [Value.slice.injEq, Option.some.injEq, Addr.mk.injEq, and_true] at hv
  obtain ⟨rfl, _, rfl⟩ := hv
  refine ⟨?_, ?_⟩
  · unfold World.frozen?
    rw [hb]
    rcases hfz with rfl | hfz
    · simp
    · obtain ⟨lo, hi⟩ := fz
      simp only [Bool.and_eq_false_iff, decide_eq_false_iff_not]
      left
      simp at hfz
      omega
  · rw [Lib.cell_of_heap hb]
    simp
    omega

theorem ByteRow.keep {e : TypeId} {base B : Nat} {w w' : World} {v : Value} {l : List UInt8} (h : ByteRow e base w v l) (hb : Below B w w') (hlt : ∀ g n cap, v = .slice (some ⟨g, 0, none⟩) n cap → g < B) : ByteRow e base w' v l := by
  obtain ⟨g, cap, cur, fz, hv, h1, h2, h3⟩ := h
  exact ⟨g, cap, cur, fz, hv, h1, by rw [hb.block g (hlt _ _ _ hv)]; exact h2, h3⟩
theorem ByteRow.lt {e : TypeId} {base : Nat} {w : World} {g n cap : Nat} {l : List UInt8} (h : ByteRow e base w (.slice (some ⟨g, 0, none⟩) n cap) l) : base ≤ g ∧ g < w.heap.size := by
  obtain ⟨g', cap', cur, fz, hv, h1, hb, _⟩ := h
  simp only [Value.slice.injEq, Option.some.injEq, Addr.mk.injEq, and_true] at hv
  obtain ⟨rfl, _, rfl⟩ := hv
  refine ⟨h1, ?_⟩
  rcases Nat.lt_or_ge g w.heap.size with h' | h'
  · exact h'
  · simp [Array.getElem?_eq_none h'] at hb

/-- 'append(bs, b)' of one byte. -/
theorem wp_appB {P : Program} {w : World} {ops : Array Oper} {rest : List Oper} {o : Oper} {a : Act} {Q : Exit → Act → World → Prop} (hgd : o.guard = none) (s x : Operand) (t : TypeId)
    (ho : o.op = .call { callee := .builtin .append, args := #[s, x], argTypes := #[t, t] })
    (base : Nat) (e : TypeId) (i : TypeInfo) (ht : P.underlying t = some (.slice e)) (hi : P.info? e = some i) (hz : i.zero = some (.int .u8 0)) (hsize : i.size = 1) (hby : i.bytes = 1)
    (g n cap : Nat) (l : List UInt8) (hn : n = l.length) (hs : a.eval s = .slice (some ⟨g, 0, none⟩) n cap) (hrow : ByteRow e base w (.slice (some ⟨g, 0, none⟩) n cap) l)
    (b : UInt8) (c : Int) (hc : c = (b.toNat : Int)) (hx : a.eval x = .slice (some ⟨w.heap.size, 0, none⟩) 1 1)
    (h63 : n + 1 ≤ 140737488355328) (hbase : base ≤ w.heap.size)
    (h : ∀ g' cap' w', ByteRow e base w' (.slice (some ⟨g', 0, none⟩) (n + 1) cap') (l ++ [b]) → Below base w w' →
      wpList P ops Q rest (a.put o.dst (.slice (some ⟨g', 0, none⟩) (n + 1) cap')) w') :
    wpList P ops Q (o :: rest) a (w.alloc (.cells #[.int .u8 c] e)) := by
  subst hc
  subst hn
  have hlt := hrow.lt
  have hk : (w.alloc (.cells #[.int .u8 (b.toNat : Int)] e)).heap[g]? = w.heap[g]? := Below.heap_alloc _ _ _ hlt.2
  have hrow' : ByteRow e base (w.alloc (.cells #[.int .u8 (b.toNat : Int)] e)) (.slice (some ⟨g, 0, none⟩) l.length cap) l :=
    hrow.keep ((Below.refl w.heap.size w).alloc (Nat.le_refl _) _) (fun g' n' c' hv => by simp only [Value.slice.injEq, Option.some.injEq, Addr.mk.injEq, and_true] at hv; rw [← hv.1]; exact hlt.2)
  refine wpList_append_arg _ hgd s x t ho e i (.int .u8 0) 1 1 ht hi hz hsize hby rfl (by decide) g 0 l.length cap (Lib.byteCells l) hs (by rw [Lib.byteCells_length]; omega) ?_ ⟨w.heap.size, 0, none⟩ 1 1 [.int .u8 (b.toNat : Int)] hx rfl (cell_one_new _ _ _) ?_ ?_ (by unfold maxLen; omega) (by omega) ?_ ?_
  · intro j u hu
    have hj : j < l.length := by have := (List.getElem?_eq_some_iff.1 hu).1; rwa [Lib.byteCells_length] at this
    rw [Nat.zero_add, hrow'.cells j hj]
    simpa [Lib.byteCells, List.getElem?_eq_getElem hj] using hu
  · intro u hu
    simp at hu
    subst hu
    rfl
  · intro hroom j hj
    obtain rfl : j = 0 := by simpa using hj
    have := hrow'.frozen l.length (by omega)
    refine ⟨?_, ?_⟩
    · simpa using this.2
    · simpa using this.1
  · intro hroom
    have hset : (w.alloc (.cells #[.int .u8 (b.toNat : Int)] e)).setCells g (0 + l.length * 1) [.int .u8 (b.toNat : Int)] = (w.alloc (.cells #[.int .u8 (b.toNat : Int)] e)).setCell ⟨g, l.length, none⟩ (.int .u8 (b.toNat : Int)) := by
      simp [World.setCells]
    rw [hset]
    refine h g cap _ ?_ (((Below.refl base w).alloc hbase _).setCell (p := ⟨g, l.length, none⟩) hlt.1 _)
    obtain ⟨g', cap', cur, fz, hv, h1, hb, hfz, hle, hm, hsz, htk⟩ := hrow'
    simp only [Value.slice.injEq, Option.some.injEq, Addr.mk.injEq, and_true] at hv
    obtain ⟨rfl, _, rfl⟩ := hv
    refine ⟨g, cap, cur.setIfInBounds l.length (.int .u8 (b.toNat : Int)), fz, by simp, h1, ?_, hfz, by simp; omega, hm, by simp [hsz], ?_⟩
    · simp only [World.setCell, Array.getElem?_modify, hb]
      simp
    · rw [Lib.byteCells_append, List.length_append]
      show List.take (l.length + 1) _ = _
      rw [Array.toList_setIfInBounds]
      have hlc : l.length < cur.toList.length := by simp; omega
      rw [List.take_succ_eq_append_getElem (by simpa using hlc)]
      rw [List.take_set_of_le (Nat.le_refl _), htk]
      simp [Lib.byteCells]
  · intro hgrow v' w' hown hg
    obtain ⟨g', cap', cur, rfl, h1, hb, hle, hm, hsz, htk⟩ : ∃ g' cap' cur, v' = .slice (some ⟨g', 0, none⟩) (l.length + 1) cap' ∧ (w.alloc (.cells #[.int .u8 (b.toNat : Int)] e)).heap.size ≤ g' ∧ w'.heap[g']? = some (.cells cur e (0, 0)) ∧ l.length + 1 ≤ cap' ∧ cap' ≤ maxLen ∧ cur.size = cap' * 1 ∧ cur.toList.take ((l.length + 1) * 1) = Lib.byteCells l ++ [.int .u8 (b.toNat : Int)] := by
      rcases hown.2 with ⟨_, h0⟩ | ⟨g', cap', cur, hv, r⟩
      · omega
      · exact ⟨g', cap', cur, hv, r⟩
    refine h g' cap' w' ⟨g', cap', cur, (0, 0), by simp, by simp at h1; omega, hb, Or.inl rfl, by simp; omega, hm, by omega, ?_⟩ (((Below.refl base w).alloc hbase _).grown hg (by simp; omega) (fun k hk => by simp at hk))
    rw [Lib.byteCells_append, List.length_append]
    simpa [Lib.byteCells] using htk

end Go.Proofs.YtcaejndpmagfaaaDoor

set_option linter.unusedVariables false
namespace Go.Proofs.YtcaejndpmagfaaaDoor
open Go.RowKit

def lenB (n : Nat) : List UInt8 := (List.range 8).map fun j => UInt8.ofNat (n / 2 ^ (8 * (7 - j)) % 256)
def padZ (n : Nat) : Nat := padLen n - n - 9
def padB (t : List UInt8) : List UInt8 := t ++ 128 :: List.replicate (padZ t.length) 0 ++ lenB (t.length * 8)
theorem lenB_take (n j : Nat) (h : j < 8) : (lenB n).take (j + 1) = (lenB n).take j ++ [UInt8.ofNat (n / 2 ^ (8 * (7 - j)) % 256)] := by
  have hl : j < (lenB n).length := by simp [lenB]; omega
  rw [List.take_succ_eq_append_getElem hl]
  simp [lenB]
theorem len_digit (n j : Nat) (hn : n < 18446744073709551616) (hj : j < 8) : n * 256 ^ j % 18446744073709551616 / 72057594037927936 = n / 2 ^ (8 * (7 - j)) % 256 := by
  match j, hj with
  | 0, _ => simp; omega
  | 1, _ => simp; omega
  | 2, _ => simp; omega
  | 3, _ => simp; omega
  | 4, _ => simp; omega
  | 5, _ => simp; omega
  | 6, _ => simp; omega
  | 7, _ => simp; omega
theorem padB_length (t : List UInt8) : (padB t).length = padLen t.length := by
  simp [padB, lenB, padZ, padLen]
  omega

theorem infoU8i : (Tryd.prog.info? 5).map (fun i => (i.zero, i.size, i.bytes)) = some (some (.int .u8 0), 1, 1) := by kernel_rfl

theorem byteRow_of_text (e : TypeId) (w : World) (s : ByteArray) (hs : s.size ≤ 1073741824) :
    ByteRow e w.heap.size (w.drew.alloc (.cells (bytesRow s (grownCap w s.size 0 e)) e ((bytesRow s (grownCap w s.size 0 e)).size, (bytesRow s (grownCap w s.size 0 e)).size + 1))) (.slice (some ⟨w.heap.size, 0, none⟩) s.size (grownCap w s.size 0 e)) s.data.toList := by
  have hge := grownCap_ge w s.size 0 e
  have hcm := grownCap_le_maxLen w s.size 0 e (by unfold maxLen; omega)
  have hsz : (bytesRow s (grownCap w s.size 0 e)).size = grownCap w s.size 0 e := by
    simp [bytesRow]
    have : s.data.size = s.size := rfl
    omega
  refine ⟨w.heap.size, _, _, _, by simp, Nat.le_refl _, heap_alloc_new w.drew _, Or.inr (by rw [hsz]; exact Nat.le_refl _), by simpa using hge, hcm, hsz, ?_⟩
  simp [bytesRow, Lib.byteCells]

def lenOf : Value → Nat
  | .slice _ n _ => n
  | _ => 0

set_option maxHeartbeats 1000000 in
set_option maxRecDepth 100000 in
theorem paddedI (s : ByteArray) (w : World) (hs : s.size ≤ 1073741824) :
    Calls Tryd.prog 51 #[.string s] w fun e w' => ∃ g cap, e = .returned (.slice (some ⟨g, 0, none⟩) (padLen s.size) cap) ∧ ByteRow 5 w.heap.size w' (.slice (some ⟨g, 0, none⟩) (padLen s.size) cap) (padB s.data.toList) ∧ Below w.heap.size w w' := by
  obtain ⟨i0, hi, hz0, hz1, hz2⟩ := info_parts infoU8i
  have hcv := run_bytes_of_string (P := Tryd.prog) w 9 28 5 s Tryd.underlying9 Tryd.underlying28 Tryd.underlying5
  have hrow0 := byteRow_of_text 5 w s hs
  have hb0 : Below w.heap.size w (w.drew.alloc (.cells (bytesRow s (grownCap w s.size 0 5)) 5 ((bytesRow s (grownCap w s.size 0 5)).size, (bytesRow s (grownCap w s.size 0 5)).size + 1))) := (Below.drew (Below.refl _ w)).alloc (Nat.le_refl _) _
  generalize (w.drew.alloc (.cells (bytesRow s (grownCap w s.size 0 5)) 5 ((bytesRow s (grownCap w s.size 0 5)).size, (bytesRow s (grownCap w s.size 0 5)).size + 1))) = w1 at hcv hrow0 hb0
  generalize grownCap w s.size 0 5 = cap0 at hcv hrow0
  have hsz0 := hb0.size
  have hlen0 : s.size = s.data.toList.length := by simp
  have HL0 : Hid (s.size = s.data.toList.length) := hlen0
  clear hlen0
  go_enter Tryd.func51, Tryd.ntmps51
  go_wp2_with (at_builtin; refine wp_appB rfl _ _ 28 rfl w.heap.size 5 i0 Tryd.underlying28 hi hz0 hz1 hz2 w.heap.size s.size cap0 s.data.toList HL0.out rfl hrow0 128 128 rfl rfl (by omega) hsz0 ?_)
  intro g1 cap1 w2 hrow1 hb1
  clear hcv hrow0
  have hb2 := hb0.trans hb1
  have HZ : Hid (padLen s.size = s.size + 9 + padZ s.size ∧ padLen s.size % 64 = 0 ∧ padZ s.size ≤ 63) := by
    show _ ∧ _ ∧ _
    unfold padZ padLen
    omega
  have HPB : Hid (padB s.data.toList = s.data.toList ++ 128 :: List.replicate (padZ s.size) 0 ++ lenB (s.size * 8)) := by
    show _ = _
    rw [padB, ← HL0.out]
  obtain ⟨t, ht⟩ : ∃ t, t = s.data.toList := ⟨_, rfl⟩
  obtain ⟨L, hL⟩ : ∃ L, L = padLen s.size := ⟨_, rfl⟩
  rw [← ht] at hrow1 HL0 HPB
  rw [← hL] at HZ
  generalize padZ s.size = Z at HZ HPB
  have HTT : Hid (t = s.data.toList) := ht
  have HLL : Hid (L = padLen s.size) := hL
  clear ht hL
  go_wp2
  go_loopw [3] (fun v wr => ∃ k n g cap : Nat, k ≤ Z ∧ Hid (n = s.size + 1 + k) ∧ n ≤ 1073741900 ∧ v = .slice (some ⟨g, 0, none⟩) n cap ∧ ByteRow 5 w.heap.size wr (.slice (some ⟨g, 0, none⟩) n cap) (t ++ 128 :: List.replicate k 0) ∧ Below w.heap.size w wr) (fun v _ => L - lenOf v)
  case atStart => exact ⟨0, s.size + 1, g1, cap1, by omega, rfl, by omega, rfl, hrow1, hb2⟩
  case round =>
    clear hrow1 hb1 hb2
    obtain ⟨k, n, g, cap, hk, hn, hn2, rfl, hrow, hbw⟩ := hrel
    have hsz := hbw.size
    have hln : n = (t ++ 128 :: List.replicate k 0).length := by rw [hn.out]; simp; rw [← HL0.out]; omega
    by_cases hlt : k < Z
    · have hne : (((n : Int) % 64) != 56) = true := by
        have h1 := HZ.out; have h2 := hn.out
        rw [bne_iff_ne]
        omega
      have HLN : Hid (n = (t ++ 128 :: List.replicate k 0).length) := hln
      clear hln
      go_wp2_with (at_builtin; refine wp_appB rfl _ _ 28 rfl w.heap.size 5 i0 Tryd.underlying28 hi hz0 hz1 hz2 g n cap (t ++ 128 :: List.replicate k 0) HLN.out rfl hrow 0 0 rfl rfl (by omega) hsz ?_)
      intro g2 cap2 w3 hrow3 hb3
      have hrow4 : ByteRow 5 w.heap.size w3 (.slice (some ⟨g2, 0, none⟩) (n + 1) cap2) (t ++ 128 :: List.replicate (k + 1) 0) := by
        rw [List.replicate_succ']
        simpa using hrow3
      clear hrow3
      go_wp2
      go_roundw
      case rel => exact ⟨k + 1, n + 1, g2, cap2, by omega, by show n + 1 = _; have := hn.out; omega, by have := hn.out; have := HZ.out; omega, rfl, hrow4, hbw.trans hb3⟩
      case measure => show L - (n + 1) < L - n; have := hn.out; have := HZ.out; omega
    · have hkz : k = Z := by omega
      have hne : (((n : Int) % 64) != 56) = false := by
        have h1 := HZ.out; have h2 := hn.out
        rw [bne_eq_false_iff_eq]
        omega
      have HN : Hid (n + 8 = L) := by show _ = _; have := HZ.out; have := hn.out; omega
      have HLN : Hid (n = (t ++ 128 :: List.replicate k 0).length) := hln
      have HKZ : Hid (k = Z) := hkz
      obtain ⟨w0, rfl⟩ : ∃ w0 : World, w0 = wr := ⟨_, rfl⟩
      obtain ⟨T, hT⟩ : ∃ T, T = t ++ 128 :: List.replicate k 0 := ⟨_, rfl⟩
      rw [← hT] at hrow HLN
      have HT : Hid (T = t ++ 128 :: List.replicate k 0) := hT
      clear hln hkz hT hk hlt hn
      go_wp2
      go_loopw [3, 4, 20] (fun v m i wr => ∃ j y g cap : Nat, j ≤ 8 ∧ i = .int .i64 j ∧ m = .int .u64 y ∧ Hid (y = s.size * 8 * 256 ^ j % 18446744073709551616) ∧ v = .slice (some ⟨g, 0, none⟩) (n + j) cap ∧ ByteRow 5 w.heap.size wr (.slice (some ⟨g, 0, none⟩) (n + j) cap) (T ++ (lenB (s.size * 8)).take j) ∧ Below w.heap.size w wr) (fun _ _ i _ => 8 - (intOf i).toNat)
      case atStart => exact ⟨0, s.size * 8, g, cap, by omega, rfl, by go_num, by show _ = _; simp; omega, rfl, by simpa using hrow, hbw⟩
      case round =>
        clear hrow hbw hsz
        obtain ⟨j, y, g2, cap2, hj, rfl, rfl, hy, rfl, hrow, hbw⟩ := hrel
        have hsz := hbw.size
        have hyl : y < 18446744073709551616 := by rw [hy.out]; exact Nat.mod_lt _ (by decide)
        by_cases hjlt : j < 8
        · obtain ⟨d, hd⟩ : ∃ d : Nat, d = y / 72057594037927936 := ⟨_, rfl⟩
          have rd : (y : Int) / 72057594037927936 = (d : Int) := by rw [hd]; simp
          have hd256 : d < 256 := by rw [hd]; omega
          have HD : Hid (UInt8.ofNat d = UInt8.ofNat (s.size * 8 / 2 ^ (8 * (7 - j)) % 256)) := by
            show _ = _
            rw [hd, hy.out, len_digit _ _ (by omega) hjlt]
          have HDN : Hid ((d : Int) = ((UInt8.ofNat d).toNat : Int)) := by show _ = _; simp; omega
          have HY : Hid (y * 256 % 18446744073709551616 = s.size * 8 * 256 ^ (j + 1) % 18446744073709551616) := by
            show _ = _
            rw [hy.out, Nat.pow_succ, ← Nat.mul_assoc, Nat.mod_mul_mod]
          have HLJ : Hid (n + j = (T ++ (lenB (s.size * 8)).take j).length) := by
            show _ = _
            rw [List.length_append, ← HLN.out]
            simp [lenB]
            omega
          clear hd
          go_wp2_with (at_builtin; refine wp_appB rfl _ _ 28 rfl w.heap.size 5 i0 Tryd.underlying28 hi hz0 hz1 hz2 g2 (n + j) cap2 (T ++ (lenB (s.size * 8)).take j) HLJ.out rfl hrow (UInt8.ofNat d) (d : Int) HDN.out rfl (by omega) hsz ?_)
          intro g3 cap3 w3 hrow3 hb3
          have hrow4 : ByteRow 5 w.heap.size w3 (.slice (some ⟨g3, 0, none⟩) (n + j + 1) cap3) (T ++ (lenB (s.size * 8)).take (j + 1)) := by
            rw [lenB_take _ _ hjlt, ← HD.out]
            first | exact hrow3 | (rw [← List.append_assoc]; exact hrow3)
          clear hrow3
          go_wp2
          go_roundw
          case rel => exact ⟨j + 1, y * 256 % 18446744073709551616, g3, cap3, by omega, by go_num, by go_num, HY, rfl, hrow4, hbw.trans hb3⟩
          case measure => simp [intOf]; omega
        · have hfin : ByteRow 5 w.heap.size wr (.slice (some ⟨g2, 0, none⟩) L cap2) (t ++ 128 :: List.replicate Z 0 ++ lenB (s.size * 8)) := by
            have hj8 : j = 8 := by omega
            rw [List.take_of_length_le (by simp [lenB]; omega), HT.out, HKZ.out] at hrow
            have hnl : n + j = L := by have := HN.out; omega
            rw [← hnl]
            exact hrow
          have HL8 : Hid (n + j = L) := by show _ = _; have := HN.out; omega
          clear hrow
          go_wp2
          go_ret
          rw [← HTT.out, ← HLL.out, HPB.out]
          exact ⟨g2, cap2, by rw [← HL8.out]; rfl, hfin, hbw⟩

end Go.Proofs.YtcaejndpmagfaaaDoor

set_option linter.unusedVariables false
namespace Go.Proofs.YtcaejndpmagfaaaDoor
open Go.RowKit

theorem size64 : (Tryd.prog.info? 73).map (·.size) = some 64 := by kernel_rfl
theorem keepO {w : World} {G i j : Nat} {v u : Value} (h : w.cell? ⟨G, j, none⟩ = some u) (hne : ¬ i = j) : (w.setCell ⟨G, i, none⟩ v).drew.cell? ⟨G, j, none⟩ = some u := by
  have : (w.setCell ⟨G, i, none⟩ v).cell? ⟨G, j, none⟩ = w.cell? ⟨G, j, none⟩ := by
    apply World.cell?_setCell_other
    intro he
    simp only [Addr.mk.injEq, true_and, and_true] at he
    exact hne he
  exact this.trans h

set_option maxHeartbeats 1000000 in
set_option maxRecDepth 100000 in
theorem scheduleI (bs : List Nat) (g o cap : Nat) (w : World) (hn : ∀ i, i < bs.length → w.cell? ⟨g, o + i, none⟩ = some (.int .u8 ((bs.getD i 0 : Nat) : Int))) (hl : bs.length = 64) (hbb : ∀ x ∈ bs, x < 256) (hg : g < w.heap.size) :
    Calls Tryd.prog 53 #[.slice (some ⟨g, o, none⟩) 64 cap] w fun e w' => e = .returned (.agg (uCells (schedTo bs 48))) ∧ Below w.heap.size w w' := by
  have z1 : RowU 73 ((w.alloc (.cells (uCells (List.replicate 64 0)) 73)).alloc (.cells (uCells (List.replicate 64 0)) 73)) w.heap.size (List.replicate 64 0) := by
    show _ = _
    rw [Below.heap_alloc _ _ _ (by simp)]
    exact heap_alloc_new w _
  have z2 : RowU 73 ((w.alloc (.cells (uCells (List.replicate 64 0)) 73)).alloc (.cells (uCells (List.replicate 64 0)) 73)) (w.heap.size + 1) (fillTo bs 0) := by
    have := heap_alloc_new (w.alloc (.cells (uCells (List.replicate 64 0)) 73)) (.cells (uCells (List.replicate 64 0)) 73)
    rw [show (w.alloc (.cells (uCells (List.replicate 64 0)) 73)).heap.size = w.heap.size + 1 from by simp] at this
    exact this
  have z3 : Below w.heap.size w ((w.alloc (.cells (uCells (List.replicate 64 0)) 73)).alloc (.cells (uCells (List.replicate 64 0)) 73)) := ((Below.refl _ w).alloc (Nat.le_refl _) _).alloc (by simp) _
  go_enter Tryd.func53, Tryd.ntmps53
  go_wp2
  go_loopw [9] (fun i wr => ∃ k : Nat, k ≤ 64 ∧ i = .int .i64 k ∧ RowU 73 wr w.heap.size (List.replicate 64 0) ∧ RowU 73 wr (w.heap.size + 1) (fillTo bs k) ∧ Below w.heap.size w wr) (fun i _ => 64 - (intOf i).toNat)
  case atStart => exact ⟨0, by omega, rfl, z1, z2, z3⟩
  case round =>
    clear z1 z2 z3
    obtain ⟨k, hk, rfl, hr0, hr1, hbw⟩ := hrel
    by_cases hlt : k < 64
    · obtain ⟨q, hq⟩ : ∃ q : Nat, q = k / 4 := ⟨_, rfl⟩
      have rq : (k : Int) / 4 = (q : Int) := by rw [hq]; simp
      have hq16 : q < 16 := by omega
      obtain ⟨b, hb⟩ : ∃ b, b = bs.getD k 0 := ⟨_, rfl⟩
      have cb : wr.cell? ⟨g, o + k, none⟩ = some (.int .u8 (b : Int)) := by
        rw [hbw.cell (p := ⟨g, o + k, none⟩) hg, hn k (by omega), hb]
      have hb256 : b < 256 := by rw [hb]; exact byte_getD hbb k
      obtain ⟨old, hold⟩ : ∃ x, x = (fillTo bs k).getD q 0 := ⟨_, rfl⟩
      have cq := hr1.cell q (by rw [fillTo_length]; omega)
      rw [← hold] at cq
      have hfz := hr1.frozen q
      obtain ⟨v, hv⟩ : ∃ v : Nat, v = old * 256 % 4294967296 ||| b := ⟨_, rfl⟩
      have rv : bits .or .u32 ((old : Int) * 256 % 4294967296) (b : Int) = (v : Int) := by
        rw [hv, ← or32 _ _ (Nat.mod_lt _ (by decide)) (by omega)]
        simp
      have HV : Hid ((fillTo bs k).set q v = fillTo bs (k + 1)) := by
        show _ = _
        rw [fillTo, hv, hold, hq, hb]
      have H0 : Hid (RowU 73 wr w.heap.size (List.replicate 64 0)) := hr0
      have H1 : Hid (RowU 73 wr (w.heap.size + 1) (fillTo bs k)) := hr1
      have HB : Hid (Below w.heap.size w wr) := hbw
      clear hq hb hold hv hr0 hr1 hbw hn
      go_wp2
      go_roundw
      case rel =>
        refine ⟨k + 1, by omega, by go_num, ?_, ?_, HB.out.setCell (p := ⟨w.heap.size + 1, q, none⟩) (by show w.heap.size ≤ w.heap.size + 1; omega) _⟩
        · exact H0.out.keep (Below.heap_setCell wr ⟨w.heap.size + 1, q, none⟩ (.int .u32 (v : Int)) w.heap.size (by show w.heap.size ≠ w.heap.size + 1; omega))
        · have := H1.out.set q v
          rw [HV.out] at this
          exact this
      case measure => simp [intOf]; omega
    · have hk64 : k = 64 := by omega
      have hrow0 : RowU 73 wr (w.heap.size + 1) (schedTo bs 0 ++ List.replicate 48 0) := by
        rw [hk64, fill_sched bs hbb] at hr1; exact hr1
      obtain ⟨w0, rfl⟩ : ∃ w0 : World, w0 = wr := ⟨_, rfl⟩
      obtain ⟨k0, hk0⟩ : ∃ k0 : Nat, k0 = k := ⟨_, rfl⟩
      rw [← hk0] at hlt ⊢
      clear hk0 hk64 hk hr1 hn
      go_wp2
      go_loopw [6] (fun i wr => ∃ k ii : Nat, k ≤ 48 ∧ ii ≤ 64 ∧ Hid (ii = 16 + k) ∧ i = .int .i64 (ii : Int) ∧ RowU 73 wr w.heap.size (List.replicate 64 0) ∧ RowU 73 wr (w.heap.size + 1) (schedTo bs k ++ List.replicate (48 - k) 0) ∧ Below w.heap.size w wr) (fun i _ => 64 - (intOf i).toNat)
      case atStart => exact ⟨0, 16, by omega, by omega, rfl, rfl, hr0, hrow0, hbw⟩
      case round =>
        clear hbw hrow0 hr0
        obtain ⟨k, ii, hk, hii, HI, rfl, hr0, hrow, hbw⟩ := hrel
        by_cases hklt : k < 48
        · have hlen := schedTo_length bs k
          have hall := schedTo_lt bs hbb k
          obtain ⟨p, hp⟩ : ∃ x, x = (schedTo bs k).getD k 0 := ⟨_, rfl⟩
          obtain ⟨x, hx⟩ : ∃ x, x = (schedTo bs k).getD (k + 1) 0 := ⟨_, rfl⟩
          obtain ⟨q, hq⟩ : ∃ x, x = (schedTo bs k).getD (k + 9) 0 := ⟨_, rfl⟩
          obtain ⟨y, hy⟩ : ∃ x, x = (schedTo bs k).getD (k + 14) 0 := ⟨_, rfl⟩
          have cp := hrow.cell k (by simp; omega)
          have cx := hrow.cell (k + 1) (by simp; omega)
          have cq := hrow.cell (k + 9) (by simp; omega)
          have cy := hrow.cell (k + 14) (by simp; omega)
          rw [sched_at bs k _ _ (by omega), ← hp] at cp
          rw [sched_at bs k _ _ (by omega), ← hx] at cx
          rw [sched_at bs k _ _ (by omega), ← hq] at cq
          rw [sched_at bs k _ _ (by omega), ← hy] at cy
          have lp : p < 4294967296 := by rw [hp]; exact getD_lt hall _
          have lx : x < 4294967296 := by rw [hx]; exact getD_lt hall _
          have lq : q < 4294967296 := by rw [hq]; exact getD_lt hall _
          have ly : y < 4294967296 := by rw [hy]; exact getD_lt hall _
          have hfz := hrow.frozen ii
          have hck := hrow.cell ii (by rw [HI.out]; simp; omega)
          generalize (schedTo bs k ++ List.replicate (48 - k) 0).getD ii 0 = old at hck
          have hi64 : ii < 64 := by rw [HI.out]; omega
          obtain ⟨m1, hm1⟩ : ∃ m, m = k + 1 := ⟨_, rfl⟩
          obtain ⟨m9, hm9⟩ : ∃ m, m = k + 9 := ⟨_, rfl⟩
          obtain ⟨m14, hm14⟩ : ∃ m, m = k + 14 := ⟨_, rfl⟩
          rw [← hm1] at cx
          rw [← hm9] at cq
          rw [← hm14] at cy
          have s16 : IntKind.i64.wrap ((ii : Int) - 16) = (k : Int) := by rw [IntKind.wrap_i64, HI.out]; omega
          have s15 : IntKind.i64.wrap ((ii : Int) - 15) = (m1 : Int) := by rw [IntKind.wrap_i64, HI.out, hm1]; omega
          have s7 : IntKind.i64.wrap ((ii : Int) - 7) = (m9 : Int) := by rw [IntKind.wrap_i64, HI.out, hm9]; omega
          have s2 : IntKind.i64.wrap ((ii : Int) - 2) = (m14 : Int) := by rw [IntKind.wrap_i64, HI.out, hm14]; omega
          have lk : (k : Int) < 64 := by omega
          have l1 : (m1 : Int) < 64 := by omega
          have l9 : (m9 : Int) < 64 := by omega
          have l14 : (m14 : Int) < 64 := by omega
          have li : (ii : Int) < 64 := by omega
          have n0 : ¬ ii = k := by rw [HI.out]; omega
          have n1 : ¬ ii = m1 := by rw [HI.out, hm1]; omega
          have n9 : ¬ ii = m9 := by rw [HI.out, hm9]; omega
          have n14 : ¬ ii = m14 := by rw [HI.out, hm14]; omega
          have n0' : ¬ k = ii := by rw [HI.out]; omega
          have n1' : ¬ m1 = ii := by rw [HI.out, hm1]; omega
          have n9' : ¬ m9 = ii := by rw [HI.out, hm9]; omega
          have n14' : ¬ m14 = ii := by rw [HI.out, hm14]; omega
          obtain ⟨v, hv⟩ : ∃ v : Nat, v = (p + sig0 x + q + sig1 y) % 4294967296 := ⟨_, rfl⟩
          have HV : Hid ((schedTo bs k ++ List.replicate (48 - k) 0).set ii v = schedTo bs (k + 1) ++ List.replicate (48 - (k + 1)) 0) := by
            show _ = _
            rw [HI.out]
            refine sched_set bs k hklt v ?_
            rw [hv, hp, hx, hq, hy]
          have HROW : Hid (RowU 73 wr (w.heap.size + 1) (schedTo bs k ++ List.replicate (48 - k) 0)) := hrow
          have H0 : Hid (RowU 73 wr w.heap.size (List.replicate 64 0)) := hr0
          have HB : Hid (Below w.heap.size w wr) := hbw
          have rsum : IntKind.u32.wrap (IntKind.u32.wrap (IntKind.u32.wrap ((p : Int) + ((sig0 x : Nat) : Int)) + (q : Int)) + ((sig1 y : Nat) : Int)) = (v : Int) := by
            rw [hv]
            simp only [IntKind.wrap_u32]
            omega
          clear hm1 hm9 hm14 hp hx hq hy hrow hr0 hbw hlen hall hv hlt
          go_wp2_with fail
          go_region_held2 (fun W => W.cell? ⟨w.heap.size + 1, k, none⟩ = some (.int .u32 (p : Int)) ∧ W.cell? ⟨w.heap.size + 1, m1, none⟩ = some (.int .u32 (x : Int)) ∧ W.cell? ⟨w.heap.size + 1, m9, none⟩ = some (.int .u32 (q : Int)) ∧ W.cell? ⟨w.heap.size + 1, m14, none⟩ = some (.int .u32 (y : Int))) (first | exact ⟨cp, cx, cq, cy⟩ | exact ⟨keepO cp n0, keepO cx n1, keepO cq n9, keepO cy n14⟩) (first | (go_at_call 73; refine (nearI _ _ lx).mono ?_; rintro e w1 ⟨rfl, rfl⟩) | (go_at_call 74; refine (farI _ _ ly).mono ?_; rintro e w1 ⟨rfl, rfl⟩))
          go_wp2
          go_roundw
          case rel =>
            refine ⟨k + 1, ii + 1, by omega, by omega, by show ii + 1 = 16 + (k + 1); have := HI.out; omega, by go_num, ?_, ?_, (HB.out.setCell (p := ⟨w.heap.size + 1, ii, none⟩) (by show w.heap.size ≤ w.heap.size + 1; omega) _).drew⟩
            · exact (H0.out.keep (Below.heap_setCell wr ⟨w.heap.size + 1, ii, none⟩ (.int .u32 (v : Int)) w.heap.size (by show w.heap.size ≠ w.heap.size + 1; omega))).drew
            · have := (HROW.out.set ii v).drew
              rw [HV.out] at this
              exact this
          case measure => simp [intOf]; omega
        · have hi64 : ¬ ii < 64 := by rw [HI.out]; omega
          have hfin : RowU 73 wr (w.heap.size + 1) (schedTo bs 48) := by
            have h48 : k = 48 := by omega
            rw [h48] at hrow
            simpa using hrow
          have hlen := schedTo_length bs 48
          clear hrow
          obtain ⟨L, hL⟩ : ∃ L, L = schedTo bs 48 := ⟨_, rfl⟩
          rw [← hL] at hfin hlen
          have HL : Hid (L = schedTo bs 48) := hL
          clear hL
          have hlen : L.length = 64 := hlen
          have hld := run_loadAt_mid (P := Tryd.prog) wr (w.heap.size + 1) 0 73 (uCells L).toList _ hfin.range Tryd.underlying73 rfl (by rw [size64, Array.length_toList, uCells_size, hlen])
          have hst := run_storeAt_mid (P := Tryd.prog) wr w.heap.size 0 73 (uCells L) (hr0.there _ (by rw [uCells_size, hlen]; simp)) (by rw [size64, uCells_size, hlen]) (uCells_one _)
          rw [Array.toArray_toList] at hld
          have hout : RowU 73 (wr.setCells w.heap.size 0 (uCells L).toList) w.heap.size L := hr0.over (by rw [hlen]; simp)
          have hbo : Below w.heap.size w (wr.setCells w.heap.size 0 (uCells L).toList) := Below.setCells hbw (Nat.le_refl _) _ 0
          have hlv := run_loadVar_mid (P := Tryd.prog) (wr.setCells w.heap.size 0 (uCells L).toList) w.heap.size 0 73 (uCells L).toList _ hout.range Tryd.underlying73 rfl (by rw [size64, Array.length_toList, uCells_size, hlen])
          rw [Array.toArray_toList] at hlv
          clear hout hld hst
          go_upto_region 11 with fail
          refine wp_region_list ?_
          refine wpList_load_mid rfl 73 _ rfl (w.heap.size + 1) 0 rfl (uCells L).toList _ hfin.range Tryd.underlying73 rfl (by rw [size64, Array.length_toList, uCells_size, hlen]) ?_
          rw [Array.toArray_toList]
          refine wpList_store_mid rfl 73 _ _ rfl w.heap.size 0 (uCells L) rfl rfl (hr0.there _ (by rw [uCells_size, hlen]; simp)) (by rw [size64, uCells_size, hlen]) (uCells_one _) ?_
          go_wp2
          rw [← HL.out]
          exact bodyPost_ret (v := .agg (uCells L)) (results_cell1 (p := 2) (b := w.heap.size) rfl _ _ _ rfl hlv) rfl ⟨rfl, hbo⟩

end Go.Proofs.YtcaejndpmagfaaaDoor


set_option linter.unusedVariables false
namespace Go.Proofs.YtcaejndpmagfaaaDoor
open Go.RowKit

theorem size8 : (Tryd.prog.info? 70).map (·.size) = some 8 := by kernel_rfl
theorem run_storeCellsU {P : Program} {T : TypeId} {w : World} {g : Nat} {m : List Nat} (h : RowU T w g m) (l : List Nat) (hl : l.length = m.length) :
    (storeCells ⟨g, 0, none⟩ (uCells l).toList).run P w = .ok () (w.setCells g 0 (uCells l).toList) := by
  have ht := h.there _ hl
  have := run_storeCells_cells (P := P) g 0 (uCells l).toList 0 w (fun j hj => by simpa using (ht j (by simpa [uCells_size] using hj)).1) (fun j hj => by simpa using (ht j (by simpa [uCells_size] using hj)).2)
    (fun v hv => (Array.all_eq_true_iff_forall_mem.1 (uCells_one l)) v (by simpa using hv))
  simpa using this
theorem zerosU8 : #[Value.int .u32 0, Value.int .u32 0, Value.int .u32 0, Value.int .u32 0, Value.int .u32 0, Value.int .u32 0, Value.int .u32 0, Value.int .u32 0] = uCells (List.replicate 8 0) := rfl
theorem sizeW : (Tryd.prog.info? 69).map (·.size) = some 1 := by kernel_rfl
theorem indexU (ws : List Nat) (hl : ws.length = 64) (k : Nat) (hk : k < 64) (w : World) : (Instr.index 73 (.agg (uCells ws)) (.int .i64 (k : Int))).run Tryd.prog w = .ok (.int .u32 ((ws.getD k 0 : Nat) : Int)) w := by
  have hat := uCells_at ws k (by omega)
  cases hq : Tryd.prog.info? 69 with
  | none => have := sizeW; simp [hq] at this
  | some i =>
    have hs : i.size = 1 := by have := sizeW; simpa [hq] using this
    simp [Instr.index, asIntOf, Sem.run_bind, run_underlying Tryd.underlying73, part, isAgg, run_underlying Tryd.underlying69, sizeOf, typeInfo, hq, hs, hat]
    intro h64; omega
/-- The four blocks that the call lays: the state, the words, the answer's place, the state at work. -/
def Laid4 (T8 T64 : TypeId) (n : Nat) (s : St) (ws : List Nat) (t : St) (w w' : World) : Prop :=
  RowU T8 w' n s.toL ∧ RowU T8 w' (n + 1 + 1) (List.replicate 8 0) ∧ RowU T8 w' (n + 1 + 1 + 1) t.toL ∧ Below n w w'
theorem laid4 (T8 T64 : TypeId) (s : St) (ws : List Nat) (w : World) :
    RowU T8 ((((w.alloc (.cells (uCells s.toL) T8)).alloc (.cells (uCells ws) T64)).alloc (.cells (uCells (List.replicate 8 0)) T8)).alloc (.cells (uCells (List.replicate 8 0)) T8)) (w.heap.size + 1 + 1 + 1) (List.replicate 8 0) ∧
    Laid4 T8 T64 w.heap.size s ws s w (((((w.alloc (.cells (uCells s.toL) T8)).alloc (.cells (uCells ws) T64)).alloc (.cells (uCells (List.replicate 8 0)) T8)).alloc (.cells (uCells (List.replicate 8 0)) T8)).setCells (w.heap.size + 1 + 1 + 1) 0 (uCells s.toL).toList) ∧
    RowU T64 (((((w.alloc (.cells (uCells s.toL) T8)).alloc (.cells (uCells ws) T64)).alloc (.cells (uCells (List.replicate 8 0)) T8)).alloc (.cells (uCells (List.replicate 8 0)) T8)).setCells (w.heap.size + 1 + 1 + 1) 0 (uCells s.toL).toList) (w.heap.size + 1) ws ∧
    RowU T8 (((w.alloc (.cells (uCells s.toL) T8)).alloc (.cells (uCells ws) T64)).alloc (.cells (uCells (List.replicate 8 0)) T8)) w.heap.size s.toL := by
  obtain ⟨w1, h1⟩ : ∃ x, x = w.alloc (.cells (uCells s.toL) T8) := ⟨_, rfl⟩
  have s1 : w1.heap.size = w.heap.size + 1 := by rw [h1]; simp
  have r1 : RowU T8 w1 w.heap.size s.toL := by rw [h1]; exact heap_alloc_new w _
  have b1 : Below w.heap.size w w1 := by rw [h1]; exact (Below.refl _ w).alloc (Nat.le_refl _) _
  rw [← h1]
  obtain ⟨w2, h2⟩ : ∃ x, x = w1.alloc (.cells (uCells ws) T64) := ⟨_, rfl⟩
  have s2 : w2.heap.size = w.heap.size + 1 + 1 := by rw [h2]; simp [s1]
  have r2 : RowU T64 w2 (w.heap.size + 1) ws := by rw [h2, ← s1]; exact heap_alloc_new w1 _
  have r21 : RowU T8 w2 w.heap.size s.toL := by rw [h2]; exact r1.keep (Below.heap_alloc _ _ _ (by omega))
  have b2 : Below w.heap.size w w2 := by rw [h2]; exact b1.alloc (by omega) _
  rw [← h2]
  obtain ⟨w3, h3⟩ : ∃ x, x = w2.alloc (.cells (uCells (List.replicate 8 0)) T8) := ⟨_, rfl⟩
  have s3 : w3.heap.size = w.heap.size + 1 + 1 + 1 := by rw [h3]; simp [s2]
  have r3 : RowU T8 w3 (w.heap.size + 1 + 1) (List.replicate 8 0) := by rw [h3, ← s2]; exact heap_alloc_new w2 _
  have r32 : RowU T64 w3 (w.heap.size + 1) ws := by rw [h3]; exact r2.keep (Below.heap_alloc _ _ _ (by omega))
  have r31 : RowU T8 w3 w.heap.size s.toL := by rw [h3]; exact r21.keep (Below.heap_alloc _ _ _ (by omega))
  have b3 : Below w.heap.size w w3 := by rw [h3]; exact b2.alloc (by omega) _
  rw [← h3]
  obtain ⟨w4, h4⟩ : ∃ x, x = w3.alloc (.cells (uCells (List.replicate 8 0)) T8) := ⟨_, rfl⟩
  have r4 : RowU T8 w4 (w.heap.size + 1 + 1 + 1) (List.replicate 8 0) := by rw [h4, ← s3]; exact heap_alloc_new w3 _
  have r43 : RowU T8 w4 (w.heap.size + 1 + 1) (List.replicate 8 0) := by rw [h4]; exact r3.keep (Below.heap_alloc _ _ _ (by omega))
  have r42 : RowU T64 w4 (w.heap.size + 1) ws := by rw [h4]; exact r32.keep (Below.heap_alloc _ _ _ (by omega))
  have r41 : RowU T8 w4 w.heap.size s.toL := by rw [h4]; exact r31.keep (Below.heap_alloc _ _ _ (by omega))
  have b4 : Below w.heap.size w w4 := by rw [h4]; exact b3.alloc (by omega) _
  rw [← h4]
  refine ⟨r4, ⟨r41.keep (heap_setCells_other _ _ _ _ _ (by omega)), r43.keep (heap_setCells_other _ _ _ _ _ (by omega)), r4.over (by simp [St.toL]), Below.setCells b4 (by omega) _ _⟩, r42.keep (heap_setCells_other _ _ _ _ _ (by omega)), r31⟩

theorem Rows3.set {T8 : TypeId} {n : Nat} {ls l lz : List Nat} {w wr : World} (h : RowU T8 wr n ls ∧ RowU T8 wr (n + 1 + 1) lz ∧ RowU T8 wr (n + 1 + 1 + 1) l ∧ Below n w wr) (i v : Nat) :
    RowU T8 (wr.setCell ⟨n + 1 + 1 + 1, i, none⟩ (.int .u32 (v : Int))) n ls ∧ RowU T8 (wr.setCell ⟨n + 1 + 1 + 1, i, none⟩ (.int .u32 (v : Int))) (n + 1 + 1) lz ∧ RowU T8 (wr.setCell ⟨n + 1 + 1 + 1, i, none⟩ (.int .u32 (v : Int))) (n + 1 + 1 + 1) (l.set i v) ∧ Below n w (wr.setCell ⟨n + 1 + 1 + 1, i, none⟩ (.int .u32 (v : Int))) :=
  ⟨h.1.keep (Below.heap_setCell _ _ _ _ (by show _ ≠ n + 1 + 1 + 1; omega)), h.2.1.keep (Below.heap_setCell _ _ _ _ (by show _ ≠ n + 1 + 1 + 1; omega)), h.2.2.1.set i v, h.2.2.2.setCell (p := ⟨n + 1 + 1 + 1, i, none⟩) (by show n ≤ n + 1 + 1 + 1; omega) _⟩
theorem Laid4.over {T8 T64 : TypeId} {n : Nat} {s t : St} {ws : List Nat} {w wr : World} (h : Laid4 T8 T64 n s ws t w wr) (v0 v1 v2 v3 v4 v5 v6 v7 : Nat) :
    Laid4 T8 T64 n s ws ⟨v0, v1, v2, v3, v4, v5, v6, v7⟩ w ((((((((wr.setCell ⟨n + 1 + 1 + 1, 0, none⟩ (.int .u32 (v0 : Int))).setCell ⟨n + 1 + 1 + 1, 1, none⟩ (.int .u32 (v1 : Int))).setCell ⟨n + 1 + 1 + 1, 2, none⟩ (.int .u32 (v2 : Int))).setCell ⟨n + 1 + 1 + 1, 3, none⟩ (.int .u32 (v3 : Int))).setCell ⟨n + 1 + 1 + 1, 4, none⟩ (.int .u32 (v4 : Int))).setCell ⟨n + 1 + 1 + 1, 5, none⟩ (.int .u32 (v5 : Int))).setCell ⟨n + 1 + 1 + 1, 6, none⟩ (.int .u32 (v6 : Int))).setCell ⟨n + 1 + 1 + 1, 7, none⟩ (.int .u32 (v7 : Int))).drew.drew := by
  have := Rows3.set (Rows3.set (Rows3.set (Rows3.set (Rows3.set (Rows3.set (Rows3.set (Rows3.set h 0 v0) 1 v1) 2 v2) 3 v3) 4 v4) 5 v5) 6 v6) 7 v7
  exact ⟨this.1.drew.drew, this.2.1.drew.drew, this.2.2.1.drew.drew, this.2.2.2.drew.drew⟩

def plusTo (s t : St) (k : Nat) : List Nat := (s.plus t).toL.take k ++ s.toL.drop k
theorem plusTo_length (s t : St) (k : Nat) (h : k ≤ 8) : (plusTo s t k).length = 8 := by
  simp [plusTo, St.toL]; omega
theorem plusTo_at (s t : St) (k : Nat) (h : k < 8) : (plusTo s t k).getD k 0 = s.toL.getD k 0 := by
  match k, h with
  | 0, _ | 1, _ | 2, _ | 3, _ | 4, _ | 5, _ | 6, _ | 7, _ => rfl
theorem plusTo_set (s t : St) (k : Nat) (h : k < 8) (v : Nat) (hv : v = (s.toL.getD k 0 + t.toL.getD k 0) % 4294967296) : (plusTo s t k).set k v = plusTo s t (k + 1) := by
  subst hv
  match k, h with
  | 0, _ | 1, _ | 2, _ | 3, _ | 4, _ | 5, _ | 6, _ | 7, _ => rfl

set_option maxHeartbeats 1000000 in
set_option maxRecDepth 100000 in
theorem nextI (ms ws : List Nat) (s : St) (hs : s.ok) (w : World) (hms : RowG w ms) (hml : ms.length = 64) (hmm : ∀ x ∈ ms, x < 4294967296) (hwl : ws.length = 64) (hww : ∀ x ∈ ws, x < 4294967296) :
    Calls Tryd.prog 52 #[.agg (uCells s.toL), .agg (uCells ws)] w fun e w' => e = .returned (.agg (uCells (s.plus (rounds ms ws s 64)).toL)) ∧ Below w.heap.size w w' := by
  have Z : Hid (_ ∧ _ ∧ _ ∧ _) := laid4 70 73 s ws w
  go_enter Tryd.func52, Tryd.ntmps52
  go_upto_region 1 with fail
  refine wp_region_list ?_
  refine wpList_load_mid rfl 70 _ rfl w.heap.size 0 rfl (uCells s.toL).toList _ ?_ Tryd.underlying70 rfl (by rw [size8, Array.length_toList, uCells_size]; rfl) ?_
  · exact Z.out.2.2.2.range
  rw [Array.toArray_toList]
  go_wp2
  obtain ⟨z1, z2, z3, z4⟩ := Z.out
  rw [zerosU8, run_storeCellsU z1 s.toL rfl]
  obtain ⟨W, hW⟩ : ∃ W, W = (((((w.alloc (.cells (uCells s.toL) 70)).alloc (.cells (uCells ws) 73)).alloc (.cells (uCells (List.replicate 8 0)) 70)).alloc (.cells (uCells (List.replicate 8 0)) 70)).setCells (w.heap.size + 1 + 1 + 1) 0 (uCells s.toL).toList) := ⟨_, rfl⟩
  rw [← hW] at z2 z3 ⊢
  clear hW z1 z4 Z
  have Hmm : Hid (∀ x ∈ ms, x < 4294967296) := hmm
  have Hww : Hid (∀ x ∈ ws, x < 4294967296) := hww
  have HZ : Hid (Laid4 70 73 w.heap.size s ws s w W) := z2
  clear hmm hww z2
  go_upto_region 2 with fail
  refine wp_region_list ?_
  refine wpList_load_mid rfl 73 _ rfl (w.heap.size + 1) 0 rfl (uCells ws).toList _ z3.range Tryd.underlying73 rfl (by rw [size64, Array.length_toList, uCells_size, hwl]) ?_
  rw [Array.toArray_toList]
  clear z3
  go_wp2
  go_loopw [13] (fun i wr => ∃ k : Nat, k ≤ 64 ∧ i = .int .i64 (k : Int) ∧ Hid (Laid4 70 73 w.heap.size s ws (rounds ms ws s k) w wr)) (fun i _ => 64 - (intOf i).toNat)
  case atStart => exact ⟨0, by omega, rfl, HZ⟩
  case round =>
    clear HZ
    obtain ⟨k, hk, rfl, HR⟩ := hrel
    by_cases hlt : k < 64
    · have hok := rounds_ok ms ws s hs k
      obtain ⟨t, ht⟩ : ∃ t, t = rounds ms ws s k := ⟨_, rfl⟩
      rw [← ht] at HR hok
      have HT : Hid (t = rounds ms ws s k) := ht
      clear ht
      obtain ⟨a, b, c, d, e, f, g, h⟩ := t
      obtain ⟨la, lb, lc, ld, le, lf, lg, lh⟩ := hok
      simp only at la lb lc ld le lf lg lh
      have hr := HR.out.2.2.1
      have c0 : wr.cell? ⟨w.heap.size + 1 + 1 + 1, 0, none⟩ = some (.int .u32 (a : Int)) := hr.cell 0 (by show _ < 8; decide)
      have c1 : wr.cell? ⟨w.heap.size + 1 + 1 + 1, 1, none⟩ = some (.int .u32 (b : Int)) := hr.cell 1 (by show _ < 8; decide)
      have c2 : wr.cell? ⟨w.heap.size + 1 + 1 + 1, 2, none⟩ = some (.int .u32 (c : Int)) := hr.cell 2 (by show _ < 8; decide)
      have c3 : wr.cell? ⟨w.heap.size + 1 + 1 + 1, 3, none⟩ = some (.int .u32 (d : Int)) := hr.cell 3 (by show _ < 8; decide)
      have c4 : wr.cell? ⟨w.heap.size + 1 + 1 + 1, 4, none⟩ = some (.int .u32 (e : Int)) := hr.cell 4 (by show _ < 8; decide)
      have c5 : wr.cell? ⟨w.heap.size + 1 + 1 + 1, 5, none⟩ = some (.int .u32 (f : Int)) := hr.cell 5 (by show _ < 8; decide)
      have c6 : wr.cell? ⟨w.heap.size + 1 + 1 + 1, 6, none⟩ = some (.int .u32 (g : Int)) := hr.cell 6 (by show _ < 8; decide)
      have c7 : wr.cell? ⟨w.heap.size + 1 + 1 + 1, 7, none⟩ = some (.int .u32 (h : Int)) := hr.cell 7 (by show _ < 8; decide)
      have f0 := hr.frozen 0
      have f1 := hr.frozen 1
      have f2 := hr.frozen 2
      have f3 := hr.frozen 3
      have f4 := hr.frozen 4
      have f5 := hr.frozen 5
      have f6 := hr.frozen 6
      have f7 := hr.frozen 7
      clear hr
      obtain ⟨m, hm⟩ : ∃ m, m = ms.getD k 0 := ⟨_, rfl⟩
      obtain ⟨x, hx⟩ : ∃ x, x = ws.getD k 0 := ⟨_, rfl⟩
      have lm : m < 4294967296 := by rw [hm]; exact getD_lt Hmm.out _
      have lx : x < 4294967296 := by rw [hx]; exact getD_lt Hww.out _
      have cm : wr.cell? ⟨0, k, none⟩ = some (.int .u32 (m : Int)) := by
        rw [HR.out.2.2.2.cell (p := ⟨0, k, none⟩) hms.lt, hm]
        exact hms.cell k (by omega)
      have cx : ∀ w : World, (Instr.index 73 (.agg (uCells ws)) (.int .i64 (k : Int))).run Tryd.prog w = .ok (.int .u32 (x : Int)) w := by intro w; rw [hx]; exact indexU ws hwl k hlt w
      have lk : (k : Int) < 64 := by omega
      obtain ⟨v1, hv1⟩ : ∃ v : Nat, v = (h + big1 e + chs e f g + m + x) % 4294967296 := ⟨_, rfl⟩
      obtain ⟨v2, hv2⟩ : ∃ v : Nat, v = (big0 a + maj a b c) % 4294967296 := ⟨_, rfl⟩
      obtain ⟨v3, hv3⟩ : ∃ v : Nat, v = (v1 + v2) % 4294967296 := ⟨_, rfl⟩
      obtain ⟨v4, hv4⟩ : ∃ v : Nat, v = (d + v1) % 4294967296 := ⟨_, rfl⟩
      have r1 : IntKind.u32.wrap (IntKind.u32.wrap (IntKind.u32.wrap (IntKind.u32.wrap ((h : Int) + ((big1 e : Nat) : Int)) + ((chs e f g : Nat) : Int)) + (m : Int)) + (x : Int)) = (v1 : Int) := by
        rw [hv1]; simp only [IntKind.wrap_u32]; omega
      have r2 : IntKind.u32.wrap (((big0 a : Nat) : Int) + ((maj a b c : Nat) : Int)) = (v2 : Int) := by
        rw [hv2]; simp only [IntKind.wrap_u32]; omega
      have r3 : IntKind.u32.wrap ((v1 : Int) + (v2 : Int)) = (v3 : Int) := by
        rw [hv3]; simp only [IntKind.wrap_u32]; omega
      have r4 : IntKind.u32.wrap ((d : Int) + (v1 : Int)) = (v4 : Int) := by
        rw [hv4]; simp only [IntKind.wrap_u32]; omega
      have HN : Hid ((⟨v3, a, b, c, v4, e, f, g⟩ : St) = rounds ms ws s (k + 1)) := by
        show _ = _
        rw [rounds, ← HT.out, St.step, ← hm, ← hx, hv3, hv4, hv1, hv2]
        simp only [St.mk.injEq, true_and, and_true]
        omega
      clear hv1 hv2 hv3 hv4 hm hx hms HT
      go_wp2_with fail
      go_region_held2 (fun W => W.cell? ⟨w.heap.size + 1 + 1 + 1, 7, none⟩ = some (.int .u32 (h : Int)) ∧ W.cell? ⟨w.heap.size + 1 + 1 + 1, 4, none⟩ = some (.int .u32 (e : Int)) ∧ W.cell? ⟨w.heap.size + 1 + 1 + 1, 5, none⟩ = some (.int .u32 (f : Int)) ∧ W.cell? ⟨w.heap.size + 1 + 1 + 1, 6, none⟩ = some (.int .u32 (g : Int)) ∧ W.cell? ⟨0, k, none⟩ = some (.int .u32 (m : Int))) (exact ⟨c7, c4, c5, c6, cm⟩) (first | (go_at_call 69; refine (fifthI _ _ le).mono ?_; rintro e w1 ⟨rfl, rfl⟩) | (go_at_call 70; refine (chooseI _ _ _ _ le lf lg).mono ?_; rintro e w1 ⟨rfl, rfl⟩))
      go_wp2_with fail
      go_region_held2 (fun W => W.cell? ⟨w.heap.size + 1 + 1 + 1, 0, none⟩ = some (.int .u32 (a : Int)) ∧ W.cell? ⟨w.heap.size + 1 + 1 + 1, 1, none⟩ = some (.int .u32 (b : Int)) ∧ W.cell? ⟨w.heap.size + 1 + 1 + 1, 2, none⟩ = some (.int .u32 (c : Int))) (exact ⟨c0, c1, c2⟩) (first | (go_at_call 71; refine (firstI _ _ la).mono ?_; rintro e w1 ⟨rfl, rfl⟩) | (go_at_call 72; refine (mostI _ _ _ _ la lb lc).mono ?_; rintro e w1 ⟨rfl, rfl⟩))
      go_wp2
      go_roundw
      case rel =>
        refine ⟨k + 1, by omega, by go_num, ?_⟩
        have := HR.out.over v3 a b c v4 e f g
        rw [HN.out] at this
        exact this
      case measure => simp [intOf]; omega
    · obtain ⟨t, ht⟩ : ∃ t, t = rounds ms ws s 64 := ⟨_, rfl⟩
      have hk64 : k = 64 := by omega
      rw [hk64, ← ht] at HR
      have HT : Hid (t = rounds ms ws s 64) := ht
      obtain ⟨k0, hk0⟩ : ∃ k0 : Nat, k0 = k := ⟨_, rfl⟩
      rw [← hk0] at hlt ⊢
      clear ht hk0 hk64 hk
      go_wp2
      go_loopw [69] (fun i wr => ∃ k : Nat, k ≤ 8 ∧ i = .int .i64 (k : Int) ∧ Hid (RowU 70 wr w.heap.size (plusTo s t k) ∧ RowU 70 wr (w.heap.size + 1 + 1) (List.replicate 8 0) ∧ RowU 70 wr (w.heap.size + 1 + 1 + 1) t.toL ∧ Below w.heap.size w wr)) (fun i _ => 8 - (intOf i).toNat)
      case atStart => exact ⟨0, by omega, rfl, HR.out⟩
      case round =>
        clear HR
        obtain ⟨k, hk, rfl, HR⟩ := hrel
        by_cases hk8 : k < 8
        · obtain ⟨x, hx⟩ : ∃ x, x = s.toL.getD k 0 := ⟨_, rfl⟩
          obtain ⟨y, hy⟩ : ∃ y, y = t.toL.getD k 0 := ⟨_, rfl⟩
          have cx : wr.cell? ⟨w.heap.size, k, none⟩ = some (.int .u32 (x : Int)) := by
            rw [hx, ← plusTo_at s t k hk8]; exact HR.out.1.cell k (by rw [plusTo_length _ _ _ hk]; exact hk8)
          have cy : wr.cell? ⟨w.heap.size + 1 + 1 + 1, k, none⟩ = some (.int .u32 (y : Int)) := by
            rw [hy]; exact HR.out.2.2.1.cell k (by show k < 8; exact hk8)
          have hfz := HR.out.1.frozen k
          obtain ⟨v, hv⟩ : ∃ v : Nat, v = (x + y) % 4294967296 := ⟨_, rfl⟩
          have rv : IntKind.u32.wrap ((x : Int) + (y : Int)) = (v : Int) := by
            rw [hv]; simp only [IntKind.wrap_u32]; omega
          have HV : Hid ((plusTo s t k).set k v = plusTo s t (k + 1)) := by
            show _ = _
            refine plusTo_set s t k hk8 v ?_
            rw [hv, hx, hy]
          have lk : (k : Int) < 8 := by omega
          clear hx hy hv hlt hk
          go_wp2
          go_region
          go_wp2
          go_roundw
          case rel =>
            refine ⟨k + 1, by omega, by go_num, ?_⟩
            have h1 := HR.out.1.set k v
            rw [HV.out] at h1
            exact ⟨h1, HR.out.2.1.keep (Below.heap_setCell _ _ _ _ (by show _ ≠ w.heap.size; omega)), HR.out.2.2.1.keep (Below.heap_setCell _ _ _ _ (by show _ ≠ w.heap.size; omega)), (HR.out.2.2.2.setCell (p := ⟨w.heap.size, k, none⟩) (Nat.le_refl _) _).drew⟩
          case measure => simp [intOf]; omega
        · have HF : Hid (RowU 70 wr w.heap.size (s.plus t).toL) := by
            show RowU _ _ _ _
            have := HR.out.1
            rw [show k = 8 from by omega] at this
            exact this
          obtain ⟨L, hL⟩ : ∃ L, L = (s.plus t).toL := ⟨_, rfl⟩
          have hlen : L.length = 8 := by rw [hL]; rfl
          rw [← hL] at HF
          have HL : Hid (L = (s.plus (rounds ms ws s 64)).toL) := by show _ = _; rw [← HT.out]; exact hL
          have hout : RowU 70 (wr.setCells (w.heap.size + 1 + 1) 0 (uCells L).toList) (w.heap.size + 1 + 1) L := HR.out.2.1.over (by rw [hlen]; rfl)
          have hbo : Below w.heap.size w (wr.setCells (w.heap.size + 1 + 1) 0 (uCells L).toList) := Below.setCells HR.out.2.2.2 (by omega) _ 0
          have hlv := run_loadVar_mid (P := Tryd.prog) (wr.setCells (w.heap.size + 1 + 1) 0 (uCells L).toList) (w.heap.size + 1 + 1) 0 70 (uCells L).toList _ hout.range Tryd.underlying70 rfl (by rw [size8, Array.length_toList, uCells_size, hlen])
          rw [Array.toArray_toList] at hlv
          have Hlv : Hid (_ = _) := hlv
          have Hbo : Hid (Below w.heap.size w (wr.setCells (w.heap.size + 1 + 1) 0 (uCells L).toList)) := hbo
          clear hL hlv hout hbo
          go_upto_region 14 with fail
          refine wp_region_list ?_
          refine wpList_load_mid rfl 70 _ rfl w.heap.size 0 rfl (uCells L).toList _ HF.out.range Tryd.underlying70 rfl (by rw [size8, Array.length_toList, uCells_size, hlen]) ?_
          rw [Array.toArray_toList]
          refine wpList_store_mid rfl 70 _ _ rfl (w.heap.size + 1 + 1) 0 (uCells L) rfl rfl (HR.out.2.1.there _ (by rw [uCells_size, hlen]; simp)) (by rw [size8, uCells_size, hlen]) (uCells_one _) ?_
          go_wp2
          rw [← HL.out]
          exact bodyPost_ret (v := .agg (uCells L)) (results_cell1 (p := 4) (b := w.heap.size + 1 + 1) rfl _ _ _ rfl Hlv) rfl ⟨rfl, Hbo.out⟩

end Go.Proofs.YtcaejndpmagfaaaDoor

set_option linter.unusedVariables false
namespace Go.Proofs.YtcaejndpmagfaaaDoor
open Go.RowKit

theorem fig_digit (x j : Nat) (hx : x < 4294967296) (hj : j < 8) : x * 16 ^ j % 4294967296 / 268435456 = x / 2 ^ (4 * (7 - j)) % 16 := by
  match j, hj with
  | 0, _ => simp; omega
  | 1, _ => simp; omega
  | 2, _ => simp; omega
  | 3, _ => simp; omega
  | 4, _ => simp; omega
  | 5, _ => simp; omega
  | 6, _ => simp; omega
  | 7, _ => simp; omega

set_option maxHeartbeats 1000000 in
set_option maxRecDepth 100000 in
theorem figuresI (x : Nat) (w : World) (hx : x < 4294967296) :
    Calls Tryd.prog 54 #[.int .u32 x] w fun e w' => e = .returned (.string ⟨(hexOf x).toArray⟩) ∧ Below w.heap.size w w' := by
  go_enter Tryd.func54, Tryd.ntmps54
  go_wp2
  go_loopw [0, 4] (fun v i wr => ∃ j y : Nat, j ≤ 8 ∧ i = .int .i64 j ∧ v = .int .u32 y ∧ Hid (y = x * 16 ^ j % 4294967296) ∧ Lib.IsBuilderF 79 5 w.heap.size w.heap.size (Lib.byteCells ((hexOf x).take j)) wr ∧ Below w.heap.size w wr) (fun _ i _ => 8 - (intOf i).toNat)
  case atStart =>
    exact ⟨0, x, by omega, rfl, rfl, by show x = _; simp; omega, Lib.IsBuilderF.of (Lib.fresh_isBuilder 79 5 w), (Below.refl _ w).alloc (Nat.le_refl _) _⟩
  case round =>
    obtain ⟨j, y, hj, rfl, rfl, hy, hI, hbw⟩ := hrel
    have hsz := hbw.size
    have hyl : y < 4294967296 := by rw [hy.out]; exact Nat.mod_lt _ (by decide)
    by_cases hlt : j < 8
    · obtain ⟨d, hd⟩ : ∃ d : Nat, d = y / 268435456 := ⟨_, rfl⟩
      have rd : (y : Int) / 268435456 = (d : Int) := by rw [hd]; simp
      have hd16 : d < 16 := by rw [hd]; omega
      have HD : Hid (d = x / 2 ^ (4 * (7 - j)) % 16) := by show d = _; rw [hd, hy.out]; exact fig_digit x j hx hlt
      have HY : Hid (y * 16 % 4294967296 = x * 16 ^ (j + 1) % 4294967296) := by
        show _ = _
        rw [hy.out, Nat.pow_succ, ← Nat.mul_assoc, Nat.mod_mul_mod]
      clear hd
      go_wp2_with fail
      refine (writeByte _ _ _ _ _ hI (by rw [Lib.byteCells_length]; simp; omega) hsz).mono ?_
      rintro e w1 ⟨rfl, h1, b1, k1⟩
      have h2 : Lib.IsBuilderF 79 5 w.heap.size w.heap.size (Lib.byteCells ((hexOf x).take (j + 1))) w1 := by
        rw [hexOf_take x j hlt, ← HD.out, ← figs_at d hd16 (by show d < 16; exact hd16), Lib.byteCells_append]
        exact h1
      clear h1
      go_wp2
      go_roundw
      case rel => exact ⟨j + 1, y * 16 % 4294967296, by omega, by go_num, by go_num, HY, h2, hbw.trans b1⟩
      case measure => simp [intOf]; omega
    · have hl8 : (hexOf x).take j = hexOf x := List.take_of_length_le (by simp [hexOf]; omega)
      rw [hl8] at hI
      clear hl8
      go_wp2_with fail
      refine (Tryd.Builder_String_any_k _ _ _ _ hI hsz).mono ?_
      rintro e w2 ⟨rfl, _, b2, _⟩
      go_wp2
      go_ret
      exact ⟨rfl, hbw.trans b2⟩

end Go.Proofs.YtcaejndpmagfaaaDoor

namespace Go.Proofs.YtcaejndpmagfaaaDoor
open Go.RowKit

theorem endB8 (A : List Nat) (n : Nat) : endB (A ++ [0, 0, 0, 0, 0, 0, 0, 0]) n 8 = A ++ [n / 2 ^ 56 % 256, n / 2 ^ 48 % 256, n / 2 ^ 40 % 256, n / 2 ^ 32 % 256, n / 2 ^ 24 % 256, n / 2 ^ 16 % 256, n / 2 ^ 8 % 256, n / 2 ^ 0 % 256] := by
  have hl : (A ++ [0, 0, 0, 0, 0, 0, 0, 0]).length = A.length + 8 := by simp
  simp only [endB, hl]
  rw [show A.length + 8 - 1 - 0 = A.length + 7 from by omega, show A.length + 8 - 1 - 1 = A.length + 6 from by omega, show A.length + 8 - 1 - 2 = A.length + 5 from by omega, show A.length + 8 - 1 - 3 = A.length + 4 from by omega,
    show A.length + 8 - 1 - 4 = A.length + 3 from by omega, show A.length + 8 - 1 - 5 = A.length + 2 from by omega, show A.length + 8 - 1 - 6 = A.length + 1 from by omega, show A.length + 8 - 1 - 7 = A.length + 0 from by omega]
  repeat rw [List.set_append_right _ _ (by omega)]
  simp only [Nat.add_sub_cancel_left]
  rfl
theorem ofNat_mod (x : Nat) : (UInt8.ofNat (x % 256)).toNat = x % 256 := by
  simp
theorem padN_padB (t : List UInt8) : padN t = (padB t).map (·.toNat) := by
  have hz : padLen t.length - t.length - 1 = padZ t.length + 8 := by simp only [padZ, padLen]; omega
  have hr : List.replicate (padZ t.length + 8) (0 : Nat) = List.replicate (padZ t.length) 0 ++ [0, 0, 0, 0, 0, 0, 0, 0] := by
    rw [← List.replicate_append_replicate]; rfl
  rw [padN, hz, hr, show t.map (·.toNat) ++ 128 :: (List.replicate (padZ t.length) 0 ++ [0, 0, 0, 0, 0, 0, 0, 0]) = (t.map (·.toNat) ++ 128 :: List.replicate (padZ t.length) 0) ++ [0, 0, 0, 0, 0, 0, 0, 0] from by simp, endB8]
  simp only [padB, List.map_append, List.map_cons, List.map_replicate, lenB]
  congr 1
  simp only [List.map_map]
  show _ = List.map _ [0, 1, 2, 3, 4, 5, 6, 7]
  simp only [List.map_cons, List.map_nil, Function.comp, ofNat_mod]

end Go.Proofs.YtcaejndpmagfaaaDoor

