/-
  What FilterGet reads is as many places as the filter tells, in order, each below the bound.
-/
import Derived.Test.YteihpdnbehnnhaaPart1
import Derived.Test.YteihpdnbehnnhaaPart2
import Derived.Test.YteihpdnbehnnhaaPart3
import Derived.Test.YteihpdnbehnnhaaPart4
import Derived.Lib.FrozenHead2
import Derived.Lib.OthersKept
import Derived.WalkKit
import Derived.Laws.Externs
import Derived.BigQuiet
import Derived.Lib.Strings
import Derived.Test.YteihpdnbehnnhaaProg
import Derived.WalkSpells
import Derived.OwnWalk
import Derived.BigRegion
import Derived.Deep.RegionHeld3
import Derived.Test.YteihpdnbehnnhaaRows
import Derived.ProofKit
import Derived.OpenShut
import Derived.ShutString
import Derived.ChangeOld
import Derived.Below
set_option linter.unusedVariables false
namespace Go.Proofs.Yteihpdnbehnnhaa
open Go.Shelf Go.RowKit

theorem sizeBuilder : (Try.prog.info? 46).map (fun i => i.size) = some 2 := by kernel_rfl
theorem liesBuilder : liesAt Try.prog Try.prog.depth 46 (2 / Try.prog.cellsOf 46) 0 46 1 = true := by kernel_rfl
theorem infoByte : (Try.prog.info? 5).map (fun i => (i.zero, i.size, i.bytes)) = some (some (.int .u8 0), 1, 1) := by kernel_rfl

set_option maxHeartbeats 1000000 in
set_option maxRecDepth 100000 in
theorem copyCheck_used (b : Nat) (w : World) (h0 : w.cell? ⟨b, 0, none⟩ = some (.pointer (some ⟨b, 0, none⟩))) :
    Calls Try.prog 62 #[.pointer (some ⟨b, 0, none⟩)] w fun e w' => e = .returned (.tuple #[]) ∧ w' = w := by
  obtain ⟨j, hj, _⟩ := Option.map_eq_some_iff.1 sizeBuilder
  go_enter Try.func62, Try.ntmps62
  go_wp2
  rw [Lib.run_neq_ptr_same w _ Try.underlying44 hj]
  go_wp2
  go_end0
  exact ⟨rfl, rfl⟩

set_option maxHeartbeats 1000000 in
set_option maxRecDepth 100000 in
theorem copyCheck_fresh (b : Nat) (w : World) (h0 : w.cell? ⟨b, 0, none⟩ = some (.pointer none)) (hsh : w.shape? b = some (46, 2)) (hfz : w.frozen? ⟨b, 0, none⟩ = false) :
    Calls Try.prog 62 #[.pointer (some ⟨b, 0, none⟩)] w fun e w' => e = .returned (.tuple #[]) ∧ w' = w.setCell ⟨b, 0, none⟩ (.pointer (some ⟨b, 0, none⟩)) := by
  obtain ⟨j, hj, hjs⟩ := Option.map_eq_some_iff.1 sizeBuilder
  go_enter Try.func62, Try.ntmps62
  go_wp2
  rw [Lib.run_to_unsafe w ⟨b, 0, none⟩ Try.underlying44 Try.underlying100 hj (by rw [hjs]; decide) hsh (Nat.zero_lt_succ 1)]
  simp only [Result.andThen]
  rw [Oper.upon_value]
  go_wp2
  rw [run_callFunc_extern Try.func73 (by kernel_rfl) (by kernel_rfl) (by kernel_rfl) (e := Extern.AbiNoEscape.same) (by kernel_rfl)]
  rw [Lib.run_noEscape]
  simp only [Result.andThen]
  rw [Oper.upon_value]
  go_wp2
  rw [Lib.run_from_unsafe w ⟨b, 0, none⟩ Try.underlying100 Try.underlying44 hj hsh liesBuilder]
  simp only [Result.andThen]
  rw [Oper.upon_value]
  go_wp2
  go_end0
  exact ⟨rfl, rfl⟩

theorem copyCheck_any (B b : Nat) (bs : List Value) (w : World) (h : Lib.IsBuilderF 46 5 B b bs w) :
    Calls Try.prog 62 #[.pointer (some ⟨b, 0, none⟩)] w fun e w' => e = .returned (.tuple #[]) ∧ (Lib.BuilderAtF 46 5 B b (.pointer (some ⟨b, 0, none⟩)) bs w' ∧ Below B w w' ∧ Lib.OthersKept 5 (some b) w w') := by
  rcases h with h | h
  · refine (copyCheck_fresh b w h.cell0 h.shape h.frozen0).mono ?_
    rintro e w' ⟨rfl, rfl⟩
    exact ⟨rfl, h.used _, (Below.refl B w).setCell (p := ⟨b, 0, none⟩) h.1 _, (Lib.OthersKept.refl _ _ w).setCell ⟨b, 0, none⟩ rfl _⟩
  · refine (copyCheck_used b w h.cell0).mono ?_
    rintro e w' ⟨rfl, rfl⟩
    exact ⟨rfl, h, Below.refl B _, Lib.OthersKept.refl _ _ _⟩

set_option maxHeartbeats 2000000 in
set_option maxRecDepth 100000 in
theorem writeByte (B b : Nat) (bs : List Value) (c : Int) (w : World) (h : Lib.IsBuilderF 46 5 B b bs w) (hlen : bs.length + 1 ≤ 140737488355328) (hBw : B ≤ w.heap.size) :
    Calls Try.prog 55 #[.pointer (some ⟨b, 0, none⟩), .int .u8 c] w fun e w' => e = .returned .nilIface ∧ (Lib.IsBuilderF 46 5 B b (bs ++ [.int .u8 c]) w' ∧ Below B w w' ∧ Lib.OthersKept 5 (some b) w w') := by
  obtain ⟨i0, hi, hz0, hz1, hz2⟩ := info_parts infoByte
  go_enter Try.func55, Try.ntmps55
  go_wp2_with (go_at_call 62; refine (copyCheck_any B b bs _ h).mono ?_)
  rintro e w1 ⟨rfl, h1, hb1, hk1⟩
  obtain ⟨hB, v, hbk, hown, hne⟩ := h1
  have c0 : w1.cell? ⟨b, 0, none⟩ = some (.pointer (some ⟨b, 0, none⟩)) := by rw [Lib.cell_of_heap hbk]; rfl
  have c1 : w1.cell? ⟨b, 1, none⟩ = some v := by rw [Lib.cell_of_heap hbk]; rfl
  go_wp2_with (at_builtin; refine wpList_append_ownF _ rfl _ _ 31 rfl B 5 i0 (.int .u8 0) 1 1 Try.underlying31 hi hz0 hz1 hz2 rfl (by decide) _ _ _ rfl (hown.alloc _) ⟨w1.heap.size, 0, none⟩ 1 1 [.int .u8 c] rfl rfl ?c1 ?c2 ?c3 ?c4 ?c5 ?_)
  case c1 =>
    intro j u hj
    match j, hj with
    | 0, hj => simp at hj; subst hj; simp [Addr.add]
  case c2 => intro u hu; simp at hu; subst hu; rfl
  case c3 => unfold maxLen; omega
  case c4 => omega
  case c5 => have := hb1.size; simp; omega
  intro v' w2 hown' hgrow _
  have hlt : b < w1.heap.size := by
    rcases Nat.lt_or_ge b w1.heap.size with h' | h'
    · exact h'
    · simp [Array.getElem?_eq_none h'] at hbk
  have hb2 : w2.heap[b]? = some (.cells #[.pointer (some ⟨b, 0, none⟩), v] 46 (0, 0)) := by
    rw [hgrow.block b (by simp; omega) (fun e => hne e.symm), Lib.alloc_old w1 _ b hlt]
    exact hbk
  have d0 : w2.cell? ⟨b, 0, none⟩ = some (.pointer (some ⟨b, 0, none⟩)) := by rw [Lib.cell_of_heap hb2]; rfl
  have d1 : w2.cell? ⟨b, 1, none⟩ = some v := by rw [Lib.cell_of_heap hb2]; rfl
  have f1 : w2.frozen? ⟨b, 1, none⟩ = false := Lib.frozen_of_heap hb2 1
  obtain ⟨g, cap, rfl⟩ : ∃ g cap, v' = .slice (some ⟨g, 0, none⟩) (bs.length + 1) cap := by
    rcases hown'.2 with ⟨_, h0⟩ | ⟨g, cap, cur, fz, hv, _⟩
    · omega
    · exact ⟨g, cap, hv⟩
  go_wp2
  go_ret
  refine ⟨rfl, Or.inr ?_, ?_, ((hk1.alloc _).grown hgrow (Lib.ownsRowF_kind (hown.alloc _))).setCell ⟨b, 1, none⟩ rfl _⟩
  · exact Lib.BuilderAtF.put (T := 46) (e := 5) hB hb2 (bs' := bs ++ [.int .u8 c]) (by simpa using hown') (by decide)
  · exact ((hb1.alloc (by have := hb1.size; omega) _).grown hgrow (by have := hb1.size; simp; omega) (fun k hk => (hown.lt k hk).1)).setCell (p := ⟨b, 1, none⟩) hB _

end Go.Proofs.Yteihpdnbehnnhaa

set_option linter.unusedVariables false
namespace Go.Proofs.Yteihpdnbehnnhaa
open Go.Shelf Go.RowKit

set_option maxHeartbeats 1000000 in
set_option maxRecDepth 100000 in
theorem implVarPut_no (n : Int) (w : World) (h : n < 0 ∨ 2147483647 < n) :
    Calls Try.prog 41 #[.int .i64 n] w fun e w' => e = .returned (.string ⟨#[]⟩) ∧ Below w.heap.size w w' := by
  rcases h with h | h
  · go_enter Try.func41, Try.ntmps41
    go_wp2
    go_ret
    exact ⟨rfl, Below.refl _ _⟩
  · have h' : ¬ n < 0 := by omega
    go_enter Try.func41, Try.ntmps41
    go_wp2
    go_ret
    exact ⟨rfl, Below.refl _ _⟩

set_option maxHeartbeats 2000000 in
set_option maxRecDepth 100000 in
theorem implVarPut_yes (n : Nat) (w : World) (h : n ≤ 2147483647) :
    Calls Try.prog 41 #[.int .i64 n] w fun e w' => e = .returned (.string ⟨(varB 4 n).toArray⟩) ∧ Below w.heap.size w w' := by
  have h0 : ¬ (n : Int) < 0 := by omega
  have h1 : ¬ (2147483647 : Int) < n := by omega
  go_enter Try.func41, Try.ntmps41
  go_wp2
  go_loopw [0] (fun v wr => ∃ (m f : Nat) (acc : List UInt8), v = .int .i64 m ∧ m ≤ n ∧ m < 128 ^ (f + 1) ∧ f ≤ 4 ∧ acc.length + f = 4 ∧ acc ++ varB f m = varB 4 n ∧ Lib.IsBuilderF 46 5 w.heap.size w.heap.size (Lib.byteCells acc) wr ∧ Below w.heap.size w wr) (fun v _ => (intOf v).toNat)
  case atStart =>
    exact ⟨n, 4, [], rfl, Nat.le_refl _, by omega, by omega, rfl, rfl, Lib.IsBuilderF.of (Lib.fresh_isBuilder 46 5 w), (Below.refl _ w).alloc (Nat.le_refl _) _⟩
  case round =>
    obtain ⟨m, f, acc, rfl, hm, hf, hf4, hacc, heq, hI, hbw⟩ := hrel
    have hsz := hbw.size
    by_cases hlt : m < 128
    · have h2 : (m : Int) < 128 := by omega
      go_wp2_with fail
      refine (writeByte _ _ _ _ _ hI (by rw [Lib.byteCells_length]; omega) hsz).mono ?_
      rintro e w1 ⟨rfl, h1, b1, k1⟩
      rw [byteCells_snoc acc _ m (by omega) (by omega)] at h1
      go_wp2_with fail
      refine (Try.Builder_String_any_k _ _ _ _ h1 (by have := b1.size; omega)).mono ?_
      rintro e w2 ⟨rfl, _, b2, _⟩
      go_wp2
      go_ret
      rw [varB_small f m hlt] at heq
      rw [heq]
      exact ⟨rfl, (hbw.trans b1).trans b2⟩
    · have h2 : ¬ (m : Int) < 128 := by omega
      obtain ⟨g, rfl⟩ : ∃ g, f = g + 1 := by
        cases f with
        | zero => omega
        | succ g => exact ⟨g, rfl⟩
      go_wp2_with fail
      refine (writeByte _ _ _ _ _ hI (by rw [Lib.byteCells_length]; omega) hsz).mono ?_
      rintro e w1 ⟨rfl, h1, b1, k1⟩
      rw [byteCells_snoc acc _ (128 + m % 128) (by omega) (by omega)] at h1
      go_wp2
      go_roundw
      case rel =>
        refine ⟨m / 128, g, acc ++ [UInt8.ofNat (128 + m % 128)], by go_num, by omega, ?_, by omega, by simp; omega, ?_, h1, hbw.trans b1⟩
        · have : 128 ^ (g + 1 + 1) = 128 ^ (g + 1) * 128 := Nat.pow_succ ..
          omega
        · rw [← heq, varB_step g m hlt]; simp
      case measure => simp [intOf]; omega

end Go.Proofs.Yteihpdnbehnnhaa

set_option linter.unusedVariables false
namespace Go.Proofs.Yteihpdnbehnnhaa
open Go.RowKit

theorem implVarPut (n : Int) (w : World) :
    Calls Try.prog 41 #[.int .i64 n] w fun e w' => e = .returned (.string ⟨(varPut n).toArray⟩) ∧ Below w.heap.size w w' := by
  by_cases h : 0 ≤ n ∧ n ≤ 2147483647
  · obtain ⟨m, rfl⟩ := Int.eq_ofNat_of_zero_le h.1
    rw [varPut, if_pos h]
    exact implVarPut_yes m w (by omega)
  · rw [varPut, if_neg h]
    exact implVarPut_no n w (by omega)

end Go.Proofs.Yteihpdnbehnnhaa

set_option linter.unusedVariables false
namespace Go.Proofs.Yteihpdnbehnnhaa
open Go.RowKit

set_option maxHeartbeats 2000000 in
set_option maxRecDepth 100000 in
theorem implVarGet (s : ByteArray) (w : World) (hs : s.size ≤ maxLen) :
    Calls Try.prog 23 #[.string s] w fun e w' => e = .returned (.tuple #[.int .i64 (varGet s.data.toList).1, .int .i64 (varGet s.data.toList).2]) ∧ Below w.heap.size w w' := by
  unfold maxLen at hs
  go_enter Try.func23, Try.ntmps23
  go_wp2
  go_loopw [4, 5] (fun n i wr => ∃ k : Nat, k ≤ s.size ∧ k ≤ 5 ∧ i = .int .i64 k ∧ n = .int .i64 (vNum (s.data.toList.take k)) ∧ vg (5 - k) (s.data.toList.take k) (s.data.toList.drop k) = varGet s.data.toList ∧ Below w.heap.size w wr) (fun _ i _ => s.size - (intOf i).toNat)
  case atStart => exact ⟨0, by omega, by omega, rfl, rfl, rfl, Below.refl _ _⟩
  case round =>
    obtain ⟨k, hk, hk5, rfl, rfl, heq, hbw⟩ := hrel
    by_cases hlt : k < s.size ∧ k < 5
    · obtain ⟨hlt, h5⟩ := hlt
      have hor : bits .or .i64 (vNum (s.data.toList.take k) : Int) (wrap64 ((s[k].toNat : Int) % 128 * 2 ^ (7 * k))) = (vNum (s.data.toList.take (k + 1)) : Int) := by
        rw [take_snoc s k hlt, vNum_snoc, take_len s k hk]
        have := or_step (vNum (s.data.toList.take k)) (s[k].toNat % 128) k (by have := vNum_lt (s.data.toList.take k); rwa [take_len s k hk] at this) (by omega) h5
        simpa using this
      by_cases hb : 128 ≤ s[k].toNat
      · have hb' : (128 : Int) ≤ (s[k].toNat : Int) := by omega
        have HE : Hid (vg (5 - (k + 1)) (s.data.toList.take (k + 1)) (s.data.toList.drop (k + 1)) = varGet s.data.toList) := by rw [← vg_on s k hlt h5 hb]; exact heq
        clear heq
        go_wp2
        go_roundw
        case rel => exact ⟨k + 1, by omega, by omega, by go_num, rfl, HE.out, hbw⟩
        case measure => simp [intOf]; omega
      · have hb' : ¬ (128 : Int) ≤ (s[k].toNat : Int) := by omega
        have hw1 : IntKind.i64.wrap ((k : Int) + 1) = (k : Int) + 1 := by rw [IntKind.wrap_i64]; omega
        have hbd : 0 ≤ (k : Int) + 1 ∧ (k : Int) + 1 ≤ (s.size : Int) := by omega
        have hex : (s.extract 0 (k + 1)).toList = s.data.toList.take (k + 1) := by rw [Lib.extract_toList]; simp
        by_cases hp : varPut (vNum (s.data.toList.take (k + 1))) = s.data.toList.take (k + 1)
        · have HE : Hid (varGet s.data.toList = (vNum (s.data.toList.take (k + 1)), k + 1)) := by rw [← heq]; exact vg_yes s k hlt h5 hb hp
          have hcmp : (varPut (vNum (s.data.toList.take (k + 1))) == (s.extract 0 (k + 1)).toList) = true := by rw [hex, hp]; simp
          clear heq hex hp
          go_wp2_with fail
          go_region_with (go_at_call 41; refine (implVarPut _ _).mono ?_; rintro e w1 ⟨rfl, b1⟩)
          all_goals
            go_wp2
            go_ret2
            rw [HE.out]
            exact ⟨by simp, hbw.trans ((Below.drew (Below.refl _ wr)).trans b1 |>.mono hbw.size)⟩
        · have HE : Hid (varGet s.data.toList = (0, 0)) := by rw [← heq]; exact vg_no s k hlt h5 hb hp
          have hcmp : (varPut (vNum (s.data.toList.take (k + 1))) == (s.extract 0 (k + 1)).toList) = false := by rw [hex]; simpa using hp
          clear heq hex hp
          go_wp2_with fail
          go_region_with (go_at_call 41; refine (implVarPut _ _).mono ?_; rintro e w1 ⟨rfl, b1⟩)
          all_goals
            go_wp2
            go_ret2
            rw [HE.out]
            exact ⟨by simp, hbw.trans ((Below.drew (Below.refl _ wr)).trans b1 |>.mono hbw.size)⟩
    · have HE : Hid (varGet s.data.toList = (0, 0)) := by rw [← heq]; exact vg_end s k hlt
      clear heq
      by_cases hl : k < s.size
      · have h5 : ¬ k < 5 := fun h => hlt ⟨hl, h⟩
        clear hlt
        go_wp2
        go_ret2
        rw [HE.out]
        exact ⟨rfl, hbw⟩
      · clear hlt
        go_wp2
        go_ret2
        rw [HE.out]
        exact ⟨rfl, hbw⟩

end Go.Proofs.Yteihpdnbehnnhaa

namespace Go.Proofs.Yteihpdnbehnnhaa
open Go.RowKit

/-- Each the sum of all up to it. -/
def sumsF : Nat → List Nat → List Nat
  | _, [] => []
  | a, x :: r => (a + x) :: sumsF (a + x) r
def total (a : Nat) (l : List Nat) : Nat := l.foldl (· + ·) a
theorem total_cons (a x : Nat) (l : List Nat) : total a (x :: l) = total (a + x) l := rfl
theorem total_snoc (a x : Nat) (l : List Nat) : total a (l ++ [x]) = total a l + x := by simp [total]
theorem sumsF_length (l : List Nat) : ∀ a, (sumsF a l).length = l.length := by
  induction l with
  | nil => intro a; rfl
  | cons x r ih => intro a; simp [sumsF, ih]
theorem sumsF_snoc (l : List Nat) (x : Nat) : ∀ a, sumsF a (l ++ [x]) = sumsF a l ++ [total a l + x] := by
  induction l with
  | nil => intro a; rfl
  | cons y r ih => intro a; simp [sumsF, ih, total_cons]
theorem le_total (l : List Nat) : ∀ a, a ≤ total a l := by
  induction l with
  | nil => intro a; exact Nat.le_refl _
  | cons x r ih => intro a; rw [total_cons]; have := ih (a + x); omega
theorem sumsF_le (l : List Nat) : ∀ a, ∀ p ∈ sumsF a l, a ≤ p ∧ p ≤ total a l := by
  induction l with
  | nil => intro a p hp; cases hp
  | cons x r ih =>
    intro a p hp
    rw [total_cons]
    rcases List.mem_cons.1 hp with rfl | hp
    · exact ⟨by omega, le_total r _⟩
    · have := ih (a + x) p hp
      exact ⟨by omega, this.2⟩
theorem sumsF_last (l : List Nat) (h : l ≠ []) : ∀ a, total a l ∈ sumsF a l := by
  induction l with
  | nil => exact absurd rfl h
  | cons x r ih =>
    intro a
    cases r with
    | nil => simp [sumsF, total]
    | cons y t => exact List.mem_cons_of_mem _ (ih (by simp) (a + x))
theorem total_bound (l : List Nat) (h : ∀ x ∈ l, x ≤ 60000) : ∀ a, total a l ≤ a + 60000 * l.length := by
  induction l with
  | nil => intro a; exact Nat.le_refl _
  | cons x r ih =>
    intro a
    have h1 := ih (fun y hy => h y (by simp [hy])) (a + x)
    have h2 := h x (by simp)
    rw [total_cons, List.length_cons]
    omega

/-- Where the items fall, if all are below. -/
def placesOf (many : Nat) (gaps : List Nat) : Option (List Nat) := if total 0 gaps < many * 37 ∨ gaps = [] then some (sumsF 0 gaps) else none
noncomputable def filterGet (o : List UInt8) : Option (List Nat) :=
  if (varGet o).2 = 0 ∨ 600 < o.length then none
  else match riceGet (o.drop (varGet o).2) ((varGet o).1 : Int) 5 with
    | none => none
    | some gaps => placesOf (varGet o).1 gaps
theorem filterGet_bad {o : List UInt8} (h : (varGet o).2 = 0 ∨ 600 < o.length) : filterGet o = none := by rw [filterGet, if_pos h]
theorem filterGet_none {o : List UInt8} (h : riceGet (o.drop (varGet o).2) ((varGet o).1 : Int) 5 = none) : filterGet o = none := by
  unfold filterGet
  split
  · rfl
  · rw [h]
theorem filterGet_some {o : List UInt8} {gaps : List Nat} (h0 : ¬ ((varGet o).2 = 0 ∨ 600 < o.length)) (h : riceGet (o.drop (varGet o).2) ((varGet o).1 : Int) 5 = some gaps) : filterGet o = placesOf (varGet o).1 gaps := by
  rw [filterGet, if_neg h0, h]

theorem vg_size (f : Nat) : ∀ (l r : List UInt8), (vg f l r).2 ≤ l.length + r.length ∧ (vg f l r).2 ≤ l.length + f ∧ (vg f l r).1 ≤ 2147483647 := by
  induction f with
  | zero => intro l r; simp [vg]
  | succ f ih =>
    intro l r
    cases r with
    | nil => simp [vg]
    | cons b r =>
      rw [vg]
      split
      · have := ih (l ++ [b]) r
        simp at this ⊢
        omega
      · split
        · rename_i hb hv
          refine ⟨by simp, by simp, ?_⟩
          show vNum (l ++ [b]) ≤ 2147483647
          unfold varPut at hv
          split at hv
          · rename_i h
            omega
          · simp at hv
        · simp
theorem varGet_size (o : List UInt8) : (varGet o).2 ≤ o.length ∧ (varGet o).2 ≤ 5 ∧ (varGet o).1 ≤ 2147483647 := by
  have := vg_size 5 [] o
  simpa [varGet] using this

end Go.Proofs.Yteihpdnbehnnhaa

namespace Go.Proofs.Yteihpdnbehnnhaa
open Go.RowKit

theorem take_sums (l : List Nat) (i : Nat) (h : i < l.length) : sumsF 0 (l.take (i + 1)) = sumsF 0 (l.take i) ++ [total 0 (l.take i) + l.getD i 0] ∧ total 0 (l.take (i + 1)) = total 0 (l.take i) + l.getD i 0 := by
  have e : l.take (i + 1) = l.take i ++ [l.getD i 0] := by
    rw [List.take_add_one, List.getElem?_eq_getElem h, List.getD_eq_getElem?_getD, List.getElem?_eq_getElem h]
    rfl
  rw [e, sumsF_snoc, total_snoc]
  exact ⟨rfl, rfl⟩
theorem total_take_le (l : List Nat) (i : Nat) : total 0 (l.take i) ≤ total 0 l := by
  have e : total 0 l = total (total 0 (l.take i)) (l.drop i) := by
    rw [total, total, total, ← List.foldl_append, List.take_append_drop]
  rw [e]
  exact le_total _ _

end Go.Proofs.Yteihpdnbehnnhaa

set_option linter.unusedVariables false
namespace Go.Proofs.Yteihpdnbehnnhaa
open Go.Shelf Go.RowKit

set_option maxHeartbeats 1000000 in
set_option maxRecDepth 100000 in
theorem implFilterGet (s : ByteArray) (w : World) (hs : s.size ≤ maxLen) :
    Calls Try.prog 21 #[.string s] w fun e w' => ∃ v, e = .returned (.tuple #[v, .bool (filterGet s.data.toList).isSome]) ∧ GotRow w.heap.size v w' (filterGet s.data.toList) ∧ Below w.heap.size w w' := by
  obtain ⟨i0, hi, hz0, hz1, hz2⟩ := info_parts infoIntG
  have hvs := varGet_size s.data.toList
  obtain ⟨mn, sz, hvg⟩ : ∃ mn sz, varGet s.data.toList = (mn, sz) := ⟨_, _, rfl⟩
  have hget := implVarGet s w hs
  have hln : s.data.toList.length = s.size := by simp
  have HBAD : Hid ((sz = 0 ∨ 600 < s.size) → filterGet s.data.toList = none) := by
    intro h
    refine filterGet_bad ?_
    rw [hvg, hln]
    exact h
  have HNONE : Hid (riceGet (s.data.toList.drop sz) (mn : Int) 5 = none → filterGet s.data.toList = none) := by
    intro h
    refine filterGet_none ?_
    rw [hvg]
    exact h
  have HSOME : Hid (∀ gaps, ¬ (sz = 0 ∨ 600 < s.size) → riceGet (s.data.toList.drop sz) (mn : Int) 5 = some gaps → filterGet s.data.toList = placesOf mn gaps) := by
    intro gaps h0 h
    have := filterGet_some (o := s.data.toList) (gaps := gaps) (by rw [hvg, hln]; exact h0) (by rw [hvg]; exact h)
    rw [this, hvg]
  rw [hvg] at hvs hget
  rw [hln] at hvs
  dsimp only at hvs hget
  obtain ⟨hsz, hsz5, hmn⟩ := hvs
  clear hvg hln
  by_cases h0 : sz = 0
  · have HG : Hid (filterGet s.data.toList = none) := HBAD.out (.inl h0)
    rw [HG.out]
    subst h0
    go_enter Try.func21, Try.ntmps21
    go_wp2_with (go_at_call 23; refine hget.mono ?_; rintro e w1 ⟨rfl, b1⟩)
    go_ret2
    exact ⟨_, rfl, rfl, b1⟩
  · have hne : (((sz : Nat) : Int) == 0) = false := by simp; omega
    by_cases h6 : (600 : Int) < (s.size : Int)
    · have HG : Hid (filterGet s.data.toList = none) := HBAD.out (.inr (by omega))
      rw [HG.out]
      go_enter Try.func21, Try.ntmps21
      go_wp2_with (go_at_call 23; refine hget.mono ?_; rintro e w1 ⟨rfl, b1⟩)
      go_ret2
      exact ⟨_, rfl, rfl, b1⟩
    · have HOK : Hid (¬ (sz = 0 ∨ 600 < s.size)) := by show ¬ _; omega
      have hbd : 0 ≤ (sz : Int) ∧ (sz : Int) ≤ (s.size : Int) := by omega
      have hex : (s.extract sz s.size).data.toList = s.data.toList.drop sz := by
        simp
        exact List.take_of_length_le (by simp)
      have hrg := fun w => implRiceGet (s.extract sz s.size) (mn : Int) 5 w
      rw [hex] at hrg
      cases hr : riceGet (s.data.toList.drop sz) (mn : Int) 5 with
      | none =>
        have HG : Hid (filterGet s.data.toList = none) := HNONE.out hr
        rw [HG.out]
        rw [hr] at hrg
        dsimp only [Option.isSome] at hrg
        clear hr hex
        go_enter Try.func21, Try.ntmps21
        go_wp2_with first
          | (go_at_call 23; refine hget.mono ?_; rintro e w1 ⟨rfl, b1⟩)
          | (go_at_call 14; refine (hrg _).mono ?_; rintro e w2 ⟨v2, rfl, g2, b2⟩; obtain rfl : v2 = .slice none 0 0 := g2)
        go_ret2
        exact ⟨_, rfl, rfl, b1.trans (b2.mono b1.size)⟩
      | some gaps =>
        have HG : Hid (filterGet s.data.toList = placesOf mn gaps) := HSOME.out gaps HOK.out hr
        rw [HG.out]
        rw [hr] at hrg
        have hgs := riceGet_some hr
        have HGB : Hid (∀ i, gaps.getD i 0 ≤ 60000) := by
          intro i
          rcases Nat.lt_or_ge i gaps.length with h' | h'
          · rw [List.getD_eq_getElem?_getD, List.getElem?_eq_getElem h']
            exact hgs.2.2.1 _ (List.getElem_mem h')
          · rw [List.getD_eq_getElem?_getD, List.getElem?_eq_none h']
            exact Nat.zero_le _
        have hm40 : mn ≤ 40 ∧ gaps.length = mn := by
          have h1 := hgs.1
          simp only [getOk, Bool.and_eq_true, decide_eq_true_eq] at h1
          have h2 := hgs.2.1
          exact ⟨by omega, by simpa using h2⟩
        obtain ⟨hm40, hgl⟩ := hm40
        have HT : Hid (∀ i, total 0 (gaps.take i) ≤ 2400000) := by
          intro i
          refine Nat.le_trans (total_take_le gaps i) (Nat.le_trans (total_bound gaps hgs.2.2.1 0) ?_)
          omega
        have HGL : Hid (gaps.length = mn) := hgl
        dsimp only [Option.isSome] at hrg
        have hmk := makeCap mn (by omega)
        clear hr hex hgs hgl HNONE HSOME HBAD
        go_enter Try.func21, Try.ntmps21
        go_wp2_with first
          | (go_at_call 23; refine hget.mono ?_; rintro e w1 ⟨rfl, b1⟩)
          | (go_at_call 14; refine (hrg _).mono ?_; rintro e w2 ⟨v2, rfl, g2, b2⟩; obtain ⟨gg, c2, rfl⟩ := g2.1)
        have HG2 : Hid (OutRow w1.heap.size (.slice (some ⟨gg, 0, none⟩) gaps.length c2) gaps w2) := g2
        have HB2 : Hid (Below w.heap.size w w2) := b1.trans (b2.mono b1.size)
        have HL2 : Hid (gg < w2.heap.size) := g2.lt.2
        have HAT : Hid (At w2 gg (gaps.map fun n : Nat => (n : Int))) := outRow_at g2
        rw [HGL.out]
        have HW3 : Hid (OutRow w2.heap.size (.slice (some ⟨w2.heap.size, 0, none⟩) 0 mn) (sumsF 0 (gaps.take 0)) (w2.alloc (.cells (madeCells #[.int .i64 0] mn) 3))) :=
          ⟨⟨_, _, rfl⟩, rfl, .inr ⟨_, _, _, rfl, Nat.le_refl _, World.alloc_heap_new w2 _, Nat.zero_le _, by unfold maxLen; omega, by rw [madeCells_size0]; omega, rfl⟩⟩
        have HB3 : Hid (Below w2.heap.size w2 (w2.alloc (.cells (madeCells #[.int .i64 0] mn) 3))) := (Below.refl _ w2).alloc (Nat.le_refl _) _
        clear b1 b2 g2 hget hrg hmk
        go_loopw [8, 9, 38] (fun v p i wr => ∃ (k q : Nat), k ≤ mn ∧ q ≤ 2400000 ∧ i = .int .i64 (k : Int) ∧ p = .int .i64 (q : Int) ∧ Hid (q = total 0 (gaps.take k)) ∧ Hid (k = 0 ∨ q < mn * 37) ∧ Hid (OutRow w2.heap.size v (sumsF 0 (gaps.take k)) wr) ∧ Hid (Below w2.heap.size w2 wr)) (fun _ _ i _ => mn - (intOf i).toNat)
        case atStart => exact ⟨0, 0, by omega, by omega, rfl, rfl, rfl, .inl rfl, HW3, HB3⟩
        case round =>
          clear HW3 HB3
          obtain ⟨k, q, hk, hq, rfl, rfl, HQ, HLT, HR, HB⟩ := hrel
          obtain ⟨⟨g3, c3, rfl⟩, hrow⟩ := HR.out
          by_cases hlt : k < mn
          · obtain ⟨x, hx⟩ : ∃ x, x = gaps.getD k 0 := ⟨_, rfl⟩
            have hkg : k < gaps.length := by rw [HGL.out]; exact hlt
            have hst := take_sums gaps k hkg
            have hx6 : x ≤ 60000 := by rw [hx]; exact HGB.out k
            have hq2 : q + x ≤ 2400000 := by have := HT.out (k + 1); rw [hst.2, ← HQ.out, ← hx] at this; exact this
            have cx : wr.cell? ⟨gg, k, none⟩ = some (.int .i64 (x : Int)) := by
              rw [HB.out.cell (p := ⟨gg, k, none⟩) HL2.out, HAT.out.2 k (by simpa using hkg), hx, List.getD_eq_getElem?_getD, List.getElem?_map, List.getD_eq_getElem?_getD, List.getElem?_eq_getElem hkg]
              rfl
            have HS : Hid (sumsF 0 (gaps.take (k + 1)) = sumsF 0 (gaps.take k) ++ [q + x] ∧ q + x = total 0 (gaps.take (k + 1))) := by rw [hst.1, hst.2, ← HQ.out, ← hx]; exact ⟨rfl, rfl⟩
            have HKG : Hid (k < gaps.length) := hkg
            have lk : (k : Int) < (mn : Int) := by omega
            have hlen : (sumsF 0 (gaps.take k)).length = k := by rw [sumsF_length]; simp; omega
            rw [hlen] at hrow HR
            have HRW : Hid (wr.ownsRow w2.heap.size 3 1 (.slice (some ⟨g3, 0, none⟩) k c3) k (intCells (sumsF 0 (gaps.take k)))) := hrow
            have hszr := HB.out.size
            rw [hlen]
            clear hx hst hkg hrow hlen
            by_cases hge : mn * 37 ≤ q + x
            · have hge' : (mn : Int) * 37 ≤ (q : Int) + (x : Int) := by omega
              have HG3 : Hid (placesOf mn gaps = none) := by
                show _ = _
                unfold placesOf
                have h1 := total_take_le gaps (k + 1)
                rw [← HS.out.2] at h1
                have h2 : gaps ≠ [] := by intro e; have := HKG.out; rw [e] at this; cases this
                rw [if_neg]
                rintro (h | h)
                · omega
                · exact h2 h
              clear hge
              go_wp2_with fail
              go_ret2
              rw [HG3.out]
              exact ⟨_, rfl, rfl, HB2.out.trans (HB.out.mono HB2.out.size)⟩
            · have hge' : ¬ (mn : Int) * 37 ≤ (q : Int) + (x : Int) := by omega
              have HGE : Hid (q + x < mn * 37) := Nat.lt_of_not_le hge
              clear hge
              have HK : Hid (k + 1 ≤ mn) := hlt
              have hx1 : k + 1 ≤ maxLen := by unfold maxLen; omega
              have hx2 : (k + 1) * 8 ≤ 140737488355328 := by omega
              go_wp2_with (at_builtin; refine wp_app1 rfl _ _ 22 rfl w2.heap.size 3 i0 (.int .i64 0) 8 Try.underlying22 hi hz0 hz1 hz2 rfl _ _ _ rfl HRW.out (.int .i64 ((q + x : Nat) : Int)) rfl rfl hx1 hx2 hszr ?_; intro g4 c4 w4 hown4 hb4 _)
              go_roundw
              case rel =>
                refine ⟨k + 1, q + x, HK.out, hq2, by go_num, by go_num, HS.out.2, .inr HGE.out, ⟨⟨g4, c4, ?_⟩, ?_⟩, HB.out.trans hb4⟩
                · rw [sumsF_length, List.length_take, Nat.min_eq_left (by have := HKG.out; omega)]
                · rw [sumsF_length, List.length_take, Nat.min_eq_left (by have := HKG.out; omega), HS.out.1]
                  simpa [intCells] using hown4
              case measure => have := HK.out; simp [intOf]; omega
          · obtain rfl : k = mn := by omega
            have HP : Hid (placesOf k gaps = some (sumsF 0 gaps)) := by
              show _ = _
              unfold placesOf
              have e : gaps.take k = gaps := List.take_of_length_le (by rw [HGL.out]; exact Nat.le_refl _)
              have h1 := HQ.out
              rw [e] at h1
              rw [if_pos]
              rcases HLT.out with h | h
              · right
                exact List.length_eq_zero_iff.1 (by rw [HGL.out]; exact h)
              · left
                rw [← h1]
                exact h
            have HR2 : Hid (OutRow w2.heap.size (.slice (some ⟨g3, 0, none⟩) (sumsF 0 (gaps.take k)).length c3) (sumsF 0 gaps) wr) := by
              have := HR.out
              rw [List.take_of_length_le (by rw [HGL.out]; exact Nat.le_refl _)] at this ⊢
              exact this
            clear hrow
            go_wp2_with fail
            go_ret2
            rw [HP.out]
            exact ⟨_, rfl, ⟨HR2.out.1, ownsRow_mono HR2.out.2 HB2.out.size⟩, HB2.out.trans (HB.out.mono HB2.out.size)⟩

end Go.Proofs.Yteihpdnbehnnhaa

set_option linter.unusedVariables false
namespace Go.Proofs.Yteihpdnbehnnhaa
open Go.RowKit

set_option maxHeartbeats 2000000 in
set_option maxRecDepth 100000 in
theorem specGet (s : ByteArray) (w : World) (hs : s.size ≤ maxLen) :
    Calls Try.prog 50 #[.string s] w fun e w' => e = .returned (.tuple #[.int .i64 (varGet s.data.toList).1, .int .i64 (varGet s.data.toList).2]) ∧ w = w' := by
  unfold maxLen at hs
  go_enter Try.func50, Try.ntmps50
  go_wp2
  go_loop [4, 5, 6] (fun n b i => ∃ k p v : Nat, k ≤ s.size ∧ k ≤ 5 ∧ i = .int .i64 k ∧ n = .int .i64 v ∧ b = .int .i64 p ∧ Hid (p = 128 ^ k) ∧ Hid (v = vNum (s.data.toList.take k)) ∧ (∀ c ∈ s.data.toList.take k, 128 ≤ c.toNat) ∧ Hid (vg (5 - k) (s.data.toList.take k) (s.data.toList.drop k) = varGet s.data.toList)) (fun _ _ i => s.size - (intOf i).toNat)
  case atStart => exact ⟨0, 1, 0, by omega, by omega, rfl, rfl, rfl, rfl, rfl, by simp, rfl⟩
  case round =>
    obtain ⟨k, p, v, hk, hk5, rfl, rfl, rfl, HP, HV, hall, heq⟩ := hrel
    have hlen := take_len s k hk
    have hvlt : v < p := by rw [HP.out, HV.out]; have := vNum_lt (s.data.toList.take k); rwa [hlen] at this
    by_cases hlt : k < s.size ∧ k < 5
    · obtain ⟨hlt, h5⟩ := hlt
      have hby : (s[k].toNat : Int) < 256 := by have := s[k].toNat_lt; omega
      have hp1 : p ≤ 268435456 := by rw [HP.out]; exact Nat.pow_le_pow_right (by decide) (show k ≤ 4 by omega)
      obtain ⟨q, hq⟩ : ∃ q, q = s[k].toNat % 128 * p := ⟨_, rfl⟩
      have hq1 : q ≤ 127 * 268435456 := by rw [hq]; exact Nat.mul_le_mul (by omega) hp1
      have hmul : wrap64 ((s[k].toNat : Int) % 128 * (p : Int)) = (q : Int) := by
        have : (s[k].toNat : Int) % 128 * (p : Int) = (q : Int) := by rw [hq]; simp
        rw [this]; unfold wrap64; omega
      have HV1 : Hid (v + q = vNum (s.data.toList.take (k + 1))) := by
        have : v + q = vNum (s.data.toList.take (k + 1)) := by rw [take_snoc s k hlt, vNum_snoc, hlen, ← HV.out, hq, HP.out]
        exact this
      have HP1 : Hid (p * 128 = 128 ^ (k + 1)) := by
        have : p * 128 = 128 ^ (k + 1) := by rw [Nat.pow_succ, ← HP.out]
        exact this
      clear hq
      by_cases hb : 128 ≤ s[k].toNat
      · have hb' : ¬ (s[k].toNat : Int) < 128 := by omega
        have HE : Hid (vg (5 - (k + 1)) (s.data.toList.take (k + 1)) (s.data.toList.drop (k + 1)) = varGet s.data.toList) := by
          have := heq.out
          rw [vg_on s k hlt h5 hb] at this; exact this
        have HA : Hid (∀ c ∈ s.data.toList.take (k + 1), 128 ≤ c.toNat) := by
          intro c hc
          rw [take_snoc s k hlt] at hc
          rcases List.mem_append.1 hc with hc | hc
          · exact hall c hc
          · simp at hc; subst hc; exact hb
        clear heq hall
        go_wp2
        go_round
        case rel => exact ⟨k + 1, p * 128, v + q, by omega, by omega, by go_num, by go_num, by go_num, HP1, HV1, HA, HE⟩
        case measure => simp [intOf]; omega
      · have hb' : (s[k].toNat : Int) < 128 := by omega
        have hends : vEnds (s.data.toList.take k) s[k] := ⟨hall, by omega⟩
        have hiff := varPut_vNum _ _ hends (by omega)
        rw [← take_snoc s k hlt, ← HV1.out] at hiff
        by_cases hp : (s.data.toList.take k = [] ∨ s[k] ≠ 0) ∧ v + q ≤ 2147483647
        · have hpp := hiff.2 hp
          have HE : Hid (varGet s.data.toList = (v + q, k + 1)) := by
            have := heq.out
            rw [vg_yes s k hlt h5 hb (by rw [← HV1.out]; rw [HV1.out] at hpp ⊢; exact hpp), ← HV1.out] at this; exact this.symm
          have h31 : ¬ (2147483647 : Int) < (v : Int) + (q : Int) := by omega
          by_cases hk0 : k = 0
          · subst hk0
            clear heq hall hiff hpp hends
            go_wp2
            go_ret2
            rw [HE.out]
            exact ⟨by simp, rfl⟩
          · have hk1 : (0 : Int) < (k : Int) := by omega
            have hne : ((s[k].toNat : Int) == 0) = false := by
              rcases hp.1 with h0 | h0
              · rw [h0] at hlen; simp at hlen; omega
              · simp
                intro h1
                exact h0 (UInt8.toNat.inj (by simpa using h1))
            clear heq hall hiff hpp hends hp
            go_wp2
            go_ret2
            rw [HE.out]
            exact ⟨by simp, rfl⟩
        · have HE : Hid (varGet s.data.toList = (0, 0)) := by
            have := heq.out
            rw [vg_no s k hlt h5 hb (by rw [← HV1.out]; intro hh; rw [HV1.out] at hh hp hiff; exact hp (hiff.1 hh))] at this; exact this.symm
          by_cases h31 : v + q ≤ 2147483647
          · have h31' : ¬ (2147483647 : Int) < (v : Int) + (q : Int) := by omega
            have hk0 : ¬ k = 0 := by
              intro hk0
              exact hp ⟨Or.inl (List.length_eq_zero_iff.1 (by omega)), h31⟩
            have hk1 : (0 : Int) < (k : Int) := by omega
            have he0 : ((s[k].toNat : Int) == 0) = true := by
              by_cases hz : s[k] = 0
              · simp [hz]
              · exact absurd ⟨Or.inr hz, h31⟩ hp
            clear heq hall hiff hends hp
            go_wp2
            go_ret2
            rw [HE.out]
            exact ⟨rfl, rfl⟩
          · have h31' : (2147483647 : Int) < (v : Int) + (q : Int) := by omega
            clear heq hall hiff hends hp
            by_cases hk0 : k = 0
            · subst hk0
              go_wp2
              go_ret2
              rw [HE.out]
              exact ⟨rfl, rfl⟩
            · have hk1 : (0 : Int) < (k : Int) := by omega
              by_cases he0 : ((s[k].toNat : Int) == 0) = true
              · go_wp2
                go_ret2
                rw [HE.out]
                exact ⟨rfl, rfl⟩
              · have he1 : ((s[k].toNat : Int) == 0) = false := by simpa using he0
                clear he0
                go_wp2
                go_ret2
                rw [HE.out]
                exact ⟨rfl, rfl⟩
    · have HE : Hid (varGet s.data.toList = (0, 0)) := by rw [← heq.out]; exact vg_end s k hlt
      clear heq hall
      by_cases hl : k < s.size
      · have h5 : ¬ k < 5 := fun h => hlt ⟨hl, h⟩
        clear hlt
        go_wp2
        go_ret2
        rw [HE.out]
        exact ⟨rfl, rfl⟩
      · clear hlt
        go_wp2
        go_ret2
        rw [HE.out]
        exact ⟨rfl, rfl⟩

end Go.Proofs.Yteihpdnbehnnhaa

set_option linter.unusedVariables false
namespace Go.Proofs.Yteihpdnbehnnhaa
open Go.Shelf Go.RowKit

/-- How many a filter tells, if it is one. -/
noncomputable def manyOf2 (o : List UInt8) : Nat := if (filterGet o).isSome then (varGet o).1 else 0

set_option maxHeartbeats 1000000 in
set_option maxRecDepth 100000 in
theorem specPlaces (s : ByteArray) (w : World) (hs : s.size ≤ 1048576) :
    Calls Try.prog 39 #[.string s] w fun e w' => ∃ v, e = .returned (.tuple #[v, .int .i64 ((manyOf2 s.data.toList : Nat) : Int), .bool (filterGet s.data.toList).isSome]) ∧ GotRow w.heap.size v w' (filterGet s.data.toList) ∧ Below w.heap.size w w' := by
  obtain ⟨i0, hi, hz0, hz1, hz2⟩ := info_parts infoIntB
  have hvs := varGet_size s.data.toList
  obtain ⟨mn, sz, hvg⟩ : ∃ mn sz, varGet s.data.toList = (mn, sz) := ⟨_, _, rfl⟩
  have hget := specGet s w (by unfold maxLen; omega)
  have hln : s.data.toList.length = s.size := by simp
  have HMY : Hid (∀ l, filterGet s.data.toList = some l → manyOf2 s.data.toList = mn) := by
    intro l h
    unfold manyOf2
    rw [h, hvg]
    rfl
  have HMN : Hid (filterGet s.data.toList = none → ((manyOf2 s.data.toList : Nat) : Int) = 0) := by
    intro h
    unfold manyOf2
    rw [h]
    rfl
  have HBAD : Hid ((sz = 0 ∨ 600 < s.size) → filterGet s.data.toList = none) := by
    intro h
    refine filterGet_bad ?_
    rw [hvg, hln]
    exact h
  have HNONE : Hid (riceGet (s.data.toList.drop sz) (mn : Int) 5 = none → filterGet s.data.toList = none) := by
    intro h
    refine filterGet_none ?_
    rw [hvg]
    exact h
  have HSOME : Hid (∀ gaps, ¬ (sz = 0 ∨ 600 < s.size) → riceGet (s.data.toList.drop sz) (mn : Int) 5 = some gaps → filterGet s.data.toList = placesOf mn gaps) := by
    intro gaps h0 h
    have := filterGet_some (o := s.data.toList) (gaps := gaps) (by rw [hvg, hln]; exact h0) (by rw [hvg]; exact h)
    rw [this, hvg]
  rw [hvg] at hvs hget
  rw [hln] at hvs
  dsimp only at hvs hget
  obtain ⟨hsz, hsz5, hmn⟩ := hvs
  clear hvg hln
  by_cases h0 : sz = 0
  · have HG : Hid (filterGet s.data.toList = none) := HBAD.out (.inl h0)
    rw [HMN.out HG.out, HG.out]
    subst h0
    go_enter Try.func39, Try.ntmps39
    go_wp2_with (go_at_call 50; refine hget.mono ?_; rintro e w1 ⟨rfl, rfl⟩)
    go_ret3
    exact ⟨_, rfl, rfl, Below.refl _ _⟩
  have hne : (((sz : Nat) : Int) == 0) = false := by simp; omega
  by_cases h40 : (40 : Int) < (mn : Int)
  · have HG : Hid (filterGet s.data.toList = none) := HNONE.out (riceGet_bad (by
      have e1 : decide (0 ≤ (mn : Int) ∧ (mn : Int) ≤ 40) = false := decide_eq_false (by omega)
      simp only [getOk, e1, Bool.false_and]))
    rw [HMN.out HG.out, HG.out]
    go_enter Try.func39, Try.ntmps39
    go_wp2_with (go_at_call 50; refine hget.mono ?_; rintro e w1 ⟨rfl, rfl⟩)
    go_ret3
    exact ⟨_, rfl, rfl, Below.refl _ _⟩
  by_cases h6 : (600 : Int) < (s.size : Int)
  · have HG : Hid (filterGet s.data.toList = none) := HBAD.out (.inr (by omega))
    rw [HMN.out HG.out, HG.out]
    go_enter Try.func39, Try.ntmps39
    go_wp2_with (go_at_call 50; refine hget.mono ?_; rintro e w1 ⟨rfl, rfl⟩)
    go_ret3
    exact ⟨_, rfl, rfl, Below.refl _ _⟩
  have HOK : Hid (¬ (sz = 0 ∨ 600 < s.size)) := by show ¬ _; omega
  have hm40 : mn ≤ 40 := by omega
  have hbd : 0 ≤ (sz : Int) ∧ (sz : Int) ≤ (s.size : Int) := by omega
  have hex : (s.extract sz s.size).data.toList = s.data.toList.drop sz := by
    simp
    exact List.take_of_length_le (by simp)
  have hrg := fun w => specRiceGet (s.extract sz s.size) (mn : Int) 5 w (by simp; omega)
  rw [hex] at hrg
  cases hr : riceGet (s.data.toList.drop sz) (mn : Int) 5 with
  | none =>
    have HG : Hid (filterGet s.data.toList = none) := HNONE.out hr
    rw [HMN.out HG.out, HG.out]
    rw [hr] at hrg
    dsimp only [Option.isSome] at hrg
    clear hr hex
    go_enter Try.func39, Try.ntmps39
    go_wp2_with first
      | (go_at_call 50; refine hget.mono ?_; rintro e w1 ⟨rfl, rfl⟩)
      | (go_at_call 13; refine (hrg _).mono ?_; rintro e w2 ⟨v2, rfl, g2, b2⟩; obtain rfl : v2 = .slice none 0 0 := g2)
    have HB2 : Hid (Below w.heap.size w (w2.alloc (.cells #[] 3))) := b2.alloc b2.size _
    clear b2
    go_loop [11] (fun i => i = .int .i64 0) (fun _ => 0)
    case atStart => rfl
    case round =>
      subst hrel
      go_wp2_with fail
      go_ret3
      exact ⟨_, rfl, rfl, HB2.out⟩
  | some gaps =>
    have HG : Hid (filterGet s.data.toList = placesOf mn gaps) := HSOME.out gaps HOK.out hr
    rw [hr] at hrg
    have hgs := riceGet_some hr
    have HGB : Hid (∀ i, gaps.getD i 0 ≤ 60000) := by
      intro i
      rcases Nat.lt_or_ge i gaps.length with h' | h'
      · rw [List.getD_eq_getElem?_getD, List.getElem?_eq_getElem h']
        exact hgs.2.2.1 _ (List.getElem_mem h')
      · rw [List.getD_eq_getElem?_getD, List.getElem?_eq_none h']
        exact Nat.zero_le _
    have hgl : gaps.length = mn := by simpa using hgs.2.1
    have HT : Hid (∀ i, total 0 (gaps.take i) ≤ 2400000) := by
      intro i
      refine Nat.le_trans (total_take_le gaps i) (Nat.le_trans (total_bound gaps hgs.2.2.1 0) ?_)
      omega
    have HGL : Hid (gaps.length = mn) := hgl
    dsimp only [Option.isSome] at hrg
    clear hr hex hgs hgl HNONE HSOME HBAD
    go_enter Try.func39, Try.ntmps39
    go_wp2_with first
      | (go_at_call 50; refine hget.mono ?_; rintro e w1 ⟨rfl, rfl⟩)
      | (go_at_call 13; refine (hrg _).mono ?_; rintro e w2 ⟨v2, rfl, g2, b2⟩; obtain ⟨gg, c2, rfl⟩ := g2.1)
    have HB2 : Hid (Below w.heap.size w w2) := b2
    have HL2 : Hid (gg < w2.heap.size) := g2.lt.2
    have HAT : Hid (At w2 gg (gaps.map fun n : Nat => (n : Int))) := outRow_at g2
    rw [HGL.out]
    have HW3 : Hid (OutRow w2.heap.size (.slice (some ⟨w2.heap.size, 0, none⟩) 0 0) (sumsF 0 (gaps.take 0)) (w2.alloc (.cells #[] 3))) := newRow w2
    have HB3 : Hid (Below w2.heap.size w2 (w2.alloc (.cells #[] 3))) := (Below.refl _ w2).alloc (Nat.le_refl _) _
    clear b2 g2 hget hrg
    go_loopw [9, 10, 11] (fun v p i wr => ∃ (k q : Nat), k ≤ mn ∧ q ≤ 2400000 ∧ i = .int .i64 (k : Int) ∧ p = .int .i64 (q : Int) ∧ Hid (q = total 0 (gaps.take k)) ∧ Hid (OutRow w2.heap.size v (sumsF 0 (gaps.take k)) wr) ∧ Hid (Below w2.heap.size w2 wr)) (fun _ _ i _ => mn - (intOf i).toNat)
    case atStart => exact ⟨0, 0, by omega, by omega, rfl, rfl, rfl, HW3, HB3⟩
    case round =>
      clear HW3 HB3
      obtain ⟨k, q, hk, hq, rfl, rfl, HQ, HR, HB⟩ := hrel
      obtain ⟨⟨g3, c3, rfl⟩, hrow⟩ := HR.out
      by_cases hlt : k < mn
      · obtain ⟨x, hx⟩ : ∃ x, x = gaps.getD k 0 := ⟨_, rfl⟩
        have hkg : k < gaps.length := by rw [HGL.out]; exact hlt
        have hst := take_sums gaps k hkg
        have hx6 : x ≤ 60000 := by rw [hx]; exact HGB.out k
        have hq2 : q + x ≤ 2400000 := by have := HT.out (k + 1); rw [hst.2, ← HQ.out, ← hx] at this; exact this
        have cx : wr.cell? ⟨gg, k, none⟩ = some (.int .i64 (x : Int)) := by
          rw [HB.out.cell (p := ⟨gg, k, none⟩) HL2.out, HAT.out.2 k (by simpa using hkg), hx, List.getD_eq_getElem?_getD, List.getElem?_map, List.getD_eq_getElem?_getD, List.getElem?_eq_getElem hkg]
          rfl
        have HS : Hid (sumsF 0 (gaps.take (k + 1)) = sumsF 0 (gaps.take k) ++ [q + x] ∧ q + x = total 0 (gaps.take (k + 1))) := by rw [hst.1, hst.2, ← HQ.out, ← hx]; exact ⟨rfl, rfl⟩
        have HKG : Hid (k < gaps.length) := hkg
        have lk : (k : Int) < (mn : Int) := by omega
        have hlen : (sumsF 0 (gaps.take k)).length = k := by rw [sumsF_length]; simp; omega
        rw [hlen] at hrow HR
        have HRW : Hid (wr.ownsRow w2.heap.size 3 1 (.slice (some ⟨g3, 0, none⟩) k c3) k (intCells (sumsF 0 (gaps.take k)))) := hrow
        have hszr := HB.out.size
        rw [hlen]
        clear hx hst hkg hrow hlen
        have HK : Hid (k + 1 ≤ mn) := hlt
        have hx1 : k + 1 ≤ maxLen := by unfold maxLen; omega
        have hx2 : (k + 1) * 8 ≤ 140737488355328 := by omega
        go_wp2_with (at_builtin; refine wp_app1 rfl _ _ 22 rfl w2.heap.size 3 i0 (.int .i64 0) 8 Try.underlying22 hi hz0 hz1 hz2 rfl _ _ _ rfl HRW.out (.int .i64 ((q + x : Nat) : Int)) rfl rfl hx1 hx2 hszr ?_; intro g4 c4 w4 hown4 hb4 _)
        go_roundw
        case rel =>
          refine ⟨k + 1, q + x, HK.out, hq2, by go_num, by go_num, HS.out.2, ⟨⟨g4, c4, ?_⟩, ?_⟩, HB.out.trans hb4⟩
          · rw [sumsF_length, List.length_take, Nat.min_eq_left (by have := HKG.out; omega)]
          · rw [sumsF_length, List.length_take, Nat.min_eq_left (by have := HKG.out; omega), HS.out.1]
            simpa [intCells] using hown4
        case measure => have := HK.out; simp [intOf]; omega
      · obtain rfl : k = mn := by omega
        have e : gaps.take k = gaps := List.take_of_length_le (by rw [HGL.out]; exact Nat.le_refl _)
        have HR2 : Hid (OutRow w2.heap.size (.slice (some ⟨g3, 0, none⟩) (sumsF 0 gaps).length c3) (sumsF 0 gaps) wr) := by
          have := HR.out
          rw [e] at this
          exact this
        have HQ2 : Hid (q = total 0 gaps) := by have := HQ.out; rw [e] at this; exact this
        rw [e]
        have HBB : Hid (Below w.heap.size w wr) := HB2.out.trans (HB.out.mono HB2.out.size)
        clear hrow e
        by_cases hge : k * 37 ≤ q
        · have hge' : (k : Int) * 37 ≤ (q : Int) := by omega
          by_cases hk0 : k = 0
          · subst hk0
            have HF : Hid (filterGet s.data.toList = some (sumsF 0 gaps)) := by
              show _ = _
              rw [HG.out, placesOf, if_pos]
              exact .inr (List.length_eq_zero_iff.1 HGL.out)
            go_wp2_with fail
            go_ret3
            rw [HMY.out _ HF.out, HF.out]
            exact ⟨_, rfl, ⟨HR2.out.1, ownsRow_mono HR2.out.2 HB2.out.size⟩, HBB.out⟩
          · have hk1 : (0 : Int) < (k : Int) := by omega
            have HF : Hid (filterGet s.data.toList = none) := by
              show _ = _
              rw [HG.out, placesOf, if_neg]
              rintro (h | h)
              · rw [← HQ2.out] at h; omega
              · have := HGL.out
                rw [h] at this
                exact hk0 this.symm
            clear hk0 hge
            go_wp2_with fail
            go_ret3
            rw [HMN.out HF.out, HF.out]
            exact ⟨_, rfl, rfl, HBB.out⟩
        · have hge' : ¬ (k : Int) * 37 ≤ (q : Int) := by omega
          have HF : Hid (filterGet s.data.toList = some (sumsF 0 gaps)) := by
            show _ = _
            rw [HG.out, placesOf, if_pos]
            exact .inl (by rw [← HQ2.out]; omega)
          clear hge
          go_wp2_with fail
          go_ret3
          rw [HMY.out _ HF.out, HF.out]
          exact ⟨_, rfl, ⟨HR2.out.1, ownsRow_mono HR2.out.2 HB2.out.size⟩, HBB.out⟩

set_option maxHeartbeats 1000000 in
set_option maxRecDepth 100000 in
theorem specFilterGet (s : ByteArray) (w : World) (hs : s.size ≤ 1048576) :
    Calls Try.prog 20 #[.string s] w fun e w' => ∃ v, e = .returned (.tuple #[v, .bool (filterGet s.data.toList).isSome]) ∧ GotRow w.heap.size v w' (filterGet s.data.toList) ∧ Below w.heap.size w w' := by
  have hp := specPlaces s w hs
  generalize filterGet s.data.toList = fg at hp ⊢
  go_enter Try.func20, Try.ntmps20
  go_wp2_with fail
  refine hp.mono ?_
  rintro e w1 ⟨v, rfl, g, b⟩
  cases fg with
  | none =>
    obtain rfl : v = .slice none 0 0 := g
    go_wp2_with fail
    go_ret2
    exact ⟨_, rfl, rfl, b⟩
  | some l =>
    obtain ⟨gg, c, rfl⟩ := g.1
    go_wp2_with fail
    go_ret2
    exact ⟨_, rfl, g, b⟩

end Go.Proofs.Yteihpdnbehnnhaa

set_option linter.unusedVariables false
namespace Go.Proofs.Yteihpdnbehnnhaa
open Go.RowKit

theorem sumsF_asc : ∀ (l : List Nat) (a i : Nat), i + 1 < l.length → (sumsF a l).getD i 0 ≤ (sumsF a l).getD (i + 1) 0
  | [], a, i, h => by simp at h
  | [x], a, i, h => by simp at h
  | x :: y :: r, a, 0, _ => by simp [sumsF]
  | x :: y :: r, a, i + 1, h => by
    have := sumsF_asc (y :: r) (a + x) i (by simp at h ⊢; omega)
    simpa [sumsF] using this
theorem filterGet_law {o : List UInt8} {l : List Nat} (h : filterGet o = some l) : l.length ≤ 40 ∧ l.length = (varGet o).1 ∧ (∀ i, i < l.length → l.getD i 0 < (varGet o).1 * 37) ∧ (∀ i, i + 1 < l.length → l.getD i 0 ≤ l.getD (i + 1) 0) := by
  unfold filterGet at h
  split at h
  · cases h
  · split at h
    · cases h
    · rename_i gaps hr
      unfold placesOf at h
      split at h
      · rename_i hor
        have e : sumsF 0 gaps = l := by simpa using h
        subst e
        have hg := riceGet_some hr
        have h2 := hg.1
        simp only [getOk, Bool.and_eq_true, decide_eq_true_eq] at h2
        have h3 := hg.2.1
        rw [sumsF_length]
        refine ⟨by omega, by omega, fun i hi => ?_, fun i hi => sumsF_asc gaps 0 i hi⟩
        have hm : (sumsF 0 gaps).getD i 0 ∈ sumsF 0 gaps := by
          have : i < (sumsF 0 gaps).length := by rw [sumsF_length]; exact hi
          simp [List.getElem?_eq_getElem this]
        have h4 := sumsF_le gaps 0 _ hm
        rcases hor with h5 | h5
        · omega
        · rw [h5] at hi
          cases hi
      · cases h

set_option maxHeartbeats 4000000 in
set_option maxRecDepth 100000 in
theorem walk_FnFilterGet (a : Option Addr) (len cap : Nat) (zs : List Int) (w : World) (h : IsRow .u8 w a len cap zs) :
    Calls Try.prog 8 #[.slice a len cap] w fun e w' => e = .returned (.bool true) ∧ Below w.heap.size w w' := by
  by_cases hl : (1048576 : Int) < (len : Int)
  · go_enter Try.func8, Try.ntmps8
    go_wp2
    go_ret
    exact ⟨rfl, Below.refl _ _⟩
  go_enter Try.func8, Try.ntmps8
  go_wp2_with fail
  refine (drawFilterGet a len cap zs _ h).mono ?_
  rintro e w1 ⟨s, rfl, hsz, b1⟩
  have HB1 : Hid (Below w.heap.size w w1) := b1
  have HMX : Hid (s.size ≤ maxLen) := by unfold maxLen; show _ ≤ _; omega
  clear h hl b1
  cases hr : filterGet s.data.toList with
  | none =>
    have hI := implFilterGet s w1 HMX.out
    rw [hr] at hI
    have HS : Hid (∀ w', Calls Try.prog 20 #[.string s] w' fun e w'' => e = .returned (.tuple #[.slice none 0 0, .bool false]) ∧ Below w'.heap.size w' w'') := by
      intro w'
      have := specFilterGet s w' (by omega)
      rw [hr] at this
      refine this.mono ?_
      rintro e w'' ⟨v, rfl, g, b⟩
      obtain rfl : v = .slice none 0 0 := g
      exact ⟨rfl, b⟩
    dsimp only [Option.isSome] at hI
    clear hr
    go_wp2_with fail
    refine hI.mono ?_
    rintro e w2 ⟨v2, rfl, g2, b2⟩
    obtain rfl : v2 = .slice none 0 0 := g2
    have HB2 : Hid (Below w.heap.size w w2) := HB1.out.trans (b2.mono HB1.out.size)
    clear b2 hI
    go_wp2_with fail
    refine (HS.out _).mono ?_
    rintro e w3 ⟨rfl, b3⟩
    have HB3 : Hid (Below w.heap.size w w3) := HB2.out.trans (b3.mono HB2.out.size)
    clear b3
    go_wp2_with (go_at_call 18; refine (coIntsNil _).mono ?_; rintro e w4 ⟨rfl, rfl⟩)
    go_ret
    exact ⟨rfl, HB3.out⟩
  | some l =>
    have hI := implFilterGet s w1 HMX.out
    rw [hr] at hI
    have hS := fun w' => specFilterGet s w' (by omega)
    rw [hr] at hS
    obtain ⟨hl40, hlm, hbel, hasc⟩ := filterGet_law hr
    have hvg := fun w' => implVarGet s w' HMX.out
    obtain ⟨mn, hmn⟩ : ∃ mn, mn = (varGet s.data.toList).1 := ⟨_, rfl⟩
    rw [← hmn] at hlm hbel hvg
    generalize (varGet s.data.toList).2 = sz at hvg
    have HBEL : Hid (∀ i, i < l.length → l.getD i 0 < mn * 37) := hbel
    have HASC : Hid (∀ i, i + 1 < l.length → l.getD i 0 ≤ l.getD (i + 1) 0) := hasc
    have HLM : Hid (l.length = mn) := hlm
    have hm40 : mn ≤ 40 := by omega
    dsimp only [Option.isSome] at hI hS
    clear hr hmn hbel hasc
    go_wp2_with fail
    refine hI.mono ?_
    rintro e w2 ⟨v2, rfl, g2, b2⟩
    obtain ⟨gg2, c2, rfl⟩ := g2.1
    have HB2 : Hid (Below w.heap.size w w2) := HB1.out.trans (b2.mono HB1.out.size)
    have HO2 : Hid (OutRow w1.heap.size (.slice (some ⟨gg2, 0, none⟩) l.length c2) l w2) := g2
    clear b2 hI g2
    go_wp2_with fail
    refine (hS _).mono ?_
    rintro e w3 ⟨v3, rfl, g3, b3⟩
    obtain ⟨gg3, c3, rfl⟩ := g3.1
    have HB3 : Hid (Below w.heap.size w w3) := HB2.out.trans (b3.mono HB2.out.size)
    have HA3 : Hid (At w3 gg3 (l.map fun n : Nat => (n : Int))) := outRow_at g3
    have HA23 : Hid (At w3 gg2 (l.map fun n : Nat => (n : Int))) := outRow_at (HO2.out.keep b3 HO2.out.lt.2)
    have HLN : Hid (mn = (l.map fun n : Nat => (n : Int)).length) := by show _ = _; rw [List.length_map]; exact HLM.out.symm
    rw [HLM.out]
    clear b3 g3 hS hlm
    go_wp2_with (go_at_call 18; refine (coIntsYes gg2 gg3 mn c2 c3 _ _ HA23.out HA3.out HLN.out (by omega)).mono ?_; rintro e w4 ⟨rfl, b4⟩)
    have HB4 : Hid (Below w.heap.size w w4) := HB3.out.trans (b4.mono HB3.out.size)
    have HA4 : Hid (At w4 gg2 (l.map fun n : Nat => (n : Int))) := HA23.out.below b4 HA23.out.1
    clear b4
    refine (hvg _).mono ?_
    rintro e w5 ⟨rfl, b5⟩
    have HB5 : Hid (Below w.heap.size w w5) := HB4.out.trans (b5.mono HB4.out.size)
    have HA5 : Hid (At w5 gg2 (l.map fun n : Nat => (n : Int))) := HA4.out.below b5 HA4.out.1
    clear b5 hvg
    go_wp2_with fail
    go_loopw [10] (fun i wr => ∃ k : Nat, k ≤ mn ∧ i = .int .i64 (k : Int) ∧ Hid (At wr gg2 (l.map fun n : Nat => (n : Int))) ∧ Hid (Below w.heap.size w wr)) (fun i _ => mn - (intOf i).toNat)
    case atStart => exact ⟨0, by omega, rfl, HA5, HB5⟩
    case round =>
      clear HA5 HB5
      obtain ⟨k, hk, rfl, HA, HB⟩ := hrel
      have ez : ∀ q, q < l.length → (l.map fun n : Nat => (n : Int)).getD q 0 = ((l.getD q 0 : Nat) : Int) := by
        intro q hq
        rw [List.getD_eq_getElem?_getD, List.getElem?_map, List.getElem?_eq_getElem hq, List.getD_eq_getElem?_getD, List.getElem?_eq_getElem hq]
        rfl
      by_cases hlt : k < mn
      · have hkl : k < l.length := by rw [HLM.out]; exact hlt
        have hc := HA.out.2 k (by simpa using hkl)
        rw [ez k hkl] at hc
        have hxb := HBEL.out k hkl
        have HK : Hid (k + 1 ≤ mn) := hlt
        have lk : (k : Int) < (mn : Int) := by omega
        have lk0 : (0 : Int) ≤ (k : Int) := by omega
        by_cases hk0 : k = 0
        · subst hk0
          generalize l.getD 0 0 = x at hc hxb
          have hx0 : ¬ (x : Int) < 0 := by omega
          have hx1 : ¬ (mn : Int) * 37 ≤ (x : Int) := by omega
          clear hkl ez
          go_wp2_with fail
          have hw : IntKind.i64.wrap ((mn : Int) * 37) = (mn : Int) * 37 := by rw [IntKind.wrap_i64]; omega
          have hq0 : decide ((x : Int) < 0) = false := decide_eq_false (by omega)
          have hq1 : decide ((mn : Int) * 37 ≤ (x : Int)) = false := decide_eq_false (by omega)
          have hd : wr.drew.cell? ⟨gg2, 0, none⟩ = some (.int .i64 (x : Int)) := hc
          go_big_region
          go_wp2_with fail
          go_roundw
          case rel => exact ⟨1, HK.out, by go_num, HA.out.drew, HB.out.drew⟩
          case measure => have := HK.out; simp [intOf]; omega
        · obtain ⟨j, rfl⟩ : ∃ j, k = j + 1 := ⟨k - 1, by omega⟩
          have hjl : j < l.length := by omega
          have hcj := HA.out.2 j (by simpa using hjl)
          rw [ez j hjl] at hcj
          have hord := HASC.out j hkl
          obtain ⟨k2, hk2⟩ : ∃ k2, k2 = j + 1 := ⟨_, rfl⟩
          rw [← hk2] at hc hxb HK lk lk0 hord ⊢
          generalize l.getD k2 0 = x at hc hxb hord
          generalize l.getD j 0 = y at hcj hord
          have hx0 : ¬ (x : Int) < 0 := by omega
          have hx1 : ¬ (mn : Int) * 37 ≤ (x : Int) := by omega
          have hx2 : ¬ (x : Int) < (y : Int) := by omega
          have lk1 : (0 : Int) < (k2 : Int) := by omega
          have hsub : (k2 : Int) - 1 = (j : Int) := by omega
          have lj : (j : Int) < (mn : Int) := by omega
          have lj0 : (0 : Int) ≤ (j : Int) := by omega
          clear hkl ez hk2 hjl hk0 hlt hk
          have hk2m : k2 ≤ 40 := by omega
          go_wp2_with fail
          have hw : IntKind.i64.wrap ((mn : Int) * 37) = (mn : Int) * 37 := by rw [IntKind.wrap_i64]; omega
          have hq0 : decide ((x : Int) < 0) = false := decide_eq_false (by omega)
          have hq1 : decide ((mn : Int) * 37 ≤ (x : Int)) = false := decide_eq_false (by omega)
          have hq2 : decide ((x : Int) < (y : Int)) = false := decide_eq_false (by omega)
          have hq3 : decide ((0 : Int) < (k2 : Int)) = true := decide_eq_true (by omega)
          have hw2 : IntKind.i64.wrap ((k2 : Int) - 1) = (j : Int) := by rw [IntKind.wrap_i64]; omega
          have hd : wr.drew.cell? ⟨gg2, k2, none⟩ = some (.int .i64 (x : Int)) := hc
          have hdj : wr.drew.cell? ⟨gg2, j, none⟩ = some (.int .i64 (y : Int)) := hcj
          have hq4 : 0 < k2 := by omega
          have hq5 : (k2 : Int) < (mn : Int) := by omega
          have hq6 : (j : Int) < (mn : Int) := by omega
          have hq7 : (0 : Int) ≤ (k2 : Int) := by omega
          have hq8 : (0 : Int) ≤ (j : Int) := by omega
          go_big_region
          go_wp2_with fail
          go_roundw
          case rel => exact ⟨k2 + 1, HK.out, by go_num, HA.out.drew, HB.out.drew⟩
          case measure => have := HK.out; simp [intOf]; omega
      · obtain rfl : k = mn := by omega
        go_wp2_with fail
        go_ret
        exact ⟨by first | rfl | simp, HB.out⟩

end Go.Proofs.Yteihpdnbehnnhaa

namespace Go.Proofs.Yteihpdnbehnnhaa
open Go.ChangeShapes Go.WideShapes Go.ChangeAt Go.RowKit
open Go.ChangeMaps (open_string shut_string)
set_option linter.unusedVariables false

theorem own_fnFilterGet : ownKnob Try.prog.godebug = none := by kernel_rfl
theorem laid_fnFilterGet : laidOutB Try.prog = true := by kernel_rfl

set_option maxRecDepth 100000 in
theorem lifted_fnFilterGet (os : Os) (started : os.Started) (H : Type) (enc : TypeId × Value → H) :
    ReturnsInHanded {} Try.checked os 8 .any (Rows.fnFilterGetSpec.pre6 enc Try.prog Try.f8 Rows.fnFilterGetRow.domain false) (Rows.fnFilterGetSpec.post enc Try.prog Try.f8 false true false false) := by
  refine returnsInHanded_of_change (C := Try.checked) own_fnFilterGet started (by kernel_rfl) Try.func8
    (ChangeSpec.witness6 (enc := enc) (C := Try.checked) false ⟨#[], #[.slice none 0 0], []⟩ 8 (by kernel_rfl) (by kernel_rfl) (by kernel_rfl) (by kernel_rfl)) ?_
  intro W base args ds gs before hval0 hW hcnd _
  have hval : ∀ (j : Nat) t v, Try.f8.params[j]? = some t → args[j]? = some v → Value.okWide Try.prog W .any base t v := hval0
  have hW' := hW
  obtain ⟨p, q, hA0, hV, rfl, hfz, hnd⟩ := hW
  have hA : DataW.TrodAll enc Try.prog W 0 (fun _ => true) true Try.f8.params.toList args.toList ds p := hA0
  rw [Try.params8] at hA hval
  obtain ⟨v0, vs0, d0, ds0, p0, q0, hargs, rfl, rfl, h0, r0⟩ := trodAll_cons hA
  obtain ⟨rfl, rfl, rfl⟩ := trodAll_nil r0
  obtain rfl : args = #[v0] := by cases args; simp_all
  obtain ⟨rfl, rfl⟩ := trodVars_none hV
  obtain ⟨a0, len0, cap0, rfl⟩ := okWide_slice Try.underlying31 (hval 0 31 v0 rfl rfl)
  have k0 := h0
  have lt0 : ∀ x ∈ p0, x.block < W.heap.size := by obtain ⟨m, hm⟩ := k0; exact DataW.trod_lt m _ _ _ hm
  obtain ⟨z0, w0⟩ : ∃ zs, IsRow .u8 W a0 len0 cap0 zs := by
    obtain ⟨fuel, hf⟩ := h0
    rcases open_ints Try.underlying31 Try.underlying5 (by kernel_rfl) hf with ⟨hcs, _⟩ | ⟨x, l, c, zs, hcs, _, hl, hm, hz, _, hcell, hwz⟩
    · simp [Value.cells] at hcs
      obtain ⟨rfl, rfl, rfl⟩ := hcs
      exact ⟨[], .inl ⟨rfl, rfl, rfl, rfl⟩⟩
    · simp [Value.cells] at hcs
      obtain ⟨rfl, rfl, rfl⟩ := hcs
      exact ⟨zs, .inr ⟨_, rfl, hl, hm, by simpa using hz, hcell, hwz⟩⟩
  clear hA0 hval0
  refine (walk_FnFilterGet a0 len0 cap0 z0 W w0).mono fun e W' ⟨he, bel⟩ => ?_
  subst he
  exact ⟨_, rfl, _, _, _, [], _, [], hW', trodAll_mk1 (shut_bool Try.underlying4 _), (trodAll_cons_mk (Below.trod laid_fnFilterGet (by kernel_rfl) (of_decide_eq_true (by kernel_rfl)) k0 bel lt0) trodAll_mk0), rfl, bel.frame _, fun h => by cases h⟩

theorem fnFilterGet_holds : Rows.FnFilterGetSaid :=
  OpenClaim.holds_of_wide 8 Try.f8 rfl rfl rfl rfl rfl rfl rfl ⟨rfl, rfl, rfl, rfl, rfl⟩ rfl rfl rfl rfl rfl (by kernel_rfl) Try.func8 (by kernel_rfl)
    (of_decide_eq_true (by kernel_rfl)) (by unfold Func.isWrapper; first | (rw [if_pos (by decide +kernel)]; kernel_rfl) | (rw [if_neg (by decide +kernel)]; exact ⟨rfl, rfl⟩))
    (fun os started H enc _ => lifted_fnFilterGet os started H enc)
#print axioms fnFilterGet_holds
end Go.Proofs.Yteihpdnbehnnhaa

