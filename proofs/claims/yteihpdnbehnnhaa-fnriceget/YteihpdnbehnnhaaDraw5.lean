/-
  What the specification draws for RiceGet.
-/
import Derived.Test.YteihpdnbehnnhaaDraw3
import Derived.Test.YteihpdnbehnnhaaRiceS4
import Derived.Deep.RegionWith
import Derived.OwnWalk
set_option linter.unusedVariables false
namespace Go.Proofs.Yteihpdnbehnnhaa
open Go.RowKit

def bent8 : List ByteArray := [⟨#[48]⟩, ⟨#[97]⟩, ⟨#[32]⟩, ⟨#[0]⟩, ⟨#[255]⟩, ⟨#[128]⟩, ⟨#[102]⟩, ⟨#[10]⟩]
theorem bent8_size : ∀ i : Fin 8, (bent8.getD i.val ByteArray.empty).size ≤ 1 := by decide
def bent4 : List ByteArray := [⟨#[48]⟩, ⟨#[32]⟩, ⟨#[0]⟩, ⟨#[255]⟩]
theorem bent4_size : ∀ i : Fin 4, (bent4.getD i.val ByteArray.empty).size ≤ 1 := by decide

set_option maxHeartbeats 2000000 in
set_option maxRecDepth 100000 in
theorem drawBent (B b p : Nat) (s : ByteArray) (w : World) (h : Rd B b p w) (hp : p < 1000000000 - 5) (hs : s.size ≤ 10000000) :
    Calls Try.prog 38 #[.pointer (some ⟨b, 0, none⟩), .string s] w fun e w' => ∃ (t : ByteArray) (q : Nat), e = .returned (.string t) ∧ t.size ≤ s.size + 1 ∧ q ≤ p + 3 ∧ Rd B b q w' ∧ Below b w w' := by
  have hlt := h.lt
  go_enter Try.func38, Try.ntmps38
  go_wp2_with fail
  refine (pick_walk B b p _ _ h (by omega) (by omega)).mono ?_
  rintro e w1 ⟨k, rfl, hk, _, hr1, ho1⟩
  have hks : (k : Int) ≤ (s.size : Int) := by have := hk (by omega); omega
  have HB1 : Hid (Below b w w1) := ho1.below (Nat.le_refl b)
  have hlt1 := hr1.lt
  clear hk ho1 h
  go_wp2_with fail
  refine (pick_walk B b (p + 1) 5 _ hr1 (by omega) (by omega)).mono ?_
  rintro e w2 ⟨x, rfl, _, _, hr2, ho2⟩
  have HB2 : Hid (Below b w w2) := HB1.out.trans (ho2.below (Nat.le_refl b))
  have HR2 : Hid (Rd B b (p + 1 + 1) w2) := hr2
  have hlt2 := hr2.lt
  clear ho2 hr1 hr2
  have hbd : 0 ≤ (k : Int) ∧ (k : Int) ≤ (s.size : Int) := by omega
  by_cases x0 : ((x : Int) == 0) = true
  · by_cases hkl : (k : Int) < (s.size : Int)
    · have hbd2 : 0 ≤ (k : Int) + 1 ∧ (k : Int) + 1 ≤ (s.size : Int) := by omega
      have hw1 : IntKind.i64.wrap ((k : Int) + 1) = (k : Int) + 1 := by rw [IntKind.wrap_i64]; omega
      have hr3 : Rd B b (p + 1 + 1) w2.drew := HR2.out.keep ⟨rfl, rfl, rfl, Nat.le_refl _, fun _ _ => rfl⟩
      have hbk := heap_alloc_new w2.drew (.cells (bent8.map Value.string).toArray 9)
      have hof : Calls Try.prog 49 #[.pointer (some ⟨b, 0, none⟩), .slice (some ⟨w2.heap.size, 0, none⟩) 8 8] (w2.drew.alloc (.cells (bent8.map Value.string).toArray 9)) fun e w' => ∃ t : ByteArray, e = .returned (.string t) ∧ t.size ≤ 1 ∧ Rd B b (p + 1 + 1 + 1) w' ∧ Below b w w' := by
        refine (of_walk B b (p + 1 + 1) w2.drew.heap.size 8 8 bent8 _ (hr3.keep ((Below.refl _ w2.drew).alloc (by show b + 1 ≤ w2.heap.size; omega) _)) (by omega) (by omega) (by omega) (cells_texts hbk rfl 8 (by decide)) (by show w2.heap.size ≠ b; omega)).mono ?_
        rintro e w4 ⟨y, hy, rfl, hr4, ho4⟩
        exact ⟨_, rfl, bent8_size ⟨y, hy⟩, hr4, (HB2.out.drew.alloc (by show b ≤ w2.heap.size; omega) _).trans (ho4.below (Nat.le_refl _))⟩
      clear hr3 hbk
      go_wp2_with fail
      go_region_with (go_at_call 49; refine hof.mono ?_; rintro e w3 ⟨t, rfl, ht, hr4, hb4⟩)
      all_goals
        go_wp2_with fail
        go_ret
        refine ⟨_, p + 1 + 1 + 1, rfl, ?_, by omega, hr4, hb4⟩
        simp
        omega
    · go_wp2_with fail
      go_ret
      exact ⟨s, p + 1 + 1, rfl, by omega, by omega, HR2.out, HB2.out⟩
  · have x0' : ((x : Int) == 0) = false := by simpa using x0
    clear x0
    by_cases x1 : ((x : Int) == 1) = true
    · go_wp2_with fail
      go_ret
      exact ⟨_, p + 1 + 1, rfl, by simp; omega, by omega, HR2.out, HB2.out⟩
    · have x1' : ((x : Int) == 1) = false := by simpa using x1
      clear x1
      by_cases x2 : ((x : Int) == 2) = true
      · go_wp2_with fail
        have hbk := heap_alloc_new w2 (.cells (bent4.map Value.string).toArray 9)
        refine (of_walk B b (p + 1 + 1) w2.heap.size 4 4 bent4 _ (HR2.out.keep ((Below.refl _ w2).alloc (by omega) _)) (by omega) (by omega) (by omega) (cells_texts hbk rfl 4 (by decide)) (by omega)).mono ?_
        rintro e w3 ⟨y, hy, rfl, hr3, ho3⟩
        have hsz := bent4_size ⟨y, hy⟩
        dsimp only at hsz
        have HB3 : Hid (Below b w w3) := (HB2.out.alloc (by omega) (.cells (bent4.map Value.string).toArray 9)).trans (ho3.below (Nat.le_refl _))
        generalize bent4.getD y ByteArray.empty = t at hsz ⊢
        clear ho3 hbk
        go_wp2_with fail
        go_ret
        exact ⟨_, p + 1 + 1 + 1, rfl, by simp; omega, by omega, hr3, HB3.out⟩
      · have x2' : ((x : Int) == 2) = false := by simpa using x2
        clear x2
        go_wp2_with fail
        go_ret
        exact ⟨s, p + 1 + 1, rfl, by omega, by omega, HR2.out, HB2.out⟩

end Go.Proofs.Yteihpdnbehnnhaa
