/-
  What the specification draws: an item, a sum.
-/
import Derived.Test.YtaahmbooagocgaaDoorReader
import Derived.Test.YtaahmbooagocgaaDoorShaS5
set_option linter.unusedVariables false
namespace Go.Proofs.YtaahmbooagocgaaDoor
open Go.RowKit

def items12 : List ByteArray := [⟨#[97]⟩, ⟨#[98]⟩, ⟨#[99]⟩, ⟨#[100]⟩, ⟨#[97, 110, 110]⟩, ⟨#[98, 111, 98]⟩, ⟨#[99, 121, 100]⟩, ⟨#[120, 49]⟩, ⟨#[120, 50]⟩, ⟨#[120, 51]⟩, ⟨#[122, 122]⟩, ⟨#[108, 111, 110, 103, 110, 97, 109, 101]⟩]
theorem items12_size : ∀ i : Fin 12, 1 ≤ (items12.getD i.val ByteArray.empty).size ∧ (items12.getD i.val ByteArray.empty).size ≤ 8 := by decide
def sums4 : List ByteArray := [⟨#[]⟩, ⟨#[48, 48]⟩, ⟨#[103, 48, 48, 48, 48, 48, 48, 48, 48, 48, 48, 48, 48, 48, 48, 48]⟩, ⟨#[65, 66, 67, 68, 69, 70, 48, 49, 50, 51, 52, 53, 54, 55, 56, 57]⟩]
theorem sums4_size : ∀ i : Fin 4, (sums4.getD i.val ByteArray.empty).size ≤ 16 := by decide

set_option maxHeartbeats 1000000 in
set_option maxRecDepth 100000 in
theorem drawItem (B b p : Nat) (w : World) (h : Rd B b p w) (hp : p < 1000000000) :
    Calls Tryd.prog 44 #[.pointer (some ⟨b, 0, none⟩)] w fun e w' => ∃ s : ByteArray, e = .returned (.string s) ∧ s ∈ items12 ∧ 1 ≤ s.size ∧ s.size ≤ 8 ∧ Rd B b (p + 1) w' ∧ Below b w w' := by
  have hlt := h.lt
  go_enter Tryd.func44, Tryd.ntmps44
  go_wp2_with fail
  have hbk := heap_alloc_new w (.cells (items12.map Value.string).toArray 9)
  refine (of_walk B b p w.heap.size 12 12 items12 _ (h.keep ((Below.refl _ w).alloc (by omega) _)) hp (by omega) (by omega) (cells_texts hbk rfl 12 (by decide)) (by omega)).mono ?_
  rintro e w2 ⟨x, hx, rfl, hr, ho⟩
  have hsz := items12_size ⟨x, hx⟩
  have hmem : items12.getD x ByteArray.empty ∈ items12 := by
    have : x < items12.length := hx
    simp [List.getElem?_eq_getElem this]
  have hb : Below b w w2 := ((Below.refl b w).alloc (by omega) (.cells (items12.map Value.string).toArray 9)).trans (ho.below (Nat.le_refl _))
  dsimp only at hsz
  generalize items12.getD x ByteArray.empty = s at hsz hmem ⊢
  clear ho hbk
  go_wp2
  go_ret
  exact ⟨s, rfl, hmem, hsz.1, hsz.2, hr, hb⟩

set_option maxHeartbeats 1000000 in
set_option maxRecDepth 100000 in
theorem drawSum (B b p : Nat) (w : World) (h : Rd B b p w) (hp : p < 1000000000 - 5) :
    Calls Tryd.prog 24 #[.pointer (some ⟨b, 0, none⟩)] w fun e w' => ∃ (s : ByteArray) (q : Nat), e = .returned (.string s) ∧ s.size ≤ 16 ∧ q ≤ p + 2 ∧ Rd B b q w' ∧ Below b w w' := by
  have hlt := h.lt
  go_enter Tryd.func24, Tryd.ntmps24
  go_wp2_with fail
  refine (pick_walk B b p 10 _ h (by omega) (by omega)).mono ?_
  rintro e w1 ⟨x, rfl, _, _, hr1, ho1⟩
  have b1 := ho1.below (Nat.le_refl b)
  have hlt1 := hr1.lt
  by_cases hx : ((x : Int) == 0) = true
  · go_wp2_with fail
    have hbk := heap_alloc_new w1 (.cells (sums4.map Value.string).toArray 9)
    refine (of_walk B b (p + 1) w1.heap.size 4 4 sums4 _ (hr1.keep ((Below.refl _ w1).alloc (by omega) _)) (by omega) (by omega) (by omega) (cells_texts hbk rfl 4 (by decide)) (by omega)).mono ?_
    rintro e w2 ⟨y, hy, rfl, hr2, ho2⟩
    have hsz := sums4_size ⟨y, hy⟩
    have b2 : Below b w w2 := (b1.alloc (by omega) (.cells (sums4.map Value.string).toArray 9)).trans (ho2.below (Nat.le_refl _))
    dsimp only at hsz
    generalize sums4.getD y ByteArray.empty = s at hsz ⊢
    clear ho2 hbk
    go_wp2
    go_ret
    exact ⟨s, p + 1 + 1, rfl, hsz, by omega, hr2, b2⟩
  · have hx' : ((x : Int) == 0) = false := by simpa using hx
    clear hx
    go_wp2_with fail
    refine (drawItem B b (p + 1) _ hr1 (by omega)).mono ?_
    rintro e w2 ⟨s, rfl, _, hs1, hs8, hr2, b2⟩
    have b12 := b1.trans b2
    have hlt2 := hr2.lt
    go_wp2_with fail
    refine (specSum s _ (by omega)).mono ?_
    rintro e w3 ⟨rfl, b3⟩
    have hl16 : (sumB s.data.toList).length = 16 := by simp [sumB, hexOf]
    have hr3 := hr2.keep (b3.mono (by omega))
    have b13 := b12.trans (b3.mono (by omega))
    generalize sumB s.data.toList = t at hl16 ⊢
    go_wp2
    go_ret
    exact ⟨⟨t.toArray⟩, p + 1 + 1, rfl, by show t.toArray.size ≤ 16; simp; omega, by omega, hr3, b13⟩

end Go.Proofs.YtaahmbooagocgaaDoor
