/-
  What the specification draws for FilterTo.
-/
import Derived.Test.YtcoiafmjkkankaaDoorDraw1
import Derived.OwnWalk
set_option linter.unusedVariables false
namespace Go.Proofs.YtcoiafmjkkankaaDoor
open Go.RowKit

def items4 : List ByteArray := [⟨#[]⟩, ⟨#[65]⟩, ⟨#[116, 111, 111, 108, 111, 110, 103, 101, 114]⟩, ⟨#[97, 32, 98]⟩]
theorem items4_size : ∀ i : Fin 4, (items4.getD i.val ByteArray.empty).size ≤ 16 := by decide

set_option maxHeartbeats 1000000 in
set_option maxRecDepth 100000 in
theorem drawAnyItem (B b p : Nat) (w : World) (h : Rd B b p w) (hp : p < 1000000000 - 5) :
    Calls Tryd.prog 40 #[.pointer (some ⟨b, 0, none⟩)] w fun e w' => ∃ (s : ByteArray) (q : Nat), e = .returned (.string s) ∧ s.size ≤ 16 ∧ q ≤ p + 2 ∧ Rd B b q w' ∧ Below b w w' := by
  have hlt := h.lt
  go_enter Tryd.func40, Tryd.ntmps40
  go_wp2_with fail
  refine (pick_walk B b p 10 _ h (by omega) (by omega)).mono ?_
  rintro e w1 ⟨x, rfl, _, _, hr1, ho1⟩
  have b1 := ho1.below (Nat.le_refl b)
  have hlt1 := hr1.lt
  by_cases hx : ((x : Int) == 0) = true
  · go_wp2_with fail
    have hbk := heap_alloc_new w1 (.cells (items4.map Value.string).toArray 9)
    refine (of_walk B b (p + 1) w1.heap.size 4 4 items4 _ (hr1.keep ((Below.refl _ w1).alloc (by omega) _)) (by omega) (by omega) (by omega) (cells_texts hbk rfl 4 (by decide)) (by omega)).mono ?_
    rintro e w2 ⟨y, hy, rfl, hr2, ho2⟩
    have hsz := items4_size ⟨y, hy⟩
    have b2 : Below b w w2 := (b1.alloc (by omega) (.cells (items4.map Value.string).toArray 9)).trans (ho2.below (Nat.le_refl _))
    dsimp only at hsz
    generalize items4.getD y ByteArray.empty = s at hsz ⊢
    clear ho2 hbk
    go_wp2
    go_ret
    exact ⟨s, p + 1 + 1, rfl, hsz, by omega, hr2, b2⟩
  · have hx' : ((x : Int) == 0) = false := by simpa using hx
    clear hx
    go_wp2_with fail
    refine (drawItem B b (p + 1) _ hr1 (by omega)).mono ?_
    rintro e w2 ⟨s, rfl, _, hs1, hs8, hr2, b2⟩
    have b12 := b1.trans b2
    go_wp2
    go_ret
    exact ⟨s, p + 1 + 1, rfl, by omega, by omega, hr2, b12⟩

def belows : List Int := [1, 2, 37, 1000, 60000, 0, 60001]
theorem belows_in : ∀ i : Fin 7, 0 ≤ belows.getD i.val 0 ∧ belows.getD i.val 0 ≤ 60001 := by decide

set_option maxHeartbeats 1000000 in
set_option maxRecDepth 100000 in
theorem drawFilterTo (a : Option Addr) (len cap : Nat) (zs : List Int) (w : World) (h : IsRow .u8 w a len cap zs) :
    Calls Tryd.prog 13 #[.slice a len cap] w fun e w' => ∃ (k it : ByteArray) (n : Int), e = .returned (.tuple #[.string k, .string it, .int .i64 n]) ∧ k.size ≤ 16 ∧ it.size ≤ 16 ∧ 0 ≤ n ∧ n ≤ 60001 ∧ Below w.heap.size w w' := by
  go_enter Tryd.func13, Tryd.ntmps13
  go_wp2_with fail
  refine (open_walk a len cap zs _ h).mono ?_
  rintro e w1 ⟨rfl, hr, b1, hs1⟩
  clear hs1
  have hlt1 := hr.lt
  go_wp2_with fail
  refine (drawSum w.heap.size w.heap.size 0 _ hr (by omega)).mono ?_
  rintro e w2 ⟨k, q, rfl, hk, hq, hr2, b2⟩
  have hlt2 := hr2.lt
  have b12 := b1.trans b2
  clear b1 b2 hr
  go_wp2_with fail
  refine (drawAnyItem w.heap.size w.heap.size q _ hr2 (by omega)).mono ?_
  rintro e w3 ⟨it, q3, rfl, hi, hq3, hr3, b3⟩
  have hlt3 := hr3.lt
  have b13 := b12.trans b3
  clear b12 b3 hr2
  go_wp2_with fail
  have hbk := heap_alloc_new w3 (.cells (belows.map (Value.int .i64)).toArray 3)
  refine (one_walk w.heap.size w.heap.size q3 w3.heap.size 7 7 belows _ (hr3.keep ((Below.refl _ w3).alloc (by omega) _)) (by omega) (by omega) (by omega) (cells_ints hbk rfl 7 (by decide)) (by omega)).mono ?_
  rintro e w4 ⟨y, hy, rfl, hr4, ho4⟩
  have hin := belows_in ⟨y, hy⟩
  have b4 : Below w.heap.size w w4 := (b13.alloc (by omega) (.cells (belows.map (Value.int .i64)).toArray 3)).trans (ho4.below (Nat.le_refl _))
  dsimp only at hin
  generalize belows.getD y 0 = n at hin ⊢
  clear ho4 hbk
  go_wp2
  go_ret3
  exact ⟨k, it, n, rfl, hk, hi, hin.1, hin.2, b4⟩

end Go.Proofs.YtcoiafmjkkankaaDoor
