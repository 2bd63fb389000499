/-
  The law on SampleAt: a point is within the work.
-/
import Derived.Test.YtaahmbooagocgaaDoorSampleM
import Derived.Test.YtaahmbooagocgaaDoorDraw1
set_option linter.unusedVariables false
namespace Go.Proofs.YtaahmbooagocgaaDoor
open Go.RowKit

def ks5 : List Int := [0, 1, 5, 6, -1]
def works6 : List Int := [1, 7, 20, 160, 161, 0]

set_option maxHeartbeats 1000000 in
set_option maxRecDepth 100000 in
theorem drawSampleAt (a : Option Addr) (len cap : Nat) (zs : List Int) (w : World) (h : IsRow .u8 w a len cap zs) :
    Calls Tryd.prog 9 #[.slice a len cap] w fun e w' => ∃ (r : ByteArray) (k n : Int), e = .returned (.tuple #[.string r, .int .i64 k, .int .i64 n]) ∧ r.size ≤ 16 ∧ Below w.heap.size w w' := by
  go_enter Tryd.func9, Tryd.ntmps9
  go_wp2_with fail
  refine (open_walk a len cap zs _ h).mono ?_
  rintro e w1 ⟨rfl, hr, b1, hs1⟩
  clear hs1
  have hlt1 := hr.lt
  go_wp2_with fail
  refine (drawSum w.heap.size w.heap.size 0 _ hr (by omega)).mono ?_
  rintro e w2 ⟨r, q, rfl, hk, hq, hr2, b2⟩
  have hlt2 := hr2.lt
  have b12 := b1.trans b2
  clear b1 b2 hr
  go_wp2_with fail
  have hbk := heap_alloc_new w2 (.cells (ks5.map (Value.int .i64)).toArray 3)
  refine (one_walk w.heap.size w.heap.size q w2.heap.size 5 5 ks5 _ (hr2.keep ((Below.refl _ w2).alloc (by omega) _)) (by omega) (by omega) (by omega) (cells_ints hbk rfl 5 (by decide)) (by omega)).mono ?_
  rintro e w4 ⟨y, hy, rfl, hr4, ho4⟩
  have b4 : Below w.heap.size w w4 := (b12.alloc (by omega) (.cells (ks5.map (Value.int .i64)).toArray 3)).trans (ho4.below (Nat.le_refl _))
  generalize ks5.getD y 0 = k
  have hlt4 := hr4.lt
  clear ho4 hbk b12 hr2
  go_wp2_with fail
  have hbk := heap_alloc_new w4 (.cells (works6.map (Value.int .i64)).toArray 3)
  refine (one_walk w.heap.size w.heap.size (q + 1) w4.heap.size 6 6 works6 _ (hr4.keep ((Below.refl _ w4).alloc (by omega) _)) (by omega) (by omega) (by omega) (cells_ints hbk rfl 6 (by decide)) (by omega)).mono ?_
  rintro e w5 ⟨y2, hy2, rfl, hr5, ho5⟩
  have b5 : Below w.heap.size w w5 := (b4.alloc (by omega) (.cells (works6.map (Value.int .i64)).toArray 3)).trans (ho5.below (Nat.le_refl _))
  generalize works6.getD y2 0 = n
  clear ho5 hbk b4 hr4
  go_wp2
  go_ret3
  exact ⟨r, k, n, rfl, hk, b5⟩

theorem sampleAt_in (r : List UInt8) (k work : Int) : sampleAt r k work = -1 ∨ (0 ≤ sampleAt r k work ∧ sampleAt r k work < work ∧ sampleAt r k 1 = 0) := by
  unfold sampleAt
  split
  · rename_i hh
    right
    have h0 : work ≠ 0 := by omega
    refine ⟨Int.emod_nonneg _ h0, Int.emod_lt_of_pos _ (by omega), ?_⟩
    rw [if_pos ⟨hh.1, hh.2.1, by omega⟩, Int.emod_one]
  · exact .inl rfl

set_option maxHeartbeats 1000000 in
set_option maxRecDepth 100000 in
theorem walk_FnSampleAt (a : Option Addr) (len cap : Nat) (zs : List Int) (w : World) (h : IsRow .u8 w a len cap zs) (hK : RowG w shaK) :
    Calls Tryd.prog 4 #[.slice a len cap] w fun e w' => e = .returned (.bool true) ∧ Below w.heap.size w w' := by
  have HK : Hid (RowG w shaK) := hK
  clear hK
  by_cases hl : (1048576 : Int) < (len : Int)
  · go_enter Tryd.func4, Tryd.ntmps4
    go_wp2
    go_ret
    exact ⟨rfl, Below.refl _ _⟩
  go_enter Tryd.func4, Tryd.ntmps4
  go_wp2_with fail
  refine (drawSampleAt a len cap zs _ h).mono ?_
  rintro e w1 ⟨r, k, n, rfl, hr, b1⟩
  have hsp := fun w' => specSampleAt r k n w' (by unfold maxLen; omega)
  have him := fun w' h' => implSampleAt r k n w' h'
  have him1 := fun w' h' => implSampleAt r k 1 w' h'
  have hz := sampleAt_in r.data.toList k n
  have HB1 : Hid (Below w.heap.size w w1) := b1
  generalize sampleAt r.data.toList k n = z at hsp him hz
  generalize sampleAt r.data.toList k 1 = z1 at him1 hz
  clear h hl b1
  go_wp2_with fail
  refine (him _ (HK.out.below HB1.out HK.out.lt)).mono ?_
  rintro e w2 ⟨rfl, b2⟩
  have HB2 : Hid (Below w.heap.size w w2) := HB1.out.trans (b2.mono HB1.out.size)
  clear b2 him
  rcases hz with rfl | ⟨hz0, hz1, rfl⟩
  · go_wp2_with fail
    refine (hsp _).mono ?_
    rintro e w3 ⟨rfl, b3⟩
    have HB3 : Hid (Below w.heap.size w w3) := HB2.out.trans (b3.mono HB2.out.size)
    clear b3
    go_wp2_with fail
    refine (hsp _).mono ?_
    rintro e w4 ⟨rfl, b4⟩
    go_wp2_with fail
    go_ret
    exact ⟨rfl, HB3.out.trans (b4.mono HB3.out.size)⟩
  · have hn0 : ¬ z < 0 := by omega
    go_wp2_with (go_at_call 7; refine (hsp _).mono ?_; rintro e w3 ⟨rfl, b3⟩)
    have HB3 : Hid (Below w.heap.size w w3) := HB2.out.trans (b3.mono HB2.out.size)
    refine (him1 _ (HK.out.below HB3.out HK.out.lt)).mono ?_
    rintro e w4 ⟨rfl, b4⟩
    go_wp2_with fail
    go_ret
    exact ⟨rfl, HB3.out.trans (b4.mono HB3.out.size)⟩

end Go.Proofs.YtaahmbooagocgaaDoor
