/-
  The law on RicePut: at every list and every number of bits both answers are one text; the list stands.
-/
import Derived.Test.YteihpdnbehnnhaaRiceI4
import Derived.Test.YteihpdnbehnnhaaRiceS4
import Derived.Test.YteihpdnbehnnhaaRiceL
set_option linter.unusedVariables false
namespace Go.Proofs.Yteihpdnbehnnhaa
open Go.RowKit

set_option maxHeartbeats 1000000 in
set_option maxRecDepth 100000 in
theorem walk_FnExactRicePut (a0 : Option Addr) (len0 cap0 : Nat) (z0 : List Int) (k : Int) (w : World) (h0 : IsRow .i64 w a0 len0 cap0 z0) (hk : (Lit.int .i64 k).wf = true) :
    Calls Try.prog 3 #[.slice a0 len0 cap0, .int .i64 k] w fun e w' => e = .returned (.bool true) ∧ Below w.heap.size w w' := by
  have H0 : Hid (IsRow .i64 w a0 len0 cap0 z0) := h0
  have HLn : Hid (len0 = (z0.take len0).length) := by
    show _ = _
    rcases h0 with ⟨_, hl, _, hz⟩ | ⟨x, hx, hlc, _, hzl, _⟩
    · rw [hl, hz]; rfl
    · simp; omega
  clear h0 hk
  by_cases hl : (1048576 : Int) < (len0 : Int)
  · go_enter Try.func3, Try.ntmps3
    go_wp2
    go_ret
    exact ⟨rfl, Below.refl _ _⟩
  have hl2 : len0 ≤ 1048576 := by omega
  have hl3 : len0 ≤ 1073741824 := by omega
  go_enter Try.func3, Try.ntmps3
  go_wp2_with fail
  refine (toInts a0 len0 cap0 z0 _ w H0.out (Below.refl _ w) hl2).mono ?_
  rintro e w1 ⟨rfl, r1, b1⟩
  go_wp2_with fail
  refine (specRicePut w.heap.size len0 len0 (z0.take len0) k _ r1.at HLn.out hl3).mono ?_
  rintro e w2 ⟨rfl, b2⟩
  have HB2 : Hid (Below w.heap.size w w2) := b1.trans (b2.mono b1.size)
  clear r1 b1 b2
  go_wp2_with fail
  refine (toInts a0 len0 cap0 z0 _ w H0.out HB2.out hl2).mono ?_
  rintro e w3 ⟨rfl, r3, b3⟩
  have HR3 : Hid (RowI w3 w2.heap.size (z0.take len0)) := r3
  have HB3 : Hid (Below w.heap.size w w3) := HB2.out.trans (b3.mono HB2.out.size)
  clear r3 b3
  go_wp2_with fail
  refine (implRicePut w2.heap.size len0 len0 (z0.take len0) k _ HR3.out.at HLn.out).mono ?_
  rintro e w4 ⟨rfl, b4⟩
  have HR4 : Hid (RowI w4 w2.heap.size (z0.take len0)) := HR3.out.below b4 HR3.out.lt
  have HB4 : Hid (Below w.heap.size w w4) := HB3.out.trans (b4.mono HB3.out.size)
  clear b4
  go_wp2_with fail
  refine (toInts a0 len0 cap0 z0 _ w H0.out HB4.out hl2).mono ?_
  rintro e w5 ⟨rfl, r5, b5⟩
  have HR5 : Hid (RowI w5 w4.heap.size (z0.take len0)) := r5
  have HR45 : Hid (RowI w5 w2.heap.size (z0.take len0)) := HR4.out.below b5 HR4.out.lt
  have HB5 : Hid (Below w.heap.size w w5) := HB4.out.trans (b5.mono HB4.out.size)
  clear r5 b5
  go_wp2_with fail
  refine (eqInts w2.heap.size w4.heap.size len0 len0 len0 (z0.take len0) _ HR45.out.at HR5.out.at HLn.out hl3).mono ?_
  rintro e w6 ⟨rfl, b6⟩
  go_wp2_with fail
  go_ret
  exact ⟨rfl, HB5.out.trans (b6.mono HB5.out.size)⟩

end Go.Proofs.Yteihpdnbehnnhaa
