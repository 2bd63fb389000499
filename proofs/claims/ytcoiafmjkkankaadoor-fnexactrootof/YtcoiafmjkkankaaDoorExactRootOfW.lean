/-
  The law on RootOf: at every list of texts both answers are one text; the list stands.
-/
import Derived.Test.YtcoiafmjkkankaaDoorRootI2
import Derived.Test.YtcoiafmjkkankaaDoorStrL
set_option linter.unusedVariables false
namespace Go.Proofs.YtcoiafmjkkankaaDoor
open Go.RowKit

set_option maxHeartbeats 1000000 in
set_option maxRecDepth 100000 in
theorem walk_FnExactRootOf (a0 : Option Addr) (len0 cap0 : Nat) (z0 : List ByteArray) (w : World) (h0 : IsTexts w a0 len0 cap0 z0) (hK : RowG w shaK) :
    Calls Tryd.prog 6 #[.slice a0 len0 cap0] w fun e w' => e = .returned (.bool true) ∧ Below w.heap.size w w' := by
  have H0 : Hid (IsTexts w a0 len0 cap0 z0) := h0
  have HK : Hid (RowG w shaK) := hK
  have HLn : Hid (len0 = (z0.take len0).length) := h0.len
  clear h0 hK
  go_enter Tryd.func6, Tryd.ntmps6
  go_wp2_with fail
  refine (szStrs a0 len0 cap0 z0 w H0.out).mono ?_
  rintro e w1 ⟨rfl, rfl | ⟨r, rfl, hl2, hsz⟩⟩
  · go_wp2_with fail
    go_ret
    exact ⟨rfl, Below.refl _ _⟩
  have HSZ : Hid (∀ i, i < (z0.take len0).length → ((z0.take len0).getD i ByteArray.empty).size ≤ 1048576) := by
    intro i hi
    have hil : i < len0 := by rw [HLn.out]; exact hi
    have := hsz i hil
    rw [List.getD_eq_getElem?_getD, List.getElem?_take_of_lt hil, ← List.getD_eq_getElem?_getD]
    exact this
  clear hsz
  have hl3 : len0 ≤ 1073741824 := by omega
  go_wp2_with fail
  refine (toStrs a0 len0 cap0 z0 _ w H0.out (Below.refl _ w) hl2).mono ?_
  rintro e w1 ⟨rfl, r1, b1⟩
  go_wp2_with fail
  refine (specRootOf w.heap.size len0 len0 (z0.take len0) _ r1.at HLn.out hl3 HSZ.out).mono ?_
  rintro e w2 ⟨rfl, b2⟩
  have HB2 : Hid (Below w.heap.size w w2) := b1.trans (b2.mono b1.size)
  clear r1 b1 b2
  have HI : Hid (∀ w', AtS w' w2.heap.size (z0.take len0) → RowG w' shaK → Calls Tryd.prog 17 #[.slice (some ⟨w2.heap.size, 0, none⟩) len0 len0] w' fun e w'' => e = .returned (.string (rootOf (z0.take len0))) ∧ Below w'.heap.size w' w'') := fun w' h1 h2 => implRootOf w2.heap.size len0 len0 (z0.take len0) w' h1 HLn.out h2
  generalize rootOf (z0.take len0) = R at HI ⊢
  go_wp2_with fail
  refine (toStrs a0 len0 cap0 z0 _ w H0.out HB2.out hl2).mono ?_
  rintro e w3 ⟨rfl, r3, b3⟩
  have HR3 : Hid (RowS w3 w2.heap.size (z0.take len0)) := r3
  have HB3 : Hid (Below w.heap.size w w3) := HB2.out.trans (b3.mono HB2.out.size)
  clear r3 b3
  go_wp2_with fail
  refine (HI.out _ HR3.out.at (HK.out.below HB3.out HK.out.lt)).mono ?_
  rintro e w4 ⟨rfl, b4⟩
  have HR4 : Hid (RowS w4 w2.heap.size (z0.take len0)) := HR3.out.below b4 HR3.out.lt
  have HB4 : Hid (Below w.heap.size w w4) := HB3.out.trans (b4.mono HB3.out.size)
  clear b4
  go_wp2_with fail
  refine (toStrs a0 len0 cap0 z0 _ w H0.out HB4.out hl2).mono ?_
  rintro e w5 ⟨rfl, r5, b5⟩
  have HR5 : Hid (RowS w5 w4.heap.size (z0.take len0)) := r5
  have HR45 : Hid (RowS w5 w2.heap.size (z0.take len0)) := HR4.out.below b5 HR4.out.lt
  have HB5 : Hid (Below w.heap.size w w5) := HB4.out.trans (b5.mono HB4.out.size)
  clear r5 b5
  go_wp2_with fail
  refine (eqStrs w2.heap.size w4.heap.size len0 len0 len0 (z0.take len0) _ HR45.out.at HR5.out.at HLn.out hl3).mono ?_
  rintro e w6 ⟨rfl, b6⟩
  go_wp2_with fail
  go_ret
  exact ⟨rfl, HB5.out.trans (b6.mono HB5.out.size)⟩

end Go.Proofs.YtcoiafmjkkankaaDoor
