/-
  The law on FilterAny: at every input both answers are one; the list stands.
-/
import Derived.Test.YtcaejndpmagfaaaDoorFilterAnyW
import Derived.Test.YtcaejndpmagfaaaDoorStrL
set_option linter.unusedVariables false
namespace Go.Proofs.YtcaejndpmagfaaaDoor
open Go.RowKit

set_option maxHeartbeats 1000000 in
set_option maxRecDepth 100000 in
theorem walk_FnExactFilterAny (s k : ByteArray) (a0 : Option Addr) (len0 cap0 : Nat) (z0 : List ByteArray) (w : World) (hs : s.size ≤ maxLen) (hk : k.size ≤ maxLen) (h0 : IsTexts w a0 len0 cap0 z0) (hK : RowG w shaK) :
    Calls Tryd.prog 4 #[.string s, .string k, .slice a0 len0 cap0] w fun e w' => e = .returned (.bool true) ∧ Below w.heap.size w w' := by
  have H0 : Hid (IsTexts w a0 len0 cap0 z0) := h0
  have HK : Hid (RowG w shaK) := hK
  have HLn : Hid (len0 = (z0.take len0).length) := h0.len
  clear h0 hK
  by_cases hl0 : (1048576 : Int) < (s.size : Int)
  · go_enter Tryd.func4, Tryd.ntmps4
    go_wp2
    go_ret
    exact ⟨rfl, Below.refl _ _⟩
  by_cases hl1 : (1048576 : Int) < (k.size : Int)
  · go_enter Tryd.func4, Tryd.ntmps4
    go_wp2
    go_ret
    exact ⟨rfl, Below.refl _ _⟩
  go_enter Tryd.func4, Tryd.ntmps4
  go_wp2_with fail
  refine (szStrs a0 len0 cap0 z0 w H0.out).mono ?_
  rintro e w1 ⟨rfl, rfl | ⟨r, rfl, hl2, hsz⟩⟩
  · go_wp2_with fail
    go_ret
    exact ⟨rfl, Below.refl _ _⟩
  have HSZ : Hid (∀ i, i < (z0.take len0).length → ((z0.take len0).getD i ByteArray.empty).size ≤ maxLen) := by
    intro i hi
    have hil : i < len0 := by rw [HLn.out]; exact hi
    have := hsz i hil
    rw [List.getD_eq_getElem?_getD, List.getElem?_take_of_lt hil, ← List.getD_eq_getElem?_getD]
    unfold maxLen
    omega
  clear hsz
  have hl3 : len0 ≤ 1073741824 := by omega
  go_wp2_with fail
  refine (toStrs a0 len0 cap0 z0 _ w H0.out (Below.refl _ w) hl2).mono ?_
  rintro e w1 ⟨rfl, r1, b1⟩
  have hsp := specFilterAny w.heap.size len0 len0 (z0.take len0) s k w1 r1.at HLn.out hl3 HSZ.out (by omega) hk
  have HI : Hid (∀ g w', AtS w' g (z0.take len0) → RowG w' shaK → Calls Tryd.prog 12 #[.string s, .string k, .slice (some ⟨g, 0, none⟩) len0 len0] w' fun e w'' => e = .returned (.bool (filterAny s.data.toList k.data.toList (z0.take len0))) ∧ Below w'.heap.size w' w'') := fun g w' h1 h2 => implFilterAny g len0 len0 (z0.take len0) s k w' h1 HLn.out hs h2
  generalize filterAny s.data.toList k.data.toList (z0.take len0) = B at hsp HI
  go_wp2_with fail
  refine hsp.mono ?_
  rintro e w2 ⟨rfl, b2⟩
  have HB2 : Hid (Below w.heap.size w w2) := b1.trans (b2.mono b1.size)
  clear r1 b1 b2 hsp
  go_wp2_with fail
  refine (toStrs a0 len0 cap0 z0 _ w H0.out HB2.out hl2).mono ?_
  rintro e w3 ⟨rfl, r3, b3⟩
  have HR3 : Hid (RowS w3 w2.heap.size (z0.take len0)) := r3
  have HB3 : Hid (Below w.heap.size w w3) := HB2.out.trans (b3.mono HB2.out.size)
  clear r3 b3
  go_wp2_with fail
  refine (HI.out _ _ HR3.out.at (HK.out.below HB3.out HK.out.lt)).mono ?_
  rintro e w4 ⟨rfl, b4⟩
  have HR4 : Hid (RowS w4 w2.heap.size (z0.take len0)) := HR3.out.below b4 HR3.out.lt
  have HB4 : Hid (Below w.heap.size w w4) := HB3.out.trans (b4.mono HB3.out.size)
  clear b4
  go_wp2_with fail
  refine (toStrs a0 len0 cap0 z0 _ w H0.out HB4.out hl2).mono ?_
  rintro e w5 ⟨rfl, r5, b5⟩
  have HR5 : Hid (RowS w5 w4.heap.size (z0.take len0)) := r5
  have HR45 : Hid (RowS w5 w2.heap.size (z0.take len0)) := HR4.out.below b5 HR4.out.lt
  have HB5 : Hid (Below w.heap.size w w5) := HB4.out.trans (b5.mono HB4.out.size)
  clear r5 b5
  go_wp2_with fail
  refine (eqStrs w2.heap.size w4.heap.size len0 len0 len0 (z0.take len0) _ HR45.out.at HR5.out.at HLn.out hl3).mono ?_
  rintro e w6 ⟨rfl, b6⟩
  go_wp2_with fail
  go_ret
  exact ⟨rfl, HB5.out.trans (b6.mono HB5.out.size)⟩

end Go.Proofs.YtcaejndpmagfaaaDoor
