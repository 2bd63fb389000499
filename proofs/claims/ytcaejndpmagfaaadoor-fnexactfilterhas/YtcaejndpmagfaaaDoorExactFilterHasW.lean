/-
  The law on FilterHas: at every input both answers are one.
-/
import Derived.Test.YtcaejndpmagfaaaDoorFilterHasI
import Derived.Test.YtcaejndpmagfaaaDoorFilterHasS
set_option linter.unusedVariables false
namespace Go.Proofs.YtcaejndpmagfaaaDoor
open Go.RowKit

set_option maxHeartbeats 1000000 in
set_option maxRecDepth 100000 in
theorem walk_FnExactFilterHas (s k it : ByteArray) (w : World) (hs : s.size ≤ maxLen) (hk : k.size ≤ maxLen) (hi : it.size ≤ maxLen) (hK : RowG w shaK) :
    Calls Tryd.prog 3 #[.string s, .string k, .string it] w fun e w' => e = .returned (.bool true) ∧ Below w.heap.size w w' := by
  have HK : Hid (RowG w shaK) := hK
  clear hK
  by_cases h0 : (1048576 : Int) < (s.size : Int)
  · go_enter Tryd.func3, Tryd.ntmps3
    go_wp2
    go_ret
    exact ⟨rfl, Below.refl _ _⟩
  by_cases h1 : (1048576 : Int) < (k.size : Int)
  · go_enter Tryd.func3, Tryd.ntmps3
    go_wp2
    go_ret
    exact ⟨rfl, Below.refl _ _⟩
  by_cases h2 : (1048576 : Int) < (it.size : Int)
  · go_enter Tryd.func3, Tryd.ntmps3
    go_wp2
    go_ret
    exact ⟨rfl, Below.refl _ _⟩
  have hsp := specFilterHas s k it w (by omega) hk hi
  have him := fun w' h' => implFilterHas s k it w' hs h'
  generalize filterHas s.data.toList k.data.toList it.data.toList = B at hsp him
  go_enter Tryd.func3, Tryd.ntmps3
  go_wp2_with fail
  refine hsp.mono ?_
  rintro e w1 ⟨rfl, b1⟩
  go_wp2_with fail
  refine (him _ (HK.out.below b1 HK.out.lt)).mono ?_
  rintro e w2 ⟨rfl, b2⟩
  go_wp2
  go_ret
  exact ⟨rfl, b1.trans (b2.mono b1.size)⟩

end Go.Proofs.YtcaejndpmagfaaaDoor
