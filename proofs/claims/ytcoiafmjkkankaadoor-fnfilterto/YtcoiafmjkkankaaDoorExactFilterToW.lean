/-
  The law on FilterTo: at every input both answers are one number.
-/
import Derived.Test.YtcoiafmjkkankaaDoorFilterToI
import Derived.Test.YtcoiafmjkkankaaDoorFilterToS
set_option linter.unusedVariables false
namespace Go.Proofs.YtcoiafmjkkankaaDoor
open Go.RowKit

set_option maxHeartbeats 1000000 in
set_option maxRecDepth 100000 in
theorem walk_FnExactFilterTo (k it : ByteArray) (below : Int) (w : World) (hk : k.size ≤ maxLen) (hi : it.size ≤ maxLen) (hb : (Lit.int .i64 below).wf = true) (hK : RowG w shaK) :
    Calls Tryd.prog 4 #[.string k, .string it, .int .i64 below] w fun e w' => e = .returned (.bool true) ∧ Below w.heap.size w w' := by
  have HK : Hid (RowG w shaK) := hK
  clear hK hb
  by_cases h1 : (1048576 : Int) < (k.size : Int)
  · go_enter Tryd.func4, Tryd.ntmps4
    go_wp2
    go_ret
    exact ⟨rfl, Below.refl _ _⟩
  · by_cases h2 : (1048576 : Int) < (it.size : Int)
    · go_enter Tryd.func4, Tryd.ntmps4
      go_wp2
      go_ret
      exact ⟨rfl, Below.refl _ _⟩
    · go_enter Tryd.func4, Tryd.ntmps4
      go_wp2_with fail
      refine (specFilterTo k it below _ hk hi).mono ?_
      rintro e w1 ⟨rfl, b1⟩
      go_wp2_with fail
      refine (implFilterTo k it below _ (HK.out.below b1 HK.out.lt)).mono ?_
      rintro e w2 ⟨rfl, b2⟩
      go_wp2
      go_ret
      exact ⟨rfl, b1.trans (b2.mono b1.size)⟩

end Go.Proofs.YtcoiafmjkkankaaDoor
