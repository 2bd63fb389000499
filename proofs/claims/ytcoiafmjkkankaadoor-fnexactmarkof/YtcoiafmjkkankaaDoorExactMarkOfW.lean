/-
  The law on MarkOf: at every input both answers are one text.
-/
import Derived.Test.YtcoiafmjkkankaaDoorMarkW
set_option linter.unusedVariables false
namespace Go.Proofs.YtcoiafmjkkankaaDoor
open Go.RowKit

set_option maxHeartbeats 1000000 in
set_option maxRecDepth 100000 in
theorem walk_FnExactMarkOf (p f : ByteArray) (w : World) (hp : p.size ≤ maxLen) (hf : f.size ≤ maxLen) (hK : RowG w shaK) :
    Calls Tryd.prog 8 #[.string p, .string f] w fun e w' => e = .returned (.bool true) ∧ Below w.heap.size w w' := by
  have HK : Hid (RowG w shaK) := hK
  clear hK
  by_cases h1 : (1048576 : Int) < (p.size : Int)
  · go_enter Tryd.func8, Tryd.ntmps8
    go_wp2
    go_ret
    exact ⟨rfl, Below.refl _ _⟩
  · by_cases h2 : (1048576 : Int) < (f.size : Int)
    · go_enter Tryd.func8, Tryd.ntmps8
      go_wp2
      go_ret
      exact ⟨rfl, Below.refl _ _⟩
    · go_enter Tryd.func8, Tryd.ntmps8
      go_wp2_with fail
      refine (specMarkOf p f _ hp hf).mono ?_
      rintro e w1 ⟨rfl, b1⟩
      go_wp2_with fail
      refine (implMarkOf p f _ (HK.out.below b1 HK.out.lt)).mono ?_
      rintro e w2 ⟨rfl, b2⟩
      go_wp2
      go_ret
      exact ⟨rfl, b1.trans (b2.mono b1.size)⟩

end Go.Proofs.YtcoiafmjkkankaaDoor
