/-
  What the program's VarPut writes, at every number.
-/
import Derived.Test.YtcaejndpmagfaaaDoorVarPutW
import Derived.Test.YtcaejndpmagfaaaDoorVarGetM
set_option linter.unusedVariables false
namespace Go.Proofs.YtcaejndpmagfaaaDoor
open Go.RowKit

theorem implVarPut (n : Int) (w : World) :
    Calls Tryd.prog 47 #[.int .i64 n] w fun e w' => e = .returned (.string ⟨(varPut n).toArray⟩) ∧ Below w.heap.size w w' := by
  by_cases h : 0 ≤ n ∧ n ≤ 2147483647
  · obtain ⟨m, rfl⟩ := Int.eq_ofNat_of_zero_le h.1
    rw [varPut, if_pos h]
    exact implVarPut_yes m w (by omega)
  · rw [varPut, if_neg h]
    exact implVarPut_no n w (by omega)

end Go.Proofs.YtcaejndpmagfaaaDoor
