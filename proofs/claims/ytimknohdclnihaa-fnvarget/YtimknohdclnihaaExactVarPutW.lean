/-
  The law on VarPut: at every number both answers are one text.
-/
import Derived.Test.YtimknohdclnihaaVarPutW
import Derived.Test.YtimknohdclnihaaSpecVarW
import Derived.Test.YtimknohdclnihaaSpecIn
import Derived.Test.YtimknohdclnihaaVarGetM
set_option linter.unusedVariables false
namespace Go.Proofs.Ytimknohdclnihaa
open Go.RowKit

set_option maxHeartbeats 1000000 in
set_option maxRecDepth 100000 in
theorem specVarPut_no (n : Int) (w : World) (h : n < 0 ∨ 2147483647 < n) :
    Calls Try.prog 9 #[.int .i64 n] w fun e w' => e = .returned (.string ⟨#[]⟩) ∧ Below w.heap.size w w' := by
  have hb : inB n 0 2147483647 = false := inB_no (by omega)
  go_enter Try.func9, Try.ntmps9
  go_wp2_with (go_at_call 18; refine (specIn n 0 2147483647 _).mono ?_; rintro e w1 ⟨rfl, rfl⟩)
  go_ret
  exact ⟨rfl, Below.refl _ _⟩

set_option maxHeartbeats 1000000 in
set_option maxRecDepth 100000 in
theorem specVarPut_yes (n : Nat) (w : World) (h : n ≤ 2147483647) :
    Calls Try.prog 9 #[.int .i64 n] w fun e w' => e = .returned (.string ⟨(varB 4 n).toArray⟩) ∧ Below w.heap.size w w' := by
  have hb : inB n 0 2147483647 = true := inB_yes (by omega)
  go_enter Try.func9, Try.ntmps9
  go_wp2_with (go_at_call 18; refine (specIn n 0 2147483647 _).mono ?_; rintro e w1 ⟨rfl, rfl⟩)
  refine (specVar n _ h).mono ?_
  rintro e w1 ⟨rfl, b1⟩
  go_wp2
  go_ret
  exact ⟨rfl, b1⟩

theorem specVarPut (n : Int) (w : World) :
    Calls Try.prog 9 #[.int .i64 n] w fun e w' => e = .returned (.string ⟨(varPut n).toArray⟩) ∧ Below w.heap.size w w' := by
  by_cases h : 0 ≤ n ∧ n ≤ 2147483647
  · obtain ⟨m, rfl⟩ := Int.eq_ofNat_of_zero_le h.1
    rw [varPut, if_pos h]
    exact specVarPut_yes m w (by omega)
  · rw [varPut, if_neg h]
    exact specVarPut_no n w (by omega)

theorem implVarPut (n : Int) (w : World) :
    Calls Try.prog 10 #[.int .i64 n] w fun e w' => e = .returned (.string ⟨(varPut n).toArray⟩) ∧ Below w.heap.size w w' := by
  by_cases h : 0 ≤ n ∧ n ≤ 2147483647
  · obtain ⟨m, rfl⟩ := Int.eq_ofNat_of_zero_le h.1
    rw [varPut, if_pos h]
    exact implVarPut_yes m w (by omega)
  · rw [varPut, if_neg h]
    exact implVarPut_no n w (by omega)

set_option maxHeartbeats 1000000 in
set_option maxRecDepth 100000 in
theorem walk_FnExactVarPut (n : Int) (w : World) (_ : (Lit.int .i64 n).wf = true) :
    Calls Try.prog 3 #[.int .i64 n] w fun e w' => e = .returned (.bool true) ∧ Below w.heap.size w w' := by
  go_enter Try.func3, Try.ntmps3
  go_wp2_with fail
  refine (specVarPut n _).mono ?_
  rintro e w1 ⟨rfl, b1⟩
  go_wp2_with fail
  refine (implVarPut n _).mono ?_
  rintro e w2 ⟨rfl, b2⟩
  go_wp2
  go_ret
  exact ⟨rfl, b1.trans (b2.mono b1.size)⟩

end Go.Proofs.Ytimknohdclnihaa
