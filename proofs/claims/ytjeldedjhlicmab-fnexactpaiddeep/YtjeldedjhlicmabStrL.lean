/-
  The laws' own functions on lists of texts: copies, comparisons, how much they hold.
-/
import Derived.Test.YtjeldedjhlicmabStrM
import Derived.BigRegion
set_option linter.unusedVariables false
namespace Go.Proofs.Ytjeldedjhlicmab
open Go.RowKit

def SzOk (zs : List ByteArray) (len : Nat) (e : Ending) : Prop := e = .returned (.int .i64 (-1)) ∨ ∃ r : Nat, e = .returned (.int .i64 (r : Int)) ∧ len ≤ 1048576 ∧ ∀ i, i < len → (zs.getD i ByteArray.empty).size ≤ 1048576
end Go.Proofs.Ytjeldedjhlicmab
