/-
  strings.Builder's WriteString and Grow at a builder that the call itself made, at this program's numbers.
-/
import Derived.Test.YtjeldedjhlicmabBuild
import Derived.BigRegion
import Derived.Lib.UnsafeStr
import Derived.Laws.CopyOwn
import Derived.Shelf.Strings.Builder2
set_option linter.unusedVariables false
namespace Go.Proofs.Ytjeldedjhlicmab
open Go.Shelf Go.RowKit

theorem sizeByte : (Try.prog.info? 5).map (·.size) = some 1 := by kernel_rfl

end Go.Proofs.Ytjeldedjhlicmab
