/-
  What strings.Builder's WriteByte and String do to a builder that the call itself made, at this program's numbers: no condition but the new length (at most 2^47 bytes).
-/
import Derived.Test.YtjeldedjhlicmabShelf
import Derived.Lib.FrozenHead2
import Derived.Lib.OthersKept
import Derived.WalkKit
import Derived.Laws.Externs
set_option linter.unusedVariables false
namespace Go.Proofs.Ytjeldedjhlicmab
open Go.Shelf Go.RowKit

theorem infoByte : (Try.prog.info? 5).map (fun i => (i.zero, i.size, i.bytes)) = some (some (.int .u8 0), 1, 1) := by kernel_rfl

end Go.Proofs.Ytjeldedjhlicmab
