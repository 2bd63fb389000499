/-
  What the rows' list says of the table where it names that one alone, in a seat that has all four.
-/
import Derived.Test.YtaahmbooagocgabDoorLaidQ
namespace Go.Proofs.YtaahmbooagocgabDoor
open Go.ChangeShapes Go.WideShapes Go.ChangeAt Go.RowKit

theorem tabs_of_laid1 {W : World} (h : laidMetH Tryd.prog [("loop.example/cordillera/impl.sumRounds", Rows.laid_loop_example_cordillera_impl_sumRounds)] W) : RowG W shaK := by
  have h' : laidMet Tryd.prog [("loop.example/cordillera/impl.sumRounds", Rows.laid_loop_example_cordillera_impl_sumRounds)] W := h
  obtain ⟨ps, h3, _⟩ := h'
  rw [laidK_eq] at h3
  exact rowG_of_tab (tab_of_vars gTab gTabType Tryd.underlying93 Tryd.underlying89 cellsWord cellsTab h3)

end Go.Proofs.YtaahmbooagocgabDoor
