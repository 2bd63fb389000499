/-
  The program's reading of numbers: room for them.
-/
import Derived.Test.YtcaejndpmagfaaaDoorRiceGI3
import Derived.Test.YtcaejndpmagfaaaDoorRiceGI1
import Derived.Test.YtcaejndpmagfaaaDoorRiceS1
import Derived.Deep.OwnRows
set_option linter.unusedVariables false
namespace Go.Proofs.YtcaejndpmagfaaaDoor
open Go.RowKit Go.Shelf
attribute [local go_sem] Oper.semAt_some

theorem infoIntG : (Tryd.prog.info? 3).map (fun i => (i.zero, i.size, i.bytes)) = some (some (.int .i64 0), 1, 8) := by kernel_rfl
theorem makeCap (n : Nat) (hn : n ≤ 1099511627776) (w : World) : (Instr.makeSlice 31 (.int .i64 0) (.int .i64 (n : Int))).run Tryd.prog w = .ok (.slice (some ⟨w.heap.size, 0, none⟩) 0 n) (w.alloc (.cells (madeCells #[.int .i64 0] n) 3)) := by
  obtain ⟨i, hi, hz, hs, hb⟩ := info_parts infoIntG
  have hb' : (i.bytes : Int) * (n : Int) ≤ 281474976710656 := by rw [hb]; omega
  have hr := run_make (P := Tryd.prog) w 31 3 i (.int .i64 0) Tryd.underlying31 hi hz .i64 .i64 0 (n : Int) (by omega) (by omega) hb' (by omega)
  simp only [Int.toNat_natCast, hs, Nat.mul_one, Value.cells, Int.toNat_zero] at hr
  exact hr

end Go.Proofs.YtcaejndpmagfaaaDoor
