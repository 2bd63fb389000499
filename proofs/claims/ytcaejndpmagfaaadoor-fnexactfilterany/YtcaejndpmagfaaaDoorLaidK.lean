/-
  What the row's list says of the program's table of numbers, a world in which it is so, and that the table reads behind a call as before.
-/
import Derived.Test.YtcaejndpmagfaaaDoorRows
import Derived.Test.YtcaejndpmagfaaaDoorShaU
import Derived.Test.YtcaejndpmagfaaaDoorShaS4
import Derived.WalkKit
import Derived.ProofKit
import Derived.OpenShut
import Derived.ChangeVars
import Derived.Below
import Derived.Carry
import Derived.Deep.DeepHandedRow
import Derived.Lib.LaidTab
namespace Go.Proofs.YtcaejndpmagfaaaDoor
open Go.ChangeShapes Go.WideShapes Go.ChangeAt Go.RowKit

theorem gTab : Tryd.prog.globalNamed "loop.example/cordillera/impl.sumRounds" = some 0 := by kernel_rfl
theorem gTabType : (Tryd.prog.globals[0]?).map (·.type) = some 73 := by kernel_rfl
theorem cellsTab : Tryd.prog.cellsOf 73 = 64 := by kernel_rfl
theorem cellsWord : Tryd.prog.cellsOf 69 = 1 := by kernel_rfl
theorem laidK_eq : (Rows.laid_loop_example_cordillera_impl_sumRounds : DataW Unit) = Lib.tabData .u32 (shaK.map fun n : Nat => (n : Int)) := by rfl

theorem rowG_of_laid {W : World} (h : laidMetH Tryd.prog [("loop.example/cordillera/impl.sumRounds", Rows.laid_loop_example_cordillera_impl_sumRounds)] W) : RowG W shaK := by
  have ht : Lib.TabIs Tryd.prog W "loop.example/cordillera/impl.sumRounds" .u32 (shaK.map fun n : Nat => (n : Int)) := by
    refine Lib.tabIs_of_head (rest := []) gTab gTabType Tryd.underlying73 Tryd.underlying69 cellsWord cellsTab ?_
    rw [← laidK_eq]
    exact h
  unfold Lib.TabIs at ht
  simp only [World.var?, gTab, Option.bind_some] at ht
  split at ht
  · rename_i c t fr hb
    simp only [Option.some.injEq] at ht
    refine ⟨t, fr, ?_⟩
    rw [hb, ht]
    simp [uCells, List.map_map, Function.comp_def]
  · cases ht

noncomputable def laidWorld (os : Os) : World :=
  { World.holding Tryd.prog os ⟨#[], #[], []⟩ with heap := (World.holding Tryd.prog os ⟨#[], #[], []⟩).heap.modify 0 fun
      | .cells _ t frozen => .cells (uCells shaK) t frozen
      | o => o }

theorem varsBack {H : Type} {enc : TypeId × Value → H} (hl : laidOutB Tryd.prog = true) {W W' : World} {g : Nat} {t : TypeId} {cs : Array Value} {fuel : Nat} {d : DataW H} {p : List MemPlace} (h1 : Tryd.prog.globalNamed "loop.example/cordillera/impl.sumRounds" = some g) (h2 : (Tryd.prog.globals[g]?).map (·.type) = some t)
    (h3 : W.var? Tryd.prog "loop.example/cordillera/impl.sumRounds" = some cs) (h4 : DataW.trod enc Tryd.prog W 0 (fun _ => true) true fuel t cs.toList = some (d, p)) (hb : Below W.heap.size W W') :
    ∃ q, DataW.TrodVars enc Tryd.prog W' (fun b => decide (b < W.heap.size)) ["loop.example/cordillera/impl.sumRounds"] [d] q := by
  obtain rfl : 0 = g := Option.some.inj (gTab.symm.trans h1)
  obtain rfl : 73 = t := Option.some.inj (gTabType.symm.trans h2)
  have hlt : ∀ x ∈ p, x.block < W.heap.size := DataW.trod_lt fuel _ _ _ h4
  have hk : DataW.Trod enc Tryd.prog W 0 (fun _ => true) true 73 (.agg cs) d p := ⟨fuel, h4⟩
  obtain ⟨m, hm⟩ := Below.trod hl (by kernel_rfl) (of_decide_eq_true (by kernel_rfl)) hk hb hlt
  have h0 : 0 < W.heap.size := by
    simp only [World.var?, gTab, Option.bind_some] at h3
    rcases Nat.lt_or_ge 0 W.heap.size with h' | h'
    · exact h'
    · simp [Array.getElem?_eq_none h'] at h3
  have h3' : W'.var? Tryd.prog "loop.example/cordillera/impl.sumRounds" = some cs := by
    rw [← h3]
    simp only [World.var?, gTab, Option.bind_some, hb.block 0 h0]
  exact ⟨_, trodVars_mk1 (fuel := m) gTab gTabType h3' hm⟩

end Go.Proofs.YtcaejndpmagfaaaDoor
