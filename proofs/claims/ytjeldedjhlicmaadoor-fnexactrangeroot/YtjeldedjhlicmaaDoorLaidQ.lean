/-
  What the rows' list says of the tables, a world in which it is so, and that the program's table reads behind a call as before.
-/
import Derived.Test.YtjeldedjhlicmaaDoorRows
import Derived.Test.YtjeldedjhlicmaaDoorShaU
import Derived.Test.YtjeldedjhlicmaaDoorShaS4
import Derived.WalkKit
import Derived.ProofKit
import Derived.OpenShut
import Derived.ChangeVars
import Derived.Below
import Derived.Carry
import Derived.Deep.DeepHandedRow
import Derived.Lib.LaidTab
import Derived.Lib.SmallJoins
import Derived.Lib.ItoaNum
namespace Go.Proofs.YtjeldedjhlicmaaDoor
open Go.ChangeShapes Go.WideShapes Go.ChangeAt Go.RowKit

theorem gTab : Tryd.prog.globalNamed "loop.example/cordillera/impl.sumRounds" = some 0 := by kernel_rfl
theorem gTabType : (Tryd.prog.globals[0]?).map (·.type) = some 110 := by kernel_rfl
theorem cellsTab : Tryd.prog.cellsOf 110 = 64 := by kernel_rfl
theorem cellsWord : Tryd.prog.cellsOf 106 = 1 := by kernel_rfl
theorem laidK_eq : (Rows.laid_loop_example_cordillera_impl_sumRounds : DataW Unit) = Lib.tabData .u32 (shaK.map fun n : Nat => (n : Int)) := by rfl
theorem gPow : Tryd.prog.globalNamed "internal/strconv.uint64pow10" = some 2 := by kernel_rfl
theorem gPowType : (Tryd.prog.globals[2]?).map (·.type) = some 152 := by kernel_rfl
theorem cellsPow : Tryd.prog.cellsOf 152 = 20 := by kernel_rfl
theorem cellsU64 : Tryd.prog.cellsOf 129 = 1 := by kernel_rfl
theorem laidP_eq : (Rows.laid_internal_strconv_uint64pow10 : DataW Unit) = Lib.tabData .u64 Lib.pow10Tab := by rfl

theorem tab_of_vars {P : Program} {W : World} {name : String} {k : IntKind} {zs : List Int} {rest : List (String × DataW Unit)} {ps : List MemPlace} {g : Nat} {t e : TypeId} {n : Nat}
    (hg : P.globalNamed name = some g) (hty : (P.globals[g]?).map (·.type) = some t) (ht : P.underlying t = some (.array n e)) (he : P.underlying e = some (.int k)) (hce : P.cellsOf e = 1) (hct : P.cellsOf t = n)
    (h : DataW.LaidVars P W ((name, Lib.tabData k zs) :: rest) ps) : Lib.TabIs P W name k zs := by
  obtain ⟨g', t', cs, fuel, p, q, hg', ht', hvar, hd, _, _⟩ := h
  obtain rfl := Option.some.inj (hg.symm.trans hg')
  obtain rfl := Option.some.inj (hty.symm.trans ht')
  unfold Lib.TabIs
  rw [hvar, ← Lib.cells_of_tab ht he hce hct hd]
theorem vars_tail {P : Program} {W : World} {x : String × DataW Unit} {rest : List (String × DataW Unit)} {ps : List MemPlace} (h : DataW.LaidVars P W (x :: rest) ps) : ∃ q, DataW.LaidVars P W rest q := by
  obtain ⟨g', t', cs, fuel, p, q, _, _, _, _, h1, _⟩ := h
  exact ⟨q, h1⟩
/-- The table of powers of ten. -/
abbrev TabP (w : World) : Prop := Lib.TabIs Tryd.prog w "internal/strconv.uint64pow10" .u64 Lib.pow10Tab
theorem TabP.below {w w' : World} {B : Nat} (h : TabP w) (hb : Below B w w') (hB : w.heap.size ≤ B) : TabP w' := Joins.var_stays gPow h hb hB

theorem rowG_of_tab {W : World} (ht : Lib.TabIs Tryd.prog W "loop.example/cordillera/impl.sumRounds" .u32 (shaK.map fun n : Nat => (n : Int))) : RowG W shaK := by
  unfold Lib.TabIs at ht
  simp only [World.var?, gTab, Option.bind_some] at ht
  split at ht
  · rename_i c t fr hb
    simp only [Option.some.injEq] at ht
    refine ⟨t, fr, ?_⟩
    rw [hb, ht]
    simp [uCells, List.map_map, Function.comp_def]
  · cases ht
theorem tabs_of_laid {W : World} (h : laidMetH Tryd.prog [("math/bits.deBruijn32tab", Rows.laid_math_bits_deBruijn32tab), ("math/bits.deBruijn64tab", Rows.laid_math_bits_deBruijn64tab), ("internal/strconv.uint64pow10", Rows.laid_internal_strconv_uint64pow10), ("loop.example/cordillera/impl.sumRounds", Rows.laid_loop_example_cordillera_impl_sumRounds)] W) : RowG W shaK ∧ TabP W := by
  have h' : laidMet Tryd.prog [("math/bits.deBruijn32tab", Rows.laid_math_bits_deBruijn32tab), ("math/bits.deBruijn64tab", Rows.laid_math_bits_deBruijn64tab), ("internal/strconv.uint64pow10", Rows.laid_internal_strconv_uint64pow10), ("loop.example/cordillera/impl.sumRounds", Rows.laid_loop_example_cordillera_impl_sumRounds)] W := h
  obtain ⟨ps, h0, _⟩ := h'
  obtain ⟨_, h1⟩ := vars_tail h0
  obtain ⟨_, h2⟩ := vars_tail h1
  obtain ⟨_, h3⟩ := vars_tail h2
  rw [laidP_eq] at h2
  rw [laidK_eq] at h3
  exact ⟨rowG_of_tab (tab_of_vars gTab gTabType Tryd.underlying110 Tryd.underlying106 cellsWord cellsTab h3), tab_of_vars gPow gPowType Tryd.underlying152 Tryd.underlying129 cellsU64 cellsPow h2⟩
theorem tabs_of_laid3 {W : World} (h : laidMetH Tryd.prog [("math/bits.deBruijn32tab", Rows.laid_math_bits_deBruijn32tab), ("math/bits.deBruijn64tab", Rows.laid_math_bits_deBruijn64tab), ("internal/strconv.uint64pow10", Rows.laid_internal_strconv_uint64pow10)] W) : TabP W := by
  have h' : laidMet Tryd.prog [("math/bits.deBruijn32tab", Rows.laid_math_bits_deBruijn32tab), ("math/bits.deBruijn64tab", Rows.laid_math_bits_deBruijn64tab), ("internal/strconv.uint64pow10", Rows.laid_internal_strconv_uint64pow10)] W := h
  obtain ⟨ps, h0, _⟩ := h'
  obtain ⟨_, h1⟩ := vars_tail h0
  obtain ⟨_, h2⟩ := vars_tail h1
  rw [laidP_eq] at h2
  exact tab_of_vars gPow gPowType Tryd.underlying152 Tryd.underlying129 cellsU64 cellsPow h2

def put (d : Array Value) : Obj → Obj
  | .cells _ t frozen => .cells d t frozen
  | o => o
def litCells : DataW Unit → Array Value
  | .agg l => (l.map fun
    | .lit (.int k z) => Value.int k z
    | _ => undef).toArray
  | _ => #[]
noncomputable def laidWorld (os : Os) : World :=
  { World.holding Tryd.prog os ⟨#[], #[], []⟩ with heap := ((((World.holding Tryd.prog os ⟨#[], #[], []⟩).heap.modify 0 (put (uCells shaK))).modify 2 (put (litCells Rows.laid_internal_strconv_uint64pow10))).modify 3 (put (litCells Rows.laid_math_bits_deBruijn32tab))).modify 4 (put (litCells Rows.laid_math_bits_deBruijn64tab)) }

theorem varsBack {H : Type} {enc : TypeId × Value → H} (hl : laidOutB Tryd.prog = true) {W W' : World} {g : Nat} {t : TypeId} {cs : Array Value} {fuel : Nat} {d : DataW H} {p : List MemPlace} (h1 : Tryd.prog.globalNamed "loop.example/cordillera/impl.sumRounds" = some g) (h2 : (Tryd.prog.globals[g]?).map (·.type) = some t)
    (h3 : W.var? Tryd.prog "loop.example/cordillera/impl.sumRounds" = some cs) (h4 : DataW.trod enc Tryd.prog W 0 (fun _ => true) true fuel t cs.toList = some (d, p)) (hb : Below W.heap.size W W') :
    ∃ q, DataW.TrodVars enc Tryd.prog W' (fun b => decide (b < W.heap.size)) ["loop.example/cordillera/impl.sumRounds"] [d] q := by
  obtain rfl : 0 = g := Option.some.inj (gTab.symm.trans h1)
  obtain rfl : 110 = t := Option.some.inj (gTabType.symm.trans h2)
  have hlt : ∀ x ∈ p, x.block < W.heap.size := DataW.trod_lt fuel _ _ _ h4
  have hk : DataW.Trod enc Tryd.prog W 0 (fun _ => true) true 110 (.agg cs) d p := ⟨fuel, h4⟩
  obtain ⟨m, hm⟩ := Below.trod hl (by kernel_rfl) (of_decide_eq_true (by kernel_rfl)) hk hb hlt
  have h0 : 0 < W.heap.size := by
    simp only [World.var?, gTab, Option.bind_some] at h3
    rcases Nat.lt_or_ge 0 W.heap.size with h' | h'
    · exact h'
    · simp [Array.getElem?_eq_none h'] at h3
  have h3' : W'.var? Tryd.prog "loop.example/cordillera/impl.sumRounds" = some cs := by
    rw [← h3]
    simp only [World.var?, gTab, Option.bind_some, hb.block 0 h0]
  exact ⟨_, trodVars_mk1 (fuel := m) gTab gTabType h3' hm⟩

end Go.Proofs.YtjeldedjhlicmaaDoor
