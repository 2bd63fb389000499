/-
  At every peer the program's PeerOk answers what the specification answers; the peer stands. The package variables that the row lists are as the program's text lays them.
-/
import Derived.Test.YtphgjhakghblgaaGreatDoorPart1
import Derived.Test.YtphgjhakghblgaaGreatDoorPart2
import Derived.Test.YtphgjhakghblgaaGreatDoorPart3
import Derived.Test.YtphgjhakghblgaaGreatDoorPart4
import Derived.Test.YtphgjhakghblgaaGreatDoorPart5
import Derived.Test.YtphgjhakghblgaaGreatDoorPart6
import Derived.Test.YtphgjhakghblgaaGreatDoorPart7
import Derived.Test.YtphgjhakghblgaaGreatDoorPart8
import Derived.Test.YtphgjhakghblgaaGreatDoorPart9
import Derived.Test.YtphgjhakghblgaaGreatDoorPart10
import Derived.Test.YtphgjhakghblgaaGreatDoorPart11
import Derived.Test.YtphgjhakghblgaaGreatDoorPart12
import Derived.Test.YtphgjhakghblgaaGreatDoorPart13
import Derived.Test.YtphgjhakghblgaaGreatDoorCards
import Derived.Test.YtphgjhakghblgaaGreatDoorTie
import Derived.WalkKit
import Derived.ProofKit
import Derived.OpenShut
import Derived.ShutString
import Derived.ChangeOld
import Derived.ChangeVars
import Derived.Below
import Derived.Carry
import Derived.Deep.DeepHandedRow
import Derived.Lib.LaidTab
namespace Go.Proofs.YtphgjhakghblgaaGreatDoor
open Go.ChangeShapes Go.WideShapes Go.ChangeAt Go.RowKit
open Go.ChangeMaps (open_string shut_string)
set_option linter.unusedVariables false

theorem own_fnExactPeerOk : ownKnob Tryz.prog.godebug = none := by kernel_rfl
theorem laid_fnExactPeerOk : laidOutB Tryz.prog = true := by kernel_rfl
theorem table_fnExactPeerOk {W : World} (h : laidMetH Tryz.prog Rows.fnExactPeerOkRow.laid W) : RowG W shaK ∧ TabP W ∧ ErrT W := tabs_of_laidE h

theorem met_fnExactPeerOk (os : Os) : laidMetH Tryz.prog Rows.fnExactPeerOkRow.laid ((laidWorldE os).forCall (fun _ _ => 0) ⟨#[], #[.agg #[.slice none 0 0, .slice none 0 0, .slice none 0 0, .int .i64 0, .int .i64 0]], []⟩).memory :=
  laidMetH_of_parts (laidMet_of_run' 8 (by kernel_rfl) (by kernel_rfl)) (by kernel_rfl)
theorem reads_fnExactPeerOk (os : Os) {H : Type} (enc : TypeId × Value → H) : ∃ places, DataW.whole enc Tryz.prog ((laidWorldE os).forCall (fun _ _ => 0) ⟨#[], #[.agg #[.slice none 0 0, .slice none 0 0, .slice none 0 0, .int .i64 0, .int .i64 0]], []⟩).memory Tryz.f4.params.toList Rows.fnExactPeerOkSpec.vars false (#[.agg #[.slice none 0 0, .slice none 0 0, .slice none 0 0, .int .i64 0, .int .i64 0]] : Array Value).toList 8 = some ([.agg [.agg [.nil, .nil, .nil], .lit (.int .i64 0), .lit (.int .i64 0)]], [Rows.laid_loop_example_cordillera_impl_sumRounds], places) :=
  ⟨MemPlace.row ⟨1, 0, none⟩ 64, by kernel_rfl⟩

set_option maxRecDepth 100000 in
theorem lifted_fnExactPeerOk (os : Os) (started : os.Started) (H : Type) (enc : TypeId × Value → H) (F : Stop.Interp) :
    ReturnsInHanded {} Tryz.checked os 4 .any ((OpenSpec.ofChange Rows.fnExactPeerOkSpec).preRow enc Tryz.prog Tryz.f4 Rows.fnExactPeerOkRow.domain false Rows.fnExactPeerOkRow.laid) (((OpenSpec.ofChange Rows.fnExactPeerOkSpec).at F).post enc Tryz.prog Tryz.f4 false true false false) := by
  obtain ⟨places, hx⟩ := reads_fnExactPeerOk os enc
  refine returnsInHanded_of_row (C := Tryz.checked) (s := OpenSpec.ofChange Rows.fnExactPeerOkSpec) own_fnExactPeerOk started (by kernel_rfl) Tryz.func4
    (witness_row_at (enc := enc) (C := Tryz.checked) false (laidWorldE os) #[.agg #[.slice none 0 0, .slice none 0 0, .slice none 0 0, .int .i64 0, .int .i64 0]] rfl (by kernel_rfl) (by kernel_rfl) (by kernel_rfl)
      (OpenSpec.preRow_of_cond 8 hx (by kernel_rfl) (fun k hk => by cases hk) (by kernel_rfl) (met_fnExactPeerOk os))) ?_
  intro W base args ds gs before hval0 hW _ _ _ hL _ _
  have hval : ∀ (j : Nat) t v, Tryz.f4.params[j]? = some t → args[j]? = some v → Value.okWide Tryz.prog W .any base t v := hval0
  have hW' := hW
  obtain ⟨p, q, hA0, hV, rfl, hfz, hnd⟩ := hW
  have hA : DataW.TrodAll enc Tryz.prog W 0 (fun _ => true) true Tryz.f4.params.toList args.toList ds p := hA0
  rw [Tryz.params4] at hA hval
  obtain ⟨v0, vs0, d0, ds0, p0, q0, hargs, rfl, rfl, h0, r0⟩ := trodAll_cons hA
  obtain ⟨rfl, rfl, rfl⟩ := trodAll_nil r0
  obtain rfl : args = #[v0] := by cases args; simp_all
  obtain ⟨gv, tv, cv, fv, dv, pv, rfl, hgv, htv, hvv, hdv, rfl⟩ := trodVars_one hV
  have k0 := h0
  have lt0 : ∀ x ∈ p0, x.block < W.heap.size := by obtain ⟨m, hm⟩ := k0; exact DataW.trod_lt m _ _ _ hm
  obtain ⟨a0, x0, y0, rfl, w0⟩ := open_peer (hval 0 37 v0 rfl rfl) h0
  clear hA0 hval0
  refine (walk_FnExactPeerOk a0 x0 y0 W w0 (table_fnExactPeerOk hL).1 (table_fnExactPeerOk hL).2.1 (table_fnExactPeerOk hL).2.2).mono fun e W' ⟨he, bel⟩ => ?_
  subst he
  obtain ⟨pv', hpv⟩ := varsBack laid_fnExactPeerOk hgv htv hvv hdv bel
  exact ⟨_, rfl, _, _, _, [], _, pv', hW', trodAll_mk1 (shut_bool Tryz.underlying4 _), (trodAll_cons_mk (Below.trod laid_fnExactPeerOk (by kernel_rfl) (of_decide_eq_true (by kernel_rfl)) k0 bel lt0) trodAll_mk0), hpv, bel.frame _, fun h => by cases h⟩

theorem fnExactPeerOk_said : Rows.FnExactPeerOkSaid :=
  OpenClaim.holds_of_cond 4 Tryz.f4 rfl rfl rfl rfl rfl rfl rfl ⟨rfl, rfl, rfl, rfl, rfl⟩ rfl rfl rfl rfl rfl (by kernel_rfl) Tryz.func4 (by kernel_rfl)
    (of_decide_eq_true (by kernel_rfl)) (by unfold Func.isWrapper; first | (rw [if_pos (by decide +kernel)]; kernel_rfl) | (rw [if_neg (by decide +kernel)]; exact ⟨rfl, rfl⟩))
    (fun os started H enc _ F => by rw [OpenClaim.pre_eq_preRow]; exact lifted_fnExactPeerOk os started H enc F)
theorem plain_fnExactPeerOk (f : FuncId) (fn : Func) (hf : Tryz.pinned.checked.prog.funcNamed "loop.example/cordillera/laws.FnExactPeerOk" = some f) (hfn : Tryz.pinned.checked.prog.funcs[f]? = some fn) :
    true = Tryz.pinned.checked.prog.looks [] ∧ ∀ (j : Nat) t, fn.params[j]? = some t → Tryz.pinned.checked.prog.wantsStandIn t = false := by
  obtain rfl : f = 4 := Option.some.inj ((show Tryz.prog.funcNamed "loop.example/cordillera/laws.FnExactPeerOk" = some 4 by kernel_rfl).symm.trans hf) |>.symm
  obtain rfl : fn = Tryz.f4 := (Option.some.inj (Tryz.func4.symm.trans hfn)).symm
  refine ⟨by kernel_rfl, fun j t ht => ?_⟩
  rw [Tryz.params4] at ht
  have hall : ∀ t ∈ (#[37] : Array TypeId), Tryz.prog.wantsStandIn t = false := by
    intro t ht
    simp only [List.mem_toArray, List.mem_cons, List.not_mem_nil, or_false] at ht
    subst ht; kernel_rfl
  exact hall t (Array.mem_of_getElem? ht)
theorem fnExactPeerOk_holds : Rows.FnExactPeerOkCardSaid :=
  Claim7.holds_tied_plain_at .later [] _ _ _ _ fnExactPeerOk_said (fun _ h => by cases h) (by kernel_rfl) (fun _ h => by cases h) fnExactPeerOk_row_tie rfl ⟨rfl, rfl⟩ (by kernel_rfl) rfl plain_fnExactPeerOk (by kernel_rfl)
#print axioms fnExactPeerOk_holds
end Go.Proofs.YtphgjhakghblgaaGreatDoor

