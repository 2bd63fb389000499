/-
  The laws' questions: a question as it is handed in, its copy, and the walk of AskOk's statement.
-/
import Derived.Test.YtinknocacmhikaaAskM
import Derived.ChangeArms
import Derived.WideShapes
import Derived.OpenShut
import Derived.WalkKit
import Derived.ProofKit
import Derived.ChangeOld
import Derived.Below
import Derived.ShutString
set_option linter.unusedVariables false
namespace Go.Proofs.Ytinknocacmhikaa
open Go.ChangeShapes Go.WideShapes Go.ChangeAt Go.RowKit

structure AskWf (k f n : Int) : Prop where
  k : (Lit.int .i64 k).wf = true
  f : (Lit.int .i64 f).wf = true
  n : (Lit.int .i64 n).wf = true
theorem three_of_parts {cs : Array Value} {a b c : Value} (hl : cs.toList.length = 3) (h0 : (cs.toList.drop 0).take 1 = [a]) (h1 : (cs.toList.drop 1).take 1 = [b]) (h2 : (cs.toList.drop 2).take 1 = [c]) : cs = #[a, b, c] := by
  obtain ⟨l⟩ := cs
  match l, hl with
  | [x0, x1, x2], _ =>
    simp at h0 h1 h2
    subst h0 h1 h2
    rfl
theorem cellsIntA : Try.prog.cellsOf 3 = 1 := by kernel_rfl
theorem cellsLAsk : Try.prog.cellsOf 23 = 3 := by kernel_rfl
set_option maxRecDepth 100000 in
theorem open_ask {H : Type} {enc : TypeId × Value → H} {W : World} {base b0 : Nat} {sp : Nat → Bool} {held : Bool} {v : Value} {d : DataW H} {p : List MemPlace} (hv : Value.okWide Try.prog W .any b0 23 v) (h : DataW.Trod enc Try.prog W base sp held 23 v d p) :
    ∃ k f n : Int, v = askVal k f n ∧ AskWf k f n := by
  obtain ⟨cs, rfl, hcs⟩ := okWide_struct Try.underlying23 hv
  obtain ⟨fuel, hf⟩ := h
  obtain ⟨xs, n, _, _, hl, hlen, hx⟩ := DataW.trod_struct Try.underlying23 hf
  match xs, hlen with
  | [y0, y1, y2], _ =>
    have g0 := hx 0 _ rfl
    have g1 := hx 1 _ rfl
    have g2 := hx 2 _ rfl
    obtain ⟨s0, e0, _, z0⟩ := DataW.trod_int Try.underlying3 g0
    obtain ⟨s1, e1, _, z1⟩ := DataW.trod_int Try.underlying3 g1
    obtain ⟨s2, e2, _, z2⟩ := DataW.trod_int Try.underlying3 g2
    replace e0 : (cs.toList.drop 0).take (Try.prog.cellsOf 3) = [_] := e0
    replace e1 : (cs.toList.drop 1).take (Try.prog.cellsOf 3) = [_] := e1
    replace e2 : (cs.toList.drop 2).take (Try.prog.cellsOf 3) = [_] := e2
    rw [cellsIntA] at e0 e1 e2
    replace hl : cs.toList.length = Try.prog.cellsOf 23 := hl
    rw [cellsLAsk] at hl
    refine ⟨s0, s1, s2, ?_, z0, z1, z2⟩
    rw [askVal, three_of_parts hl e0 e1 e2]
theorem alloc3_midA (w : World) (o1 o2 o3 : Obj) : (((w.alloc o1).alloc o2).alloc o3).heap[w.heap.size + 1]? = some o2 := by
  have e : w.heap.size + 1 = (w.alloc o1).heap.size := by simp
  rw [e, Below.heap_alloc _ _ _ (by simp)]
  exact heap_alloc_new _ _
set_option maxHeartbeats 1000000 in
set_option maxRecDepth 100000 in
theorem toAskA (k f n : Int) (w : World) :
    Calls Try.prog 5 #[askVal k f n] w fun e w' => e = .returned (askVal k f n) ∧ Below w.heap.size w w' := by
  unfold askVal
  go_enter Try.func5, Try.ntmps5
  go_wp2
  exact bodyPost_ret (results_cell_row (p := 2) rfl _ _ (w.heap.size + 1) 25 #[.int .i64 k, .int .i64 f, .int .i64 n] (0, 0) _ rfl (alloc3_midA _ _ _ _) Try.underlying25 rfl (by kernel_rfl)) rfl ⟨rfl, (((Below.refl _ w).alloc (Nat.le_refl _) _).alloc (by simp) _).alloc (by simp; omega) _⟩
end Go.Proofs.Ytinknocacmhikaa
