/-
  The laws' heads: a head as it is handed in, its size, its copy.
-/
import Derived.Test.YtjeldedjhlicmaaDoorHeadM
import Derived.ChangeArms
import Derived.WideShapes
import Derived.OpenShut
import Derived.WalkKit
import Derived.ProofKit
import Derived.ChangeOld
import Derived.Below
import Derived.ShutString
set_option linter.unusedVariables false
namespace Go.Proofs.YtjeldedjhlicmaaDoor
open Go.ChangeShapes Go.WideShapes Go.ChangeAt Go.RowKit

def headVal (h : HeadV) : Value := .agg #[.string h.prev, .string h.root, .int .i64 h.time, .int .i64 h.diff, .int .i64 h.nonce]
structure HeadWf (h : HeadV) : Prop where
  p : h.prev.size ≤ maxLen
  r : h.root.size ≤ maxLen
  t : (Lit.int .i64 h.time).wf = true
  d : (Lit.int .i64 h.diff).wf = true
  n : (Lit.int .i64 h.nonce).wf = true
theorem five_of_parts {cs : Array Value} {a b c d e : Value} (hl : cs.toList.length = 5) (h0 : (cs.toList.drop 0).take 1 = [a]) (h1 : (cs.toList.drop 1).take 1 = [b]) (h2 : (cs.toList.drop 2).take 1 = [c]) (h3 : (cs.toList.drop 3).take 1 = [d]) (h4 : (cs.toList.drop 4).take 1 = [e]) : cs = #[a, b, c, d, e] := by
  obtain ⟨l⟩ := cs
  match l, hl with
  | [x0, x1, x2, x3, x4], _ =>
    simp at h0 h1 h2 h3 h4
    subst h0 h1 h2 h3 h4
    rfl
theorem cellsStr : Tryd.prog.cellsOf 9 = 1 := by kernel_rfl
theorem cellsInt : Tryd.prog.cellsOf 3 = 1 := by kernel_rfl
theorem cellsLHead : Tryd.prog.cellsOf 35 = 5 := by kernel_rfl
set_option maxRecDepth 100000 in
theorem open_head {H : Type} {enc : TypeId × Value → H} {W : World} {base b0 : Nat} {sp : Nat → Bool} {held : Bool} {v : Value} {d : DataW H} {p : List MemPlace} (hv : Value.okWide Tryd.prog W .any b0 35 v) (h : DataW.Trod enc Tryd.prog W base sp held 35 v d p) :
    ∃ x : HeadV, v = headVal x ∧ HeadWf x := by
  obtain ⟨cs, rfl, hcs⟩ := okWide_struct Tryd.underlying35 hv
  obtain ⟨fuel, hf⟩ := h
  obtain ⟨xs, n, _, _, hl, hlen, hx⟩ := DataW.trod_struct Tryd.underlying35 hf
  match xs, hlen with
  | [y0, y1, y2, y3, y4], _ =>
    have g0 := hx 0 _ rfl
    have g1 := hx 1 _ rfl
    have g2 := hx 2 _ rfl
    have g3 := hx 3 _ rfl
    have g4 := hx 4 _ rfl
    obtain ⟨s0, e0, _, z0⟩ := DataW.trod_string Tryd.underlying9 g0
    obtain ⟨s1, e1, _, z1⟩ := DataW.trod_string Tryd.underlying9 g1
    obtain ⟨s2, e2, _, z2⟩ := DataW.trod_int Tryd.underlying3 g2
    obtain ⟨s3, e3, _, z3⟩ := DataW.trod_int Tryd.underlying3 g3
    obtain ⟨s4, e4, _, z4⟩ := DataW.trod_int Tryd.underlying3 g4
    replace e0 : (cs.toList.drop 0).take (Tryd.prog.cellsOf 9) = [_] := e0
    replace e1 : (cs.toList.drop 1).take (Tryd.prog.cellsOf 9) = [_] := e1
    replace e2 : (cs.toList.drop 2).take (Tryd.prog.cellsOf 3) = [_] := e2
    replace e3 : (cs.toList.drop 3).take (Tryd.prog.cellsOf 3) = [_] := e3
    replace e4 : (cs.toList.drop 4).take (Tryd.prog.cellsOf 3) = [_] := e4
    rw [cellsStr] at e0 e1
    rw [cellsInt] at e2 e3 e4
    replace hl : cs.toList.length = Tryd.prog.cellsOf 35 := hl
    rw [cellsLHead] at hl
    refine ⟨⟨s0, s1, s2, s3, s4⟩, ?_, z0, z1, z2, z3, z4⟩
    rw [headVal, five_of_parts hl e0 e1 e2 e3 e4]

theorem alloc3_midH (w : World) (o1 o2 o3 : Obj) : (((w.alloc o1).alloc o2).alloc o3).heap[w.heap.size + 1]? = some o2 := by
  have e : w.heap.size + 1 = (w.alloc o1).heap.size := by simp
  rw [e, Below.heap_alloc _ _ _ (by simp)]
  exact heap_alloc_new _ _

set_option maxHeartbeats 1000000 in
set_option maxRecDepth 100000 in
theorem szHead (h : HeadV) (w : World) (hw : HeadWf h) :
    Calls Tryd.prog 18 #[headVal h, .int .i64 1048576] w fun e w' => Below w.heap.size w w' ∧ (e = .returned (.int .i64 (-1)) ∨ ∃ r : Nat, e = .returned (.int .i64 (r : Int)) ∧ h.prev.size ≤ 1048576 ∧ h.root.size ≤ 1048576) := by
  have h1 := hw.p
  have h2 := hw.r
  unfold maxLen at h1 h2
  clear hw
  obtain ⟨p, r, t, d, n⟩ := h
  unfold headVal
  dsimp only at h1 h2 ⊢
  have hb : ∀ o, Below w.heap.size w (w.alloc o) := fun o => (Below.refl _ w).alloc (Nat.le_refl _) o
  have w1 : IntKind.i64.wrap (1048576 - (p.size : Int)) = 1048576 - (p.size : Int) := by rw [IntKind.wrap_i64]; omega
  by_cases hp : 1048576 < p.size
  · have hp' : (1048576 : Int) - (p.size : Int) < 0 := by omega
    go_enter Tryd.func18, Tryd.ntmps18
    go_wp2
    go_ret
    exact ⟨hb _, .inl rfl⟩
  have hp' : ¬ (1048576 : Int) - (p.size : Int) < 0 := by omega
  have w2 : IntKind.i64.wrap (1048576 - (p.size : Int) - (r.size : Int)) = 1048576 - (p.size : Int) - (r.size : Int) := by rw [IntKind.wrap_i64]; omega
  by_cases hr : 1048576 - (p.size : Int) - (r.size : Int) < 0
  · go_enter Tryd.func18, Tryd.ntmps18
    go_wp2
    go_ret
    exact ⟨hb _, .inl rfl⟩
  go_enter Tryd.func18, Tryd.ntmps18
  go_wp2
  go_ret
  refine ⟨hb _, .inr ⟨⟨1048576 - p.size - r.size, ?_⟩, by omega, by omega⟩⟩
  show Ending.returned (Value.int IntKind.i64 (1048576 - (p.size : Int) - (r.size : Int))) = _
  congr 2
  omega

set_option maxHeartbeats 1000000 in
set_option maxRecDepth 100000 in
theorem toHead1 (h : HeadV) (w : World) :
    Calls Tryd.prog 21 #[headVal h] w fun e w' => e = .returned (headVal h) ∧ Below w.heap.size w w' := by
  unfold headVal
  go_enter Tryd.func21, Tryd.ntmps21
  go_wp2
  exact bodyPost_ret (results_cell_row (p := 2) rfl _ _ (w.heap.size + 1) 41 #[.string h.prev, .string h.root, .int .i64 h.time, .int .i64 h.diff, .int .i64 h.nonce] (0, 0) _ rfl (alloc3_midH _ _ _ _) Tryd.underlying41 rfl (by kernel_rfl)) rfl ⟨rfl, (((Below.refl _ w).alloc (Nat.le_refl _) _).alloc (by simp) _).alloc (by simp; omega) _⟩

end Go.Proofs.YtjeldedjhlicmaaDoor
