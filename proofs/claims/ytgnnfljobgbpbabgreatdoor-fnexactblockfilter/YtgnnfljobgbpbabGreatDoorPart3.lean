/-
  Texts that the last part needs, joined.
-/
import Derived.Test.YtgnnfljobgbpbabGreatDoorPart1
import Derived.Test.YtgnnfljobgbpbabGreatDoorPart2
import Derived.Deep.RegionWith
import Derived.ChangeArms
import Derived.WideShapes
import Derived.OpenShut
import Derived.WalkKit
import Derived.ProofKit
import Derived.ChangeOld
import Derived.Below
import Derived.ShutString
import Derived.Test.YtgnnfljobgbpbabGreatDoorProg
import Derived.Laws.Rows
import Derived.Lib.FrozenHead2
import Derived.Laws.MakeOwn
import Derived.Deep.Slices
import Derived.DataReads
import Derived.BigRegion
import Derived.Deep.OwnRows
import Derived.SliceStrings
import Derived.Deep.RegionHeld3
import Derived.Lib.AppendIntMem
import Derived.WalkSpells
import Derived.ArgAppend
import Derived.Laws.IdiomStrings
import Derived.Lib.Builder
import Derived.Lib.UnsafeStr
set_option linter.unusedVariables false
namespace Go.Proofs.YtgnnfljobgbpbabGreatDoor
open Go.RowKit

structure HeadV where
  prev : ByteArray
  root : ByteArray
  time : Int
  diff : Int
  nonce : Int
instance : Inhabited HeadV := ⟨⟨⟨#[]⟩, ⟨#[]⟩, 0, 0, 0⟩⟩
def headOkB (h : HeadV) : Bool := isSum h.prev.data.toList && (isSum h.root.data.toList && (decide (0 ≤ h.time ∧ h.time ≤ 99999) && (decide (1 ≤ h.diff ∧ h.diff ≤ 8) && decide (0 ≤ h.nonce ∧ h.nonce ≤ 400))))
/-- The five texts of a head. -/
def headL (h : HeadV) : List ByteArray := [h.prev, h.root, ⟨(Lib.decDigits h.time.toNat).toArray⟩, ⟨(Lib.decDigits h.diff.toNat).toArray⟩, ⟨(Lib.decDigits h.nonce.toNat).toArray⟩]
def headT (h : HeadV) : List UInt8 := joinTo (headL h) [32] 4
def headPut (h : HeadV) : List UInt8 := if headOkB h = true then headT h else []
theorem headOk_in {h : HeadV} (hh : headOkB h = true) : isSum h.prev.data.toList = true ∧ isSum h.root.data.toList = true ∧ (0 ≤ h.time ∧ h.time ≤ 99999) ∧ (1 ≤ h.diff ∧ h.diff ≤ 8) ∧ 0 ≤ h.nonce ∧ h.nonce ≤ 400 := by
  simp only [headOkB, Bool.and_eq_true, decide_eq_true_eq] at hh
  exact hh

set_option maxHeartbeats 2000000 in
set_option maxRecDepth 100000 in
theorem implHeadOk (h : HeadV) (w : World) :
    Calls Tryz.prog 39 #[.agg #[.string h.prev, .string h.root, .int .i64 h.time, .int .i64 h.diff, .int .i64 h.nonce]] w fun e w' => e = .returned (.bool (headOkB h)) ∧ Below w.heap.size w w' := by
  have hb : ∀ o, Below w.heap.size w (w.alloc o) := fun o => (Below.refl _ w).alloc (Nat.le_refl _) o
  by_cases h1 : isSum h.prev.data.toList = false
  · have e : headOkB h = false := by simp [headOkB, h1]
    rw [e]
    clear e
    go_enter Tryz.func39, Tryz.ntmps39
    go_wp2_with (go_at_call 29; refine (implSumOk _ _).mono ?_; rintro e w1 ⟨rfl, rfl⟩)
    go_ret
    exact ⟨rfl, hb _⟩
  have k1 : isSum h.prev.data.toList = true := by simpa using h1
  clear h1
  by_cases h2 : isSum h.root.data.toList = false
  · have e : headOkB h = false := by simp [headOkB, h2]
    rw [e]
    clear e
    go_enter Tryz.func39, Tryz.ntmps39
    go_wp2_with (go_at_call 29; refine (implSumOk _ _).mono ?_; rintro e w1 ⟨rfl, rfl⟩)
    go_ret
    exact ⟨rfl, hb _⟩
  have k2 : isSum h.root.data.toList = true := by simpa using h2
  clear h2
  by_cases h3 : h.time < 0
  · have e : headOkB h = false := by
      cases hh : headOkB h with
      | false => rfl
      | true => have := headOk_in hh; omega
    rw [e]
    clear e
    go_enter Tryz.func39, Tryz.ntmps39
    go_wp2_with (go_at_call 29; refine (implSumOk _ _).mono ?_; rintro e w1 ⟨rfl, rfl⟩)
    go_ret
    exact ⟨rfl, hb _⟩
  by_cases h4 : 99999 < h.time
  · have e : headOkB h = false := by
      cases hh : headOkB h with
      | false => rfl
      | true => have := headOk_in hh; omega
    rw [e]
    clear e
    go_enter Tryz.func39, Tryz.ntmps39
    go_wp2_with (go_at_call 29; refine (implSumOk _ _).mono ?_; rintro e w1 ⟨rfl, rfl⟩)
    go_ret
    exact ⟨rfl, hb _⟩
  by_cases h5 : h.diff < 1
  · have e : headOkB h = false := by
      cases hh : headOkB h with
      | false => rfl
      | true => have := headOk_in hh; omega
    rw [e]
    clear e
    go_enter Tryz.func39, Tryz.ntmps39
    go_wp2_with (go_at_call 29; refine (implSumOk _ _).mono ?_; rintro e w1 ⟨rfl, rfl⟩)
    go_ret
    exact ⟨rfl, hb _⟩
  by_cases h6 : 8 < h.diff
  · have e : headOkB h = false := by
      cases hh : headOkB h with
      | false => rfl
      | true => have := headOk_in hh; omega
    rw [e]
    clear e
    go_enter Tryz.func39, Tryz.ntmps39
    go_wp2_with (go_at_call 29; refine (implSumOk _ _).mono ?_; rintro e w1 ⟨rfl, rfl⟩)
    go_ret
    exact ⟨rfl, hb _⟩
  by_cases h7 : h.nonce < 0
  · have e : headOkB h = false := by
      cases hh : headOkB h with
      | false => rfl
      | true => have := headOk_in hh; omega
    rw [e]
    clear e
    go_enter Tryz.func39, Tryz.ntmps39
    go_wp2_with (go_at_call 29; refine (implSumOk _ _).mono ?_; rintro e w1 ⟨rfl, rfl⟩)
    go_ret
    exact ⟨rfl, hb _⟩
  have e : headOkB h = decide (h.nonce ≤ 400) := by
    rw [headOkB, k1, k2, Bool.true_and, Bool.true_and, Bool.eq_iff_iff]
    simp
    omega
  rw [e]
  clear e
  go_enter Tryz.func39, Tryz.ntmps39
  go_wp2_with (go_at_call 29; refine (implSumOk _ _).mono ?_; rintro e w1 ⟨rfl, rfl⟩)
  go_ret
  exact ⟨rfl, hb _⟩

set_option maxHeartbeats 2000000 in
set_option maxRecDepth 100000 in
theorem specL3Ok (h : HeadV) (w : World) (hp : h.prev.size ≤ maxLen) (hr : h.root.size ≤ maxLen) :
    Calls Tryz.prog 20 #[.agg #[.string h.prev, .string h.root, .int .i64 h.time, .int .i64 h.diff, .int .i64 h.nonce]] w fun e w' => e = .returned (.bool (headOkB h)) ∧ Below w.heap.size w w' := by
  have hb : ∀ o, Below w.heap.size w (w.alloc o) := fun o => (Below.refl _ w).alloc (Nat.le_refl _) o
  by_cases h1 : isSum h.prev.data.toList = false
  · have e : headOkB h = false := by simp [headOkB, h1]
    rw [e]
    clear e
    go_enter Tryz.func20, Tryz.ntmps20
    go_wp2_with (first | (go_at_call_of 42 (Value.string h.prev); refine (specIsSum _ _ hp).mono ?_; rintro e w1 ⟨rfl, rfl⟩) | (go_at_call_of 42 (Value.string h.root); refine (specIsSum _ _ hr).mono ?_; rintro e w1 ⟨rfl, rfl⟩) | (go_at_call 43; refine (specIn _ _ _ _).mono ?_; rintro e w1 ⟨rfl, rfl⟩))
    go_ret
    exact ⟨rfl, hb _⟩
  have k1 : isSum h.prev.data.toList = true := by simpa using h1
  clear h1
  by_cases h2 : isSum h.root.data.toList = false
  · have e : headOkB h = false := by simp [headOkB, h2]
    rw [e]
    clear e
    go_enter Tryz.func20, Tryz.ntmps20
    go_wp2_with (first | (go_at_call_of 42 (Value.string h.prev); refine (specIsSum _ _ hp).mono ?_; rintro e w1 ⟨rfl, rfl⟩) | (go_at_call_of 42 (Value.string h.root); refine (specIsSum _ _ hr).mono ?_; rintro e w1 ⟨rfl, rfl⟩) | (go_at_call 43; refine (specIn _ _ _ _).mono ?_; rintro e w1 ⟨rfl, rfl⟩))
    go_ret
    exact ⟨rfl, hb _⟩
  have k2 : isSum h.root.data.toList = true := by simpa using h2
  clear h2
  by_cases h3 : ¬ (0 ≤ h.time ∧ h.time ≤ 99999)
  · have e : headOkB h = false := by
      cases hh : headOkB h with
      | false => rfl
      | true => have := headOk_in hh; omega
    have i3 := inB_no h3
    rw [e]
    clear e
    go_enter Tryz.func20, Tryz.ntmps20
    go_wp2_with (first | (go_at_call_of 42 (Value.string h.prev); refine (specIsSum _ _ hp).mono ?_; rintro e w1 ⟨rfl, rfl⟩) | (go_at_call_of 42 (Value.string h.root); refine (specIsSum _ _ hr).mono ?_; rintro e w1 ⟨rfl, rfl⟩) | (go_at_call 43; refine (specIn _ _ _ _).mono ?_; rintro e w1 ⟨rfl, rfl⟩))
    go_ret
    exact ⟨rfl, hb _⟩
  have i3 := inB_yes (by simpa using h3 : 0 ≤ h.time ∧ h.time ≤ 99999)
  by_cases h4 : ¬ (1 ≤ h.diff ∧ h.diff ≤ 8)
  · have e : headOkB h = false := by
      cases hh : headOkB h with
      | false => rfl
      | true => have := headOk_in hh; omega
    have i4 := inB_no h4
    rw [e]
    clear e
    go_enter Tryz.func20, Tryz.ntmps20
    go_wp2_with (first | (go_at_call_of 42 (Value.string h.prev); refine (specIsSum _ _ hp).mono ?_; rintro e w1 ⟨rfl, rfl⟩) | (go_at_call_of 42 (Value.string h.root); refine (specIsSum _ _ hr).mono ?_; rintro e w1 ⟨rfl, rfl⟩) | (go_at_call 43; refine (specIn _ _ _ _).mono ?_; rintro e w1 ⟨rfl, rfl⟩))
    go_ret
    exact ⟨rfl, hb _⟩
  have i4 := inB_yes (by simpa using h4 : 1 ≤ h.diff ∧ h.diff ≤ 8)
  by_cases h5 : ¬ (0 ≤ h.nonce ∧ h.nonce ≤ 400)
  · have e : headOkB h = false := by
      cases hh : headOkB h with
      | false => rfl
      | true => have := headOk_in hh; omega
    have i5 := inB_no h5
    rw [e]
    clear e
    go_enter Tryz.func20, Tryz.ntmps20
    go_wp2_with (first | (go_at_call_of 42 (Value.string h.prev); refine (specIsSum _ _ hp).mono ?_; rintro e w1 ⟨rfl, rfl⟩) | (go_at_call_of 42 (Value.string h.root); refine (specIsSum _ _ hr).mono ?_; rintro e w1 ⟨rfl, rfl⟩) | (go_at_call 43; refine (specIn _ _ _ _).mono ?_; rintro e w1 ⟨rfl, rfl⟩))
    go_ret
    exact ⟨rfl, hb _⟩
  have i5 := inB_yes (by simpa using h5 : 0 ≤ h.nonce ∧ h.nonce ≤ 400)
  have e : headOkB h = true := by
    rw [headOkB, k1, k2]
    simp
    omega
  rw [e]
  clear e
  go_enter Tryz.func20, Tryz.ntmps20
  go_wp2_with (first | (go_at_call_of 42 (Value.string h.prev); refine (specIsSum _ _ hp).mono ?_; rintro e w1 ⟨rfl, rfl⟩) | (go_at_call_of 42 (Value.string h.root); refine (specIsSum _ _ hr).mono ?_; rintro e w1 ⟨rfl, rfl⟩) | (go_at_call 43; refine (specIn _ _ _ _).mono ?_; rintro e w1 ⟨rfl, rfl⟩))
  go_ret
  exact ⟨rfl, hb _⟩

end Go.Proofs.YtgnnfljobgbpbabGreatDoor

set_option linter.unusedVariables false
namespace Go.Proofs.YtgnnfljobgbpbabGreatDoor
open Go.ChangeShapes Go.WideShapes Go.ChangeAt Go.RowKit

def headVal (h : HeadV) : Value := .agg #[.string h.prev, .string h.root, .int .i64 h.time, .int .i64 h.diff, .int .i64 h.nonce]
structure HeadWf (h : HeadV) : Prop where
  p : h.prev.size ≤ maxLen
  r : h.root.size ≤ maxLen
  t : (Lit.int .i64 h.time).wf = true
  d : (Lit.int .i64 h.diff).wf = true
  n : (Lit.int .i64 h.nonce).wf = true
theorem five_of_parts {cs : Array Value} {a b c d e : Value} (hl : cs.toList.length = 5) (h0 : (cs.toList.drop 0).take 1 = [a]) (h1 : (cs.toList.drop 1).take 1 = [b]) (h2 : (cs.toList.drop 2).take 1 = [c]) (h3 : (cs.toList.drop 3).take 1 = [d]) (h4 : (cs.toList.drop 4).take 1 = [e]) : cs = #[a, b, c, d, e] := by
  obtain ⟨l⟩ := cs
  match l, hl with
  | [x0, x1, x2, x3, x4], _ =>
    simp at h0 h1 h2 h3 h4
    subst h0 h1 h2 h3 h4
    rfl
theorem cellsStr : Tryz.prog.cellsOf 9 = 1 := by kernel_rfl
theorem cellsInt : Tryz.prog.cellsOf 3 = 1 := by kernel_rfl
theorem cellsLHead : Tryz.prog.cellsOf 23 = 5 := by kernel_rfl
set_option maxRecDepth 100000 in
theorem open_head {H : Type} {enc : TypeId × Value → H} {W : World} {base b0 : Nat} {sp : Nat → Bool} {held : Bool} {v : Value} {d : DataW H} {p : List MemPlace} (hv : Value.okWide Tryz.prog W .any b0 23 v) (h : DataW.Trod enc Tryz.prog W base sp held 23 v d p) :
    ∃ x : HeadV, v = headVal x ∧ HeadWf x := by
  obtain ⟨cs, rfl, hcs⟩ := okWide_struct Tryz.underlying23 hv
  obtain ⟨fuel, hf⟩ := h
  obtain ⟨xs, n, _, _, hl, hlen, hx⟩ := DataW.trod_struct Tryz.underlying23 hf
  match xs, hlen with
  | [y0, y1, y2, y3, y4], _ =>
    have g0 := hx 0 _ rfl
    have g1 := hx 1 _ rfl
    have g2 := hx 2 _ rfl
    have g3 := hx 3 _ rfl
    have g4 := hx 4 _ rfl
    obtain ⟨s0, e0, _, z0⟩ := DataW.trod_string Tryz.underlying9 g0
    obtain ⟨s1, e1, _, z1⟩ := DataW.trod_string Tryz.underlying9 g1
    obtain ⟨s2, e2, _, z2⟩ := DataW.trod_int Tryz.underlying3 g2
    obtain ⟨s3, e3, _, z3⟩ := DataW.trod_int Tryz.underlying3 g3
    obtain ⟨s4, e4, _, z4⟩ := DataW.trod_int Tryz.underlying3 g4
    replace e0 : (cs.toList.drop 0).take (Tryz.prog.cellsOf 9) = [_] := e0
    replace e1 : (cs.toList.drop 1).take (Tryz.prog.cellsOf 9) = [_] := e1
    replace e2 : (cs.toList.drop 2).take (Tryz.prog.cellsOf 3) = [_] := e2
    replace e3 : (cs.toList.drop 3).take (Tryz.prog.cellsOf 3) = [_] := e3
    replace e4 : (cs.toList.drop 4).take (Tryz.prog.cellsOf 3) = [_] := e4
    rw [cellsStr] at e0 e1
    rw [cellsInt] at e2 e3 e4
    replace hl : cs.toList.length = Tryz.prog.cellsOf 23 := hl
    rw [cellsLHead] at hl
    refine ⟨⟨s0, s1, s2, s3, s4⟩, ?_, z0, z1, z2, z3, z4⟩
    rw [headVal, five_of_parts hl e0 e1 e2 e3 e4]

theorem alloc3_midH (w : World) (o1 o2 o3 : Obj) : (((w.alloc o1).alloc o2).alloc o3).heap[w.heap.size + 1]? = some o2 := by
  have e : w.heap.size + 1 = (w.alloc o1).heap.size := by simp
  rw [e, Below.heap_alloc _ _ _ (by simp)]
  exact heap_alloc_new _ _

set_option maxHeartbeats 1000000 in
set_option maxRecDepth 100000 in
theorem szHead (h : HeadV) (w : World) (hw : HeadWf h) :
    Calls Tryz.prog 9 #[headVal h, .int .i64 1048576] w fun e w' => Below w.heap.size w w' ∧ (e = .returned (.int .i64 (-1)) ∨ ∃ r : Nat, e = .returned (.int .i64 (r : Int)) ∧ h.prev.size ≤ 1048576 ∧ h.root.size ≤ 1048576) := by
  have h1 := hw.p
  have h2 := hw.r
  unfold maxLen at h1 h2
  clear hw
  obtain ⟨p, r, t, d, n⟩ := h
  unfold headVal
  dsimp only at h1 h2 ⊢
  have hb : ∀ o, Below w.heap.size w (w.alloc o) := fun o => (Below.refl _ w).alloc (Nat.le_refl _) o
  have w1 : IntKind.i64.wrap (1048576 - (p.size : Int)) = 1048576 - (p.size : Int) := by rw [IntKind.wrap_i64]; omega
  by_cases hp : 1048576 < p.size
  · have hp' : (1048576 : Int) - (p.size : Int) < 0 := by omega
    go_enter Tryz.func9, Tryz.ntmps9
    go_wp2
    go_ret
    exact ⟨hb _, .inl rfl⟩
  have hp' : ¬ (1048576 : Int) - (p.size : Int) < 0 := by omega
  have w2 : IntKind.i64.wrap (1048576 - (p.size : Int) - (r.size : Int)) = 1048576 - (p.size : Int) - (r.size : Int) := by rw [IntKind.wrap_i64]; omega
  by_cases hr : 1048576 - (p.size : Int) - (r.size : Int) < 0
  · go_enter Tryz.func9, Tryz.ntmps9
    go_wp2
    go_ret
    exact ⟨hb _, .inl rfl⟩
  go_enter Tryz.func9, Tryz.ntmps9
  go_wp2
  go_ret
  refine ⟨hb _, .inr ⟨⟨1048576 - p.size - r.size, ?_⟩, by omega, by omega⟩⟩
  show Ending.returned (Value.int IntKind.i64 (1048576 - (p.size : Int) - (r.size : Int))) = _
  congr 2
  omega

set_option maxHeartbeats 1000000 in
set_option maxRecDepth 100000 in
theorem toHead1 (h : HeadV) (w : World) :
    Calls Tryz.prog 13 #[headVal h] w fun e w' => e = .returned (headVal h) ∧ Below w.heap.size w w' := by
  unfold headVal
  go_enter Tryz.func13, Tryz.ntmps13
  go_wp2
  exact bodyPost_ret (results_cell_row (p := 2) rfl _ _ (w.heap.size + 1) 29 #[.string h.prev, .string h.root, .int .i64 h.time, .int .i64 h.diff, .int .i64 h.nonce] (0, 0) _ rfl (alloc3_midH _ _ _ _) Tryz.underlying29 rfl (by kernel_rfl)) rfl ⟨rfl, (((Below.refl _ w).alloc (Nat.le_refl _) _).alloc (by simp) _).alloc (by simp; omega) _⟩

end Go.Proofs.YtgnnfljobgbpbabGreatDoor

set_option linter.unusedVariables false
namespace Go.Proofs.YtgnnfljobgbpbabGreatDoor
open Go.RowKit

section flat
variable {α : Type}
theorem flat_at [Inhabited α] (k : Nat) (enc : α → List Value) (hk : ∀ a, (enc a).length = k) : ∀ (l : List α) (i j : Nat), i < l.length → j < k → (l.flatMap enc)[i * k + j]? = (enc (l.getD i default))[j]?
  | [], i, j, hi, _ => by cases hi
  | x :: r, 0, j, _, hj => by
    rw [List.flatMap_cons, Nat.zero_mul, Nat.zero_add, List.getElem?_append_left (by rw [hk]; exact hj)]
    rfl
  | x :: r, i + 1, j, hi, hj => by
    have e : (i + 1) * k + j = k + (i * k + j) := by rw [Nat.add_mul]; omega
    rw [List.flatMap_cons, List.getElem?_append_right (by rw [hk, e]; omega), hk, e, Nat.add_sub_cancel_left, flat_at k enc hk r i j (by simpa using hi) hj]
    rfl
theorem flat_length (k : Nat) (enc : α → List Value) (hk : ∀ a, (enc a).length = k) (l : List α) : (l.flatMap enc).length = l.length * k := by
  induction l with
  | nil => simp
  | cons x r ih => rw [List.flatMap_cons, List.length_append, hk, ih, List.length_cons, Nat.add_mul]; omega
/-- The cells of one element put one by one. -/
def putAt : List Value → Nat → List Value → List Value
  | cs, _, [] => cs
  | cs, p, v :: vs => putAt (cs.set p v) (p + 1) vs
theorem putAt_right (a : List Value) : ∀ (vs b : List Value) (p : Nat), a.length ≤ p → putAt (a ++ b) p vs = a ++ putAt b (p - a.length) vs
  | [], b, p, _ => rfl
  | v :: vs, b, p, hp => by
    rw [putAt, putAt, List.set_append_right _ _ hp, putAt_right a vs _ (p + 1) (by omega), show p + 1 - a.length = p - a.length + 1 from by omega]
theorem putAt_zero : ∀ (vs a b : List Value) (pre : List Value), a.length = vs.length → putAt (pre ++ (a ++ b)) pre.length vs = pre ++ (vs ++ b)
  | [], a, b, pre, h => by
    rw [List.length_eq_zero_iff.1 h]
    rfl
  | v :: vs, [], b, pre, h => by cases h
  | v :: vs, x :: a, b, pre, h => by
    rw [putAt, List.set_append_right _ _ (Nat.le_refl _), Nat.sub_self]
    have := putAt_zero vs a b (pre ++ [v]) (by simpa using h)
    simp only [List.append_assoc, List.cons_append, List.nil_append, List.length_append, List.length_cons, List.length_nil] at this
    exact this
theorem flat_put (k : Nat) (enc : α → List Value) (hk : ∀ a, (enc a).length = k) : ∀ (l : List α) (i : Nat) (a : α), i < l.length → putAt (l.flatMap enc) (i * k) (enc a) = (l.set i a).flatMap enc
  | [], i, a, hi => by cases hi
  | x :: r, 0, a, _ => by
    have := putAt_zero (enc a) (enc x) (r.flatMap enc) [] (by rw [hk, hk])
    simpa using this
  | x :: r, i + 1, a, hi => by
    have e : (i + 1) * k = k + i * k := by rw [Nat.add_mul]; omega
    rw [List.flatMap_cons, putAt_right _ _ _ _ (by rw [hk, e]; omega), hk, e, Nat.add_sub_cancel_left, flat_put k enc hk r i a (by simpa using hi)]
    rfl
/-- The row at a block. -/
def RowF (enc : α → List Value) (T : TypeId) (w : World) (g : Nat) (l : List α) : Prop := w.heap[g]? = some (.cells (l.flatMap enc).toArray T (0, 0))
theorem RowF.lt {enc : α → List Value} {T : TypeId} {w : World} {g : Nat} {l : List α} (h : RowF enc T w g l) : g < w.heap.size := by
  rcases Nat.lt_or_ge g w.heap.size with h' | h'
  · exact h'
  · simp [RowF, Array.getElem?_eq_none h'] at h
theorem RowF.below {enc : α → List Value} {T : TypeId} {w w' : World} {g B : Nat} {l : List α} (h : RowF enc T w g l) (hb : Below B w w') (hg : g < B) : RowF enc T w' g l := by
  unfold RowF at h ⊢; rw [hb.block g hg]; exact h
theorem RowF.drew {enc : α → List Value} {T : TypeId} {w : World} {g : Nat} {l : List α} (h : RowF enc T w g l) : RowF enc T w.drew g l := h
theorem RowF.frozen {enc : α → List Value} {T : TypeId} {w : World} {g : Nat} {l : List α} (h : RowF enc T w g l) (i : Nat) : w.frozen? ⟨g, i, none⟩ = false := Lib.frozen_of_heap h i
theorem RowF.cell [Inhabited α] {enc : α → List Value} {T : TypeId} {w : World} {g : Nat} {l : List α} (k : Nat) (hk : ∀ a, (enc a).length = k) (h : RowF enc T w g l) (i j : Nat) (hi : i < l.length) (hj : j < k) : w.cell? ⟨g, i * k + j, none⟩ = (enc (l.getD i default))[j]? := by
  rw [Lib.cell_of_heap h, ← flat_at k enc hk l i j hi hj]
  simp
theorem rowSet {T : TypeId} {w : World} {g p : Nat} {cs : List Value} (h : w.heap[g]? = some (.cells cs.toArray T (0, 0))) (v : Value) : (w.setCell ⟨g, p, none⟩ v).heap[g]? = some (.cells (cs.set p v).toArray T (0, 0)) := by
  simp only [World.setCell, Array.getElem?_modify, h]
  simp
/-- What lies there, element by element. -/
def AtF [Inhabited α] (enc : α → List Value) (k : Nat) (w : World) (g : Nat) (l : List α) : Prop := g < w.heap.size ∧ ∀ i j, i < l.length → j < k → w.cell? ⟨g, i * k + j, none⟩ = (enc (l.getD i default))[j]?
theorem RowF.at [Inhabited α] {enc : α → List Value} {T : TypeId} {w : World} {g : Nat} {l : List α} (k : Nat) (hk : ∀ a, (enc a).length = k) (h : RowF enc T w g l) : AtF enc k w g l := ⟨h.lt, fun i j hi hj => h.cell k hk i j hi hj⟩
theorem AtF.below [Inhabited α] {enc : α → List Value} {k : Nat} {w w' : World} {g B : Nat} {l : List α} (h : AtF enc k w g l) (hb : Below B w w') (hg : g < B) : AtF enc k w' g l :=
  ⟨Nat.lt_of_lt_of_le h.1 hb.size, fun i j hi hj => by rw [hb.cell (p := ⟨g, i * k + j, none⟩) hg]; exact h.2 i j hi hj⟩
theorem AtF.drew [Inhabited α] {enc : α → List Value} {k : Nat} {w : World} {g : Nat} {l : List α} (h : AtF enc k w g l) : AtF enc k w.drew g l := h
theorem set_nextF [Inhabited α] (z : α) (f : List α) (n k : Nat) (hk : k < f.length) (hn : k < n) : (f.take k ++ List.replicate (n - k) z).set k (f.getD k default) = f.take (k + 1) ++ List.replicate (n - (k + 1)) z := by
  have hl : (f.take k).length = k := by simp; omega
  rw [List.set_append_right _ _ (by omega), hl, Nat.sub_self, show n - k = (n - (k + 1)) + 1 from by omega, List.replicate_succ, List.set_cons_zero]
  have e1 : f.take (k + 1) = f.take k ++ [f[k]] := by rw [List.take_add_one, List.getElem?_eq_getElem hk]; rfl
  have e2 : f.getD k default = f[k] := by rw [List.getD_eq_getElem?_getD, List.getElem?_eq_getElem hk]; rfl
  rw [e1, e2, List.append_assoc]
  rfl
/-- What 'make' leaves. -/
theorem made_flat [Inhabited α] (k : Nat) (enc : α → List Value) (hk : ∀ a, (enc a).length = k) (hk0 : 0 < k) (a : α) (n : Nat) : madeCells (enc a).toArray (n * k) = ((List.replicate n a).flatMap enc).toArray := by
  apply Array.ext
  · rw [size_madeCells]
    simp [flat_length k enc hk]
  · intro i h1 h2
    rw [size_madeCells] at h1
    have hq : i / k < n := Nat.div_lt_of_lt_mul (by rw [Nat.mul_comm]; exact h1)
    have hr : i % k < k := Nat.mod_lt _ hk0
    have e : i / k * k + i % k = i := by rw [Nat.mul_comm]; exact Nat.div_add_mod i k
    have hf := flat_at k enc hk (List.replicate n a) (i / k) (i % k) (by simpa using hq) hr
    rw [e] at hf
    have hd : (List.replicate n a).getD (i / k) default = a := by simp [List.getD_eq_getElem?_getD, hq]
    rw [hd, List.getElem?_eq_getElem (show i < ((List.replicate n a).flatMap enc).length by simpa using h2), List.getElem?_eq_getElem (show i % k < (enc a).length by rw [hk]; exact hr)] at hf
    have hf2 := Option.some.inj hf
    simp only [List.getElem_toArray]
    rw [hf2]
    simp [madeCells, hk, hr]
end flat

end Go.Proofs.YtgnnfljobgbpbabGreatDoor

set_option linter.unusedVariables false
namespace Go.Proofs.YtgnnfljobgbpbabGreatDoor
open Go.RowKit Go.Deep

section
variable {α : Type} [Inhabited α]
/-- A slice of elements of k cells each. -/
def IsFlat (en : α → List Value) (wf : α → Prop) (k : Nat) (w : World) (a : Option Addr) (len cap : Nat) (l : List α) : Prop :=
  (a = none ∧ len = 0 ∧ cap = 0 ∧ l = []) ∨ ∃ x : Addr, a = some x ∧ len ≤ cap ∧ cap ≤ maxLen ∧ l.length = len ∧ (∀ i j, i < len → j < k → w.cell? ((x.add (i * k)).add j) = (en (l.getD i default))[j]?) ∧ ∀ i, i < len → wf (l.getD i default)
theorem IsFlat.len {en : α → List Value} {wf : α → Prop} {k : Nat} {w : World} {a : Option Addr} {len cap : Nat} {l : List α} (h : IsFlat en wf k w a len cap l) : l.length = len := by
  rcases h with ⟨_, h1, _, h2⟩ | ⟨x, _, _, _, h1, _⟩
  · rw [h1, h2]; rfl
  · exact h1
theorem IsFlat.max {en : α → List Value} {wf : α → Prop} {k : Nat} {w : World} {a : Option Addr} {len cap : Nat} {l : List α} (h : IsFlat en wf k w a len cap l) : len ≤ maxLen := by
  rcases h with ⟨_, h1, _, h2⟩ | ⟨x, _, h1, h2, _⟩
  · omega
  · omega
theorem cell_lt {w : World} {x : Addr} {v : Value} (h : w.cell? x = some v) : x.block < w.heap.size := by
  rcases Nat.lt_or_ge x.block w.heap.size with h' | h'
  · exact h'
  · exfalso
    unfold World.cell? at h
    simp [Array.getElem?_eq_none h'] at h
theorem add_block (x : Addr) (n : Nat) : (x.add n).block = x.block := by unfold Addr.add; split <;> rfl
theorem IsFlat.at {en : α → List Value} {wf : α → Prop} {k : Nat} (hk : ∀ a, (en a).length = k) {w w' : World} {a : Option Addr} {len cap : Nat} {l : List α} (h : IsFlat en wf k w a len cap l) (hb : Below w.heap.size w w') (i : Nat) (hi : i < len) :
    ∃ x : Addr, a = some x ∧ (∀ j, j < k → w'.cell? ((x.add (i * k)).add j) = (en (l.getD i default))[j]?) ∧ wf (l.getD i default) := by
  rcases h with ⟨_, h1, _, _⟩ | ⟨x, hx, _, _, _, h2, h3⟩
  · omega
  · refine ⟨x, hx, fun j hj => ?_, h3 i hi⟩
    have := h2 i j hi hj
    rw [← this]
    have hs : ∃ v, w.cell? ((x.add (i * k)).add j) = some v := by
      rw [this]
      exact ⟨_, List.getElem?_eq_getElem (by rw [hk]; exact hj)⟩
    obtain ⟨v, hv⟩ := hs
    exact hb.cell (cell_lt hv)
theorem open_flat {P : Program} {H : Type} {enc : TypeId × Value → H} {W : World} {base : Nat} {sp : Nat → Bool} {held : Bool} {t e : TypeId} {k : Nat} {a : Option Addr} {len cap : Nat} {d : DataW H} {p : List MemPlace}
    (en : α → List Value) (wf : α → Prop) (ht : P.underlying t = some (.slice e)) (hk : P.cellsOf e = k)
    (inv : ∀ n cs y, DataW.trod enc P W base sp held n e cs = some y → cs.length = k → ∃ v : α, cs = en v ∧ wf v)
    (h : DataW.Trod enc P W base sp held t (.slice a len cap) d p) : ∃ l : List α, IsFlat en wf k W a len cap l := by
  obtain ⟨fuel, hf⟩ := h
  rcases open_slice ht hf with ⟨hcs, _⟩ | ⟨x, l, c, m, n, D, Pl, hcs, _, hl, hm, hmm, _, hel⟩
  · simp [Value.cells] at hcs
    obtain ⟨rfl, rfl, rfl⟩ := hcs
    exact ⟨[], .inl ⟨rfl, rfl, rfl, rfl⟩⟩
  · simp [Value.cells] at hcs
    obtain ⟨rfl, rfl, rfl⟩ := hcs
    have hlm : len ≤ m := by rw [hmm]; split <;> omega
    have each : ∀ i : Nat, ∃ v : α, i < len → (∀ j, j < k → W.cell? ((x.add (i * k)).add j) = (en v)[j]?) ∧ wf v := by
      intro i
      by_cases hi : i < len
      · obtain ⟨cs', h1, h2⟩ := hel i (by omega)
        rw [hk] at h1
        obtain ⟨_, h3, h4⟩ := World.cells?_some h1
        obtain ⟨v, rfl, hv⟩ := inv _ _ _ h2 h3
        exact ⟨v, fun _ => ⟨h4, hv⟩⟩
      · exact ⟨default, fun h => absurd h hi⟩
    obtain ⟨f, hf⟩ := Classical.axiomOfChoice each
    have hg : ∀ i, i < len → ((List.range len).map f).getD i default = f i := by
      intro i hi
      simp [List.getD_eq_getElem?_getD, hi]
    refine ⟨(List.range len).map f, .inr ⟨x, rfl, hl, hm, by simp, fun i j hi hj => ?_, fun i hi => ?_⟩⟩
    · rw [hg i hi]
      exact (hf i hi).1 j hj
    · rw [hg i hi]
      exact (hf i hi).2
end

end Go.Proofs.YtgnnfljobgbpbabGreatDoor

set_option linter.unusedVariables false
namespace Go.Proofs.YtgnnfljobgbpbabGreatDoor
open Go.ChangeShapes Go.WideShapes Go.ChangeAt Go.RowKit Go.Deep

def enHead (p : HeadV) : List Value := [.string p.prev, .string p.root, .int .i64 p.time, .int .i64 p.diff, .int .i64 p.nonce]
theorem enHead_len (p : HeadV) : (enHead p).length = 5 := rfl
/-- Its texts can be held. -/
def wfHead (p : HeadV) : Prop := p.prev.size ≤ maxLen ∧ p.root.size ≤ maxLen
/-- Its texts are small. -/
def smallHead (p : HeadV) : Prop := p.prev.size ≤ 1048576 ∧ p.root.size ≤ 1048576
abbrev IsHeads (w : World) (a : Option Addr) (len cap : Nat) (l : List HeadV) : Prop := IsFlat enHead wfHead 5 w a len cap l
abbrev RowHead (w : World) (g : Nat) (l : List HeadV) : Prop := RowF enHead 29 w g l
abbrev AtHead (w : World) (g : Nat) (l : List HeadV) : Prop := AtF enHead 5 w g l
theorem AtHead.c0 {w : World} {g : Nat} {l : List HeadV} (h : AtHead w g l) (i : Nat) (hi : i < l.length) : w.cell? ⟨g, i * 5, none⟩ = some (.string (l.getD i default).prev) := h.2 i 0 hi (by decide)
theorem AtHead.c1 {w : World} {g : Nat} {l : List HeadV} (h : AtHead w g l) (i : Nat) (hi : i < l.length) : w.cell? ⟨g, i * 5 + 1, none⟩ = some (.string (l.getD i default).root) := h.2 i 1 hi (by decide)
theorem AtHead.c2 {w : World} {g : Nat} {l : List HeadV} (h : AtHead w g l) (i : Nat) (hi : i < l.length) : w.cell? ⟨g, i * 5 + 2, none⟩ = some (.int .i64 (l.getD i default).time) := h.2 i 2 hi (by decide)
theorem AtHead.c3 {w : World} {g : Nat} {l : List HeadV} (h : AtHead w g l) (i : Nat) (hi : i < l.length) : w.cell? ⟨g, i * 5 + 3, none⟩ = some (.int .i64 (l.getD i default).diff) := h.2 i 3 hi (by decide)
theorem AtHead.c4 {w : World} {g : Nat} {l : List HeadV} (h : AtHead w g l) (i : Nat) (hi : i < l.length) : w.cell? ⟨g, i * 5 + 4, none⟩ = some (.int .i64 (l.getD i default).nonce) := h.2 i 4 hi (by decide)
theorem cellsHead {w : World} {x : Addr} {p : HeadV} (h : ∀ j, j < 5 → w.cell? (x.add j) = (enHead p)[j]?) : w.cell? x = some (.string p.prev) ∧ w.cell? ⟨x.block, x.off + 1, none⟩ = some (.string p.root) ∧ w.cell? ⟨x.block, x.off + 2, none⟩ = some (.int .i64 p.time) ∧ w.cell? ⟨x.block, x.off + 3, none⟩ = some (.int .i64 p.diff) ∧ w.cell? ⟨x.block, x.off + 4, none⟩ = some (.int .i64 p.nonce) := by
  exact ⟨h 0 (by decide), h 1 (by decide), h 2 (by decide), h 3 (by decide), h 4 (by decide)⟩
theorem partsHead {cs : List Value} {a0 a1 a2 a3 a4 : Value} (hl : cs.length = 5) (h0 : (cs.drop 0).take 1 = [a0]) (h1 : (cs.drop 1).take 1 = [a1]) (h2 : (cs.drop 2).take 1 = [a2]) (h3 : (cs.drop 3).take 1 = [a3]) (h4 : (cs.drop 4).take 1 = [a4]) : cs = [a0, a1, a2, a3, a4] := by
  match cs, hl with
  | [x0, x1, x2, x3, x4], _ =>
    simp at h0 h1 h2 h3 h4
    subst h0 h1 h2 h3 h4
    rfl
theorem oneHead_i : Tryz.prog.cellsOf 3 = 1 := by kernel_rfl
theorem oneHead_s : Tryz.prog.cellsOf 9 = 1 := by kernel_rfl
theorem sizeHead : Tryz.prog.cellsOf 23 = 5 := by kernel_rfl
set_option maxRecDepth 100000 in
theorem invHead {H : Type} {enc : TypeId × Value → H} {W : World} {base : Nat} {sp : Nat → Bool} {held : Bool} (n : Nat) (cs : List Value) (y : DataW H × List MemPlace) (h : DataW.trod enc Tryz.prog W base sp held n 23 cs = some y) (hl : cs.length = 5) : ∃ v : HeadV, cs = enHead v ∧ wfHead v := by
  obtain ⟨xs, n, _, _, _, hlen, hx⟩ := DataW.trod_struct Tryz.underlying23 h
  match xs, hlen with
  | [y0, y1, y2, y3, y4], _ =>
    have g0 := hx 0 _ rfl
    have g1 := hx 1 _ rfl
    have g2 := hx 2 _ rfl
    have g3 := hx 3 _ rfl
    have g4 := hx 4 _ rfl
    obtain ⟨s0, e0, _, z0⟩ := DataW.trod_string Tryz.underlying9 g0
    replace e0 : (cs.drop 0).take (Tryz.prog.cellsOf 9) = [_] := e0
    rw [oneHead_s] at e0
    obtain ⟨s1, e1, _, z1⟩ := DataW.trod_string Tryz.underlying9 g1
    replace e1 : (cs.drop 1).take (Tryz.prog.cellsOf 9) = [_] := e1
    rw [oneHead_s] at e1
    obtain ⟨s2, e2, _, z2⟩ := DataW.trod_int Tryz.underlying3 g2
    replace e2 : (cs.drop 2).take (Tryz.prog.cellsOf 3) = [_] := e2
    rw [oneHead_i] at e2
    obtain ⟨s3, e3, _, z3⟩ := DataW.trod_int Tryz.underlying3 g3
    replace e3 : (cs.drop 3).take (Tryz.prog.cellsOf 3) = [_] := e3
    rw [oneHead_i] at e3
    obtain ⟨s4, e4, _, z4⟩ := DataW.trod_int Tryz.underlying3 g4
    replace e4 : (cs.drop 4).take (Tryz.prog.cellsOf 3) = [_] := e4
    rw [oneHead_i] at e4
    exact ⟨⟨s0, s1, s2, s3, s4⟩, partsHead hl e0 e1 e2 e3 e4, z0, z1⟩
set_option maxHeartbeats 1000000 in
set_option maxRecDepth 100000 in
theorem szHead1 (p : HeadV) (r : Nat) (w : World) (hr : r ≤ 1048576) (hs : wfHead p) :
    Calls Tryz.prog 9 #[.agg #[.string p.prev, .string p.root, .int .i64 p.time, .int .i64 p.diff, .int .i64 p.nonce], .int .i64 (r : Int)] w fun e w' => Below w.heap.size w w' ∧ (e = .returned (.int .i64 (-1)) ∨ ∃ q : Nat, e = .returned (.int .i64 (q : Int)) ∧ q ≤ r ∧ smallHead p) := by
  unfold wfHead maxLen at hs
  have hb : ∀ o, Below w.heap.size w (w.alloc o) := fun o => (Below.refl _ w).alloc (Nat.le_refl _) o
  have hw_prev : IntKind.i64.wrap ((r : Int) - (p.prev.size : Int)) = (r : Int) - (p.prev.size : Int) := by rw [IntKind.wrap_i64]; omega
  by_cases hl_prev : (r : Int) - (p.prev.size : Int) < 0
  · go_enter Tryz.func9, Tryz.ntmps9
    go_wp2
    go_ret
    exact ⟨hb _, .inl rfl⟩
  have hw_root : IntKind.i64.wrap ((r : Int) - (p.prev.size : Int) - (p.root.size : Int)) = (r : Int) - (p.prev.size : Int) - (p.root.size : Int) := by rw [IntKind.wrap_i64]; omega
  by_cases hl_root : (r : Int) - (p.prev.size : Int) - (p.root.size : Int) < 0
  · go_enter Tryz.func9, Tryz.ntmps9
    go_wp2
    go_ret
    exact ⟨hb _, .inl rfl⟩
  have HS : Hid (smallHead p) := by show smallHead p; unfold smallHead; omega
  go_enter Tryz.func9, Tryz.ntmps9
  go_wp2
  go_ret
  refine ⟨hb _, .inr ⟨r - p.prev.size - p.root.size, ?_, by omega, HS.out⟩⟩
  show Ending.returned (Value.int IntKind.i64 ((r : Int) - (p.prev.size : Int) - (p.root.size : Int))) = _
  congr 2
  omega
set_option maxHeartbeats 1000000 in
set_option maxRecDepth 100000 in
theorem toHeadA (p : HeadV) (w : World) :
    Calls Tryz.prog 13 #[.agg #[.string p.prev, .string p.root, .int .i64 p.time, .int .i64 p.diff, .int .i64 p.nonce]] w fun e w' => e = .returned (.agg #[.string p.prev, .string p.root, .int .i64 p.time, .int .i64 p.diff, .int .i64 p.nonce]) ∧ Below w.heap.size w w' := by
  go_enter Tryz.func13, Tryz.ntmps13
  go_wp2
  exact bodyPost_ret (results_cell_row (p := 2) rfl _ _ (w.heap.size + 1) 29 #[.string p.prev, .string p.root, .int .i64 p.time, .int .i64 p.diff, .int .i64 p.nonce] (0, 0) _ rfl (alloc3_midH _ _ _ _) Tryz.underlying29 rfl (by kernel_rfl)) rfl ⟨rfl, (((Below.refl _ w).alloc (Nat.le_refl _) _).alloc (by simp) _).alloc (by simp; omega) _⟩
set_option maxHeartbeats 1000000 in
set_option maxRecDepth 100000 in
theorem eqHeadA (p : HeadV) (w : World) :
    Calls Tryz.prog 18 #[.agg #[.string p.prev, .string p.root, .int .i64 p.time, .int .i64 p.diff, .int .i64 p.nonce], .agg #[.string p.prev, .string p.root, .int .i64 p.time, .int .i64 p.diff, .int .i64 p.nonce]] w fun e w' => e = .returned (.bool true) ∧ Below w.heap.size w w' := by
  go_enter Tryz.func18, Tryz.ntmps18
  go_wp2
  go_ret
  exact ⟨rfl, ((Below.refl _ w).alloc (Nat.le_refl _) _).alloc (by simp) _⟩

theorem infoHead : (Tryz.prog.info? 29).map (fun i => (i.zero, i.size, i.bytes)) = some (some (.agg #[.string ⟨#[]⟩, .string ⟨#[]⟩, .int .i64 0, .int .i64 0, .int .i64 0]), 5, 56) := by kernel_rfl
def zeroHead : HeadV := ⟨⟨#[]⟩, ⟨#[]⟩, 0, 0, 0⟩
theorem RowHead.put {w : World} {g : Nat} {l : List HeadV} (h : RowHead w g l) (i : Nat) (hi : i < l.length) (p : HeadV) :
    RowHead (((((w.setCell ⟨g, i * 5, none⟩ (.string p.prev)).setCell ⟨g, i * 5 + 1, none⟩ (.string p.root)).setCell ⟨g, i * 5 + 2, none⟩ (.int .i64 p.time)).setCell ⟨g, i * 5 + 3, none⟩ (.int .i64 p.diff)).setCell ⟨g, i * 5 + 4, none⟩ (.int .i64 p.nonce)) g (l.set i p) := by
  show _ = _
  rw [← flat_put 5 enHead enHead_len l i p hi]
  exact (rowSet (rowSet (rowSet (rowSet (rowSet h _) _) _) _) _)

end Go.Proofs.YtgnnfljobgbpbabGreatDoor

set_option linter.unusedVariables false
namespace Go.Proofs.YtgnnfljobgbpbabGreatDoor
open Go.RowKit

set_option maxHeartbeats 1000000 in
set_option maxRecDepth 100000 in
theorem toStrs (a : Option Addr) (len cap : Nat) (zs : List ByteArray) (w w0 : World) (h0 : IsTexts w0 a len cap zs) (hw : Below w0.heap.size w0 w) (hn : len ≤ 1048576) :
    Calls Tryz.prog 14 #[.slice a len cap] w fun e w' => e = .returned (.slice (some ⟨w.heap.size, 0, none⟩) len len) ∧ RowS w' w.heap.size (zs.take len) ∧ Below w.heap.size w w' := by
  have hmk := makeS len (by omega)
  have HF : Hid (∀ k, k < len → ∀ w', Below w.heap.size w w' → ∃ x : Addr, a = some x ∧ w'.cell? (x.add k) = some (.string ((zs.take len).getD k ByteArray.empty))) := by
    intro k hk w' hb'
    rcases h0 with ⟨_, hl, _⟩ | ⟨x, hx, hlc, _, hzl, hcell, _⟩
    · omega
    · refine ⟨x, hx, ?_⟩
      have hc := hcell k (by omega)
      have hlt : (x.add k).block < w0.heap.size := World.block_lt_of_cell? w0 _ hc
      rw [hb'.cell (Nat.lt_of_lt_of_le hlt hw.size), hw.cell hlt, hc]
      simp [hk]
  have HLn : Hid ((zs.take len).length = len) := h0.len.symm
  generalize zs.take len = f at HF HLn
  clear h0 hw
  go_enter Tryz.func14, Tryz.ntmps14
  go_wp2
  clear hmk
  go_loopw [4] (fun i wr => ∃ k : Nat, k ≤ len ∧ i = .int .i64 (k : Int) ∧ Hid (RowS wr w.heap.size (f.take k ++ List.replicate (len - k) (⟨#[]⟩ : ByteArray))) ∧ Hid (Below w.heap.size w wr)) (fun i _ => len - (intOf i).toNat)
  case atStart => exact ⟨0, by omega, rfl, heap_alloc_new w _, (Below.refl _ w).alloc (Nat.le_refl _) _⟩
  case round =>
    obtain ⟨k, hk, rfl, HR, HB⟩ := hrel
    by_cases hlt : k < len
    · obtain ⟨x, rfl, hc⟩ := HF.out k hlt wr HB.out
      have HK : Hid (k + 1 ≤ len) := hlt
      have hfz := HR.out.frozen k
      have hck := HR.out.cell k (by simp [HLn.out]; omega)
      have HS : Hid ((f.take k ++ List.replicate (len - k) (⟨#[]⟩ : ByteArray)).set k (f.getD k ByteArray.empty) = f.take (k + 1) ++ List.replicate (len - (k + 1)) (⟨#[]⟩ : ByteArray)) := set_nextS f len k (by rw [HLn.out]; exact hlt) hlt
      generalize (f.take k ++ List.replicate (len - k) (⟨#[]⟩ : ByteArray)).getD k ByteArray.empty = old at hck
      generalize f.getD k ByteArray.empty = z at hc HS
      go_wp2_with fail
      go_roundw
      case rel =>
        refine ⟨k + 1, HK.out, by go_num, ?_, HB.out.setCell (p := ⟨w.heap.size, k, none⟩) (Nat.le_refl _) _⟩
        have := HR.out.set k z
        rw [HS.out] at this
        exact this
      case measure => have := HK.out; simp [intOf]; omega
    · have HE : Hid (f.take k ++ List.replicate (len - k) (⟨#[]⟩ : ByteArray) = f) := by
        show _ = _
        rw [List.take_of_length_le (by rw [HLn.out]; omega), show len - k = 0 from by omega]
        simp
      go_wp2_with fail
      go_ret
      refine ⟨rfl, ?_, HB.out⟩
      rw [← HE.out]
      exact HR.out

set_option maxHeartbeats 1000000 in
set_option maxRecDepth 100000 in
theorem eqStrs (g1 g2 n c1 c2 : Nat) (zs : List ByteArray) (w : World) (h1 : AtS w g1 zs) (h2 : AtS w g2 zs) (hn : n = zs.length) (hm : n ≤ 1073741824) :
    Calls Tryz.prog 19 #[.slice (some ⟨g1, 0, none⟩) n c1, .slice (some ⟨g2, 0, none⟩) n c2] w fun e w' => e = .returned (.bool true) ∧ Below w.heap.size w w' := by
  have HA : Hid (AtS w g1 zs ∧ AtS w g2 zs ∧ Below w.heap.size w w) := ⟨h1, h2, Below.refl _ w⟩
  have HN : Hid (n = zs.length) := hn
  clear h1 h2 hn
  go_enter Tryz.func19, Tryz.ntmps19
  go_wp2
  go_loopw [5] (fun i wr => ∃ k : Nat, k ≤ n ∧ i = .int .i64 (k : Int) ∧ Hid (AtS wr g1 zs ∧ AtS wr g2 zs ∧ Below w.heap.size w wr)) (fun i _ => n - (intOf i).toNat)
  case atStart => exact ⟨0, by omega, rfl, HA⟩
  case round =>
    clear HA
    obtain ⟨k, hk, rfl, HA⟩ := hrel
    by_cases hlt : k < n
    · have hkz : k < zs.length := by rw [← HN.out]; exact hlt
      have d1 := HA.out.1.2 k hkz
      have d2 := HA.out.2.1.2 k hkz
      have HK : Hid (k + 1 ≤ n) := hlt
      generalize zs.getD k ByteArray.empty = z at d1 d2
      have lk : (k : Int) < (n : Int) := by omega
      clear hkz
      go_wp2_with fail
      go_region
      go_wp2_with fail
      go_roundw
      case rel => exact ⟨k + 1, HK.out, by go_num, HA.out.1.drew, HA.out.2.1.drew, HA.out.2.2.drew⟩
      case measure => have := HK.out; simp [intOf]; omega
    · go_wp2_with fail
      go_ret
      exact ⟨rfl, HA.out.2.2⟩

def SzOk (zs : List ByteArray) (len : Nat) (e : Ending) : Prop := e = .returned (.int .i64 (-1)) ∨ ∃ r : Nat, e = .returned (.int .i64 (r : Int)) ∧ len ≤ 1048576 ∧ ∀ i, i < len → (zs.getD i ByteArray.empty).size ≤ 1048576
set_option maxHeartbeats 1000000 in
set_option maxRecDepth 100000 in
theorem szStrs (a : Option Addr) (len cap : Nat) (zs : List ByteArray) (w : World) (h0 : IsTexts w a len cap zs) :
    Calls Tryz.prog 10 #[.slice a len cap, .int .i64 1048576] w fun e w' => w = w' ∧ SzOk zs len e := by
  by_cases hl : (1048576 : Int) < (len : Int)
  · have hneg : (1048576 : Int) - (len : Int) < 0 := by omega
    have hlm : len ≤ 140737488355328 ∨ True := .inr trivial
    have hcap : len ≤ maxLen := by
      rcases h0 with ⟨_, hl0, _⟩ | ⟨x, _, hlc, hm, _⟩
      · omega
      · omega
    unfold maxLen at hcap
    clear h0 hlm
    go_enter Tryz.func10, Tryz.ntmps10
    go_wp2
    go_ret
    exact ⟨rfl, .inl rfl⟩
  · have hn : len ≤ 1048576 := by omega
    have HF : Hid (∀ k, k < len → ∃ x : Addr, a = some x ∧ w.cell? (x.add k) = some (.string (zs.getD k ByteArray.empty)) ∧ (zs.getD k ByteArray.empty).size ≤ maxLen) := by
      intro k hk
      rcases h0 with ⟨_, hl, _⟩ | ⟨x, hx, hlc, _, hzl, hcell, hsz⟩
      · omega
      · refine ⟨x, hx, hcell k (by omega), hsz _ ?_⟩
        have : k < zs.length := by omega
        simp [List.getElem?_eq_getElem this]
    have hneg : ¬ (1048576 : Int) - (len : Int) < 0 := by omega
    clear h0
    go_enter Tryz.func10, Tryz.ntmps10
    go_wp2
    go_loop [1, 5] (fun l i => ∃ k r : Nat, k ≤ len ∧ r ≤ 1048576 ∧ l = .int .i64 (r : Int) ∧ i = .int .i64 (k : Int) ∧ Hid (∀ j, j < k → (zs.getD j ByteArray.empty).size ≤ 1048576)) (fun _ i => len - (intOf i).toNat)
    case atStart => exact ⟨0, 1048576 - len, by omega, by omega, by go_num, rfl, fun j hj => by omega⟩
    case round =>
      obtain ⟨k, r, hk, hr, rfl, rfl, HA⟩ := hrel
      by_cases hlt : k < len
      · obtain ⟨x, rfl, hc, hz⟩ := HF.out k hlt
        have HK : Hid (k + 1 ≤ len) := hlt
        have HZ : Hid (∀ z : ByteArray, z = zs.getD k ByteArray.empty → z.size ≤ 1048576 → ∀ j, j < k + 1 → (zs.getD j ByteArray.empty).size ≤ 1048576) := by
          intro z hz1 hz2 j hj
          rcases Nat.lt_or_ge j k with h' | h'
          · exact HA.out j h'
          · obtain rfl : j = k := by omega
            rw [← hz1]; exact hz2
        obtain ⟨z, hze⟩ : ∃ z, z = zs.getD k ByteArray.empty := ⟨_, rfl⟩
        rw [← hze] at hc hz
        have HE : Hid (z = zs.getD k ByteArray.empty) := hze
        unfold maxLen at hz
        clear hze
        have lk : (k : Int) < (len : Int) := by omega
        by_cases hneg2 : (r : Int) - (z.size : Int) < 0
        · go_wp2_with fail
          go_ret
          exact ⟨rfl, .inl rfl⟩
        · have HS : Hid (z.size ≤ r) := by show _ ≤ _; omega
          go_wp2_with fail
          go_round
          case rel => exact ⟨k + 1, r - z.size, HK.out, by omega, by have := HS.out; show Value.int .i64 _ = Value.int .i64 _; congr 1; omega, by go_num, HZ.out z HE.out (by have := HS.out; omega)⟩
          case measure => have := HK.out; simp [intOf]; omega
      · go_wp2_with fail
        go_ret
        exact ⟨rfl, .inr ⟨r, rfl, hn, fun i hi => HA.out i (by omega)⟩⟩

end Go.Proofs.YtgnnfljobgbpbabGreatDoor

set_option linter.unusedVariables false
namespace Go.Proofs.YtgnnfljobgbpbabGreatDoor
open Go.ChangeShapes Go.WideShapes Go.ChangeAt Go.RowKit Go.Deep

def blockVal (h : HeadV) (s : Value) : Value := .agg #[.string h.prev, .string h.root, .int .i64 h.time, .int .i64 h.diff, .int .i64 h.nonce, s]
theorem six_of_parts {cs : Array Value} {b : Value} {h : List Value} (hl : cs.toList.length = 6) (h0 : (cs.toList.drop 0).take 5 = h) (h1 : (cs.toList.drop 5).take 1 = [b]) : cs.toList = h ++ [b] := by
  rw [← h0, ← h1, List.drop_zero, List.take_of_length_le (l := cs.toList.drop 5) (by rw [List.length_drop, hl]; decide), List.take_append_drop]
theorem cellsLBlock : Tryz.prog.cellsOf 26 = 6 := by kernel_rfl
theorem cellsStrs : Tryz.prog.cellsOf 24 = 1 := by kernel_rfl
set_option maxRecDepth 100000 in
theorem open_block {H : Type} {enc : TypeId × Value → H} {W : World} {base b0 : Nat} {held : Bool} {v : Value} {d : DataW H} {p : List MemPlace} (hv : Value.okWide Tryz.prog W .any b0 26 v) (h : DataW.Trod enc Tryz.prog W base (fun _ => true) held 26 v d p) :
    ∃ (x : HeadV) (a : Option Addr) (len cap : Nat) (zs : List ByteArray), v = blockVal x (.slice a len cap) ∧ wfHead x ∧ IsTexts W a len cap zs := by
  obtain ⟨cs, rfl, hcs⟩ := okWide_struct Tryz.underlying26 hv
  obtain ⟨fuel, hf⟩ := h
  obtain ⟨xs, n, _, _, hl, hlen, hx⟩ := DataW.trod_struct Tryz.underlying26 hf
  match xs, hlen with
  | [y0, y1], _ =>
    have g0 := hx 0 _ rfl
    have g1 := hx 1 _ rfl
    replace hl : cs.toList.length = Tryz.prog.cellsOf 26 := hl
    rw [cellsLBlock] at hl
    replace g0 : DataW.trod enc Tryz.prog W base (fun _ => true) held n 23 ((cs.toList.drop 0).take (Tryz.prog.cellsOf 23)) = some y0 := g0
    replace g1 : DataW.trod enc Tryz.prog W base (fun _ => true) held n 24 ((cs.toList.drop 5).take (Tryz.prog.cellsOf 24)) = some y1 := g1
    rw [sizeHead] at g0
    rw [cellsStrs] at g1
    obtain ⟨x, hx0, hxw⟩ := invHead _ _ _ g0 (by rw [List.length_take, List.length_drop, hl]; decide)
    rcases open_strings Tryz.underlying24 Tryz.underlying9 (by kernel_rfl) g1 with ⟨hcs1, _⟩ | ⟨a, l, c, zs, hcs1, _, hl1, hm, hz, _, hcell, hwz⟩
    · refine ⟨x, none, 0, 0, [], ?_, hxw, .inl ⟨rfl, rfl, rfl, rfl⟩⟩
      have := six_of_parts hl hx0 hcs1
      rw [blockVal]
      congr 1
      exact Array.ext' this
    · refine ⟨x, some a, l, c, zs, ?_, hxw, .inr ⟨a, rfl, hl1, hm, by simpa using hz, hcell, hwz⟩⟩
      have := six_of_parts hl hx0 hcs1
      rw [blockVal]
      congr 1
      exact Array.ext' this

set_option maxHeartbeats 1000000 in
set_option maxRecDepth 100000 in
theorem szStrsR (r0 : Nat) (hr0 : r0 ≤ 1048576) (a : Option Addr) (len cap : Nat) (zs : List ByteArray) (w : World) (h0 : IsTexts w a len cap zs) :
    Calls Tryz.prog 10 #[.slice a len cap, .int .i64 (r0 : Int)] w fun e w' => w = w' ∧ SzOk zs len e := by
  by_cases hl : (r0 : Int) < (len : Int)
  · have hneg : (r0 : Int) - (len : Int) < 0 := by omega
    have hlm : len ≤ 140737488355328 ∨ True := .inr trivial
    have hcap : len ≤ maxLen := by
      rcases h0 with ⟨_, hl0, _⟩ | ⟨x, _, hlc, hm, _⟩
      · omega
      · omega
    unfold maxLen at hcap
    have hwr : IntKind.i64.wrap ((r0 : Int) - (len : Int)) = (r0 : Int) - (len : Int) := by rw [IntKind.wrap_i64]; omega
    clear h0 hlm
    go_enter Tryz.func10, Tryz.ntmps10
    go_wp2
    go_ret
    exact ⟨rfl, .inl rfl⟩
  · have hn : len ≤ 1048576 := by omega
    have HF : Hid (∀ k, k < len → ∃ x : Addr, a = some x ∧ w.cell? (x.add k) = some (.string (zs.getD k ByteArray.empty)) ∧ (zs.getD k ByteArray.empty).size ≤ maxLen) := by
      intro k hk
      rcases h0 with ⟨_, hl, _⟩ | ⟨x, hx, hlc, _, hzl, hcell, hsz⟩
      · omega
      · refine ⟨x, hx, hcell k (by omega), hsz _ ?_⟩
        have : k < zs.length := by omega
        simp [List.getElem?_eq_getElem this]
    have hwr : IntKind.i64.wrap ((r0 : Int) - (len : Int)) = (r0 : Int) - (len : Int) := by rw [IntKind.wrap_i64]; omega
    have hneg : ¬ (r0 : Int) - (len : Int) < 0 := by omega
    clear h0
    go_enter Tryz.func10, Tryz.ntmps10
    go_wp2
    go_loop [1, 5] (fun l i => ∃ k r : Nat, k ≤ len ∧ r ≤ 1048576 ∧ l = .int .i64 (r : Int) ∧ i = .int .i64 (k : Int) ∧ Hid (∀ j, j < k → (zs.getD j ByteArray.empty).size ≤ 1048576)) (fun _ i => len - (intOf i).toNat)
    case atStart => exact ⟨0, r0 - len, by omega, by omega, by show Value.int .i64 _ = Value.int .i64 _; congr 1; omega, rfl, fun j hj => by omega⟩
    case round =>
      obtain ⟨k, r, hk, hr, rfl, rfl, HA⟩ := hrel
      by_cases hlt : k < len
      · obtain ⟨x, rfl, hc, hz⟩ := HF.out k hlt
        have HK : Hid (k + 1 ≤ len) := hlt
        have HZ : Hid (∀ z : ByteArray, z = zs.getD k ByteArray.empty → z.size ≤ 1048576 → ∀ j, j < k + 1 → (zs.getD j ByteArray.empty).size ≤ 1048576) := by
          intro z hz1 hz2 j hj
          rcases Nat.lt_or_ge j k with h' | h'
          · exact HA.out j h'
          · obtain rfl : j = k := by omega
            rw [← hz1]; exact hz2
        obtain ⟨z, hze⟩ : ∃ z, z = zs.getD k ByteArray.empty := ⟨_, rfl⟩
        rw [← hze] at hc hz
        have HE : Hid (z = zs.getD k ByteArray.empty) := hze
        unfold maxLen at hz
        clear hze
        have lk : (k : Int) < (len : Int) := by omega
        by_cases hneg2 : (r : Int) - (z.size : Int) < 0
        · go_wp2_with fail
          go_ret
          exact ⟨rfl, .inl rfl⟩
        · have HS : Hid (z.size ≤ r) := by show _ ≤ _; omega
          go_wp2_with fail
          go_round
          case rel => exact ⟨k + 1, r - z.size, HK.out, by omega, by have := HS.out; show Value.int .i64 _ = Value.int .i64 _; congr 1; omega, by go_num, HZ.out z HE.out (by have := HS.out; omega)⟩
          case measure => have := HK.out; simp [intOf]; omega
      · go_wp2_with fail
        go_ret
        exact ⟨rfl, .inr ⟨r, rfl, hn, fun i hi => HA.out i (by omega)⟩⟩


/-- A block of memory, its cells written out. -/
def CBk (w : World) (g : Nat) (T : TypeId) (cs : Array Value) : Prop := w.heap[g]? = some (.cells cs T (0, 0))
theorem CBk.lt {w : World} {g : Nat} {T : TypeId} {cs : Array Value} (h : CBk w g T cs) : g < w.heap.size := by
  rcases Nat.lt_or_ge g w.heap.size with h' | h'
  · exact h'
  · simp [CBk, Array.getElem?_eq_none h'] at h
theorem CBk.below {w w' : World} {g B : Nat} {T : TypeId} {cs : Array Value} (h : CBk w g T cs) (hb : Below B w w') (hg : g < B) : CBk w' g T cs := by
  unfold CBk at h ⊢
  rw [hb.block g hg]
  exact h
theorem CBk.call {w w' : World} {g : Nat} {T : TypeId} {cs : Array Value} (h : CBk w g T cs) (hb : Below w.heap.size w w') : CBk w' g T cs := h.below hb h.lt
theorem CBk.alloc {w : World} {g : Nat} {T : TypeId} {cs : Array Value} (h : CBk w g T cs) (o : Obj) : CBk (w.alloc o) g T cs := h.call ((Below.refl _ w).alloc (Nat.le_refl _) o)
theorem CBk.new (w : World) (T : TypeId) (cs : Array Value) : CBk (w.alloc (.cells cs T)) w.heap.size T cs := heap_alloc_new w _
theorem CBk.cell {w : World} {g : Nat} {T : TypeId} {cs : Array Value} (h : CBk w g T cs) (i : Nat) : w.cell? ⟨g, i, none⟩ = cs[i]? := by rw [Lib.cell_of_heap h]
theorem CBk.frozen {w : World} {g : Nat} {T : TypeId} {cs : Array Value} (h : CBk w g T cs) (i : Nat) : w.frozen? ⟨g, i, none⟩ = false := Lib.frozen_of_heap h i
theorem CBk.set {w : World} {g : Nat} {T : TypeId} {cs : Array Value} (h : CBk w g T cs) (i : Nat) (v : Value) : CBk (w.setCell ⟨g, i, none⟩ v) g T (cs.setIfInBounds i v) := by
  unfold CBk at h ⊢
  simp only [World.setCell, Array.getElem?_modify, h]
  simp
theorem CBk.other {w : World} {g g' j : Nat} {T : TypeId} {cs : Array Value} (h : CBk w g T cs) (hg : g' ≠ g) (v : Value) : CBk (w.setCell ⟨g', j, none⟩ v) g T cs := by
  unfold CBk at h ⊢; simp [World.setCell, Array.getElem?_modify, h, hg]
theorem CBk.six {w : World} {g : Nat} {T : TypeId} {a b c d e f : Value} (h : CBk w g T #[a, b, c, d, e, f]) : w.cell? ⟨g, 0, none⟩ = some a ∧ w.cell? ⟨g, 1, none⟩ = some b ∧ w.cell? ⟨g, 2, none⟩ = some c ∧ w.cell? ⟨g, 3, none⟩ = some d ∧ w.cell? ⟨g, 4, none⟩ = some e ∧ w.cell? ⟨g, 5, none⟩ = some f ∧ w.frozen? ⟨g, 0, none⟩ = false ∧ w.frozen? ⟨g, 1, none⟩ = false ∧ w.frozen? ⟨g, 2, none⟩ = false ∧ w.frozen? ⟨g, 3, none⟩ = false ∧ w.frozen? ⟨g, 4, none⟩ = false ∧ w.frozen? ⟨g, 5, none⟩ = false :=
  ⟨h.cell 0, h.cell 1, h.cell 2, h.cell 3, h.cell 4, h.cell 5, h.frozen 0, h.frozen 1, h.frozen 2, h.frozen 3, h.frozen 4, h.frozen 5⟩

set_option maxHeartbeats 1000000 in
set_option maxRecDepth 100000 in
theorem szBlock1 (h : HeadV) (a : Option Addr) (len cap : Nat) (zs : List ByteArray) (w : World) (hw : wfHead h) (h0 : IsTexts w a len cap zs) :
    Calls Tryz.prog 4 #[blockVal h (.slice a len cap), .int .i64 1048576] w fun e w' => Below w.heap.size w w' ∧ (e = .returned (.int .i64 (-1)) ∨ (SzOk zs len e ∧ smallHead h)) := by
  unfold blockVal
  have H0 : Hid (IsTexts w a len cap zs) := h0
  have hsz := fun w' => szHead1 h 1048576 w' (Nat.le_refl _) hw
  have B0 : Hid (CBk _ w.heap.size 26 #[.string h.prev, .string h.root, .int .i64 h.time, .int .i64 h.diff, .int .i64 h.nonce, .slice a len cap]) := CBk.new w 26 #[.string h.prev, .string h.root, .int .i64 h.time, .int .i64 h.diff, .int .i64 h.nonce, .slice a len cap]
  have L0 : Hid (Below w.heap.size w (w.alloc (.cells #[.string h.prev, .string h.root, .int .i64 h.time, .int .i64 h.diff, .int .i64 h.nonce, .slice a len cap] 26))) := (Below.refl _ w).alloc (Nat.le_refl _) _
  have HIT : Hid (∀ w', Below w.heap.size w w' → IsTexts w' a len cap zs) := by
    intro w' hb
    rcases h0 with h1 | ⟨x, hx, h1, h2, h3, h4, h5⟩
    · exact .inl h1
    · refine .inr ⟨x, hx, h1, h2, h3, fun i hi => ?_, h5⟩
      have := h4 i hi
      rw [← this]
      exact hb.cell (cell_lt this)
  clear hw h0
  go_enter Tryz.func4, Tryz.ntmps4
  go_wp2_with fail
  refine (hsz _).mono ?_
  rintro e w1 ⟨b1, rfl | ⟨q, rfl, hq, hsm⟩⟩
  · go_wp2_with fail
    go_ret
    exact ⟨L0.out.trans (b1.mono L0.out.size), .inl rfl⟩
  have L1 : Hid (Below w.heap.size w w1) := L0.out.trans (b1.mono L0.out.size)
  have B1 := (B0.out.call b1).six
  obtain ⟨c0, c1, c2, c3, c4, c5, _⟩ := B1
  have HSM : Hid (smallHead h) := hsm
  have hq0 : ¬ (q : Int) < 0 := by omega
  clear hsm B0 L0 b1 hsz
  go_wp2_with fail
  refine (szStrsR q hq a len cap zs _ (HIT.out _ L1.out)).mono ?_
  rintro e w2 ⟨rfl, hok⟩
  rcases hok with rfl | ⟨r, rfl, h1, h2⟩
  · go_wp2_with fail
    go_ret
    exact ⟨L1.out, .inl rfl⟩
  · have HSZ : Hid (SzOk zs len (.returned (.int .i64 (r : Int)))) := .inr ⟨r, rfl, h1, h2⟩
    have hr0 : ¬ (r : Int) < 0 := by omega
    clear h2
    go_wp2_with fail
    go_ret
    exact ⟨L1.out, .inr ⟨HSZ.out, HSM.out⟩⟩

theorem rowS_other {w : World} {g g' : Nat} {l : List ByteArray} (h : RowS w g l) (hg : g' ≠ g) (j : Nat) (v : Value) : RowS (w.setCell ⟨g', j, none⟩ v) g l := by
  unfold RowS at h ⊢; simp [World.setCell, Array.getElem?_modify, h, hg]
/-- What a copy of a block leaves. -/
def BackB (h : HeadV) (len : Nat) (zs : List ByteArray) (w : World) (e : Ending) (w' : World) : Prop := ∃ g, e = .returned (blockVal h (.slice (some ⟨g, 0, none⟩) len len)) ∧ RowS w' g (zs.take len) ∧ w.heap.size ≤ g ∧ Below w.heap.size w w'

set_option maxHeartbeats 1000000 in
set_option maxRecDepth 100000 in
theorem toBlock1 (h : HeadV) (a : Option Addr) (len cap : Nat) (zs : List ByteArray) (w w0 : World) (h0 : IsTexts w0 a len cap zs) (hw : Below w0.heap.size w0 w) (hn : len ≤ 1048576) :
    Calls Tryz.prog 6 #[blockVal h (.slice a len cap)] w fun e w' => BackB h len zs w e w' := by
  unfold blockVal
  have hto := toHeadA h
  have HTS : Hid (∀ w1, Below w.heap.size w w1 → Calls Tryz.prog 14 #[.slice a len cap] w1 fun e w' => e = .returned (.slice (some ⟨w1.heap.size, 0, none⟩) len len) ∧ RowS w' w1.heap.size (zs.take len) ∧ Below w1.heap.size w1 w') := fun w1 hb => toStrs a len cap zs w1 w0 h0 (hw.trans (hb.mono hw.size)) hn
  clear h0 hw
  have A0 : Hid (CBk _ w.heap.size 26 #[.string h.prev, .string h.root, .int .i64 h.time, .int .i64 h.diff, .int .i64 h.nonce, .slice a len cap]) := ((CBk.new w 26 #[.string h.prev, .string h.root, .int .i64 h.time, .int .i64 h.diff, .int .i64 h.nonce, .slice a len cap]).alloc (.cells #[.string ⟨#[]⟩, .string ⟨#[]⟩, .int .i64 0, .int .i64 0, .int .i64 0, .slice none 0 0] 31)).alloc (.cells #[.string ⟨#[]⟩, .string ⟨#[]⟩, .int .i64 0, .int .i64 0, .int .i64 0, .slice none 0 0] 31)
  have A1 : Hid (CBk (((w.alloc (.cells #[.string h.prev, .string h.root, .int .i64 h.time, .int .i64 h.diff, .int .i64 h.nonce, .slice a len cap] 26)).alloc (.cells #[.string ⟨#[]⟩, .string ⟨#[]⟩, .int .i64 0, .int .i64 0, .int .i64 0, .slice none 0 0] 31)).alloc (.cells #[.string ⟨#[]⟩, .string ⟨#[]⟩, .int .i64 0, .int .i64 0, .int .i64 0, .slice none 0 0] 31)) (w.heap.size + 1) 31 #[.string ⟨#[]⟩, .string ⟨#[]⟩, .int .i64 0, .int .i64 0, .int .i64 0, .slice none 0 0]) := by
    have := (CBk.new (w.alloc (.cells #[.string h.prev, .string h.root, .int .i64 h.time, .int .i64 h.diff, .int .i64 h.nonce, .slice a len cap] 26)) 31 #[.string ⟨#[]⟩, .string ⟨#[]⟩, .int .i64 0, .int .i64 0, .int .i64 0, .slice none 0 0]).alloc (.cells #[.string ⟨#[]⟩, .string ⟨#[]⟩, .int .i64 0, .int .i64 0, .int .i64 0, .slice none 0 0] 31)
    rwa [show (w.alloc (.cells #[.string h.prev, .string h.root, .int .i64 h.time, .int .i64 h.diff, .int .i64 h.nonce, .slice a len cap] 26)).heap.size = w.heap.size + 1 from by simp] at this
  have A2 : Hid (CBk (((w.alloc (.cells #[.string h.prev, .string h.root, .int .i64 h.time, .int .i64 h.diff, .int .i64 h.nonce, .slice a len cap] 26)).alloc (.cells #[.string ⟨#[]⟩, .string ⟨#[]⟩, .int .i64 0, .int .i64 0, .int .i64 0, .slice none 0 0] 31)).alloc (.cells #[.string ⟨#[]⟩, .string ⟨#[]⟩, .int .i64 0, .int .i64 0, .int .i64 0, .slice none 0 0] 31)) (w.heap.size + 1 + 1) 31 #[.string ⟨#[]⟩, .string ⟨#[]⟩, .int .i64 0, .int .i64 0, .int .i64 0, .slice none 0 0]) := by
    have := CBk.new ((w.alloc (.cells #[.string h.prev, .string h.root, .int .i64 h.time, .int .i64 h.diff, .int .i64 h.nonce, .slice a len cap] 26)).alloc (.cells #[.string ⟨#[]⟩, .string ⟨#[]⟩, .int .i64 0, .int .i64 0, .int .i64 0, .slice none 0 0] 31)) 31 #[.string ⟨#[]⟩, .string ⟨#[]⟩, .int .i64 0, .int .i64 0, .int .i64 0, .slice none 0 0]
    rwa [show ((w.alloc (.cells #[.string h.prev, .string h.root, .int .i64 h.time, .int .i64 h.diff, .int .i64 h.nonce, .slice a len cap] 26)).alloc (.cells #[.string ⟨#[]⟩, .string ⟨#[]⟩, .int .i64 0, .int .i64 0, .int .i64 0, .slice none 0 0] 31)).heap.size = w.heap.size + 1 + 1 from by simp] at this
  have L0 : Hid (Below w.heap.size w (((w.alloc (.cells #[.string h.prev, .string h.root, .int .i64 h.time, .int .i64 h.diff, .int .i64 h.nonce, .slice a len cap] 26)).alloc (.cells #[.string ⟨#[]⟩, .string ⟨#[]⟩, .int .i64 0, .int .i64 0, .int .i64 0, .slice none 0 0] 31)).alloc (.cells #[.string ⟨#[]⟩, .string ⟨#[]⟩, .int .i64 0, .int .i64 0, .int .i64 0, .slice none 0 0] 31))) := (((Below.refl _ w).alloc (Nat.le_refl _) _).alloc (by simp) _).alloc (by simp; omega) _
  go_enter Tryz.func6, Tryz.ntmps6
  go_wp2_with fail
  refine (hto _).mono ?_
  rintro e w1 ⟨rfl, b1⟩
  have A01 : Hid (CBk w1 w.heap.size 26 #[.string h.prev, .string h.root, .int .i64 h.time, .int .i64 h.diff, .int .i64 h.nonce, .slice a len cap]) := A0.out.call b1
  have A11 : Hid (CBk w1 (w.heap.size + 1) 31 #[.string ⟨#[]⟩, .string ⟨#[]⟩, .int .i64 0, .int .i64 0, .int .i64 0, .slice none 0 0]) := A1.out.call b1
  have A21 : Hid (CBk w1 (w.heap.size + 1 + 1) 31 #[.string ⟨#[]⟩, .string ⟨#[]⟩, .int .i64 0, .int .i64 0, .int .i64 0, .slice none 0 0]) := A2.out.call b1
  have L1 : Hid (Below w.heap.size w w1) := L0.out.trans (b1.mono L0.out.size)
  clear A0 A1 A2 L0 b1
  obtain ⟨c0, c1, c2, c3, c4, c5, _⟩ := A01.out.six
  obtain ⟨d0, d1, d2, d3, d4, d5, z0, z1, z2, z3, z4, z5⟩ := A21.out.six
  have S1 : Hid (CBk (((((w1.setCell ⟨w.heap.size + 1 + 1, 0, none⟩ (.string h.prev)).setCell ⟨w.heap.size + 1 + 1, 1, none⟩ (.string h.root)).setCell ⟨w.heap.size + 1 + 1, 2, none⟩ (.int .i64 h.time)).setCell ⟨w.heap.size + 1 + 1, 3, none⟩ (.int .i64 h.diff)).setCell ⟨w.heap.size + 1 + 1, 4, none⟩ (.int .i64 h.nonce)) (w.heap.size + 1 + 1) 31 #[.string h.prev, .string h.root, .int .i64 h.time, .int .i64 h.diff, .int .i64 h.nonce, .slice none 0 0]) := (((((A21.out.set 0 (.string h.prev)).set 1 (.string h.root)).set 2 (.int .i64 h.time)).set 3 (.int .i64 h.diff)).set 4 (.int .i64 h.nonce))
  have T1 : Hid (CBk (((((w1.setCell ⟨w.heap.size + 1 + 1, 0, none⟩ (.string h.prev)).setCell ⟨w.heap.size + 1 + 1, 1, none⟩ (.string h.root)).setCell ⟨w.heap.size + 1 + 1, 2, none⟩ (.int .i64 h.time)).setCell ⟨w.heap.size + 1 + 1, 3, none⟩ (.int .i64 h.diff)).setCell ⟨w.heap.size + 1 + 1, 4, none⟩ (.int .i64 h.nonce)) (w.heap.size + 1) 31 #[.string ⟨#[]⟩, .string ⟨#[]⟩, .int .i64 0, .int .i64 0, .int .i64 0, .slice none 0 0]) := (((((A11.out.other (by omega) _).other (by omega) _).other (by omega) _).other (by omega) _).other (by omega) _)
  have LB1 : Hid (Below w.heap.size w (((((w1.setCell ⟨w.heap.size + 1 + 1, 0, none⟩ (.string h.prev)).setCell ⟨w.heap.size + 1 + 1, 1, none⟩ (.string h.root)).setCell ⟨w.heap.size + 1 + 1, 2, none⟩ (.int .i64 h.time)).setCell ⟨w.heap.size + 1 + 1, 3, none⟩ (.int .i64 h.diff)).setCell ⟨w.heap.size + 1 + 1, 4, none⟩ (.int .i64 h.nonce))) := (((((L1.out.setCell (p := ⟨w.heap.size + 1 + 1, 0, none⟩) (by show w.heap.size ≤ w.heap.size + 1 + 1; omega) _).setCell (p := ⟨w.heap.size + 1 + 1, 1, none⟩) (by show w.heap.size ≤ w.heap.size + 1 + 1; omega) _).setCell (p := ⟨w.heap.size + 1 + 1, 2, none⟩) (by show w.heap.size ≤ w.heap.size + 1 + 1; omega) _).setCell (p := ⟨w.heap.size + 1 + 1, 3, none⟩) (by show w.heap.size ≤ w.heap.size + 1 + 1; omega) _).setCell (p := ⟨w.heap.size + 1 + 1, 4, none⟩) (by show w.heap.size ≤ w.heap.size + 1 + 1; omega) _)
  have HSZ : Hid ((((((w1.setCell ⟨w.heap.size + 1 + 1, 0, none⟩ (.string h.prev)).setCell ⟨w.heap.size + 1 + 1, 1, none⟩ (.string h.root)).setCell ⟨w.heap.size + 1 + 1, 2, none⟩ (.int .i64 h.time)).setCell ⟨w.heap.size + 1 + 1, 3, none⟩ (.int .i64 h.diff)).setCell ⟨w.heap.size + 1 + 1, 4, none⟩ (.int .i64 h.nonce)).heap.size = w1.heap.size) := by show _ = _; simp [World.setCell]
  have lw1 := A21.out.lt
  go_wp2_with fail
  refine (HTS.out _ LB1.out).mono ?_
  rintro e w2 ⟨rfl, r2, b2⟩
  have A22 : Hid (CBk w2 (w.heap.size + 1 + 1) 31 #[.string h.prev, .string h.root, .int .i64 h.time, .int .i64 h.diff, .int .i64 h.nonce, .slice none 0 0]) := S1.out.call b2
  have A12 : Hid (CBk w2 (w.heap.size + 1) 31 #[.string ⟨#[]⟩, .string ⟨#[]⟩, .int .i64 0, .int .i64 0, .int .i64 0, .slice none 0 0]) := T1.out.call b2
  have L3 : Hid (Below w.heap.size w w2) := LB1.out.trans (b2.mono LB1.out.size)
  rw [HSZ.out] at r2
  have R2 : Hid (RowS w2 w1.heap.size (zs.take len)) := r2
  have HG : Hid (w.heap.size + 1 + 1 < w1.heap.size) := lw1
  clear c0 c1 c2 c3 c4 c5 d0 d1 d2 d3 d4 d5 z0 z1 z2 z3 z4 z5 S1 T1 LB1 b2 r2 A01 A11 A21 L1 HTS lw1
  have e0 := HSZ.out
  have HGE : ∃ g, g = w1.heap.size := ⟨_, rfl⟩
  obtain ⟨g, hg⟩ := HGE
  rw [← hg] at R2 HG
  rw [e0, ← hg]
  clear e0 HSZ
  obtain ⟨d0, d1, d2, d3, d4, d5, z0, z1, z2, z3, z4, z5⟩ := A22.out.six
  obtain ⟨f0, f1, f2, f3, f4, f5, y0, y1, y2, y3, y4, y5⟩ := A12.out.six
  have HG2 : w.heap.size + 1 + 1 < g := HG.out
  have S4 : Hid (CBk (((((((w2.setCell ⟨w.heap.size + 1 + 1, 5, none⟩ (.slice (some ⟨g, 0, none⟩) len len)).setCell ⟨w.heap.size + 1, 0, none⟩ (.string h.prev)).setCell ⟨w.heap.size + 1, 1, none⟩ (.string h.root)).setCell ⟨w.heap.size + 1, 2, none⟩ (.int .i64 h.time)).setCell ⟨w.heap.size + 1, 3, none⟩ (.int .i64 h.diff)).setCell ⟨w.heap.size + 1, 4, none⟩ (.int .i64 h.nonce)).setCell ⟨w.heap.size + 1, 5, none⟩ (.slice (some ⟨g, 0, none⟩) len len)) (w.heap.size + 1) 31 #[.string h.prev, .string h.root, .int .i64 h.time, .int .i64 h.diff, .int .i64 h.nonce, .slice (some ⟨g, 0, none⟩) len len]) := (((((((A12.out.other (by omega) _).set 0 (.string h.prev)).set 1 (.string h.root)).set 2 (.int .i64 h.time)).set 3 (.int .i64 h.diff)).set 4 (.int .i64 h.nonce)).set 5 (.slice (some ⟨g, 0, none⟩) len len))
  have LB4 : Hid (Below w.heap.size w (((((((w2.setCell ⟨w.heap.size + 1 + 1, 5, none⟩ (.slice (some ⟨g, 0, none⟩) len len)).setCell ⟨w.heap.size + 1, 0, none⟩ (.string h.prev)).setCell ⟨w.heap.size + 1, 1, none⟩ (.string h.root)).setCell ⟨w.heap.size + 1, 2, none⟩ (.int .i64 h.time)).setCell ⟨w.heap.size + 1, 3, none⟩ (.int .i64 h.diff)).setCell ⟨w.heap.size + 1, 4, none⟩ (.int .i64 h.nonce)).setCell ⟨w.heap.size + 1, 5, none⟩ (.slice (some ⟨g, 0, none⟩) len len))) := (((((((L3.out.setCell (p := ⟨w.heap.size + 1 + 1, 5, none⟩) (by show w.heap.size ≤ w.heap.size + 1 + 1; omega) _).setCell (p := ⟨w.heap.size + 1, 0, none⟩) (Nat.le_succ _) _).setCell (p := ⟨w.heap.size + 1, 1, none⟩) (Nat.le_succ _) _).setCell (p := ⟨w.heap.size + 1, 2, none⟩) (Nat.le_succ _) _).setCell (p := ⟨w.heap.size + 1, 3, none⟩) (Nat.le_succ _) _).setCell (p := ⟨w.heap.size + 1, 4, none⟩) (Nat.le_succ _) _).setCell (p := ⟨w.heap.size + 1, 5, none⟩) (Nat.le_succ _) _)
  have R4 : Hid (RowS (((((((w2.setCell ⟨w.heap.size + 1 + 1, 5, none⟩ (.slice (some ⟨g, 0, none⟩) len len)).setCell ⟨w.heap.size + 1, 0, none⟩ (.string h.prev)).setCell ⟨w.heap.size + 1, 1, none⟩ (.string h.root)).setCell ⟨w.heap.size + 1, 2, none⟩ (.int .i64 h.time)).setCell ⟨w.heap.size + 1, 3, none⟩ (.int .i64 h.diff)).setCell ⟨w.heap.size + 1, 4, none⟩ (.int .i64 h.nonce)).setCell ⟨w.heap.size + 1, 5, none⟩ (.slice (some ⟨g, 0, none⟩) len len)) g (zs.take len)) := (rowS_other (rowS_other (rowS_other (rowS_other (rowS_other (rowS_other (rowS_other R2.out (show w.heap.size + 1 + 1 ≠ g by omega) 5 _) (show w.heap.size + 1 ≠ g by omega) 0 _) (show w.heap.size + 1 ≠ g by omega) 1 _) (show w.heap.size + 1 ≠ g by omega) 2 _) (show w.heap.size + 1 ≠ g by omega) 3 _) (show w.heap.size + 1 ≠ g by omega) 4 _) (show w.heap.size + 1 ≠ g by omega) 5 _)
  clear HG hg
  go_wp2_with fail
  exact bodyPost_ret (results_cell_row (p := 2) rfl _ _ (w.heap.size + 1) 31 #[.string h.prev, .string h.root, .int .i64 h.time, .int .i64 h.diff, .int .i64 h.nonce, .slice (some ⟨g, 0, none⟩) len len] (0, 0) _ rfl S4.out Tryz.underlying31 rfl (by kernel_rfl)) rfl ⟨g, rfl, R4.out, by omega, LB4.out⟩

end Go.Proofs.YtgnnfljobgbpbabGreatDoor

set_option linter.unusedVariables false
namespace Go.Proofs.YtgnnfljobgbpbabGreatDoor
open Go.RowKit

theorem sum_size {s : ByteArray} (h : isSum s.data.toList = true) : s.size = 16 := by simpa using isSum_len h
/-- The five cells of a head. -/
def HAt (w : World) (g : Nat) (p r : ByteArray) (t d n : Int) : Prop := w.cell? ⟨g, 0, none⟩ = some (.string p) ∧ w.cell? ⟨g, 1, none⟩ = some (.string r) ∧ w.cell? ⟨g, 2, none⟩ = some (.int .i64 t) ∧ w.cell? ⟨g, 3, none⟩ = some (.int .i64 d) ∧ w.cell? ⟨g, 4, none⟩ = some (.int .i64 n)
theorem HAt.below {w w' : World} {g B : Nat} {p r : ByteArray} {t d n : Int} (h : HAt w g p r t d n) (hb : Below B w w') (hg : g < B) : HAt w' g p r t d n :=
  ⟨(hb.cell (p := ⟨g, 0, none⟩) hg).trans h.1, (hb.cell (p := ⟨g, 1, none⟩) hg).trans h.2.1, (hb.cell (p := ⟨g, 2, none⟩) hg).trans h.2.2.1, (hb.cell (p := ⟨g, 3, none⟩) hg).trans h.2.2.2.1, (hb.cell (p := ⟨g, 4, none⟩) hg).trans h.2.2.2.2⟩
theorem HAt.drew {w : World} {g : Nat} {p r : ByteArray} {t d n : Int} (h : HAt w g p r t d n) : HAt w.drew g p r t d n := h
theorem HAt.new (w : World) (T : TypeId) (p r : ByteArray) (t d n : Int) : HAt (w.alloc (.cells #[.string p, .string r, .int .i64 t, .int .i64 d, .int .i64 n] T)) w.heap.size p r t d n := by
  have hh := heap_alloc_new w (.cells #[.string p, .string r, .int .i64 t, .int .i64 d, .int .i64 n] T)
  refine ⟨?_, ?_, ?_, ?_, ?_⟩ <;> (rw [Lib.cell_of_heap hh]; rfl)

set_option maxHeartbeats 2000000 in
set_option maxRecDepth 100000 in
theorem specL3Put (h : HeadV) (w : World) (hok : headOkB h = true) :
    Calls Tryz.prog 54 #[.agg #[.string h.prev, .string h.root, .int .i64 h.time, .int .i64 h.diff, .int .i64 h.nonce]] w fun e w' => e = .returned (.string ⟨(headT h).toArray⟩) ∧ Below w.heap.size w w' := by
  obtain ⟨h1, h2, h3, h4, h5⟩ := headOk_in hok
  have HEQ : Hid (h.prev ++ ⟨#[32]⟩ ++ h.root ++ ⟨#[32]⟩ ++ ⟨(Lib.decDigits h.time.toNat).toArray⟩ ++ ⟨#[32]⟩ ++ ⟨(Lib.decDigits h.diff.toNat).toArray⟩ ++ ⟨#[32]⟩ ++ ⟨(Lib.decDigits h.nonce.toNat).toArray⟩ = (⟨(headT h).toArray⟩ : ByteArray)) := by
    show _ = _
    apply ByteArray.ext
    simp [headT, joinTo, headL]
  generalize (⟨(headT h).toArray⟩ : ByteArray) = T at HEQ
  obtain ⟨p, r, t, d, n⟩ := h
  dsimp only at h1 h2 h3 h4 h5 HEQ ⊢
  obtain ⟨tn, rfl⟩ : ∃ x : Nat, t = (x : Int) := ⟨t.toNat, by omega⟩
  obtain ⟨dn, rfl⟩ : ∃ x : Nat, d = (x : Int) := ⟨d.toNat, by omega⟩
  obtain ⟨nn, rfl⟩ : ∃ x : Nat, n = (x : Int) := ⟨n.toNat, by omega⟩
  simp only [Int.toNat_natCast] at HEQ
  have hps := sum_size h1
  have hrs := sum_size h2
  have ht := fun w' => specDec tn w' (by omega)
  have hd := fun w' => specDec dn w' (by omega)
  have hn := fun w' => specDec nn w' (by omega)
  have htl : (Lib.decDigits tn).length ≤ 19 := decLen (by omega)
  have hdl : (Lib.decDigits dn).length ≤ 19 := decLen (by omega)
  have hnl : (Lib.decDigits nn).length ≤ 19 := decLen (by omega)
  generalize Lib.decDigits tn = dt at ht htl HEQ
  generalize Lib.decDigits dn = dd at hd hdl HEQ
  generalize Lib.decDigits nn = dnn at hn hnl HEQ
  have H0 := HAt.new w 29 p r (tn : Int) (dn : Int) (nn : Int)
  have B0 : Below w.heap.size w (w.alloc (.cells #[.string p, .string r, .int .i64 (tn : Int), .int .i64 (dn : Int), .int .i64 (nn : Int)] 29)) := (Below.refl _ w).alloc (Nat.le_refl _) _
  have L0 : w.heap.size < (w.alloc (.cells #[.string p, .string r, .int .i64 (tn : Int), .int .i64 (dn : Int), .int .i64 (nn : Int)] 29)).heap.size := by simp
  have q1 : ¬ 9223372036854775807 < 34 + dt.length := by omega
  have q2 : ¬ 9223372036854775807 < 34 + dt.length + 1 := by omega
  have q3 : ¬ 9223372036854775807 < 34 + dt.length + 1 + dd.length := by omega
  have q4 : ¬ 9223372036854775807 < 34 + dt.length + 1 + dd.length + 1 := by omega
  have q5 : ¬ 9223372036854775807 < 34 + dt.length + 1 + dd.length + 1 + dnn.length := by omega
  clear hok h1 h2
  go_enter Tryz.func54, Tryz.ntmps54
  go_wp2_with fail
  go_region_held3 (fun w' => w'.cell? ⟨w.heap.size, 0, none⟩ = some (.string p) ∧ w'.cell? ⟨w.heap.size, 1, none⟩ = some (.string r) ∧ w'.cell? ⟨w.heap.size, 2, none⟩ = some (.int .i64 (tn : Int)) ∧ w'.cell? ⟨w.heap.size, 3, none⟩ = some (.int .i64 (dn : Int)) ∧ w'.cell? ⟨w.heap.size, 4, none⟩ = some (.int .i64 (nn : Int)))
    (first | exact H3 | exact H2 | exact H1 | exact H0 | go_keep)
    (first
      | (go_at_call_of 81 (Value.int IntKind.i64 (tn : Int)); refine (ht _).mono ?_; rintro e w1 ⟨rfl, b1⟩; have H1 : HAt w1 w.heap.size p r (tn : Int) (dn : Int) (nn : Int) := H0.drew.below b1 L0; have B1 : Below w.heap.size w w1 := B0.drew.trans (b1.mono B0.size); have L1 : w.heap.size < w1.heap.size := Nat.lt_of_lt_of_le L0 b1.size)
      | (go_at_call_of 81 (Value.int IntKind.i64 (dn : Int)); refine (hd _).mono ?_; rintro e w2 ⟨rfl, b2⟩; have H2 : HAt w2 w.heap.size p r (tn : Int) (dn : Int) (nn : Int) := H1.below b2 L1; have B2 : Below w.heap.size w w2 := B1.trans (b2.mono B1.size); have L2 : w.heap.size < w2.heap.size := Nat.lt_of_lt_of_le L1 b2.size)
      | (go_at_call_of 81 (Value.int IntKind.i64 (nn : Int)); refine (hn _).mono ?_; rintro e w3 ⟨rfl, b3⟩; have H3 : HAt w3 w.heap.size p r (tn : Int) (dn : Int) (nn : Int) := H2.below b3 L2; have B3 : Below w.heap.size w w3 := B2.trans (b3.mono B2.size)))
  go_wp2_with fail
  go_ret
  refine ⟨?_, B3⟩
  rw [← HEQ.out]
  rfl

theorem itoa_nat (k : Nat) : Lib.itoa (k : Int) = Lib.decDigits k := by
  rw [Lib.itoa, if_neg (by omega)]
  rfl
theorem implItoa (k : Nat) (w : World) (hk : k ≤ 1000000000) (hP : TabP w) :
    Calls Tryz.prog 73 #[.int .i64 (k : Int)] w fun e w' => e = .returned (.string ⟨(Lib.decDigits k).toArray⟩) ∧ Below w.heap.size w w' := by
  refine (Tryz.strconv_Itoa (k : Int) (by omega) (by omega) w hP).mono ?_
  rintro e w' ⟨rfl, hw⟩
  rw [itoa_nat]
  refine ⟨rfl, ?_⟩
  obtain ⟨a, os, rfl⟩ := hw
  exact Lib.below_grow w.heap.size w (Nat.le_refl _) a os

/-- A head at block g of w', which came from w. -/
def HSt (w w' : World) (g : Nat) (p r : ByteArray) (t d n : Int) : Prop := HAt w' g p r t d n ∧ Below w.heap.size w w' ∧ g < w'.heap.size
theorem HSt.drew {w w' : World} {g : Nat} {p r : ByteArray} {t d n : Int} (h : HSt w w' g p r t d n) : HSt w w'.drew g p r t d n := ⟨h.1, h.2.1.drew, h.2.2⟩
theorem HSt.call {w w' w'' : World} {g : Nat} {p r : ByteArray} {t d n : Int} (h : HSt w w' g p r t d n) (hb : Below w'.heap.size w' w'') : HSt w w'' g p r t d n :=
  ⟨h.1.below hb h.2.2, h.2.1.trans (hb.mono h.2.1.size), Nat.lt_of_lt_of_le h.2.2 hb.size⟩
theorem HSt.alloc {w w' : World} {g : Nat} {p r : ByteArray} {t d n : Int} (h : HSt w w' g p r t d n) (o : Obj) : HSt w (w'.alloc o) g p r t d n :=
  h.call ((Below.refl _ w').alloc (Nat.le_refl _) o)
theorem HSt.new (w : World) (T : TypeId) (p r : ByteArray) (t d n : Int) : HSt w (w.alloc (.cells #[.string p, .string r, .int .i64 t, .int .i64 d, .int .i64 n] T)) w.heap.size p r t d n :=
  ⟨HAt.new w T p r t d n, (Below.refl _ w).alloc (Nat.le_refl _) _, by simp⟩
theorem HSt.out {w w' : World} {g : Nat} {p r : ByteArray} {t d n : Int} (h : HSt w w' g p r t d n) : w'.cell? ⟨g, 0, none⟩ = some (.string p) ∧ w'.cell? ⟨g, 1, none⟩ = some (.string r) ∧ w'.cell? ⟨g, 2, none⟩ = some (.int .i64 t) ∧ w'.cell? ⟨g, 3, none⟩ = some (.int .i64 d) ∧ w'.cell? ⟨g, 4, none⟩ = some (.int .i64 n) := h.1
theorem HSt.ne {w w' : World} {g : Nat} {p r : ByteArray} {t d n : Int} (h : HSt w w' g p r t d n) : ¬ g = w'.heap.size := by have := h.2.2; omega
theorem HSt.en {w w' : World} {g : Nat} {p r : ByteArray} {t d n : Int} (h : HSt w w' g p r t d n) : ¬ w'.heap.size = g := by have := h.2.2; omega
/-- Five empty texts in a block. -/
def FiveE (w : World) (b : Nat) : Prop := w.heap[b]? = some (.cells #[.string ⟨#[]⟩, .string ⟨#[]⟩, .string ⟨#[]⟩, .string ⟨#[]⟩, .string ⟨#[]⟩] 84 (0, 0))
theorem FiveE.call {w w' : World} {b : Nat} (h : FiveE w b) (hb : Below w.heap.size w w') : FiveE w' b := by
  unfold FiveE at h ⊢
  rw [hb.block b ?_]
  · exact h
  · rcases Nat.lt_or_ge b w.heap.size with h' | h'
    · exact h'
    · simp [Array.getElem?_eq_none h'] at h
theorem FiveE.drew {w : World} {b : Nat} (h : FiveE w b) : FiveE w.drew b := h
theorem FiveE.new (w : World) : FiveE (w.alloc (.cells #[.string ⟨#[]⟩, .string ⟨#[]⟩, .string ⟨#[]⟩, .string ⟨#[]⟩, .string ⟨#[]⟩] 84)) w.heap.size := heap_alloc_new w _

theorem FiveE.facts {w : World} {b : Nat} (h : FiveE w b) : w.cell? ⟨b, 0, none⟩ = some (.string ⟨#[]⟩) ∧ w.cell? ⟨b, 1, none⟩ = some (.string ⟨#[]⟩) ∧ w.cell? ⟨b, 2, none⟩ = some (.string ⟨#[]⟩) ∧ w.cell? ⟨b, 3, none⟩ = some (.string ⟨#[]⟩) ∧ w.cell? ⟨b, 4, none⟩ = some (.string ⟨#[]⟩) ∧ w.frozen? ⟨b, 0, none⟩ = false ∧ w.frozen? ⟨b, 1, none⟩ = false ∧ w.frozen? ⟨b, 2, none⟩ = false ∧ w.frozen? ⟨b, 3, none⟩ = false ∧ w.frozen? ⟨b, 4, none⟩ = false := by
  refine ⟨?_, ?_, ?_, ?_, ?_, Lib.frozen_of_heap h 0, Lib.frozen_of_heap h 1, Lib.frozen_of_heap h 2, Lib.frozen_of_heap h 3, Lib.frozen_of_heap h 4⟩ <;> (rw [Lib.cell_of_heap h]; rfl)

theorem thenAt {K : Act → World → Prop} {Q : Exit → Act → World → Prop} {e : Exit} {a : Act} {W : World} {A : World → Prop} (hA : A W) (h : ∀ W', A W' → Exit.then K Q e a W') : Exit.then K Q e a W := h W hA
theorem five_cells {w : World} {b : Nat} {T : TypeId} {x0 x1 x2 x3 x4 : ByteArray} (h : w.heap[b]? = some (.cells #[.string x0, .string x1, .string x2, .string x3, .string x4] T (0, 0))) : AtS w b [x0, x1, x2, x3, x4] := by
  refine ⟨?_, ?_⟩
  · rcases Nat.lt_or_ge b w.heap.size with h' | h'
    · exact h'
    · simp [Array.getElem?_eq_none h'] at h
  · intro i hi
    rw [Lib.cell_of_heap h]
    match i, hi with
    | 0, _ => rfl
    | 1, _ => rfl
    | 2, _ => rfl
    | 3, _ => rfl
    | 4, _ => rfl
theorem five_new (w : World) (T : TypeId) (x0 x1 x2 x3 x4 : ByteArray) : AtS (w.alloc (.cells #[.string x0, .string x1, .string x2, .string x3, .string x4] T)) w.heap.size [x0, x1, x2, x3, x4] := five_cells (heap_alloc_new w _)
theorem five_put {w : World} {b : Nat} (h : FiveE w b) (x0 x1 x2 x3 x4 : ByteArray) : AtS (((((w.setCell ⟨b, 0, none⟩ (.string x0)).setCell ⟨b, 1, none⟩ (.string x1)).setCell ⟨b, 2, none⟩ (.string x2)).setCell ⟨b, 3, none⟩ (.string x3)).setCell ⟨b, 4, none⟩ (.string x4)) b [x0, x1, x2, x3, x4] := by
  refine five_cells (T := 84) ?_
  unfold FiveE at h
  simp [World.setCell, Array.getElem?_modify, h]
theorem five_below {w0 w : World} {b : Nat} (h : Below w0.heap.size w0 w) (hb : w0.heap.size ≤ b) (x0 x1 x2 x3 x4 : ByteArray) : Below w0.heap.size w0 (((((w.setCell ⟨b, 0, none⟩ (.string x0)).setCell ⟨b, 1, none⟩ (.string x1)).setCell ⟨b, 2, none⟩ (.string x2)).setCell ⟨b, 3, none⟩ (.string x3)).setCell ⟨b, 4, none⟩ (.string x4)) :=
  ((((h.setCell (p := ⟨b, 0, none⟩) hb _).setCell (p := ⟨b, 1, none⟩) hb _).setCell (p := ⟨b, 2, none⟩) hb _).setCell (p := ⟨b, 3, none⟩) hb _).setCell (p := ⟨b, 4, none⟩) hb _
theorem five_size {hl : List ByteArray} {p r : ByteArray} {dt dd dn : List UInt8} (hl5 : hl = [p, r, ⟨dt.toArray⟩, ⟨dd.toArray⟩, ⟨dn.toArray⟩]) (h0 : p.size ≤ 1000) (h1 : r.size ≤ 1000) (h2 : dt.length ≤ 1000) (h3 : dd.length ≤ 1000) (h4 : dn.length ≤ 1000) : ∀ i, i < hl.length → (hl.getD i ByteArray.empty).size ≤ 1000 := by
  subst hl5
  intro i hi
  match i, hi with
  | 0, _ => exact h0
  | 1, _ => exact h1
  | 2, _ => exact h2
  | 3, _ => exact h3
  | 4, _ => exact h4

set_option maxHeartbeats 4000000 in
set_option maxRecDepth 100000 in
theorem implHeadPut (h : HeadV) (w : World) (hP : TabP w) :
    Calls Tryz.prog 41 #[.agg #[.string h.prev, .string h.root, .int .i64 h.time, .int .i64 h.diff, .int .i64 h.nonce]] w fun e w' => e = .returned (.string ⟨(headPut h).toArray⟩) ∧ Below w.heap.size w w' := by
  have hck := implHeadOk h
  cases hok : headOkB h with
  | false =>
    have e : headPut h = [] := by rw [headPut, hok]; rfl
    rw [e]
    simp only [hok] at hck
    go_enter Tryz.func41, Tryz.ntmps41
    go_wp2_with (go_at_call 39; refine (hck _).mono ?_; rintro e w1 ⟨rfl, b1⟩)
    go_ret
    exact ⟨rfl, ((Below.refl _ w).alloc (Nat.le_refl _) _).trans (b1.mono (by simp))⟩
  | true =>
    have e : headPut h = headT h := by rw [headPut, if_pos hok]
    rw [e]
    clear e
    simp only [hok] at hck
    obtain ⟨h1, h2, h3, h4, h5⟩ := headOk_in hok
    have HT : Hid (headT h = joinTo (headL h) [32] 4) := rfl
    have HL : Hid (headL h = [h.prev, h.root, ⟨(Lib.decDigits h.time.toNat).toArray⟩, ⟨(Lib.decDigits h.diff.toNat).toArray⟩, ⟨(Lib.decDigits h.nonce.toNat).toArray⟩]) := rfl
    generalize headL h = hl at HL HT
    generalize headT h = tx at HT
    obtain ⟨p, r, t, d, n⟩ := h
    dsimp only at h1 h2 h3 h4 h5 HL hck ⊢
    obtain ⟨tn, rfl⟩ : ∃ x : Nat, t = (x : Int) := ⟨t.toNat, by omega⟩
    obtain ⟨dn, rfl⟩ : ∃ x : Nat, d = (x : Int) := ⟨d.toNat, by omega⟩
    obtain ⟨nn, rfl⟩ : ∃ x : Nat, n = (x : Int) := ⟨n.toNat, by omega⟩
    simp only [Int.toNat_natCast] at HL
    have hps := sum_size h1
    have hrs := sum_size h2
    have ht := fun w' h' => implItoa tn w' (by omega) h'
    have hd := fun w' h' => implItoa dn w' (by omega) h'
    have hn := fun w' h' => implItoa nn w' (by omega) h'
    have htl : (Lib.decDigits tn).length ≤ 19 := decLen (by omega)
    have hdl : (Lib.decDigits dn).length ≤ 19 := decLen (by omega)
    have hnl : (Lib.decDigits nn).length ≤ 19 := decLen (by omega)
    generalize Lib.decDigits tn = dt at ht htl HL
    generalize Lib.decDigits dn = dd at hd hdl HL
    generalize Lib.decDigits nn = dnn at hn hnl HL
    have S00 : HSt w _ w.heap.size p r (tn : Int) (dn : Int) (nn : Int) := HSt.new w 29 p r (tn : Int) (dn : Int) (nn : Int)
    have HP : Hid (∀ w', Below w.heap.size w w' → TabP w') := fun w' hb => TabP.below hP hb (Nat.le_refl _)
    clear hok h1 h2 hP
    go_enter Tryz.func41, Tryz.ntmps41
    go_wp2_with (go_at_call 39; refine (hck _).mono ?_; rintro e w0 ⟨rfl, b0⟩)
    have S0 : HSt w w0 w.heap.size p r (tn : Int) (dn : Int) (nn : Int) := S00.call b0
    clear S00 b0 hck
    have n0 := HSt.ne S0
    have m0 := HSt.en S0
    go_region_held3 (fun w' => w'.cell? ⟨w.heap.size, 0, none⟩ = some (.string p) ∧ w'.cell? ⟨w.heap.size, 1, none⟩ = some (.string r) ∧ w'.cell? ⟨w.heap.size, 2, none⟩ = some (.int .i64 (tn : Int)) ∧ w'.cell? ⟨w.heap.size, 3, none⟩ = some (.int .i64 (dn : Int)) ∧ w'.cell? ⟨w.heap.size, 4, none⟩ = some (.int .i64 (nn : Int)))
      (first | (with_reducible first | exact S3.out | exact (S3.alloc _).out | exact S2.out | exact (S2.alloc _).out | exact S1.out | exact (S1.alloc _).out | exact S0.out | exact S0.drew.out | exact (S0.alloc _).drew.out) | go_keep)
      (first
        | (go_at_call_of 73 (Value.int IntKind.i64 (tn : Int)); refine (ht _ (HP.out _ (by first | exact S0.drew.2.1 | exact (S0.alloc _).drew.2.1))).mono ?_; rintro e w1 ⟨rfl, b1⟩; have S1 : HSt w w1 w.heap.size p r (tn : Int) (dn : Int) (nn : Int) := (by first | exact S0.drew.call b1 | exact (S0.alloc _).drew.call b1); have n1 := HSt.ne S1; have m1 := HSt.en S1; try have F1 := (FiveE.new w0).drew.call b1)
        | (go_at_call_of 73 (Value.int IntKind.i64 (dn : Int)); refine (hd _ (HP.out _ (by first | exact S1.2.1 | exact (S1.alloc _).2.1))).mono ?_; rintro e w2 ⟨rfl, b2⟩; have S2 : HSt w w2 w.heap.size p r (tn : Int) (dn : Int) (nn : Int) := (by first | exact S1.call b2 | exact (S1.alloc _).call b2); have n2 := HSt.ne S2; have m2 := HSt.en S2; (first | have F2 := F1.call b2 | have F2 := (FiveE.new w1).call b2 | skip))
        | (go_at_call_of 73 (Value.int IntKind.i64 (nn : Int)); refine (hn _ (HP.out _ (by first | exact S2.2.1 | exact (S2.alloc _).2.1))).mono ?_; rintro e w3 ⟨rfl, b3⟩; have S3 : HSt w w3 w.heap.size p r (tn : Int) (dn : Int) (nn : Int) := (by first | exact S2.call b3 | exact (S2.alloc _).call b3); (first | have F3 := F2.call b3 | have F3 := (FiveE.new w2).call b3 | skip); (first | obtain ⟨c0, c1, c2, c3, c4, z0, z1, z2, z3, z4⟩ := F3.facts | skip)))
    · refine thenAt (A := fun W' => AtS W' (w3.heap.size) hl ∧ Below w.heap.size w W') ⟨(by rw [HL.out]; exact five_new w3 _ p r _ _ _), (by exact (S3.alloc _).2.1)⟩ ?_
      rintro W ⟨HA, HB⟩
      have HZ : ∀ i, i < hl.length → (hl.getD i ByteArray.empty).size ≤ 1000 := five_size HL.out (by omega) (by omega) (by omega) (by omega) (by omega)
      have hlen : hl.length = 5 := by rw [HL.out]; rfl
      generalize w3.heap.size = b at HA ⊢
      clear S0 S1 S2 S3 b1 b2 b3 ht hd hn HP HL
      go_wp2_with fail
      refine (joinW b hl W HA hlen HZ).mono ?_
      rintro e w5 ⟨rfl, b5⟩
      go_wp2_with fail
      go_ret
      exact ⟨by rw [HT.out]; rfl, HB.trans (b5.mono HB.size)⟩
    · refine thenAt (A := fun W' => AtS W' (w2.heap.size) hl ∧ Below w.heap.size w W') ⟨(by rw [HL.out]; exact five_put F3 p r _ _ _), (by exact five_below S3.2.1 S2.2.1.size p r _ _ _)⟩ ?_
      rintro W ⟨HA, HB⟩
      have HZ : ∀ i, i < hl.length → (hl.getD i ByteArray.empty).size ≤ 1000 := five_size HL.out (by omega) (by omega) (by omega) (by omega) (by omega)
      have hlen : hl.length = 5 := by rw [HL.out]; rfl
      generalize w2.heap.size = b at HA ⊢
      clear S0 S1 S2 S3 b1 b2 b3 ht hd hn HP HL
      go_wp2_with fail
      refine (joinW b hl W HA hlen HZ).mono ?_
      rintro e w5 ⟨rfl, b5⟩
      go_wp2_with fail
      go_ret
      exact ⟨by rw [HT.out]; rfl, HB.trans (b5.mono HB.size)⟩
    · refine thenAt (A := fun W' => AtS W' (w1.heap.size) hl ∧ Below w.heap.size w W') ⟨(by rw [HL.out]; exact five_put F3 p r _ _ _), (by exact five_below S3.2.1 S1.2.1.size p r _ _ _)⟩ ?_
      rintro W ⟨HA, HB⟩
      have HZ : ∀ i, i < hl.length → (hl.getD i ByteArray.empty).size ≤ 1000 := five_size HL.out (by omega) (by omega) (by omega) (by omega) (by omega)
      have hlen : hl.length = 5 := by rw [HL.out]; rfl
      generalize w1.heap.size = b at HA ⊢
      clear S0 S1 S2 S3 b1 b2 b3 ht hd hn HP HL
      go_wp2_with fail
      refine (joinW b hl W HA hlen HZ).mono ?_
      rintro e w5 ⟨rfl, b5⟩
      go_wp2_with fail
      go_ret
      exact ⟨by rw [HT.out]; rfl, HB.trans (b5.mono HB.size)⟩
    · refine thenAt (A := fun W' => AtS W' (w0.heap.size) hl ∧ Below w.heap.size w W') ⟨(by rw [HL.out]; exact five_put F3 p r _ _ _), (by exact five_below S3.2.1 S0.2.1.size p r _ _ _)⟩ ?_
      rintro W ⟨HA, HB⟩
      have HZ : ∀ i, i < hl.length → (hl.getD i ByteArray.empty).size ≤ 1000 := five_size HL.out (by omega) (by omega) (by omega) (by omega) (by omega)
      have hlen : hl.length = 5 := by rw [HL.out]; rfl
      generalize w0.heap.size = b at HA ⊢
      clear S0 S1 S2 S3 b1 b2 b3 ht hd hn HP HL
      go_wp2_with fail
      refine (joinW b hl W HA hlen HZ).mono ?_
      rintro e w5 ⟨rfl, b5⟩
      go_wp2_with fail
      go_ret
      exact ⟨by rw [HT.out]; rfl, HB.trans (b5.mono HB.size)⟩

end Go.Proofs.YtgnnfljobgbpbabGreatDoor

namespace Go.Proofs.YtgnnfljobgbpbabGreatDoor
open Go.RowKit

def itemC (b : UInt8) : Bool := decide (48 ≤ b.toNat ∧ b.toNat ≤ 57 ∨ 97 ≤ b.toNat ∧ b.toNat ≤ 122)
def isItem (l : List UInt8) : Bool := decide (1 ≤ l.length ∧ l.length ≤ 8) && l.all itemC
theorem isItem_no {s : ByteArray} (k : Nat) (hk : k < s.size) (h : itemC s[k] = false) : isItem s.data.toList = false := by
  have hm : s[k] ∈ s.data.toList := by
    have : s[k] = s.data[k]'hk := rfl
    rw [this]; simp
  have ha : s.data.toList.all itemC = false := by
    rw [← Bool.not_eq_true, List.all_eq_true]
    intro hh
    have := hh _ hm
    rw [h] at this
    cases this
  simp [isItem, ha]
theorem isItem_len_no {s : ByteArray} (h : ¬ (1 ≤ s.size ∧ s.size ≤ 8)) : isItem s.data.toList = false := by
  have : decide (1 ≤ s.data.toList.length ∧ s.data.toList.length ≤ 8) = false := decide_eq_false (by simpa using h)
  simp only [isItem, this, Bool.false_and]
theorem isItem_yes {s : ByteArray} (hl : 1 ≤ s.size ∧ s.size ≤ 8) (h : ∀ k (hk : k < s.size), itemC s[k] = true) : isItem s.data.toList = true := by
  have h1 : decide (1 ≤ s.data.toList.length ∧ s.data.toList.length ≤ 8) = true := decide_eq_true (by simpa using hl)
  simp only [isItem, h1, Bool.true_and, List.all_eq_true]
  intro x hx
  obtain ⟨i, hi, rfl⟩ := List.getElem_of_mem hx
  have := h i (by simpa using hi)
  rw [Array.getElem_toList]
  exact this
theorem isItem_size {s : ByteArray} (h : isItem s.data.toList = true) : 1 ≤ s.size ∧ s.size ≤ 8 := by
  simp only [isItem, Bool.and_eq_true] at h
  simpa using of_decide_eq_true h.1

end Go.Proofs.YtgnnfljobgbpbabGreatDoor

namespace Go.Proofs.YtgnnfljobgbpbabGreatDoor
open Go.RowKit

theorem figs_hexF : ∀ d : Fin 16, hexB (figs.getD d.val 0) = true := by decide +kernel
theorem figs_hex (d : Nat) (h : d < 16) : hexB (figs.getD d 0) = true := figs_hexF ⟨d, h⟩
theorem hexOf_hex (x : Nat) : (hexOf x).all hexB = true := by
  simp only [hexOf, List.all_map, List.all_eq_true, Function.comp]
  intro i _
  exact figs_hex _ (Nat.mod_lt _ (by decide))
theorem isSum_sumB (t : List UInt8) : isSum (sumB t) = true := by
  simp only [isSum, sumB, List.all_append, hexOf_hex]
  simp [hexOf]
/-- The first half of a text's sum, as a number of 31 bits. -/
def headOf (t : List UInt8) : Nat := hexN ((sumB t).take 8) / 2
theorem headOf_lt (t : List UInt8) : headOf t < 2147483648 := by
  have h1 : ((sumB t).take 8).all hexB = true := by
    have := isSum_sumB t
    simp only [isSum, Bool.and_eq_true, List.all_eq_true] at this ⊢
    intro x hx
    exact this.2 x (List.mem_of_mem_take hx)
  have h2 := hexN_le _ h1
  have h3 : ((sumB t).take 8).length = 8 := by simp [sumB, hexOf]
  rw [h3] at h2
  unfold headOf
  omega
theorem sumHead_sumB (t : List UInt8) : sumHead (sumB t) = (headOf t : Int) := by
  simp [sumHead, isSum_sumB, headOf]
def filterTo (k it : List UInt8) (below : Int) : Int :=
  if (isSum k && isItem it && decide (1 ≤ below ∧ below ≤ 60000)) = true then (headOf (k ++ 32 :: it) : Int) * below / 2147483648 else -1
theorem filterTo_yes {k it : List UInt8} {below : Int} (h1 : isSum k = true) (h2 : isItem it = true) (h3 : 1 ≤ below ∧ below ≤ 60000) : filterTo k it below = (headOf (k ++ 32 :: it) : Int) * below / 2147483648 := by
  simp [filterTo, h1, h2, h3.1, h3.2]
theorem filterTo_no1 {k it : List UInt8} {below : Int} (h1 : isSum k = false) : filterTo k it below = -1 := by
  simp [filterTo, h1]
theorem filterTo_no2 {k it : List UInt8} {below : Int} (h1 : isItem it = false) : filterTo k it below = -1 := by
  simp [filterTo, h1]
theorem filterTo_no3 {k it : List UInt8} {below : Int} (h1 : ¬ (1 ≤ below ∧ below ≤ 60000)) : filterTo k it below = -1 := by
  have : decide (1 ≤ below ∧ below ≤ 60000) = false := decide_eq_false h1
  simp only [filterTo, this, Bool.and_false]
  rfl
theorem place_lt (h : Nat) (b : Int) (hh : h < 2147483648) (hb : 1 ≤ b ∧ b ≤ 60000) : 0 ≤ (h : Int) * b ∧ (h : Int) * b < 2147483648 * 60000 ∧ 0 ≤ (h : Int) * b / 2147483648 ∧ (h : Int) * b / 2147483648 < b := by
  have h1 : (0 : Int) ≤ (h : Int) * b := Int.mul_nonneg (by omega) (by omega)
  have h2 : (h : Int) * b < 2147483648 * b := Int.mul_lt_mul_of_pos_right (by omega) (by omega)
  refine ⟨h1, by omega, by omega, ?_⟩
  omega

theorem keyItem_bytes (k it : ByteArray) : (k ++ (⟨#[32]⟩ : ByteArray) ++ it).data.toList = k.data.toList ++ 32 :: it.data.toList := by
  simp

end Go.Proofs.YtgnnfljobgbpbabGreatDoor

set_option linter.unusedVariables false
namespace Go.Proofs.YtgnnfljobgbpbabGreatDoor
open Go.RowKit

theorem turn32_eq (x j : Nat) (hx : x < 4294967296) (hj : j ≤ 31) : bits .or .u32 ((x : Int) / 2 ^ j) ((x : Int) * 2 ^ (32 - j) % 4294967296) = ((rotr x j : Nat) : Int) := by
  have e1 : (x : Int) * 2 ^ (32 - j) % 4294967296 = ((x * 2 ^ (32 - j) % 4294967296 : Nat) : Int) := by simp
  have e2 : (x : Int) / 2 ^ j = ((x / 2 ^ j : Nat) : Int) := by simp
  rw [e1, e2, or32 _ _ (Nat.lt_of_le_of_lt (Nat.div_le_self _ _) hx) (Nat.mod_lt _ (by decide))]
  rfl

set_option maxHeartbeats 400000 in
set_option maxRecDepth 100000 in
theorem turnI (x : Nat) (k : Int) (w : World) (hx : x < 4294967296) (hk : 1 ≤ k) (hk' : k ≤ 31) :
    Calls Tryz.prog 132 #[.int .u32 x, .int .u64 k] w fun e w' => e = .returned (.int .u32 (rotr x k.toNat : Nat)) ∧ w = w' := by
  obtain ⟨j, rfl⟩ := Int.eq_ofNat_of_zero_le (show 0 ≤ k by omega)
  go_enter Tryz.func132, Tryz.ntmps132
  go_wp2
  go_ret
  rw [Int.toNat_natCast, ← turn32_eq x j hx (by omega)]
  exact ⟨rfl, rfl⟩

theorem x332 (p q r v : Nat) (hp : p < 4294967296) (hq : q < 4294967296) (hr : r < 4294967296) (hv : v = p ^^^ q ^^^ r) : bits .xor .u32 (bits .xor .u32 (p : Int) (q : Int)) (r : Int) = (v : Int) := by
  rw [xor32 _ _ hp hq, xor32 _ _ (xor_lt hp hq) hr, hv]

set_option maxHeartbeats 400000 in
set_option maxRecDepth 100000 in
theorem firstI (x : Nat) (w : World) (hx : x < 4294967296) :
    Calls Tryz.prog 109 #[.int .u32 x] w fun e w' => e = .returned (.int .u32 (big0 x : Nat)) ∧ w = w' := by
  have r := x332 (rotr x 2) (rotr x 13) (rotr x 22) (big0 x) (rotr_lt _ _ hx) (rotr_lt _ _ hx) (rotr_lt _ _ hx) rfl
  go_enter Tryz.func109, Tryz.ntmps109
  go_wp2_with (go_at_call 132; refine (turnI _ _ _ hx (by omega) (by omega)).mono ?_; rintro e w1 ⟨rfl, rfl⟩)
  go_ret
  exact ⟨rfl, rfl⟩

set_option maxHeartbeats 400000 in
set_option maxRecDepth 100000 in
theorem fifthI (x : Nat) (w : World) (hx : x < 4294967296) :
    Calls Tryz.prog 107 #[.int .u32 x] w fun e w' => e = .returned (.int .u32 (big1 x : Nat)) ∧ w = w' := by
  have r := x332 (rotr x 6) (rotr x 11) (rotr x 25) (big1 x) (rotr_lt _ _ hx) (rotr_lt _ _ hx) (rotr_lt _ _ hx) rfl
  go_enter Tryz.func107, Tryz.ntmps107
  go_wp2_with (go_at_call 132; refine (turnI _ _ _ hx (by omega) (by omega)).mono ?_; rintro e w1 ⟨rfl, rfl⟩)
  go_ret
  exact ⟨rfl, rfl⟩

set_option maxHeartbeats 400000 in
set_option maxRecDepth 100000 in
theorem nearI (x : Nat) (w : World) (hx : x < 4294967296) :
    Calls Tryz.prog 111 #[.int .u32 x] w fun e w' => e = .returned (.int .u32 (sig0 x : Nat)) ∧ w = w' := by
  have r := x332 (rotr x 7) (rotr x 18) (x / 8) (sig0 x) (rotr_lt _ _ hx) (rotr_lt _ _ hx) (by omega) rfl
  rw [show ((x / 8 : Nat) : Int) = (x : Int) / 8 from by simp] at r
  go_enter Tryz.func111, Tryz.ntmps111
  go_wp2_with (go_at_call 132; refine (turnI _ _ _ hx (by omega) (by omega)).mono ?_; rintro e w1 ⟨rfl, rfl⟩)
  go_ret
  exact ⟨rfl, rfl⟩

set_option maxHeartbeats 400000 in
set_option maxRecDepth 100000 in
theorem farI (x : Nat) (w : World) (hx : x < 4294967296) :
    Calls Tryz.prog 112 #[.int .u32 x] w fun e w' => e = .returned (.int .u32 (sig1 x : Nat)) ∧ w = w' := by
  have r := x332 (rotr x 17) (rotr x 19) (x / 1024) (sig1 x) (rotr_lt _ _ hx) (rotr_lt _ _ hx) (by omega) rfl
  rw [show ((x / 1024 : Nat) : Int) = (x : Int) / 1024 from by simp] at r
  go_enter Tryz.func112, Tryz.ntmps112
  go_wp2_with (go_at_call 132; refine (turnI _ _ _ hx (by omega) (by omega)).mono ?_; rintro e w1 ⟨rfl, rfl⟩)
  go_ret
  exact ⟨rfl, rfl⟩

set_option maxHeartbeats 400000 in
set_option maxRecDepth 100000 in
theorem chooseI (e f g : Nat) (w : World) (he : e < 4294967296) (hf : f < 4294967296) (hg : g < 4294967296) :
    Calls Tryz.prog 108 #[.int .u32 e, .int .u32 f, .int .u32 g] w fun r w' => r = .returned (.int .u32 (chs e f g : Nat)) ∧ w = w' := by
  have h1 : bits .xor .u32 IntKind.u32.max (e : Int) = ((4294967295 ^^^ e : Nat) : Int) := by
    have hm : IntKind.u32.max = ((4294967295 : Nat) : Int) := by decide
    rw [hm]
    exact xor32 4294967295 e (by decide) he
  have h2 : 4294967295 ^^^ e < 4294967296 := xor_lt (by decide) he
  have r : bits .xor .u32 (bits .and .u32 (e : Int) (f : Int)) (bits .and .u32 (bits .xor .u32 IntKind.u32.max (e : Int)) (g : Int)) = ((chs e f g : Nat) : Int) := by
    rw [h1, and32 _ _ he hf, and32 _ _ h2 hg, xor32 _ _ (and_lt hf) (and_lt hg)]
    rfl
  clear h1 h2
  go_enter Tryz.func108, Tryz.ntmps108
  go_wp2
  go_ret
  exact ⟨rfl, rfl⟩

set_option maxHeartbeats 400000 in
set_option maxRecDepth 100000 in
theorem mostI (a b c : Nat) (w : World) (ha : a < 4294967296) (hb : b < 4294967296) (hc : c < 4294967296) :
    Calls Tryz.prog 110 #[.int .u32 a, .int .u32 b, .int .u32 c] w fun r w' => r = .returned (.int .u32 (maj a b c : Nat)) ∧ w = w' := by
  have r : bits .xor .u32 (bits .xor .u32 (bits .and .u32 (a : Int) (b : Int)) (bits .and .u32 (a : Int) (c : Int))) (bits .and .u32 (b : Int) (c : Int)) = ((maj a b c : Nat) : Int) := by
    rw [and32 _ _ ha hb, and32 _ _ ha hc, and32 _ _ hb hc]
    exact x332 _ _ _ _ (and_lt hb) (and_lt hc) (and_lt hc) rfl
  go_enter Tryz.func110, Tryz.ntmps110
  go_wp2
  go_ret
  exact ⟨rfl, rfl⟩

end Go.Proofs.YtgnnfljobgbpbabGreatDoor

namespace Go.Proofs.YtgnnfljobgbpbabGreatDoor
open Go.RowKit

/-- A row of bytes of the call's own: none of its places is frozen. -/
def ByteRow (e : TypeId) (base : Nat) (w : World) (v : Value) (l : List UInt8) : Prop :=
  ∃ g cap cur fz, v = .slice (some ⟨g, 0, none⟩) l.length cap ∧ base ≤ g ∧ w.heap[g]? = some (.cells cur e fz) ∧ (fz = (0, 0) ∨ cap ≤ fz.1) ∧ l.length ≤ cap ∧ cap ≤ maxLen ∧ cur.size = cap ∧ cur.toList.take l.length = Lib.byteCells l

theorem ByteRow.cells {e : TypeId} {base : Nat} {w : World} {g n cap : Nat} {l : List UInt8} (h : ByteRow e base w (.slice (some ⟨g, 0, none⟩) n cap) l) (j : Nat) (hj : j < l.length) : w.cell? ⟨g, j, none⟩ = some (.int .u8 (l[j].toNat : Int)) := by
  obtain ⟨g', cap', cur, fz, hv, _, hb, _, _, _, hs, ht⟩ := h
  simp only [Value.slice.injEq, Option.some.injEq, Addr.mk.injEq, and_true] at hv
  obtain ⟨rfl, _, rfl⟩ := hv
  rw [Lib.cell_of_heap hb]
  have : cur.toList[j]? = (Lib.byteCells l)[j]? := by rw [← ht, List.getElem?_take]; simp [hj]
  rw [← Array.getElem?_toList, this]
  simp [Lib.byteCells, List.getElem?_eq_getElem hj]

theorem ByteRow.frozen {e : TypeId} {base : Nat} {w : World} {g n cap : Nat} {l : List UInt8} (h : ByteRow e base w (.slice (some ⟨g, 0, none⟩) n cap) l) (j : Nat) (hj : j < cap) : w.frozen? ⟨g, j, none⟩ = false ∧ (w.cell? ⟨g, j, none⟩).isSome = true := by
  obtain ⟨g', cap', cur, fz, hv, _, hb, hfz, _, _, hs, _⟩ := h
  simp only [Value.slice.injEq, Option.some.injEq, Addr.mk.injEq, and_true] at hv
  obtain ⟨rfl, _, rfl⟩ := hv
  refine ⟨?_, ?_⟩
  · unfold World.frozen?
    rw [hb]
    rcases hfz with rfl | hfz
    · simp
    · obtain ⟨lo, hi⟩ := fz
      simp only [Bool.and_eq_false_iff, decide_eq_false_iff_not]
      left
      simp at hfz
      omega
  · rw [Lib.cell_of_heap hb]
    simp
    omega

theorem ByteRow.keep {e : TypeId} {base B : Nat} {w w' : World} {v : Value} {l : List UInt8} (h : ByteRow e base w v l) (hb : Below B w w') (hlt : ∀ g n cap, v = .slice (some ⟨g, 0, none⟩) n cap → g < B) : ByteRow e base w' v l := by
  obtain ⟨g, cap, cur, fz, hv, h1, h2, h3⟩ := h
  exact ⟨g, cap, cur, fz, hv, h1, by rw [hb.block g (hlt _ _ _ hv)]; exact h2, h3⟩
theorem ByteRow.lt {e : TypeId} {base : Nat} {w : World} {g n cap : Nat} {l : List UInt8} (h : ByteRow e base w (.slice (some ⟨g, 0, none⟩) n cap) l) : base ≤ g ∧ g < w.heap.size := by
  obtain ⟨g', cap', cur, fz, hv, h1, hb, _⟩ := h
  simp only [Value.slice.injEq, Option.some.injEq, Addr.mk.injEq, and_true] at hv
  obtain ⟨rfl, _, rfl⟩ := hv
  refine ⟨h1, ?_⟩
  rcases Nat.lt_or_ge g w.heap.size with h' | h'
  · exact h'
  · simp [Array.getElem?_eq_none h'] at hb

/-- 'append(bs, b)' of one byte. -/
theorem wp_appB {P : Program} {w : World} {ops : Array Oper} {rest : List Oper} {o : Oper} {a : Act} {Q : Exit → Act → World → Prop} (hgd : o.guard = none) (s x : Operand) (t : TypeId)
    (ho : o.op = .call { callee := .builtin .append, args := #[s, x], argTypes := #[t, t] })
    (base : Nat) (e : TypeId) (i : TypeInfo) (ht : P.underlying t = some (.slice e)) (hi : P.info? e = some i) (hz : i.zero = some (.int .u8 0)) (hsize : i.size = 1) (hby : i.bytes = 1)
    (g n cap : Nat) (l : List UInt8) (hn : n = l.length) (hs : a.eval s = .slice (some ⟨g, 0, none⟩) n cap) (hrow : ByteRow e base w (.slice (some ⟨g, 0, none⟩) n cap) l)
    (b : UInt8) (c : Int) (hc : c = (b.toNat : Int)) (hx : a.eval x = .slice (some ⟨w.heap.size, 0, none⟩) 1 1)
    (h63 : n + 1 ≤ 140737488355328) (hbase : base ≤ w.heap.size)
    (h : ∀ g' cap' w', ByteRow e base w' (.slice (some ⟨g', 0, none⟩) (n + 1) cap') (l ++ [b]) → Below base w w' →
      wpList P ops Q rest (a.put o.dst (.slice (some ⟨g', 0, none⟩) (n + 1) cap')) w') :
    wpList P ops Q (o :: rest) a (w.alloc (.cells #[.int .u8 c] e)) := by
  subst hc
  subst hn
  have hlt := hrow.lt
  have hk : (w.alloc (.cells #[.int .u8 (b.toNat : Int)] e)).heap[g]? = w.heap[g]? := Below.heap_alloc _ _ _ hlt.2
  have hrow' : ByteRow e base (w.alloc (.cells #[.int .u8 (b.toNat : Int)] e)) (.slice (some ⟨g, 0, none⟩) l.length cap) l :=
    hrow.keep ((Below.refl w.heap.size w).alloc (Nat.le_refl _) _) (fun g' n' c' hv => by simp only [Value.slice.injEq, Option.some.injEq, Addr.mk.injEq, and_true] at hv; rw [← hv.1]; exact hlt.2)
  refine wpList_append_arg _ hgd s x t ho e i (.int .u8 0) 1 1 ht hi hz hsize hby rfl (by decide) g 0 l.length cap (Lib.byteCells l) hs (by rw [Lib.byteCells_length]; omega) ?_ ⟨w.heap.size, 0, none⟩ 1 1 [.int .u8 (b.toNat : Int)] hx rfl (cell_one_new _ _ _) ?_ ?_ (by unfold maxLen; omega) (by omega) ?_ ?_
  · intro j u hu
    have hj : j < l.length := by have := (List.getElem?_eq_some_iff.1 hu).1; rwa [Lib.byteCells_length] at this
    rw [Nat.zero_add, hrow'.cells j hj]
    simpa [Lib.byteCells, List.getElem?_eq_getElem hj] using hu
  · intro u hu
    simp at hu
    subst hu
    rfl
  · intro hroom j hj
    obtain rfl : j = 0 := by simpa using hj
    have := hrow'.frozen l.length (by omega)
    refine ⟨?_, ?_⟩
    · simpa using this.2
    · simpa using this.1
  · intro hroom
    have hset : (w.alloc (.cells #[.int .u8 (b.toNat : Int)] e)).setCells g (0 + l.length * 1) [.int .u8 (b.toNat : Int)] = (w.alloc (.cells #[.int .u8 (b.toNat : Int)] e)).setCell ⟨g, l.length, none⟩ (.int .u8 (b.toNat : Int)) := by
      simp [World.setCells]
    rw [hset]
    refine h g cap _ ?_ (((Below.refl base w).alloc hbase _).setCell (p := ⟨g, l.length, none⟩) hlt.1 _)
    obtain ⟨g', cap', cur, fz, hv, h1, hb, hfz, hle, hm, hsz, htk⟩ := hrow'
    simp only [Value.slice.injEq, Option.some.injEq, Addr.mk.injEq, and_true] at hv
    obtain ⟨rfl, _, rfl⟩ := hv
    refine ⟨g, cap, cur.setIfInBounds l.length (.int .u8 (b.toNat : Int)), fz, by simp, h1, ?_, hfz, by simp; omega, hm, by simp [hsz], ?_⟩
    · simp only [World.setCell, Array.getElem?_modify, hb]
      simp
    · rw [Lib.byteCells_append, List.length_append]
      show List.take (l.length + 1) _ = _
      rw [Array.toList_setIfInBounds]
      have hlc : l.length < cur.toList.length := by simp; omega
      rw [List.take_succ_eq_append_getElem (by simpa using hlc)]
      rw [List.take_set_of_le (Nat.le_refl _), htk]
      simp [Lib.byteCells]
  · intro hgrow v' w' hown hg
    obtain ⟨g', cap', cur, rfl, h1, hb, hle, hm, hsz, htk⟩ : ∃ g' cap' cur, v' = .slice (some ⟨g', 0, none⟩) (l.length + 1) cap' ∧ (w.alloc (.cells #[.int .u8 (b.toNat : Int)] e)).heap.size ≤ g' ∧ w'.heap[g']? = some (.cells cur e (0, 0)) ∧ l.length + 1 ≤ cap' ∧ cap' ≤ maxLen ∧ cur.size = cap' * 1 ∧ cur.toList.take ((l.length + 1) * 1) = Lib.byteCells l ++ [.int .u8 (b.toNat : Int)] := by
      rcases hown.2 with ⟨_, h0⟩ | ⟨g', cap', cur, hv, r⟩
      · omega
      · exact ⟨g', cap', cur, hv, r⟩
    refine h g' cap' w' ⟨g', cap', cur, (0, 0), by simp, by simp at h1; omega, hb, Or.inl rfl, by simp; omega, hm, by omega, ?_⟩ (((Below.refl base w).alloc hbase _).grown hg (by simp; omega) (fun k hk => by simp at hk))
    rw [Lib.byteCells_append, List.length_append]
    simpa [Lib.byteCells] using htk

end Go.Proofs.YtgnnfljobgbpbabGreatDoor

