/-
  Texts that the last part needs, joined.
-/
import Derived.Test.YtkajpkfhedfmaaaGreatDoorPart1
import Derived.Test.YtkajpkfhedfmaaaGreatDoorPart2
import Derived.Test.YtkajpkfhedfmaaaGreatDoorProg
import Derived.WalkKit
import Derived.WalkSpells
import Derived.Below
import Derived.Shelf.Strconv.Itoa3
import Derived.Lib.Builder
import Derived.Deep.RegionWith
import Derived.ChangeArms
import Derived.WideShapes
import Derived.OpenShut
import Derived.ProofKit
import Derived.ChangeOld
import Derived.ShutString
import Derived.Deep.Slices
import Derived.DataReads
import Derived.BigRegion
import Derived.Deep.OwnRows
import Derived.Laws.Rows
import Derived.BigQuiet
import Derived.Deep.QuietTactic
import Derived.Laws.BitsLemmas
import Derived.Deep.AppendLies
import Derived.Deep.RegionHeld3
set_option linter.unusedVariables false
namespace Go.Proofs.YtkajpkfhedfmaaaGreatDoor
open Go.RowKit

theorem convOne (W : World) (g d : Nat) (hd : d < 256) (h : W.cell? ⟨g, 0, none⟩ = some (.int .u8 (d : Int))) : (convert 22 9 (.slice (some ⟨g, 0, none⟩) 1 1)).run Tryz.prog W = .ok (.string ⟨#[UInt8.ofNat d]⟩) W := by
  refine run_convert_bytes_back (P := Tryz.prog) _ 22 9 5 ⟨g, 0, none⟩ 1 [UInt8.ofNat d] Tryz.underlying22 Tryz.underlying5 Tryz.underlying9 ?_
  intro j hj
  obtain rfl : j = 0 := by simpa using hj
  have e : ([UInt8.ofNat d][0].toNat : Int) = (d : Int) := by simp [Nat.mod_eq_of_lt hd]
  have e2 : (⟨g, 0, none⟩ : Addr).add 0 = ⟨g, 0, none⟩ := rfl
  rw [e2, h]
  first | rw [e] | simp [Nat.mod_eq_of_lt hd]
theorem nDig_le : ∀ (k u : Nat), u < 10 ^ (k + 1) → Lib.nDigits u ≤ k + 1
  | 0, u, h => by rw [Lib.nDigits_small (by omega)]; omega
  | k + 1, u, h => by
    by_cases h1 : u < 10
    · rw [Lib.nDigits_small h1]; omega
    · rw [Lib.nDigits_big h1]
      have := nDig_le k (u / 10) (by rw [Nat.pow_succ] at h; omega)
      omega
theorem decLen {n : Nat} (h : n ≤ 1000000000000000000) : (Lib.decDigits n).length ≤ 19 := by
  rw [Lib.decDigits_length]
  exact nDig_le 18 n (by omega)
theorem cellOne (w : World) (v : Value) : (w.alloc (.cells #[v] 5)).cell? ⟨w.heap.size, 0, none⟩ = some v := by
  rw [Lib.cell_of_heap (heap_alloc_new _ _)]
  rfl

set_option maxHeartbeats 1000000 in
set_option maxRecDepth 100000 in
theorem specDec1 (n : Nat) (w : World) (hn : n < 10) :
    Calls Tryz.prog 155 #[.int .i64 (n : Int)] w fun e w' => e = .returned (.string ⟨(Lib.decDigits n).toArray⟩) ∧ Below w.heap.size w w' := by
  have l1 : ¬ (n : Int) < -9223372036854775807 := by omega
  have l2 : ¬ (n : Int) < 0 := by omega
  have l3 : (n : Int) < 10 := by omega
  have hcv := convOne _ w.heap.size (48 + n) (by omega) (cellOne w _)
  have e : ((48 + n : Nat) : Int) = 48 + (n : Int) := by omega
  rw [e] at hcv
  rw [Lib.decDigits_one hn]
  go_enter Tryz.func155, Tryz.ntmps155
  go_wp2
  go_ret
  exact ⟨rfl, (Below.refl _ w).alloc (Nat.le_refl _) _⟩

set_option maxHeartbeats 1000000 in
set_option maxRecDepth 100000 in
theorem specDec (n : Nat) : ∀ (w : World), n ≤ 1000000000000000000 →
    Calls Tryz.prog 155 #[.int .i64 (n : Int)] w fun e w' => e = .returned (.string ⟨(Lib.decDigits n).toArray⟩) ∧ Below w.heap.size w w' := by
  induction n using Nat.strongRecOn with
  | ind n ih =>
    intro w hn
    by_cases h10 : n < 10
    · exact specDec1 n w h10
    · have l1 : ¬ (n : Int) < -9223372036854775807 := by omega
      have l2 : ¬ (n : Int) < 0 := by omega
      have l3 : ¬ (n : Int) < 10 := by omega
      have hr := fun w' => ih (n / 10) (by omega) w' (by omega)
      have e1 : (n : Int).tdiv 10 = ((n / 10 : Nat) : Int) := by rw [Int.tdiv_eq_ediv_of_nonneg (by omega)]; omega
      have e3 : (n : Int) / 10 = ((n / 10 : Nat) : Int) := by omega
      have e4 : (n : Int) % 10 = ((n % 10 : Nat) : Int) := by omega
      have e2 : (n : Int).tmod 10 = ((n % 10 : Nat) : Int) := by rw [Int.tmod_eq_emod_of_nonneg (by omega)]; omega
      have hd : Lib.decDigits n = Lib.decDigits (n / 10) ++ [UInt8.ofNat (48 + n % 10)] := by rw [Lib.decDigits, dif_neg h10]
      have hcv := fun W g (h : W.cell? ⟨g, 0, none⟩ = some (.int .u8 (48 + ((n % 10 : Nat) : Int)))) => convOne W g (48 + n % 10) (by omega) h
      have hlen : (Lib.decDigits (n / 10)).length ≤ 1000 := by
        rw [Lib.decDigits_length]
        have := nDig_le 18 (n / 10) (by omega)
        omega
      rw [hd]
      have lm : ((n % 10 : Nat) : Int) < 10 := by omega
      have lm0 : (0 : Int) ≤ ((n % 10 : Nat) : Int) := by omega
      generalize n / 10 = q at hr e1 e3 hd hlen
      generalize n % 10 = r at hcv e2 e4 hd lm lm0
      generalize Lib.decDigits q = dq at hr hd hlen
      have hwq : IntKind.i64.wrap (q : Int) = (q : Int) := by rw [IntKind.wrap_i64]; omega
      have hw48 : IntKind.i64.wrap (48 + (r : Int)) = 48 + (r : Int) := by rw [IntKind.wrap_i64]; omega
      have hw8 : IntKind.u8.wrap (48 + (r : Int)) = 48 + (r : Int) := by rw [IntKind.wrap_u8]; omega
      generalize UInt8.ofNat (48 + r) = u at hcv hd ⊢
      clear hd ih
      go_enter Tryz.func155, Tryz.ntmps155
      go_wp2_with fail
      go_region_with (go_at_call 155; refine (hr _).mono ?_; rintro e w1 ⟨rfl, b1⟩; try (have q1 := (b1.cell (p := ⟨w.heap.size, 0, none⟩) (by simp)).trans (cellOne w _)))
      all_goals
        go_wp2_with fail
        go_ret
        have HEQ : Hid ((⟨dq.toArray⟩ ++ ⟨#[u]⟩ : ByteArray) = ⟨(dq ++ [u]).toArray⟩) := by
          show _ = _
          apply ByteArray.ext
          simp
        refine ⟨?_, ?_⟩
        · rw [← HEQ.out]
          rfl
        · first
            | exact (((Below.refl w.heap.size w).drew).trans b1).alloc b1.size _
            | exact (((Below.refl w.heap.size w).alloc (Nat.le_refl _) _).drew).trans (b1.mono (by simp))

end Go.Proofs.YtkajpkfhedfmaaaGreatDoor

set_option linter.unusedVariables false
namespace Go.Proofs.YtkajpkfhedfmaaaGreatDoor
open Go.RowKit

structure HeadV where
  prev : ByteArray
  root : ByteArray
  time : Int
  diff : Int
  nonce : Int
instance : Inhabited HeadV := ⟨⟨⟨#[]⟩, ⟨#[]⟩, 0, 0, 0⟩⟩
def headOkB (h : HeadV) : Bool := isSum h.prev.data.toList && (isSum h.root.data.toList && (decide (0 ≤ h.time ∧ h.time ≤ 99999) && (decide (1 ≤ h.diff ∧ h.diff ≤ 8) && decide (0 ≤ h.nonce ∧ h.nonce ≤ 400))))
/-- The five texts of a head. -/
def headL (h : HeadV) : List ByteArray := [h.prev, h.root, ⟨(Lib.decDigits h.time.toNat).toArray⟩, ⟨(Lib.decDigits h.diff.toNat).toArray⟩, ⟨(Lib.decDigits h.nonce.toNat).toArray⟩]
def headT (h : HeadV) : List UInt8 := joinTo (headL h) [32] 4
def headPut (h : HeadV) : List UInt8 := if headOkB h = true then headT h else []
theorem headOk_in {h : HeadV} (hh : headOkB h = true) : isSum h.prev.data.toList = true ∧ isSum h.root.data.toList = true ∧ (0 ≤ h.time ∧ h.time ≤ 99999) ∧ (1 ≤ h.diff ∧ h.diff ≤ 8) ∧ 0 ≤ h.nonce ∧ h.nonce ≤ 400 := by
  simp only [headOkB, Bool.and_eq_true, decide_eq_true_eq] at hh
  exact hh

set_option maxHeartbeats 2000000 in
set_option maxRecDepth 100000 in
theorem implHeadOk (h : HeadV) (w : World) :
    Calls Tryz.prog 60 #[.agg #[.string h.prev, .string h.root, .int .i64 h.time, .int .i64 h.diff, .int .i64 h.nonce]] w fun e w' => e = .returned (.bool (headOkB h)) ∧ Below w.heap.size w w' := by
  have hb : ∀ o, Below w.heap.size w (w.alloc o) := fun o => (Below.refl _ w).alloc (Nat.le_refl _) o
  by_cases h1 : isSum h.prev.data.toList = false
  · have e : headOkB h = false := by simp [headOkB, h1]
    rw [e]
    clear e
    go_enter Tryz.func60, Tryz.ntmps60
    go_wp2_with (go_at_call 90; refine (implSumOk _ _).mono ?_; rintro e w1 ⟨rfl, rfl⟩)
    go_ret
    exact ⟨rfl, hb _⟩
  have k1 : isSum h.prev.data.toList = true := by simpa using h1
  clear h1
  by_cases h2 : isSum h.root.data.toList = false
  · have e : headOkB h = false := by simp [headOkB, h2]
    rw [e]
    clear e
    go_enter Tryz.func60, Tryz.ntmps60
    go_wp2_with (go_at_call 90; refine (implSumOk _ _).mono ?_; rintro e w1 ⟨rfl, rfl⟩)
    go_ret
    exact ⟨rfl, hb _⟩
  have k2 : isSum h.root.data.toList = true := by simpa using h2
  clear h2
  by_cases h3 : h.time < 0
  · have e : headOkB h = false := by
      cases hh : headOkB h with
      | false => rfl
      | true => have := headOk_in hh; omega
    rw [e]
    clear e
    go_enter Tryz.func60, Tryz.ntmps60
    go_wp2_with (go_at_call 90; refine (implSumOk _ _).mono ?_; rintro e w1 ⟨rfl, rfl⟩)
    go_ret
    exact ⟨rfl, hb _⟩
  by_cases h4 : 99999 < h.time
  · have e : headOkB h = false := by
      cases hh : headOkB h with
      | false => rfl
      | true => have := headOk_in hh; omega
    rw [e]
    clear e
    go_enter Tryz.func60, Tryz.ntmps60
    go_wp2_with (go_at_call 90; refine (implSumOk _ _).mono ?_; rintro e w1 ⟨rfl, rfl⟩)
    go_ret
    exact ⟨rfl, hb _⟩
  by_cases h5 : h.diff < 1
  · have e : headOkB h = false := by
      cases hh : headOkB h with
      | false => rfl
      | true => have := headOk_in hh; omega
    rw [e]
    clear e
    go_enter Tryz.func60, Tryz.ntmps60
    go_wp2_with (go_at_call 90; refine (implSumOk _ _).mono ?_; rintro e w1 ⟨rfl, rfl⟩)
    go_ret
    exact ⟨rfl, hb _⟩
  by_cases h6 : 8 < h.diff
  · have e : headOkB h = false := by
      cases hh : headOkB h with
      | false => rfl
      | true => have := headOk_in hh; omega
    rw [e]
    clear e
    go_enter Tryz.func60, Tryz.ntmps60
    go_wp2_with (go_at_call 90; refine (implSumOk _ _).mono ?_; rintro e w1 ⟨rfl, rfl⟩)
    go_ret
    exact ⟨rfl, hb _⟩
  by_cases h7 : h.nonce < 0
  · have e : headOkB h = false := by
      cases hh : headOkB h with
      | false => rfl
      | true => have := headOk_in hh; omega
    rw [e]
    clear e
    go_enter Tryz.func60, Tryz.ntmps60
    go_wp2_with (go_at_call 90; refine (implSumOk _ _).mono ?_; rintro e w1 ⟨rfl, rfl⟩)
    go_ret
    exact ⟨rfl, hb _⟩
  have e : headOkB h = decide (h.nonce ≤ 400) := by
    rw [headOkB, k1, k2, Bool.true_and, Bool.true_and, Bool.eq_iff_iff]
    simp
    omega
  rw [e]
  clear e
  go_enter Tryz.func60, Tryz.ntmps60
  go_wp2_with (go_at_call 90; refine (implSumOk _ _).mono ?_; rintro e w1 ⟨rfl, rfl⟩)
  go_ret
  exact ⟨rfl, hb _⟩

set_option maxHeartbeats 2000000 in
set_option maxRecDepth 100000 in
theorem specL3Ok (h : HeadV) (w : World) (hp : h.prev.size ≤ maxLen) (hr : h.root.size ≤ maxLen) :
    Calls Tryz.prog 77 #[.agg #[.string h.prev, .string h.root, .int .i64 h.time, .int .i64 h.diff, .int .i64 h.nonce]] w fun e w' => e = .returned (.bool (headOkB h)) ∧ Below w.heap.size w w' := by
  have hb : ∀ o, Below w.heap.size w (w.alloc o) := fun o => (Below.refl _ w).alloc (Nat.le_refl _) o
  by_cases h1 : isSum h.prev.data.toList = false
  · have e : headOkB h = false := by simp [headOkB, h1]
    rw [e]
    clear e
    go_enter Tryz.func77, Tryz.ntmps77
    go_wp2_with (first | (go_at_call_of 110 (Value.string h.prev); refine (specIsSum _ _ hp).mono ?_; rintro e w1 ⟨rfl, rfl⟩) | (go_at_call_of 110 (Value.string h.root); refine (specIsSum _ _ hr).mono ?_; rintro e w1 ⟨rfl, rfl⟩) | (go_at_call 111; refine (specIn _ _ _ _).mono ?_; rintro e w1 ⟨rfl, rfl⟩))
    go_ret
    exact ⟨rfl, hb _⟩
  have k1 : isSum h.prev.data.toList = true := by simpa using h1
  clear h1
  by_cases h2 : isSum h.root.data.toList = false
  · have e : headOkB h = false := by simp [headOkB, h2]
    rw [e]
    clear e
    go_enter Tryz.func77, Tryz.ntmps77
    go_wp2_with (first | (go_at_call_of 110 (Value.string h.prev); refine (specIsSum _ _ hp).mono ?_; rintro e w1 ⟨rfl, rfl⟩) | (go_at_call_of 110 (Value.string h.root); refine (specIsSum _ _ hr).mono ?_; rintro e w1 ⟨rfl, rfl⟩) | (go_at_call 111; refine (specIn _ _ _ _).mono ?_; rintro e w1 ⟨rfl, rfl⟩))
    go_ret
    exact ⟨rfl, hb _⟩
  have k2 : isSum h.root.data.toList = true := by simpa using h2
  clear h2
  by_cases h3 : ¬ (0 ≤ h.time ∧ h.time ≤ 99999)
  · have e : headOkB h = false := by
      cases hh : headOkB h with
      | false => rfl
      | true => have := headOk_in hh; omega
    have i3 := inB_no h3
    rw [e]
    clear e
    go_enter Tryz.func77, Tryz.ntmps77
    go_wp2_with (first | (go_at_call_of 110 (Value.string h.prev); refine (specIsSum _ _ hp).mono ?_; rintro e w1 ⟨rfl, rfl⟩) | (go_at_call_of 110 (Value.string h.root); refine (specIsSum _ _ hr).mono ?_; rintro e w1 ⟨rfl, rfl⟩) | (go_at_call 111; refine (specIn _ _ _ _).mono ?_; rintro e w1 ⟨rfl, rfl⟩))
    go_ret
    exact ⟨rfl, hb _⟩
  have i3 := inB_yes (by simpa using h3 : 0 ≤ h.time ∧ h.time ≤ 99999)
  by_cases h4 : ¬ (1 ≤ h.diff ∧ h.diff ≤ 8)
  · have e : headOkB h = false := by
      cases hh : headOkB h with
      | false => rfl
      | true => have := headOk_in hh; omega
    have i4 := inB_no h4
    rw [e]
    clear e
    go_enter Tryz.func77, Tryz.ntmps77
    go_wp2_with (first | (go_at_call_of 110 (Value.string h.prev); refine (specIsSum _ _ hp).mono ?_; rintro e w1 ⟨rfl, rfl⟩) | (go_at_call_of 110 (Value.string h.root); refine (specIsSum _ _ hr).mono ?_; rintro e w1 ⟨rfl, rfl⟩) | (go_at_call 111; refine (specIn _ _ _ _).mono ?_; rintro e w1 ⟨rfl, rfl⟩))
    go_ret
    exact ⟨rfl, hb _⟩
  have i4 := inB_yes (by simpa using h4 : 1 ≤ h.diff ∧ h.diff ≤ 8)
  by_cases h5 : ¬ (0 ≤ h.nonce ∧ h.nonce ≤ 400)
  · have e : headOkB h = false := by
      cases hh : headOkB h with
      | false => rfl
      | true => have := headOk_in hh; omega
    have i5 := inB_no h5
    rw [e]
    clear e
    go_enter Tryz.func77, Tryz.ntmps77
    go_wp2_with (first | (go_at_call_of 110 (Value.string h.prev); refine (specIsSum _ _ hp).mono ?_; rintro e w1 ⟨rfl, rfl⟩) | (go_at_call_of 110 (Value.string h.root); refine (specIsSum _ _ hr).mono ?_; rintro e w1 ⟨rfl, rfl⟩) | (go_at_call 111; refine (specIn _ _ _ _).mono ?_; rintro e w1 ⟨rfl, rfl⟩))
    go_ret
    exact ⟨rfl, hb _⟩
  have i5 := inB_yes (by simpa using h5 : 0 ≤ h.nonce ∧ h.nonce ≤ 400)
  have e : headOkB h = true := by
    rw [headOkB, k1, k2]
    simp
    omega
  rw [e]
  clear e
  go_enter Tryz.func77, Tryz.ntmps77
  go_wp2_with (first | (go_at_call_of 110 (Value.string h.prev); refine (specIsSum _ _ hp).mono ?_; rintro e w1 ⟨rfl, rfl⟩) | (go_at_call_of 110 (Value.string h.root); refine (specIsSum _ _ hr).mono ?_; rintro e w1 ⟨rfl, rfl⟩) | (go_at_call 111; refine (specIn _ _ _ _).mono ?_; rintro e w1 ⟨rfl, rfl⟩))
  go_ret
  exact ⟨rfl, hb _⟩

end Go.Proofs.YtkajpkfhedfmaaaGreatDoor

set_option linter.unusedVariables false
namespace Go.Proofs.YtkajpkfhedfmaaaGreatDoor
open Go.ChangeShapes Go.WideShapes Go.ChangeAt Go.RowKit

def headVal (h : HeadV) : Value := .agg #[.string h.prev, .string h.root, .int .i64 h.time, .int .i64 h.diff, .int .i64 h.nonce]
structure HeadWf (h : HeadV) : Prop where
  p : h.prev.size ≤ maxLen
  r : h.root.size ≤ maxLen
  t : (Lit.int .i64 h.time).wf = true
  d : (Lit.int .i64 h.diff).wf = true
  n : (Lit.int .i64 h.nonce).wf = true
theorem five_of_parts {cs : Array Value} {a b c d e : Value} (hl : cs.toList.length = 5) (h0 : (cs.toList.drop 0).take 1 = [a]) (h1 : (cs.toList.drop 1).take 1 = [b]) (h2 : (cs.toList.drop 2).take 1 = [c]) (h3 : (cs.toList.drop 3).take 1 = [d]) (h4 : (cs.toList.drop 4).take 1 = [e]) : cs = #[a, b, c, d, e] := by
  obtain ⟨l⟩ := cs
  match l, hl with
  | [x0, x1, x2, x3, x4], _ =>
    simp at h0 h1 h2 h3 h4
    subst h0 h1 h2 h3 h4
    rfl
theorem cellsStr : Tryz.prog.cellsOf 9 = 1 := by kernel_rfl
theorem cellsInt : Tryz.prog.cellsOf 3 = 1 := by kernel_rfl
theorem alloc3_midH (w : World) (o1 o2 o3 : Obj) : (((w.alloc o1).alloc o2).alloc o3).heap[w.heap.size + 1]? = some o2 := by
  have e : w.heap.size + 1 = (w.alloc o1).heap.size := by simp
  rw [e, Below.heap_alloc _ _ _ (by simp)]
  exact heap_alloc_new _ _

end Go.Proofs.YtkajpkfhedfmaaaGreatDoor

set_option linter.unusedVariables false
namespace Go.Proofs.YtkajpkfhedfmaaaGreatDoor
open Go.RowKit Go.Deep

section
variable {α : Type} [Inhabited α]
/-- A slice of elements of k cells each. -/
def IsFlat (en : α → List Value) (wf : α → Prop) (k : Nat) (w : World) (a : Option Addr) (len cap : Nat) (l : List α) : Prop :=
  (a = none ∧ len = 0 ∧ cap = 0 ∧ l = []) ∨ ∃ x : Addr, a = some x ∧ len ≤ cap ∧ cap ≤ maxLen ∧ l.length = len ∧ (∀ i j, i < len → j < k → w.cell? ((x.add (i * k)).add j) = (en (l.getD i default))[j]?) ∧ ∀ i, i < len → wf (l.getD i default)
theorem IsFlat.len {en : α → List Value} {wf : α → Prop} {k : Nat} {w : World} {a : Option Addr} {len cap : Nat} {l : List α} (h : IsFlat en wf k w a len cap l) : l.length = len := by
  rcases h with ⟨_, h1, _, h2⟩ | ⟨x, _, _, _, h1, _⟩
  · rw [h1, h2]; rfl
  · exact h1
theorem IsFlat.max {en : α → List Value} {wf : α → Prop} {k : Nat} {w : World} {a : Option Addr} {len cap : Nat} {l : List α} (h : IsFlat en wf k w a len cap l) : len ≤ maxLen := by
  rcases h with ⟨_, h1, _, h2⟩ | ⟨x, _, h1, h2, _⟩
  · omega
  · omega
theorem cell_lt {w : World} {x : Addr} {v : Value} (h : w.cell? x = some v) : x.block < w.heap.size := by
  rcases Nat.lt_or_ge x.block w.heap.size with h' | h'
  · exact h'
  · exfalso
    unfold World.cell? at h
    simp [Array.getElem?_eq_none h'] at h
theorem add_block (x : Addr) (n : Nat) : (x.add n).block = x.block := by unfold Addr.add; split <;> rfl
theorem IsFlat.at {en : α → List Value} {wf : α → Prop} {k : Nat} (hk : ∀ a, (en a).length = k) {w w' : World} {a : Option Addr} {len cap : Nat} {l : List α} (h : IsFlat en wf k w a len cap l) (hb : Below w.heap.size w w') (i : Nat) (hi : i < len) :
    ∃ x : Addr, a = some x ∧ (∀ j, j < k → w'.cell? ((x.add (i * k)).add j) = (en (l.getD i default))[j]?) ∧ wf (l.getD i default) := by
  rcases h with ⟨_, h1, _, _⟩ | ⟨x, hx, _, _, _, h2, h3⟩
  · omega
  · refine ⟨x, hx, fun j hj => ?_, h3 i hi⟩
    have := h2 i j hi hj
    rw [← this]
    have hs : ∃ v, w.cell? ((x.add (i * k)).add j) = some v := by
      rw [this]
      exact ⟨_, List.getElem?_eq_getElem (by rw [hk]; exact hj)⟩
    obtain ⟨v, hv⟩ := hs
    exact hb.cell (cell_lt hv)
theorem open_flat {P : Program} {H : Type} {enc : TypeId × Value → H} {W : World} {base : Nat} {sp : Nat → Bool} {held : Bool} {t e : TypeId} {k : Nat} {a : Option Addr} {len cap : Nat} {d : DataW H} {p : List MemPlace}
    (en : α → List Value) (wf : α → Prop) (ht : P.underlying t = some (.slice e)) (hk : P.cellsOf e = k)
    (inv : ∀ n cs y, DataW.trod enc P W base sp held n e cs = some y → cs.length = k → ∃ v : α, cs = en v ∧ wf v)
    (h : DataW.Trod enc P W base sp held t (.slice a len cap) d p) : ∃ l : List α, IsFlat en wf k W a len cap l := by
  obtain ⟨fuel, hf⟩ := h
  rcases open_slice ht hf with ⟨hcs, _⟩ | ⟨x, l, c, m, n, D, Pl, hcs, _, hl, hm, hmm, _, hel⟩
  · simp [Value.cells] at hcs
    obtain ⟨rfl, rfl, rfl⟩ := hcs
    exact ⟨[], .inl ⟨rfl, rfl, rfl, rfl⟩⟩
  · simp [Value.cells] at hcs
    obtain ⟨rfl, rfl, rfl⟩ := hcs
    have hlm : len ≤ m := by rw [hmm]; split <;> omega
    have each : ∀ i : Nat, ∃ v : α, i < len → (∀ j, j < k → W.cell? ((x.add (i * k)).add j) = (en v)[j]?) ∧ wf v := by
      intro i
      by_cases hi : i < len
      · obtain ⟨cs', h1, h2⟩ := hel i (by omega)
        rw [hk] at h1
        obtain ⟨_, h3, h4⟩ := World.cells?_some h1
        obtain ⟨v, rfl, hv⟩ := inv _ _ _ h2 h3
        exact ⟨v, fun _ => ⟨h4, hv⟩⟩
      · exact ⟨default, fun h => absurd h hi⟩
    obtain ⟨f, hf⟩ := Classical.axiomOfChoice each
    have hg : ∀ i, i < len → ((List.range len).map f).getD i default = f i := by
      intro i hi
      simp [List.getD_eq_getElem?_getD, hi]
    refine ⟨(List.range len).map f, .inr ⟨x, rfl, hl, hm, by simp, fun i j hi hj => ?_, fun i hi => ?_⟩⟩
    · rw [hg i hi]
      exact (hf i hi).1 j hj
    · rw [hg i hi]
      exact (hf i hi).2
end

end Go.Proofs.YtkajpkfhedfmaaaGreatDoor

set_option linter.unusedVariables false
namespace Go.Proofs.YtkajpkfhedfmaaaGreatDoor
open Go.ChangeShapes Go.WideShapes Go.ChangeAt Go.RowKit Go.Deep

def enHead (p : HeadV) : List Value := [.string p.prev, .string p.root, .int .i64 p.time, .int .i64 p.diff, .int .i64 p.nonce]
theorem enHead_len (p : HeadV) : (enHead p).length = 5 := rfl
/-- Its texts can be held. -/
def wfHead (p : HeadV) : Prop := p.prev.size ≤ maxLen ∧ p.root.size ≤ maxLen
/-- Its texts are small. -/
def smallHead (p : HeadV) : Prop := p.prev.size ≤ 1048576 ∧ p.root.size ≤ 1048576
abbrev IsHeads (w : World) (a : Option Addr) (len cap : Nat) (l : List HeadV) : Prop := IsFlat enHead wfHead 5 w a len cap l
abbrev RowHead (w : World) (g : Nat) (l : List HeadV) : Prop := RowF enHead 36 w g l
abbrev AtHead (w : World) (g : Nat) (l : List HeadV) : Prop := AtF enHead 5 w g l
theorem AtHead.c0 {w : World} {g : Nat} {l : List HeadV} (h : AtHead w g l) (i : Nat) (hi : i < l.length) : w.cell? ⟨g, i * 5, none⟩ = some (.string (l.getD i default).prev) := h.2 i 0 hi (by decide)
theorem AtHead.c1 {w : World} {g : Nat} {l : List HeadV} (h : AtHead w g l) (i : Nat) (hi : i < l.length) : w.cell? ⟨g, i * 5 + 1, none⟩ = some (.string (l.getD i default).root) := h.2 i 1 hi (by decide)
theorem AtHead.c2 {w : World} {g : Nat} {l : List HeadV} (h : AtHead w g l) (i : Nat) (hi : i < l.length) : w.cell? ⟨g, i * 5 + 2, none⟩ = some (.int .i64 (l.getD i default).time) := h.2 i 2 hi (by decide)
theorem AtHead.c3 {w : World} {g : Nat} {l : List HeadV} (h : AtHead w g l) (i : Nat) (hi : i < l.length) : w.cell? ⟨g, i * 5 + 3, none⟩ = some (.int .i64 (l.getD i default).diff) := h.2 i 3 hi (by decide)
theorem AtHead.c4 {w : World} {g : Nat} {l : List HeadV} (h : AtHead w g l) (i : Nat) (hi : i < l.length) : w.cell? ⟨g, i * 5 + 4, none⟩ = some (.int .i64 (l.getD i default).nonce) := h.2 i 4 hi (by decide)
theorem cellsHead {w : World} {x : Addr} {p : HeadV} (h : ∀ j, j < 5 → w.cell? (x.add j) = (enHead p)[j]?) : w.cell? x = some (.string p.prev) ∧ w.cell? ⟨x.block, x.off + 1, none⟩ = some (.string p.root) ∧ w.cell? ⟨x.block, x.off + 2, none⟩ = some (.int .i64 p.time) ∧ w.cell? ⟨x.block, x.off + 3, none⟩ = some (.int .i64 p.diff) ∧ w.cell? ⟨x.block, x.off + 4, none⟩ = some (.int .i64 p.nonce) := by
  exact ⟨h 0 (by decide), h 1 (by decide), h 2 (by decide), h 3 (by decide), h 4 (by decide)⟩
theorem partsHead {cs : List Value} {a0 a1 a2 a3 a4 : Value} (hl : cs.length = 5) (h0 : (cs.drop 0).take 1 = [a0]) (h1 : (cs.drop 1).take 1 = [a1]) (h2 : (cs.drop 2).take 1 = [a2]) (h3 : (cs.drop 3).take 1 = [a3]) (h4 : (cs.drop 4).take 1 = [a4]) : cs = [a0, a1, a2, a3, a4] := by
  match cs, hl with
  | [x0, x1, x2, x3, x4], _ =>
    simp at h0 h1 h2 h3 h4
    subst h0 h1 h2 h3 h4
    rfl
theorem oneHead_i : Tryz.prog.cellsOf 3 = 1 := by kernel_rfl
theorem oneHead_s : Tryz.prog.cellsOf 9 = 1 := by kernel_rfl
theorem infoHead : (Tryz.prog.info? 36).map (fun i => (i.zero, i.size, i.bytes)) = some (some (.agg #[.string ⟨#[]⟩, .string ⟨#[]⟩, .int .i64 0, .int .i64 0, .int .i64 0]), 5, 56) := by kernel_rfl
def zeroHead : HeadV := ⟨⟨#[]⟩, ⟨#[]⟩, 0, 0, 0⟩
theorem makeHead (n : Nat) (hn : n ≤ 1099511627776) (w : World) : (Instr.makeSlice 33 (.int .i64 (n : Int)) (.int .i64 (n : Int))).run Tryz.prog w = .ok (.slice (some ⟨w.heap.size, 0, none⟩) n n) (w.alloc (.cells ((List.replicate n zeroHead).flatMap enHead).toArray 36)) := by
  obtain ⟨i, hi, hz, hs, hb⟩ := info_parts infoHead
  have hb' : (i.bytes : Int) * (n : Int) ≤ 281474976710656 := by rw [hb]; omega
  have hr := run_make (P := Tryz.prog) w 33 36 i _ Tryz.underlying33 hi hz .i64 .i64 (n : Int) (n : Int) (by omega) (by omega) hb' (by omega)
  simp only [Int.toNat_natCast, hs, Value.cells] at hr
  rw [← made_flat 5 enHead enHead_len (by decide) zeroHead n]
  exact hr
theorem RowHead.put {w : World} {g : Nat} {l : List HeadV} (h : RowHead w g l) (i : Nat) (hi : i < l.length) (p : HeadV) :
    RowHead (((((w.setCell ⟨g, i * 5, none⟩ (.string p.prev)).setCell ⟨g, i * 5 + 1, none⟩ (.string p.root)).setCell ⟨g, i * 5 + 2, none⟩ (.int .i64 p.time)).setCell ⟨g, i * 5 + 3, none⟩ (.int .i64 p.diff)).setCell ⟨g, i * 5 + 4, none⟩ (.int .i64 p.nonce)) g (l.set i p) := by
  show _ = _
  rw [← flat_put 5 enHead enHead_len l i p hi]
  exact (rowSet (rowSet (rowSet (rowSet (rowSet h _) _) _) _) _)

end Go.Proofs.YtkajpkfhedfmaaaGreatDoor

set_option linter.unusedVariables false
namespace Go.Proofs.YtkajpkfhedfmaaaGreatDoor
open Go.RowKit

/-- A slice of integers that came in: it is nil; or it leads to a row of cells, the numbers zs. -/
def IsRow (k : IntKind) (w : World) (a : Option Addr) (len cap : Nat) (zs : List Int) : Prop :=
  (a = none ∧ len = 0 ∧ cap = 0 ∧ zs = []) ∨
  ∃ x, a = some x ∧ len ≤ cap ∧ cap ≤ maxLen ∧ zs.length = cap ∧ (∀ i, i < zs.length → w.cell? (x.add i) = some (.int k (zs.getD i 0))) ∧ ∀ n ∈ zs, (Lit.int k n).wf = true

theorem xor_nat (X Y : Int) (hX : 0 ≤ X) (hX' : X < 4611686018427387904) (hY : 0 ≤ Y) (hY' : Y < 4611686018427387904) : ∃ u : Nat, bits .xor .i64 X Y = (u : Int) := by
  obtain ⟨a, rfl⟩ := Int.eq_ofNat_of_zero_le hX
  obtain ⟨b, rfl⟩ := Int.eq_ofNat_of_zero_le hY
  refine ⟨a ^^^ b, ?_⟩
  have hx : a ^^^ b < 2 ^ 62 := Nat.xor_lt_two_pow (by omega) (by omega)
  have h1 : (BitVec.ofInt 64 (a : Int)).toNat = a := by
    rw [BitVec.ofInt_natCast, BitVec.toNat_ofNat]; exact Nat.mod_eq_of_lt (by omega)
  have h2 : (BitVec.ofInt 64 (b : Int)).toNat = b := by
    rw [BitVec.ofInt_natCast, BitVec.toNat_ofNat]; exact Nat.mod_eq_of_lt (by omega)
  show IntKind.i64.wrap ((BitVec.ofInt 64 (a : Int) ^^^ BitVec.ofInt 64 (b : Int)).toNat : Int) = _
  rw [BitVec.toNat_xor, h1, h2, IntKind.wrap_i64]
  omega

/-- The reader: its block b, one of the call's own, the bytes that it reads, which came in, its place p. -/
def Rd (B b p : Nat) (w : World) : Prop :=
  B ≤ b ∧ ∃ (a : Option Addr) (n cap : Nat) (zs : List Int), n ≤ 2000 ∧ w.heap[b]? = some (.cells #[.slice a n cap, .int .i64 p] 90 (0, 0)) ∧
    (n ≠ 0 → ∃ x o, a = some ⟨x, o, none⟩ ∧ x < B ∧ (∀ i, i < n → w.cell? ⟨x, o + i, none⟩ = some (.int .u8 (zs.getD i 0)) ∧ 0 ≤ zs.getD i 0 ∧ zs.getD i 0 ≤ 255))

/-- Block b alone has turned. -/
structure Only (b : Nat) (w w' : World) : Prop where
  os : w'.os = w.os
  tape : w'.tape = w.tape
  output : w'.output = w.output
  size : w'.heap.size = w.heap.size
  block : ∀ c, c ≠ b → w'.heap[c]? = w.heap[c]?
theorem Only.below {B b : Nat} {w w' : World} (h : Only b w w') (hb : B ≤ b) : Below B w w' :=
  ⟨h.os, h.tape, h.output, by rw [h.size]; exact Nat.le_refl _, fun k hk => h.block k (by omega)⟩
theorem Only.refl (b : Nat) (w : World) : Only b w w := ⟨rfl, rfl, rfl, rfl, fun _ _ => rfl⟩
theorem Only.trans {b : Nat} {u v w : World} (h : Only b u v) (k : Only b v w) : Only b u w :=
  ⟨k.os.trans h.os, k.tape.trans h.tape, k.output.trans h.output, k.size.trans h.size, fun c hc => (k.block c hc).trans (h.block c hc)⟩
theorem Only.setCell (b o : Nat) (v : Value) (w : World) : Only b w (w.setCell ⟨b, o, none⟩ v) :=
  ⟨rfl, rfl, rfl, by simp [World.setCell], fun c hc => Below.heap_setCell _ _ _ _ hc⟩
theorem Only.drew {b : Nat} {w w' : World} (h : Only b w w') : Only b w w'.drew := ⟨h.os, h.tape, h.output, h.size, h.block⟩
theorem Only.drewN {b : Nat} {w w' : World} (h : Only b w w') (n : Nat) : Only b w (w'.drewN n) := ⟨h.os, h.tape, h.output, h.size, h.block⟩

/-- What a step leaves below block b and in b leaves the reader. -/
theorem Rd.keep {B b p : Nat} {w w' : World} (h : Rd B b p w) (hk : Below (b + 1) w w') : Rd B b p w' := by
  obtain ⟨hB, a, n, cap, zs, hn, hb, hc⟩ := h
  refine ⟨hB, a, n, cap, zs, hn, by rw [hk.block b (by omega)]; exact hb, fun h0 => ?_⟩
  obtain ⟨x, o, ha, hx, hcs⟩ := hc h0
  exact ⟨x, o, ha, hx, fun i hi => ⟨by rw [hk.cell (show (⟨x, o + i, none⟩ : Addr).block < b + 1 by show x < b + 1; omega)]; exact (hcs i hi).1, (hcs i hi).2⟩⟩
theorem Rd.lt {B b p : Nat} {w : World} (h : Rd B b p w) : b < w.heap.size := by
  obtain ⟨_, a, n, cap, zs, _, hb, _⟩ := h
  rcases Nat.lt_or_ge b w.heap.size with h' | h'
  · exact h'
  · simp [Array.getElem?_eq_none h'] at hb

set_option maxHeartbeats 2000000 in
set_option maxRecDepth 100000 in
theorem open_walk (a : Option Addr) (len cap : Nat) (zs : List Int) (w : World) (h : IsRow .u8 w a len cap zs) :
    Calls Tryz.prog 14 #[.slice a len cap] w fun e w' => e = .returned (.pointer (some ⟨w.heap.size, 0, none⟩)) ∧ Rd w.heap.size w.heap.size 0 w' ∧ Below w.heap.size w w' ∧ w'.heap.size = w.heap.size + 1 := by
  rcases h with ⟨rfl, rfl, rfl, rfl⟩ | ⟨x, rfl, hl, hm, hz, hcell, hwz⟩
  · go_enter Tryz.func14, Tryz.ntmps14
    go_wp2
    go_ret
    exact ⟨rfl, ⟨Nat.le_refl _, none, 0, 0, [], by omega, heap_alloc_new w _, fun h => absurd rfl h⟩, (Below.refl _ w).alloc (Nat.le_refl _) _, by simp⟩
  · have hrd : ∀ n, n ≤ len → n ≤ 2000 → Rd w.heap.size w.heap.size 0 (w.alloc (.cells #[.slice (some x) n cap, .int .i64 0] 90)) := by
      intro n hn hn2
      refine ⟨Nat.le_refl _, some x, n, cap, zs, hn2, heap_alloc_new w _, fun h0 => ?_⟩
      obtain ⟨b, o, spot⟩ := x
      have hc0 := hcell 0 (by omega)
      have hspot : spot = none := by simpa [Addr.add] using World.cell?_spot hc0
      subst hspot
      have hlt : b < w.heap.size := World.block_lt_of_cell? w _ hc0
      refine ⟨b, o, rfl, hlt, fun i hi => ?_⟩
      have hci := hcell i (by omega)
      refine ⟨?_, ?_⟩
      · rw [World.cell?_of_block (w := w) (a := ⟨b, o + i, none⟩) (Below.heap_alloc w _ b hlt)]
        by_cases h0 : i = 0
        · subst h0; simpa [Addr.add] using hci
        · simpa [Addr.add, h0] using hci
      · have hmem : zs.getD i 0 ∈ zs := by
          have hi' : i < zs.length := by omega
          simp [List.getElem?_eq_getElem hi']
        have := hwz _ hmem
        exact bounds_u8 this
    by_cases h2 : (2000 : Int) < (len : Int)
    · go_enter Tryz.func14, Tryz.ntmps14
      go_wp2
      go_ret
      exact ⟨rfl, hrd 2000 (by omega) (by omega), (Below.refl _ w).alloc (Nat.le_refl _) _, by simp⟩
    · go_enter Tryz.func14, Tryz.ntmps14
      go_wp2
      go_ret
      exact ⟨rfl, hrd len (by omega) (by omega), (Below.refl _ w).alloc (Nat.le_refl _) _, by simp⟩

theorem Rd.next {B b p : Nat} {w : World} (h : Rd B b p w) : Rd B b (p + 1) (w.setCell ⟨b, 1, none⟩ (.int .i64 (p + 1))) := by
  obtain ⟨hB, a, n, cap, zs, hn, hb, hc⟩ := h
  refine ⟨hB, a, n, cap, zs, hn, by simp [World.setCell, Array.getElem?_modify, hb], fun h0 => ?_⟩
  obtain ⟨x, o, ha, hx, hcs⟩ := hc h0
  refine ⟨x, o, ha, hx, fun i hi => ⟨?_, (hcs i hi).2⟩⟩
  rw [World.cell?_of_block (w := w) (a := ⟨x, o + i, none⟩) (Below.heap_setCell w ⟨b, 1, none⟩ _ x (by show x ≠ b; omega))]
  exact (hcs i hi).1

set_option maxHeartbeats 2000000 in
set_option maxRecDepth 100000 in
theorem pick_walk (B b p : Nat) (n : Int) (w : World) (h : Rd B b p w) (hp : p < 1000000000) (hn31 : n ≤ 1000000000) :
    Calls Tryz.prog 38 #[.pointer (some ⟨b, 0, none⟩), .int .i64 n] w fun e w' => ∃ x : Nat, e = .returned (.int .i64 x) ∧ (1 ≤ n → (x : Int) < n) ∧ (n < 1 → x = 0) ∧ Rd B b (p + 1) w' ∧ Only b w w' := by
  have hnext := h.next
  obtain ⟨hB, a, len, cap, zs, hlen, hb, hc⟩ := h
  have c0 : w.cell? ⟨b, 0, none⟩ = some (.slice a len cap) := by rw [Lib.cell_of_heap hb]; rfl
  have c1 : w.cell? ⟨b, 1, none⟩ = some (.int .i64 p) := by rw [Lib.cell_of_heap hb]; rfl
  have f1 : w.frozen? ⟨b, 1, none⟩ = false := Lib.frozen_of_heap hb 1
  have HO := Only.setCell b 1 (.int .i64 ((p : Int) + 1)) w
  by_cases hn : n < 1
  · go_enter Tryz.func38, Tryz.ntmps38
    go_wp2
    go_ret
    exact ⟨0, rfl, fun h => by omega, fun _ => rfl, hnext, HO⟩
  · by_cases hl0 : len = 0
    · subst hl0
      go_enter Tryz.func38, Tryz.ntmps38
      go_wp2
      go_ret
      exact ⟨0, rfl, by omega, by omega, hnext, HO⟩
    · obtain ⟨x, o, rfl, hxB, hcs⟩ := hc hl0
      have hcx : ∀ i, i < len → (w.setCell ⟨b, 1, none⟩ (.int .i64 ((p : Int) + 1))).cell? ⟨x, o + i, none⟩ = some (.int .u8 (zs.getD i 0)) := by
        intro i hi
        rw [World.cell?_of_block (w := w) (a := ⟨x, o + i, none⟩) (Below.heap_setCell w ⟨b, 1, none⟩ _ x (by show x ≠ b; omega))]
        exact (hcs i hi).1
      have hl0' : ((len : Int) == 0) = false := by simp; omega
      by_cases hpl : p < len
      · have hcp := hcx p hpl
        have hz := (hcs p hpl).2
        obtain ⟨z, hzz⟩ : ∃ z, z = zs.getD p 0 := ⟨_, rfl⟩
        rw [← hzz] at hcp hz
        clear hcx hcs hc hzz
        obtain ⟨hz0, hz1⟩ := hz
        go_enter Tryz.func38, Tryz.ntmps38
        go_wp2
        go_ret
        obtain ⟨y, hy⟩ := Int.eq_ofNat_of_zero_le (Int.emod_nonneg z (show n ≠ 0 by omega))
        have hyl : (y : Int) < n := by rw [← hy]; exact Int.emod_lt_of_pos _ (by omega)
        exact ⟨y, congrArg (fun t => Ending.returned (Value.int .i64 t)) hy, by first | exact fun _ => hyl | exact hyl, by omega, hnext, HO⟩
      · clear hc
        obtain ⟨q1, hq1⟩ : ∃ q : Nat, (p : Int) % (len : Int) = (q : Int) := ⟨p % len, by simp⟩
        have hq1l : (q1 : Int) < (len : Int) := by rw [← hq1]; exact Int.emod_lt_of_pos _ (by omega)
        obtain ⟨q2, hq2⟩ : ∃ q : Nat, ((p : Int) * 7 + 3) % (len : Int) = (q : Int) := ⟨(p * 7 + 3) % len, by simp⟩
        have hq2l : (q2 : Int) < (len : Int) := by rw [← hq2]; exact Int.emod_lt_of_pos _ (by omega)
        obtain ⟨q3, hq3⟩ : ∃ q : Nat, (p : Int) / (len : Int) = (q : Int) := ⟨p / len, by simp⟩
        have hq3l : q3 ≤ p := by
          have : p / len ≤ p := Nat.div_le_self _ _
          have h2 : ((p / len : Nat) : Int) = (q3 : Int) := by rw [← hq3]; simp
          omega
        have hc1 := hcx q1 (by omega)
        have hz1 := (hcs q1 (by omega)).2
        have hc2 := hcx q2 (by omega)
        have hz2 := (hcs q2 (by omega)).2
        obtain ⟨z1, hzz1⟩ : ∃ z, z = zs.getD q1 0 := ⟨_, rfl⟩
        obtain ⟨z2, hzz2⟩ : ∃ z, z = zs.getD q2 0 := ⟨_, rfl⟩
        rw [← hzz1] at hc1 hz1
        rw [← hzz2] at hc2 hz2
        clear hcx hcs hzz1 hzz2
        obtain ⟨hz10, hz11⟩ := hz1
        obtain ⟨hz20, hz21⟩ := hz2
        go_enter Tryz.func38, Tryz.ntmps38
        go_wp2_with fail
        go_quiet (fail)
        go_wp2
        go_ret
        obtain ⟨u, hu⟩ := xor_nat (z1 * 131 + z2 * 1117 + (p : Int) * 29 + (q3 : Int) * 53) ((z1 * 131 + z2 * 1117 + (p : Int) * 29 + (q3 : Int) * 53) / 64) (by omega) (by omega) (by omega) (by omega)
        obtain ⟨y, hy⟩ := Int.eq_ofNat_of_zero_le (Int.emod_nonneg (u : Int) (show n ≠ 0 by omega))
        have hyl : (y : Int) < n := by rw [← hy]; exact Int.emod_lt_of_pos _ (by omega)
        have ht : (bits .xor .i64 (z1 * 131 + z2 * 1117 + (p : Int) * 29 + (q3 : Int) * 53) ((z1 * 131 + z2 * 1117 + (p : Int) * 29 + (q3 : Int) * 53) / 64)).tmod n = (y : Int) := by
          rw [hu, Int.tmod_eq_emod_of_nonneg (by omega)]; exact hy
        exact ⟨y, congrArg (fun t => Ending.returned (Value.int .i64 t)) ht, by first | exact fun _ => hyl | exact hyl, by omega, hnext.keep ⟨rfl, rfl, rfl, Nat.le_refl _, fun _ _ => rfl⟩, HO.drewN nq⟩

/-- One of a list of numbers that the call has just laid. -/
theorem one_walk (B b p : Nat) (g n cap : Nat) (zs : List Int) (w : World) (h : Rd B b p w) (hp : p < 1000000000) (hn0 : 1 ≤ n) (hn31 : n ≤ 1000000000) (hcell : ∀ i, i < n → w.cell? ⟨g, i, none⟩ = some (.int .i64 (zs.getD i 0))) (hgb : g ≠ b) :
    Calls Tryz.prog 39 #[.pointer (some ⟨b, 0, none⟩), .slice (some ⟨g, 0, none⟩) n cap] w fun e w' => ∃ x : Nat, x < n ∧ e = .returned (.int .i64 (zs.getD x 0)) ∧ Rd B b (p + 1) w' ∧ Only b w w' := by
  go_enter Tryz.func39, Tryz.ntmps39
  go_wp2_with (go_at_call 38; refine (pick_walk B b p _ _ h hp (by omega)).mono ?_)
  rintro e w1 ⟨x, rfl, hx, _, hr, ho⟩
  have hxn : (x : Int) < (n : Int) := hx (by omega)
  have hc : w1.cell? ⟨g, x, none⟩ = some (.int .i64 (zs.getD x 0)) := by
    rw [World.cell?_of_block (w := w) (a := ⟨g, x, none⟩) (ho.block g hgb)]
    exact hcell x (by omega)
  obtain ⟨z, hz⟩ : ∃ z, z = zs.getD x 0 := ⟨_, rfl⟩
  rw [← hz] at hc
  have HZ : Hid (z = zs.getD x 0) := hz
  clear hz hx hcell
  go_wp2
  go_ret
  exact ⟨x, by omega, by rw [← HZ.out]; rfl, hr, ho⟩

/-- One of a list of texts that the call has just laid. -/
theorem of_walk (B b p : Nat) (g n cap : Nat) (ss : List ByteArray) (w : World) (h : Rd B b p w) (hp : p < 1000000000) (hn0 : 1 ≤ n) (hn31 : n ≤ 1000000000) (hcell : ∀ i, i < n → w.cell? ⟨g, i, none⟩ = some (.string (ss.getD i ByteArray.empty))) (hgb : g ≠ b) :
    Calls Tryz.prog 40 #[.pointer (some ⟨b, 0, none⟩), .slice (some ⟨g, 0, none⟩) n cap] w fun e w' => ∃ x : Nat, x < n ∧ e = .returned (.string (ss.getD x ByteArray.empty)) ∧ Rd B b (p + 1) w' ∧ Only b w w' := by
  go_enter Tryz.func40, Tryz.ntmps40
  go_wp2_with (go_at_call 38; refine (pick_walk B b p _ _ h hp (by omega)).mono ?_)
  rintro e w1 ⟨x, rfl, hx, _, hr, ho⟩
  have hxn : (x : Int) < (n : Int) := hx (by omega)
  have hc : w1.cell? ⟨g, x, none⟩ = some (.string (ss.getD x ByteArray.empty)) := by
    rw [World.cell?_of_block (w := w) (a := ⟨g, x, none⟩) (ho.block g hgb)]
    exact hcell x (by omega)
  obtain ⟨z, hz⟩ : ∃ z, z = ss.getD x ByteArray.empty := ⟨_, rfl⟩
  rw [← hz] at hc
  have HZ : Hid (z = ss.getD x ByteArray.empty) := hz
  clear hz hx hcell
  go_wp2
  go_ret
  exact ⟨x, by omega, by rw [← HZ.out]; rfl, hr, ho⟩

/-- The cells of a list of numbers, of texts, that lies whole in a block. -/
theorem cells_ints {w : World} {g : Nat} {zs : List Int} {cs : Array Value} {T : TypeId} {fr : Nat × Nat} (h : w.heap[g]? = some (.cells cs T fr)) (he : cs = (zs.map (Value.int .i64)).toArray) (n : Nat) (hn : n ≤ zs.length) :
    ∀ i, i < n → w.cell? ⟨g, i, none⟩ = some (.int .i64 (zs.getD i 0)) := by
  intro i hi
  rw [Lib.cell_of_heap h, he]
  have : i < zs.length := by omega
  simp [List.getElem?_eq_getElem this]
theorem cells_texts {w : World} {g : Nat} {ss : List ByteArray} {cs : Array Value} {T : TypeId} {fr : Nat × Nat} (h : w.heap[g]? = some (.cells cs T fr)) (he : cs = (ss.map Value.string).toArray) (n : Nat) (hn : n ≤ ss.length) :
    ∀ i, i < n → w.cell? ⟨g, i, none⟩ = some (.string (ss.getD i ByteArray.empty)) := by
  intro i hi
  rw [Lib.cell_of_heap h, he]
  have : i < ss.length := by omega
  simp [List.getElem?_eq_getElem this]

end Go.Proofs.YtkajpkfhedfmaaaGreatDoor

set_option linter.unusedVariables false
namespace Go.Proofs.YtkajpkfhedfmaaaGreatDoor
open Go.RowKit Go.Deep

structure BlkV where
  h : HeadV
  g : Nat
  n : Nat
  cap : Nat
  ss : List ByteArray
instance : Inhabited BlkV := ⟨⟨default, 0, 0, 0, []⟩⟩
def enBlk (b : BlkV) : List Value := [.string b.h.prev, .string b.h.root, .int .i64 b.h.time, .int .i64 b.h.diff, .int .i64 b.h.nonce, .slice (some ⟨b.g, 0, none⟩) b.n b.cap]
theorem enBlk_len (b : BlkV) : (enBlk b).length = 6 := rfl
abbrev AtBlk (w : World) (g : Nat) (l : List BlkV) : Prop := AtF enBlk 6 w g l
/-- The items of a block in memory. -/
def ItemsAt (w : World) (b : BlkV) : Prop := AtS w b.g b.ss ∧ b.n = b.ss.length
theorem AtBlk.c0 {w : World} {g : Nat} {l : List BlkV} (h : AtBlk w g l) (i : Nat) (hi : i < l.length) : w.cell? ⟨g, i * 6, none⟩ = some (.string (l.getD i default).h.prev) := h.2 i 0 hi (by decide)
theorem AtBlk.c1 {w : World} {g : Nat} {l : List BlkV} (h : AtBlk w g l) (i : Nat) (hi : i < l.length) : w.cell? ⟨g, i * 6 + 1, none⟩ = some (.string (l.getD i default).h.root) := h.2 i 1 hi (by decide)
theorem AtBlk.c2 {w : World} {g : Nat} {l : List BlkV} (h : AtBlk w g l) (i : Nat) (hi : i < l.length) : w.cell? ⟨g, i * 6 + 2, none⟩ = some (.int .i64 (l.getD i default).h.time) := h.2 i 2 hi (by decide)
theorem AtBlk.c3 {w : World} {g : Nat} {l : List BlkV} (h : AtBlk w g l) (i : Nat) (hi : i < l.length) : w.cell? ⟨g, i * 6 + 3, none⟩ = some (.int .i64 (l.getD i default).h.diff) := h.2 i 3 hi (by decide)
theorem AtBlk.c4 {w : World} {g : Nat} {l : List BlkV} (h : AtBlk w g l) (i : Nat) (hi : i < l.length) : w.cell? ⟨g, i * 6 + 4, none⟩ = some (.int .i64 (l.getD i default).h.nonce) := h.2 i 4 hi (by decide)
theorem AtBlk.c5 {w : World} {g : Nat} {l : List BlkV} (h : AtBlk w g l) (i : Nat) (hi : i < l.length) : w.cell? ⟨g, i * 6 + 5, none⟩ = some (.slice (some ⟨(l.getD i default).g, 0, none⟩) (l.getD i default).n (l.getD i default).cap) := h.2 i 5 hi (by decide)
abbrev HRow (B : Nat) (v : Value) (l : List HeadV) (w : World) : Prop := FRow enHead 36 5 B v l w
abbrev BRow (B : Nat) (v : Value) (l : List BlkV) (w : World) : Prop := FRow enBlk 39 6 B v l w
theorem getD_map {l : List BlkV} {i : Nat} (h : i < l.length) : (l.map (·.h)).getD i default = (l.getD i default).h := by
  simp [List.getElem?_eq_getElem h]
theorem take_map {l : List BlkV} {k : Nat} (hk : k < l.length) : (l.take (k + 1)).map (·.h) = (l.take k).map (·.h) ++ [(l.getD k default).h] := by
  rw [List.take_add_one, List.getElem?_eq_getElem hk, List.map_append]
  simp [List.getElem?_eq_getElem hk]
theorem enHead_one (h : HeadV) : ∀ u ∈ enHead h, u.oneCell' = true := by
  intro u hu
  simp only [enHead, List.mem_cons, List.not_mem_nil, or_false] at hu
  rcases hu with rfl | rfl | rfl | rfl | rfl <;> rfl
theorem enBlk_one (b : BlkV) : ∀ u ∈ enBlk b, u.oneCell' = true := by
  intro u hu
  simp only [enBlk, List.mem_cons, List.not_mem_nil, or_false] at hu
  rcases hu with rfl | rfl | rfl | rfl | rfl | rfl <;> rfl

set_option maxHeartbeats 2000000 in
set_option maxRecDepth 100000 in
theorem specL4Heads (g n cap : Nat) (bs : List BlkV) (w : World) (h : AtBlk w g bs) (hn : n = bs.length) (hm : n ≤ 1048576) :
    Calls Tryz.prog 46 #[.slice (some ⟨g, 0, none⟩) n cap] w fun e w' => ∃ v, e = .returned v ∧ HRow w.heap.size v (bs.map (·.h)) w' ∧ Below w.heap.size w w' := by
  obtain ⟨i0, hi, hz0, hz1, hz2⟩ := info3 infoHead
  have HA : Hid (AtBlk w g bs) := h
  have HN : Hid (n = bs.length) := hn
  have HE : Hid (bs.map (·.h) = (bs.take n).map (·.h)) := by show _ = _; rw [hn, List.take_length]
  have R0 : Hid (HRow w.heap.size (.slice (some ⟨w.heap.size, 0, none⟩) 0 0) [] (w.alloc (.cells #[] 36))) := frow_new _ _ _ w
  have B0 : Hid (Below w.heap.size w (w.alloc (.cells #[] 36))) := (Below.refl _ w).alloc (Nat.le_refl _) _
  clear h hn
  go_enter Tryz.func46, Tryz.ntmps46
  go_wp2_with fail
  go_loopw [3, 4] (fun v i wr => ∃ k g2 c2 : Nat, k ≤ n ∧ i = .int .i64 (k : Int) ∧ v = .slice (some ⟨g2, 0, none⟩) k c2 ∧ Hid (HRow w.heap.size v ((bs.take k).map (·.h)) wr) ∧ Hid (Below w.heap.size w wr)) (fun _ i _ => n - (intOf i).toNat)
  case atStart => exact ⟨0, w.heap.size, 0, by omega, rfl, rfl, R0, B0⟩
  case round =>
    clear R0 B0
    obtain ⟨k, g2, c2, hk, rfl, rfl, R, HB⟩ := hrel
    by_cases hlt : k < n
    · have hkl : k < bs.length := by rw [← HN.out]; exact hlt
      have HAr : Hid (AtBlk wr g bs) := HA.out.below HB.out HA.out.1
      have q0 := AtBlk.c0 HAr.out k hkl
      have q1 := AtBlk.c1 HAr.out k hkl
      have q2 := AtBlk.c2 HAr.out k hkl
      have q3 := AtBlk.c3 HAr.out k hkl
      have q4 := AtBlk.c4 HAr.out k hkl
      have lk : (k : Int) < (n : Int) := by omega
      have lk0 : (0 : Int) ≤ (k : Int) := by omega
      have wk : IntKind.i64.wrap ((k : Int) + 1) = (k : Int) + 1 := by rw [IntKind.wrap_i64]; omega
      have HK : Hid (k + 1 ≤ n) := hlt
      have HL : Hid ((bs.take k).length = k) := by show _ = _; rw [List.length_take]; omega
      have HT : Hid ((bs.take (k + 1)).map (·.h) = (bs.take k).map (·.h) ++ [(bs.getD k default).h]) := take_map hkl
      have HOW : Hid (wr.ownsRow w.heap.size 36 5 (.slice (some ⟨g2, 0, none⟩) k c2) k (((bs.take k).map (·.h)).flatMap enHead)) := by
        have := R.out.2
        rw [List.length_map, HL.out] at this
        exact this
      have hsz := HB.out.size
      generalize (bs.getD k default).h = p at q0 q1 q2 q3 q4 HT
      have hu := enHead_one p
      have hx1 : k + 1 ≤ maxLen := by unfold maxLen; omega
      have hx2 : (k + 1) * 56 ≤ 140737488355328 := by omega
      clear hkl R
      go_wp2_with (at_builtin; refine wp_appN rfl _ _ 33 rfl w.heap.size 36 i0 (.agg #[.string ⟨#[]⟩, .string ⟨#[]⟩, .int .i64 0, .int .i64 0, .int .i64 0]) 5 56 1 Tryz.underlying33 hi hz0 hz1 hz2 rfl (by decide) (by decide) _ _ _ rfl HOW.out (enHead p) rfl rfl hu hx1 hx2 hsz ?_; intro g4 c4 w4 hown4 hb4 hkeep4)
      have R4 : Hid (HRow w.heap.size (.slice (some ⟨g4, 0, none⟩) (k + 1) c4) ((bs.take (k + 1)).map (·.h)) w4) := by
        refine FRow.of ?_ ?_
        · rw [HT.out, List.flatMap_append]
          simpa using hown4
        · rw [HT.out, List.length_append, List.length_map, HL.out]; rfl
      have B4 : Hid (Below w.heap.size w w4) := HB.out.trans hb4
      clear hown4 hb4 hkeep4
      go_wp2_with fail
      go_roundw
      case rel => exact ⟨k + 1, g4, c4, HK.out, by go_num, rfl, R4, B4⟩
      case measure => have := HK.out; simp [intOf]; omega
    · obtain rfl : k = n := by omega
      go_wp2_with fail
      go_ret
      exact ⟨_, rfl, by rw [HE.out]; exact R.out, HB.out⟩

end Go.Proofs.YtkajpkfhedfmaaaGreatDoor

set_option linter.unusedVariables false
namespace Go.Proofs.YtkajpkfhedfmaaaGreatDoor
open Go.RowKit

section
variable {P : Program} {w : World}
theorem run_append_any (t ty : TypeId) (base : Nat) (e : TypeId) (i : TypeInfo) (z : Value) (size bytes : Nat) (ht : P.underlying t = some (.slice e)) (hi : P.info? e = some i) (hz : i.zero = some z)
    (hsize : i.size = size) (hby : i.bytes = bytes) (hzs : z.cells.size = size) (hsz : 0 < size)
    (g0 c0 n : Nat) (xs : List Value) (hown : w.ownsRow base e size (.slice (some ⟨g0, 0, none⟩) n c0) n xs)
    (ad : Addr) (m c : Nat) (news : List Value) (hl : news.length = m * size) (hnews : ∀ j u, news[j]? = some u → w.cell? (ad.add j) = some u) (h1 : ∀ u ∈ news, u.oneCell' = true)
    (h63 : n + m ≤ maxLen) (hbytes : (n + m) * bytes ≤ 140737488355328) (hbase : base ≤ w.heap.size) :
    ∃ g cap w', (Builtin.append_ #[t, t] ty #[.slice (some ⟨g0, 0, none⟩) n c0, .slice (some ad) m c]).run P w = .ok (.slice (some ⟨g, 0, none⟩) (n + m) cap) w' ∧
      w'.ownsRow base e size (.slice (some ⟨g, 0, none⟩) (n + m) cap) (n + m) (xs ++ news) ∧ w.grownBy w' (some g0) ∧ (g0 = g ∨ g = w.heap.size) ∧ g < w'.heap.size := by
  obtain ⟨v', w', hr, h2, h3, _, h5⟩ := run_append_own_at (P := P) w base t ty e i z size bytes ht hi hz hsize hby hzs hsz (.slice (some ⟨g0, 0, none⟩) n c0) n xs hown ad m c news hl hnews h1 h63 hbytes hbase
  rcases h2.2 with ⟨h6, _⟩ | ⟨g, cap, cur, hv, hB, hg, _⟩
  · rw [h6] at h5
    rcases h5 with h5 | h5 <;> simp [Value.ownBlock] at h5
  · subst hv
    refine ⟨g, cap, w', hr, h2, h3, ?_, ?_⟩
    · rcases h5 with h5 | h5
      · left
        have : g = g0 := by simpa [Value.ownBlock] using h5
        exact this.symm
      · right
        simpa [Value.ownBlock] using h5
    · rcases Nat.lt_or_ge g w'.heap.size with h' | h'
      · exact h'
      · simp [Array.getElem?_eq_none h'] at hg
theorem step_append_any {ops : Array Oper} {o : Oper} {a : Act} {K : Act → World → Prop} {Q : Exit → Act → World → Prop} {E : Prop} (hgd : o.guard = none) (s x : Operand) (t : TypeId)
    (ho : o.op = .call { callee := .builtin .append, args := #[s, x], argTypes := #[t, t] })
    (base : Nat) (e : TypeId) (i : TypeInfo) (z : Value) (size bytes : Nat) (ht : P.underlying t = some (.slice e)) (hi : P.info? e = some i) (hz : i.zero = some z)
    (hsize : i.size = size) (hby : i.bytes = bytes) (hzs : z.cells.size = size) (hsz : 0 < size)
    (g0 c0 n : Nat) (xs : List Value) (hs : a.eval s = .slice (some ⟨g0, 0, none⟩) n c0) (hown : w.ownsRow base e size (.slice (some ⟨g0, 0, none⟩) n c0) n xs)
    (ad : Addr) (m c : Nat) (news : List Value) (hx : a.eval x = .slice (some ad) m c) (hl : news.length = m * size) (hnews : ∀ j u, news[j]? = some u → w.cell? (ad.add j) = some u) (h1 : ∀ u ∈ news, u.oneCell' = true)
    (h63 : n + m ≤ maxLen) (hbytes : (n + m) * bytes ≤ 140737488355328) (hbase : base ≤ w.heap.size)
    (h : ∀ g cap w', w'.ownsRow base e size (.slice (some ⟨g, 0, none⟩) (n + m) cap) (n + m) (xs ++ news) → w.grownBy w' (some g0) → Hid (g0 = g ∨ g = w.heap.size) → Hid (g < w'.heap.size) → K (a.put o.dst (.slice (some ⟨g, 0, none⟩) (n + m) cap)) w') :
    if Region.wanted o (yielded ops a.tmps) = true then Oper.wp P o a w K Q else E := by
  have hw : Region.wanted o (yielded ops a.tmps) = true := by simp [Region.wanted, hgd]
  rw [if_pos hw]
  obtain ⟨g, cap, w', hr, h2, h3, h4, h5⟩ := run_append_any (P := P) (w := w) t o.type base e i z size bytes ht hi hz hsize hby hzs hsz g0 c0 n xs hown ad m c news hl hnews h1 h63 hbytes hbase
  unfold Oper.wp execOp
  simp only [ho, resolve, invoke, builtin, Sem.run_bind, Sem.run_pure, Result.andThen_ok, List.map_toArray, List.map_cons, List.map_nil, hs, hx, hr]
  exact h g cap w' h2 h3 h4 h5
end

end Go.Proofs.YtkajpkfhedfmaaaGreatDoor

namespace Go.Proofs.YtkajpkfhedfmaaaGreatDoor
open Go.RowKit

def itemC (b : UInt8) : Bool := decide (48 ≤ b.toNat ∧ b.toNat ≤ 57 ∨ 97 ≤ b.toNat ∧ b.toNat ≤ 122)
def isItem (l : List UInt8) : Bool := decide (1 ≤ l.length ∧ l.length ≤ 8) && l.all itemC
theorem isItem_no {s : ByteArray} (k : Nat) (hk : k < s.size) (h : itemC s[k] = false) : isItem s.data.toList = false := by
  have hm : s[k] ∈ s.data.toList := by
    have : s[k] = s.data[k]'hk := rfl
    rw [this]; simp
  have ha : s.data.toList.all itemC = false := by
    rw [← Bool.not_eq_true, List.all_eq_true]
    intro hh
    have := hh _ hm
    rw [h] at this
    cases this
  simp [isItem, ha]
theorem isItem_len_no {s : ByteArray} (h : ¬ (1 ≤ s.size ∧ s.size ≤ 8)) : isItem s.data.toList = false := by
  have : decide (1 ≤ s.data.toList.length ∧ s.data.toList.length ≤ 8) = false := decide_eq_false (by simpa using h)
  simp only [isItem, this, Bool.false_and]
theorem isItem_yes {s : ByteArray} (hl : 1 ≤ s.size ∧ s.size ≤ 8) (h : ∀ k (hk : k < s.size), itemC s[k] = true) : isItem s.data.toList = true := by
  have h1 : decide (1 ≤ s.data.toList.length ∧ s.data.toList.length ≤ 8) = true := decide_eq_true (by simpa using hl)
  simp only [isItem, h1, Bool.true_and, List.all_eq_true]
  intro x hx
  obtain ⟨i, hi, rfl⟩ := List.getElem_of_mem hx
  have := h i (by simpa using hi)
  rw [Array.getElem_toList]
  exact this
theorem isItem_size {s : ByteArray} (h : isItem s.data.toList = true) : 1 ≤ s.size ∧ s.size ≤ 8 := by
  simp only [isItem, Bool.and_eq_true] at h
  simpa using of_decide_eq_true h.1

end Go.Proofs.YtkajpkfhedfmaaaGreatDoor

namespace Go.Proofs.YtkajpkfhedfmaaaGreatDoor
open Go.RowKit

theorem figs_hexF : ∀ d : Fin 16, hexB (figs.getD d.val 0) = true := by decide +kernel
theorem figs_hex (d : Nat) (h : d < 16) : hexB (figs.getD d 0) = true := figs_hexF ⟨d, h⟩
theorem hexOf_hex (x : Nat) : (hexOf x).all hexB = true := by
  simp only [hexOf, List.all_map, List.all_eq_true, Function.comp]
  intro i _
  exact figs_hex _ (Nat.mod_lt _ (by decide))
theorem isSum_sumB (t : List UInt8) : isSum (sumB t) = true := by
  simp only [isSum, sumB, List.all_append, hexOf_hex]
  simp [hexOf]
/-- The first half of a text's sum, as a number of 31 bits. -/
def headOf (t : List UInt8) : Nat := hexN ((sumB t).take 8) / 2
theorem headOf_lt (t : List UInt8) : headOf t < 2147483648 := by
  have h1 : ((sumB t).take 8).all hexB = true := by
    have := isSum_sumB t
    simp only [isSum, Bool.and_eq_true, List.all_eq_true] at this ⊢
    intro x hx
    exact this.2 x (List.mem_of_mem_take hx)
  have h2 := hexN_le _ h1
  have h3 : ((sumB t).take 8).length = 8 := by simp [sumB, hexOf]
  rw [h3] at h2
  unfold headOf
  omega
theorem sumHead_sumB (t : List UInt8) : sumHead (sumB t) = (headOf t : Int) := by
  simp [sumHead, isSum_sumB, headOf]
def filterTo (k it : List UInt8) (below : Int) : Int :=
  if (isSum k && isItem it && decide (1 ≤ below ∧ below ≤ 60000)) = true then (headOf (k ++ 32 :: it) : Int) * below / 2147483648 else -1
theorem filterTo_yes {k it : List UInt8} {below : Int} (h1 : isSum k = true) (h2 : isItem it = true) (h3 : 1 ≤ below ∧ below ≤ 60000) : filterTo k it below = (headOf (k ++ 32 :: it) : Int) * below / 2147483648 := by
  simp [filterTo, h1, h2, h3.1, h3.2]
theorem filterTo_no1 {k it : List UInt8} {below : Int} (h1 : isSum k = false) : filterTo k it below = -1 := by
  simp [filterTo, h1]
theorem filterTo_no2 {k it : List UInt8} {below : Int} (h1 : isItem it = false) : filterTo k it below = -1 := by
  simp [filterTo, h1]
theorem filterTo_no3 {k it : List UInt8} {below : Int} (h1 : ¬ (1 ≤ below ∧ below ≤ 60000)) : filterTo k it below = -1 := by
  have : decide (1 ≤ below ∧ below ≤ 60000) = false := decide_eq_false h1
  simp only [filterTo, this, Bool.and_false]
  rfl
theorem place_lt (h : Nat) (b : Int) (hh : h < 2147483648) (hb : 1 ≤ b ∧ b ≤ 60000) : 0 ≤ (h : Int) * b ∧ (h : Int) * b < 2147483648 * 60000 ∧ 0 ≤ (h : Int) * b / 2147483648 ∧ (h : Int) * b / 2147483648 < b := by
  have h1 : (0 : Int) ≤ (h : Int) * b := Int.mul_nonneg (by omega) (by omega)
  have h2 : (h : Int) * b < 2147483648 * b := Int.mul_lt_mul_of_pos_right (by omega) (by omega)
  refine ⟨h1, by omega, by omega, ?_⟩
  omega

theorem keyItem_bytes (k it : ByteArray) : (k ++ (⟨#[32]⟩ : ByteArray) ++ it).data.toList = k.data.toList ++ 32 :: it.data.toList := by
  simp

end Go.Proofs.YtkajpkfhedfmaaaGreatDoor

set_option linter.unusedVariables false
namespace Go.Proofs.YtkajpkfhedfmaaaGreatDoor
open Go.RowKit

def bsum (t : List UInt8) : ByteArray := ⟨(sumB t).toArray⟩
theorem bsum_size (t : List UInt8) : (bsum t).size = 16 := by simp [bsum, ByteArray.size, sumB, hexOf]
def rootItemB (s : ByteArray) : ByteArray := bsum ([105, 116, 101, 109, 32] ++ s.data.toList)
def bothB (a b : ByteArray) : ByteArray := bsum ([98, 111, 116, 104, 32] ++ a.data.toList ++ [32] ++ b.data.toList)
def upR : List ByteArray → List ByteArray
  | a :: b :: r => bothB a b :: upR r
  | l => l
theorem upR_append : ∀ (l m : List ByteArray), l.length % 2 = 0 → upR (l ++ m) = upR l ++ upR m
  | [], m, _ => by simp [upR]
  | [a], m, h => by simp at h
  | a :: b :: r, m, h => by
    have ih := upR_append r m (by simp at h; omega)
    simp [upR, ih]
theorem upR_short {l : List ByteArray} (h : l.length ≤ 1) : upR l = l := by
  match l, h with
  | [], _ => rfl
  | [a], _ => rfl
theorem upR_length : ∀ l : List ByteArray, (upR l).length = (l.length + 1) / 2
  | [] => by simp [upR]
  | [a] => by simp [upR]
  | a :: b :: r => by
    have := upR_length r
    simp [upR, this]
    omega
theorem upR_16 : ∀ l : List ByteArray, (∀ s ∈ l, s.size = 16) → ∀ s ∈ upR l, s.size = 16
  | [], _ => by simp [upR]
  | [a], h => by simpa [upR] using h
  | a :: b :: r, h => by
    intro s hs
    rcases List.mem_cons.1 hs with rfl | hs
    · exact bsum_size _
    · exact upR_16 r (fun x hx => h x (by simp [hx])) s hs
theorem take_two (l : List ByteArray) (k : Nat) (hk : k + 1 < l.length) (he : k % 2 = 0) : upR (l.take (k + 2)) = upR (l.take k) ++ [bothB (l.getD k ByteArray.empty) (l.getD (k + 1) ByteArray.empty)] := by
  have e : l.take (k + 2) = l.take k ++ [l.getD k ByteArray.empty, l.getD (k + 1) ByteArray.empty] := by
    rw [show k + 2 = (k + 1) + 1 from rfl, List.take_add_one, List.take_add_one, List.getElem?_eq_getElem (by omega), List.getElem?_eq_getElem hk, List.append_assoc]
    simp [List.getElem?_eq_getElem hk, List.getElem?_eq_getElem (show k < l.length by omega)]
  rw [e, upR_append _ _ (by simp; omega)]
  rfl
theorem take_last (l : List ByteArray) (k : Nat) (hk : k + 1 = l.length) (he : k % 2 = 0) : upR l = upR (l.take k) ++ [l.getD k ByteArray.empty] := by
  have e : l = l.take k ++ [l.getD k ByteArray.empty] := by
    conv => lhs; rw [← List.take_append_drop k l]
    congr 1
    rw [List.drop_eq_getElem_cons (by omega), List.drop_eq_nil_of_le (by omega)]
    simp [List.getElem?_eq_getElem (show k < l.length by omega)]
  conv => lhs; rw [e]
  rw [upR_append _ _ (by simp; omega)]
  rfl
theorem take_rest (l : List ByteArray) (k : Nat) (hk : l.length ≤ k + 1) (he : k % 2 = 0) (hkl : k ≤ l.length) : upR l = upR (l.take k) ++ l.drop k := by
  conv => lhs; rw [← List.take_append_drop k l]
  rw [upR_append _ _ (by simp; omega), upR_short (l := l.drop k) (by simp; omega)]
def topR : Nat → List ByteArray → List ByteArray
  | 0, r => r
  | f + 1, r => if r.length ≤ 1 then r else topR f (upR r)
theorem topR_done (f : Nat) {r : List ByteArray} (h : r.length ≤ 1) : topR f r = r := by
  cases f with
  | zero => rfl
  | succ f => simp [topR, h]
theorem topR_step (f : Nat) {r : List ByteArray} (h : ¬ r.length ≤ 1) (hf : r.length ≤ f) : topR f r = topR (f - 1) (upR r) := by
  cases f with
  | zero => omega
  | succ f => simp [topR, h]
theorem topR_more (f g : Nat) : ∀ (r : List ByteArray), r.length ≤ f → r.length ≤ g → topR f r = topR g r := by
  induction f generalizing g with
  | zero => intro r hf hg; rw [topR_done 0 (by omega), topR_done g (by omega)]
  | succ f ih =>
    intro r hf hg
    by_cases h : r.length ≤ 1
    · rw [topR_done _ h, topR_done _ h]
    · rw [topR_step _ h hf, topR_step _ h hg]
      have := upR_length r
      exact ih _ _ (by omega) (by omega)
theorem topR_up {r : List ByteArray} (h : ¬ r.length ≤ 1) : topR r.length r = topR (upR r).length (upR r) := by
  rw [topR_step _ h (Nat.le_refl _)]
  have := upR_length r
  exact topR_more _ _ _ (by omega) (Nat.le_refl _)
/-- What a row comes to. -/
def rootR (r : List ByteArray) : ByteArray := (topR r.length r).getD 0 ByteArray.empty
theorem rootR_up {r : List ByteArray} (h : ¬ r.length ≤ 1) : rootR r = rootR (upR r) := by rw [rootR, topR_up h]; rfl
theorem rootR_one {r : List ByteArray} (h : r.length ≤ 1) : rootR r = r.getD 0 ByteArray.empty := by rw [rootR, topR_done _ h]

end Go.Proofs.YtkajpkfhedfmaaaGreatDoor

set_option linter.unusedVariables false
namespace Go.Proofs.YtkajpkfhedfmaaaGreatDoor
open Go.RowKit

theorem padLen_mod (n : Nat) : padLen n % 64 = 0 := by unfold padLen; omega
theorem RowN.nums {T : TypeId} {w : World} {g m : Nat} {l : List Nat} (h : RowN T w g l) (hm : m + 64 ≤ l.length) : Nums w g m ((l.drop m).take 64) := by
  intro i hi
  have hi64 : i < 64 := by simp at hi; omega
  rw [h.cell (m + i) (by omega)]
  have e : ((l.drop m).take 64).getD i 0 = l.getD (m + i) 0 := by
    simp [hi64]
  rw [e]

set_option maxHeartbeats 1000000 in
set_option maxRecDepth 100000 in
theorem specSha (s : ByteArray) (w : World) (hs : s.size ≤ 1073741824) :
    Calls Tryz.prog 136 #[.string s] w fun e w' => ∃ g, e = .returned (.slice (some ⟨g, 0, none⟩) 8 8) ∧ RowN 3 w' g (sha s.data.toList).toL ∧ Below w.heap.size w w' := by
  go_enter Tryz.func136, Tryz.ntmps136
  go_wp2_with fail
  refine (specConsts _).mono ?_
  rintro e w1 ⟨rfl, hh1, hk1, b1⟩
  have hlt1 := hk1.lt
  go_wp2_with fail
  refine (specPad s _ hs).mono ?_
  rintro e w2 ⟨rfl, hp2, b2⟩
  have b12 := b1.trans (b2.mono b1.size)
  have hh2 := hh1.below b2 (by omega)
  have hk2 := hk1.below b2 hlt1
  obtain ⟨gb, hgb⟩ : ∃ gb, gb = w1.heap.size := ⟨_, rfl⟩
  rw [← hgb] at hp2 ⊢
  obtain ⟨gk, hgk⟩ : ∃ gk, gk = w.heap.size + 1 := ⟨_, rfl⟩
  rw [← hgk] at hk2 ⊢
  have hlen := padN_length s.data.toList
  rw [show s.data.toList.length = s.size from by simp] at hlen
  have hpl := padN_lt s.data.toList
  have HSH : Hid (sha s.data.toList = mixTo (padN s.data.toList) (padLen s.size / 64)) := by
    show _ = _
    rw [sha, show s.data.toList.length = s.size from by simp]
  generalize padN s.data.toList = P at hp2 hlen hpl HSH
  obtain ⟨L, hL⟩ : ∃ L, L = padLen s.size := ⟨_, rfl⟩
  have hL2 : L ≤ s.size + 72 := by rw [hL]; unfold padLen; omega
  have HLm : Hid (L % 64 = 0) := by show _ = _; rw [hL]; exact padLen_mod _
  rw [← hL] at hlen HSH ⊢
  have HL : Hid (P.length = L) := hlen
  clear hlen hL hgb hgk hh1 hk1 b1 b2 hlt1
  go_wp2
  go_loopw [3, 6] (fun h i wr => ∃ (j m gh : Nat), m ≤ L ∧ i = .int .i64 m ∧ Hid (m = 64 * j) ∧ h = .slice (some ⟨gh, 0, none⟩) 8 8 ∧ RowN 3 wr gh (mixTo P j).toL ∧ RowN 3 wr gk shaK ∧ RowN 3 wr gb P ∧ Below w.heap.size w wr) (fun _ i _ => L - (intOf i).toNat)
  case atStart => exact ⟨0, 0, w.heap.size, by omega, rfl, rfl, rfl, hh2, hk2, hp2, b12⟩
  case round =>
    clear hh2 hk2 hp2 b12
    obtain ⟨j, m, gh, hm, rfl, HM, rfl, hh, hk, hp, hbw⟩ := hrel
    have hm64 : m < L → m + 64 ≤ L := by have h1 := HLm.out; have h2 := HM.out; omega
    by_cases hlt : m < L
    · have hm2 := hm64 hlt
      have hnum := hp.nums (m := m) (by rw [HL.out]; exact hm2)
      have hgb := hp.lt
      have hgh := hh.lt
      have hgk := hk.lt
      have hsl : ((P.drop m).take 64).length = 64 := by simp [HL.out]; omega
      have hsb : ∀ x ∈ (P.drop m).take 64, x < 256 := fun x hx => hpl x (List.mem_of_mem_drop (List.mem_of_mem_take hx))
      have HNX : Hid (mixTo P (j + 1) = mix shaK (mixTo P j) ((P.drop m).take 64)) := by show _ = _; rw [mixTo, ← HM.out]
      have HB : Hid (Below w.heap.size w wr) := hbw
      have hwsz := hbw.size
      generalize (P.drop m).take 64 = bs at hnum hsl hsb HNX
      clear hm64 hbw
      go_wp2_with fail
      refine (specWords bs gb m (L - m) _ hnum hsl hsb hgb).mono ?_
      rintro e w3 ⟨rfl, hw3, b3⟩
      have hh3 := hh.below b3 hgh
      have hk3 := hk.below b3 hgk
      have hp3 := hp.below b3 hgb
      have hwl := schedTo_length bs 48
      have hwo := schedTo_lt bs hsb 48
      have hsz3 := b3.size
      have hlt3 := hw3.lt
      have HW : Hid (mix shaK (mixTo P j) bs = (mixTo P j).plus (rounds shaK (schedTo bs 48) (mixTo P j) 64)) := rfl
      generalize schedTo bs 48 = ws at hw3 hwl hwo HW
      clear hh hk hp hnum hsl hsb
      go_wp2_with fail
      refine (specMix (mixTo P j) (mixTo_ok P j) shaK ws gh wr.heap.size gk _ hh3 hw3 hk3 hwl rfl hwo shaK_ok).mono ?_
      rintro e w4 ⟨rfl, hr4, b4⟩
      have hk4 := hk3.below b4 hk3.lt
      have hp4 := hp3.below b4 hp3.lt
      rw [← HW.out, ← HNX.out] at hr4
      clear hh3 hk3 hp3 hw3 hwl hwo
      go_wp2
      go_roundw
      case rel =>
        refine ⟨j + 1, m + 64, w3.heap.size + 1, by omega, by go_num, ?_, rfl, hr4, hk4, hp4, (HB.out.trans (b3.mono (by omega))).trans (b4.mono (by omega))⟩
        show m + 64 = 64 * (j + 1)
        have := HM.out
        omega
      case measure => simp [intOf]; omega
    · have HJ : Hid (j = L / 64) := by show j = L / 64; have h1 := HLm.out; have h2 := HM.out; omega
      clear hm64
      go_wp2
      go_ret
      rw [HSH.out, ← HJ.out]
      exact ⟨gh, rfl, hh, hbw⟩

set_option maxHeartbeats 1000000 in
set_option maxRecDepth 100000 in
theorem specSum (s : ByteArray) (w : World) (hs : s.size ≤ 1073741824) :
    Calls Tryz.prog 116 #[.string s] w fun e w' => e = .returned (.string ⟨(sumB s.data.toList).toArray⟩) ∧ Below w.heap.size w w' := by
  go_enter Tryz.func116, Tryz.ntmps116
  go_wp2_with fail
  refine (specSha s _ hs).mono ?_
  rintro e w1 ⟨g, rfl, hr, b1⟩
  have hok : (sha s.data.toList).ok := mixTo_ok _ _
  have HS : Hid (sumB s.data.toList = hexOf (sha s.data.toList).a ++ hexOf (sha s.data.toList).b) := rfl
  generalize sha s.data.toList = t at hr hok HS
  have c0 : w1.cell? ⟨g, 0, none⟩ = some (.int .i64 (t.a : Int)) := hr.cell 0 (by simp [St.toL])
  have c1 : w1.cell? ⟨g, 1, none⟩ = some (.int .i64 (t.b : Int)) := hr.cell 1 (by simp [St.toL])
  have hg := hr.lt
  have la := hok.1
  have lb := hok.2.1
  have hl8 : ∀ x, (hexOf x).length = 8 := fun x => by simp [hexOf]
  go_wp2_with fail
  go_region_with (first | (go_at_call_of 137 (Value.int .i64 (t.a : Int)); refine (specHex _ _ la).mono ?_; rintro e w2 ⟨rfl, b2⟩; have d1 : w2.cell? ⟨g, 1, none⟩ = some (.int .i64 (t.b : Int)) := (b2.cell (p := ⟨g, 1, none⟩) hg).trans c1) | (go_at_call_of 137 (Value.int .i64 (t.b : Int)); refine (specHex _ _ lb).mono ?_; rintro e w3 ⟨rfl, b3⟩))
  all_goals
    go_wp2
    go_ret
    rw [HS.out]
    have hcat : (⟨(hexOf t.a).toArray⟩ : ByteArray) ++ ⟨(hexOf t.b).toArray⟩ = ⟨(hexOf t.a ++ hexOf t.b).toArray⟩ := by
      apply ByteArray.ext; simp
    rw [← hcat]
    have b12 := b1.trans (((Below.drew (Below.refl _ w1)).trans b2).mono b1.size)
    exact ⟨rfl, b12.trans (b3.mono b12.size)⟩

end Go.Proofs.YtkajpkfhedfmaaaGreatDoor

set_option linter.unusedVariables false
namespace Go.Proofs.YtkajpkfhedfmaaaGreatDoor
open Go.RowKit

set_option maxHeartbeats 1000000 in
set_option maxRecDepth 100000 in
theorem specRow (g n cap : Nat) (ss : List ByteArray) (w : World) (h : AtS w g ss) (hn : n = ss.length) (hm : n ≤ 1000000) (hs : ∀ i, i < ss.length → (ss.getD i ByteArray.empty).size ≤ 1048576) :
    Calls Tryz.prog 115 #[.slice (some ⟨g, 0, none⟩) n cap] w fun e w' => ∃ v, e = .returned v ∧ SRow w.heap.size v (ss.map rootItemB) w' ∧ Below w.heap.size w w' := by
  obtain ⟨i0, hi, hz0, hz1, hz2⟩ := info_parts infoStr
  have HA : Hid (AtS w g ss) := h
  have HN : Hid (n = ss.length) := hn
  have HS : Hid (∀ i, i < ss.length → (ss.getD i ByteArray.empty).size ≤ 1048576) := hs
  clear h hn hs
  go_enter Tryz.func115, Tryz.ntmps115
  go_wp2_with fail
  have HW0 : Hid (SRow w.heap.size (.slice (some ⟨w.heap.size, 0, none⟩) 0 0) ((ss.take 0).map rootItemB) (w.alloc (.cells #[] 9))) := srow_new w
  have HB0 : Hid (Below w.heap.size w (w.alloc (.cells #[] 9))) := (Below.refl _ w).alloc (Nat.le_refl _) _
  go_loopw [3, 4] (fun v i wr => ∃ k : Nat, k ≤ n ∧ i = .int .i64 (k : Int) ∧ Hid (SRow w.heap.size v ((ss.take k).map rootItemB) wr) ∧ Hid (Below w.heap.size w wr)) (fun _ i _ => n - (intOf i).toNat)
  case atStart => exact ⟨0, by omega, rfl, HW0, HB0⟩
  case round =>
    clear HW0 HB0
    obtain ⟨k, hk, rfl, HR, HB⟩ := hrel
    obtain ⟨⟨g3, c3, rfl⟩, hrow⟩ := HR.out
    by_cases hlt : k < n
    · have hkl : k < ss.length := by rw [← HN.out]; exact hlt
      have hc : wr.cell? ⟨g, k, none⟩ = some (.string (ss.getD k ByteArray.empty)) := by
        rw [HB.out.cell (p := ⟨g, k, none⟩) HA.out.1]
        exact HA.out.2 k hkl
      have hsz := HS.out k hkl
      obtain ⟨z, hz⟩ : ∃ z, z = ss.getD k ByteArray.empty := ⟨_, rfl⟩
      rw [← hz] at hc hsz
      have HE : Hid ((ss.take (k + 1)).map rootItemB = (ss.take k).map rootItemB ++ [rootItemB z]) := by
        show _ = _
        rw [List.take_add_one, List.getElem?_eq_getElem hkl, List.map_append, hz, List.getD_eq_getElem?_getD, List.getElem?_eq_getElem hkl]
        rfl
      have hlen : ((ss.take k).map rootItemB).length = k := by simp; omega
      rw [hlen] at hrow ⊢
      have HRW : Hid (wr.ownsRow w.heap.size 9 1 (.slice (some ⟨g3, 0, none⟩) k c3) k (((ss.take k).map rootItemB).map Value.string)) := hrow
      have HLN : Hid (((ss.take k).map rootItemB).length = k) := hlen
      have HK : Hid (k + 1 ≤ n) := hlt
      have lk : (k : Int) < (n : Int) := by omega
      have hsum := specSum ((⟨#[105, 116, 101, 109, 32]⟩ : ByteArray) ++ z) wr (by
        simp only [ByteArray.size_append]
        have e1 : (⟨#[105, 116, 101, 109, 32]⟩ : ByteArray).size = 5 := rfl
        omega)
      have et : ((⟨#[105, 116, 101, 109, 32]⟩ : ByteArray) ++ z).data.toList = [105, 116, 101, 109, 32] ++ z.data.toList := by simp
      rw [et] at hsum
      have er : (⟨(sumB ([105, 116, 101, 109, 32] ++ z.data.toList)).toArray⟩ : ByteArray) = rootItemB z := rfl
      rw [er] at hsum
      generalize rootItemB z = rz at hsum HE
      clear hz hrow hlen hkl et er
      have hx1 : k + 1 ≤ maxLen := by unfold maxLen; omega
      have hx2 : (k + 1) * 16 ≤ 140737488355328 := by omega
      go_wp2_with fail
      refine hsum.mono ?_
      rintro e w1 ⟨rfl, b1⟩
      have HRW1 : Hid (w1.ownsRow w.heap.size 9 1 (.slice (some ⟨g3, 0, none⟩) k c3) k (((ss.take k).map rootItemB).map Value.string)) := by
        refine World.ownsRow.kept HRW.out ⟨b1.os, b1.tape, b1.output, b1.size, fun j hj _ => b1.block j hj⟩ (.inr (fun e => by cases e)) (row := none)
      have HB1 : Hid (Below w.heap.size w w1) := HB.out.trans (b1.mono HB.out.size)
      have hsz1 := HB1.out.size
      clear b1 hsum
      go_wp2_with (at_builtin; refine wp_app1 rfl _ _ 37 rfl w.heap.size 9 i0 (.string ⟨#[]⟩) 16 Tryz.underlying37 hi hz0 hz1 hz2 rfl _ _ _ rfl HRW1.out (.string rz) rfl rfl hx1 hx2 hsz1 ?_; intro g4 c4 w4 hown4 hb4 _)
      go_roundw
      case rel =>
        refine ⟨k + 1, HK.out, by go_num, ⟨⟨g4, c4, ?_⟩, ?_⟩, HB1.out.trans hb4⟩
        · rw [HE.out, List.length_append, HLN.out]; rfl
        · rw [HE.out, List.length_append, HLN.out, List.map_append]; exact hown4
      case measure => have := HK.out; simp [intOf]; omega
    · have HE : Hid ((ss.take k).map rootItemB = ss.map rootItemB) := by
        show _ = _
        rw [List.take_of_length_le (by rw [← HN.out]; omega)]
      clear hrow
      go_wp2_with fail
      go_ret
      refine ⟨_, rfl, ?_, HB.out⟩
      have := HR.out
      rw [HE.out] at this ⊢
      exact this

end Go.Proofs.YtkajpkfhedfmaaaGreatDoor

set_option linter.unusedVariables false
namespace Go.Proofs.YtkajpkfhedfmaaaGreatDoor
open Go.RowKit

def sliceLen2 : Value → Nat
  | .slice _ n _ => n
  | _ => 0
theorem row_below {B n : Nat} {e : TypeId} {v : Value} {xs : List Value} {w w1 : World} (h : w.ownsRow B e 1 v n xs) (b1 : Below w.heap.size w w1) : w1.ownsRow B e 1 v n xs := by
  refine ⟨h.1, ?_⟩
  rcases h.2 with h2 | ⟨g, cap, cur, hv, h2, h3, h4⟩
  · exact .inl h2
  · exact .inr ⟨g, cap, cur, hv, h2, by rw [b1.block g (Array.getElem?_eq_some_iff.1 h3).1]; exact h3, h4⟩
theorem bothSum (a b : ByteArray) (w : World) (ha : a.size = 16) (hb : b.size = 16) :
    Calls Tryz.prog 116 #[.string ((⟨#[98, 111, 116, 104, 32]⟩ : ByteArray) ++ a ++ (⟨#[32]⟩ : ByteArray) ++ b)] w fun e w' => e = .returned (.string (bothB a b)) ∧ Below w.heap.size w w' := by
  have hsum := specSum ((⟨#[98, 111, 116, 104, 32]⟩ : ByteArray) ++ a ++ (⟨#[32]⟩ : ByteArray) ++ b) w (by
    simp only [ByteArray.size_append]
    have e1 : (⟨#[98, 111, 116, 104, 32]⟩ : ByteArray).size = 5 := rfl
    have e2 : (⟨#[32]⟩ : ByteArray).size = 1 := rfl
    omega)
  have et : ((⟨#[98, 111, 116, 104, 32]⟩ : ByteArray) ++ a ++ (⟨#[32]⟩ : ByteArray) ++ b).data.toList = [98, 111, 116, 104, 32] ++ a.data.toList ++ [32] ++ b.data.toList := by simp
  rw [et] at hsum
  exact hsum

set_option maxHeartbeats 4000000 in
set_option maxRecDepth 100000 in
theorem specUp (g n cap : Nat) (ss : List ByteArray) (w : World) (h : AtS w g ss) (hn : n = ss.length) (hm : n ≤ 1000000) (hs : ∀ s ∈ ss, s.size = 16) :
    Calls Tryz.prog 117 #[.slice (some ⟨g, 0, none⟩) n cap] w fun e w' => ∃ v, e = .returned v ∧ SRow w.heap.size v (upR ss) w' ∧ Below w.heap.size w w' := by
  obtain ⟨i0, hi, hz0, hz1, hz2⟩ := info_parts infoStr
  have HA : Hid (AtS w g ss) := h
  have HN : Hid (n = ss.length) := hn
  have HS : Hid (∀ i, i < ss.length → (ss.getD i ByteArray.empty).size = 16) := by
    intro i hi
    refine hs _ ?_
    simp [List.getElem?_eq_getElem hi]
  clear h hn hs
  go_enter Tryz.func117, Tryz.ntmps117
  go_wp2_with fail
  have HW0 : Hid (SRow w.heap.size (.slice (some ⟨w.heap.size, 0, none⟩) 0 0) (upR (ss.take 0)) (w.alloc (.cells #[] 9))) := srow_new w
  have HB0 : Hid (Below w.heap.size w (w.alloc (.cells #[] 9))) := (Below.refl _ w).alloc (Nat.le_refl _) _
  go_loopw [3, 4] (fun v i wr => ∃ k : Nat, k ≤ n + 1 ∧ i = .int .i64 (k : Int) ∧ Hid (k % 2 = 0) ∧ Hid (SRow w.heap.size v (upR (ss.take k)) wr) ∧ Hid (Below w.heap.size w wr)) (fun _ i _ => n + 2 - (intOf i).toNat)
  case atStart => exact ⟨0, by omega, rfl, rfl, HW0, HB0⟩
  case round =>
    clear HW0 HB0
    obtain ⟨k, hk, rfl, HE2, HR, HB⟩ := hrel
    obtain ⟨⟨g3, c3, rfl⟩, hrow⟩ := HR.out
    obtain ⟨ml, hml⟩ : ∃ ml, ml = (upR (ss.take k)).length := ⟨_, rfl⟩
    have hmk : ml ≤ k := by
      rw [hml, upR_length]
      simp
      omega
    rw [← hml] at hrow ⊢
    have HML : Hid (ml = (upR (ss.take k)).length) := hml
    have HRW : Hid (wr.ownsRow w.heap.size 9 1 (.slice (some ⟨g3, 0, none⟩) ml c3) ml ((upR (ss.take k)).map Value.string)) := hrow
    clear hml hrow
    have hx1 : ml + 1 ≤ maxLen := by unfold maxLen; omega
    have hx2 : (ml + 1) * 16 ≤ 140737488355328 := by omega
    have hszr := HB.out.size
    by_cases hlt : k < n
    · have hkl : k < ss.length := by rw [← HN.out]; exact hlt
      have hc : wr.cell? ⟨g, k, none⟩ = some (.string (ss.getD k ByteArray.empty)) := by
        rw [HB.out.cell (p := ⟨g, k, none⟩) HA.out.1]
        exact HA.out.2 k hkl
      have lk : (k : Int) < (n : Int) := by omega
      by_cases hlt2 : k + 1 < n
      · have hkl2 : k + 1 < ss.length := by rw [← HN.out]; exact hlt2
        have hc2 : wr.cell? ⟨g, k + 1, none⟩ = some (.string (ss.getD (k + 1) ByteArray.empty)) := by
          rw [HB.out.cell (p := ⟨g, k + 1, none⟩) HA.out.1]
          exact HA.out.2 (k + 1) hkl2
        have hs1 := HS.out k hkl
        have hs2 := HS.out (k + 1) hkl2
        have HE : Hid (upR (ss.take (k + 2)) = upR (ss.take k) ++ [bothB (ss.getD k ByteArray.empty) (ss.getD (k + 1) ByteArray.empty)]) := take_two ss k hkl2 HE2.out
        generalize ss.getD k ByteArray.empty = a at hc hs1 HE
        generalize ss.getD (k + 1) ByteArray.empty = b at hc2 hs2 HE
        have lk2 : (k : Int) + 1 < (n : Int) := by omega
        have HK : Hid (k + 2 ≤ n + 1) := by show _ ≤ _; omega
        have hw1 : IntKind.i64.wrap ((k : Int) + 1) = (k : Int) + 1 := by rw [IntKind.wrap_i64]; omega
        have l0 : (0 : Int) ≤ (k : Int) + 1 := by omega
        have l1 : (0 : Int) ≤ (k : Int) := by omega
        have hgw : g < wr.heap.size := Nat.lt_of_lt_of_le HA.out.1 hszr
        have hne : g ≠ g3 := by
          rcases HRW.out.2 with ⟨h2, _⟩ | ⟨g', cap', cur, hv, h2, _⟩
          · cases h2
          · simp only [Value.slice.injEq, Option.some.injEq, Addr.mk.injEq, and_true] at hv
            have := HA.out.1
            omega
        clear hkl hkl2
        go_wp2_with fail
        go_region_held3 (fun w' => w'.cell? ⟨g, k, none⟩ = some (.string a) ∧ w'.cell? ⟨g, k + 1, none⟩ = some (.string b)) (first | go_keep | (exact ⟨(b1.cell (p := ⟨g, k, none⟩) hgw).trans hc, (b1.cell (p := ⟨g, k + 1, none⟩) hgw).trans hc2⟩) | (have hfar : w4.heap[g]? = w1.heap[g]? := (hgrow4.block g (by simp; omega) (by simpa [Value.ownBlock] using hne)).trans (Below.heap_alloc _ _ _ (by omega)); exact ⟨(World.cell?_of_block (a := ⟨g, k, none⟩) hfar).trans ((b1.cell (p := ⟨g, k, none⟩) hgw).trans hc), (World.cell?_of_block (a := ⟨g, k + 1, none⟩) hfar).trans ((b1.cell (p := ⟨g, k + 1, none⟩) hgw).trans hc2)⟩))
          (first
            | (go_at_call 116; refine (bothSum a b _ hs1 hs2).mono ?_; rintro e w1 ⟨rfl, b0⟩; have b1 : Below wr.heap.size wr w1 := ((Below.refl wr.heap.size wr).drew).trans b0; have hb1s : wr.heap.size ≤ w1.heap.size := b1.size; clear b0)
            | ((refine step_append_lies _ (by rfl) _ _ 37 (by rfl) w.heap.size 9 i0 (.string ⟨#[]⟩) 1 16 Tryz.underlying37 hi hz0 hz1 hz2 rfl (by decide) _ ml _ (by rfl) (World.ownsRow.alloc (row_below HRW.out b1) _) ⟨w1.heap.size, 0, none⟩ 1 1 [.string (bothB a b)] (by rfl) rfl (cell_one_new _ _ _) (by simp [Value.oneCell']) (by decide) hx1 hx2 (by simp; omega) _ rfl ?_; intro g4 c4 w4 hown4 hgrow4 hat4 hlt4)))
        have hb4 : Below w.heap.size w w4 := ((HB.out.trans (b1.mono hszr)).alloc (by omega) _).grown hgrow4 (by simp; omega) (fun j hj => by
          rcases HRW.out.2 with ⟨h2, _⟩ | ⟨g', cap', cur, hv, h2, _⟩
          · cases h2
          · simp only [Value.slice.injEq, Option.some.injEq, Addr.mk.injEq, and_true] at hv
            have : g3 = j := by simpa [Value.ownBlock] using hj
            omega)
        have HR4 : Hid (SRow w.heap.size (.slice (some ⟨g4, 0, none⟩) (ml + 1) c4) (upR (ss.take (k + 2))) w4) := by
          refine ⟨⟨g4, c4, ?_⟩, ?_⟩
          · rw [HE.out, List.length_append, ← HML.out]; rfl
          · rw [HE.out, List.length_append, ← HML.out, List.map_append]; exact hown4
        clear hown4 hgrow4 hat4 hlt4 b1
        go_wp2_with fail
        go_roundw
        case rel => exact ⟨k + 2, HK.out, by go_num, by have := HE2.out; show _ = _; omega, HR4, hb4⟩
        case measure => have := HK.out; simp [intOf]; omega
      · have hkn : k + 1 = ss.length := by have := HN.out; omega
        have hs1 := HS.out k hkl
        have HE : Hid (upR ss = upR (ss.take k) ++ [ss.getD k ByteArray.empty]) := take_last ss k hkn HE2.out
        have HEE : Hid (ss.take (k + 2) = ss) := List.take_of_length_le (by omega)
        generalize ss.getD k ByteArray.empty = a at hc hs1 HE
        have lk2 : ¬ (k : Int) + 1 < (n : Int) := by omega
        have HK : Hid (k + 2 ≤ n + 1) := by show _ ≤ _; omega
        have l1 : (0 : Int) ≤ (k : Int) := by omega
        clear hkl hkn
        go_wp2_with (at_builtin; refine wp_app1 rfl _ _ 37 rfl w.heap.size 9 i0 (.string ⟨#[]⟩) 16 Tryz.underlying37 hi hz0 hz1 hz2 rfl _ _ _ rfl HRW.out (.string a) rfl rfl hx1 hx2 hszr ?_; intro g4 c4 w4 hown4 hb4 _)
        have HR4 : Hid (SRow w.heap.size (.slice (some ⟨g4, 0, none⟩) (ml + 1) c4) (upR (ss.take (k + 2))) w4) := by
          rw [HEE.out]
          refine ⟨⟨g4, c4, ?_⟩, ?_⟩
          · rw [HE.out, List.length_append, ← HML.out]; rfl
          · rw [HE.out, List.length_append, ← HML.out, List.map_append]; exact hown4
        clear hown4
        go_roundw
        case rel => exact ⟨k + 2, HK.out, by go_num, by have := HE2.out; show _ = _; omega, HR4, HB.out.trans hb4⟩
        case measure => have := HK.out; simp [intOf]; omega
    · have HE : Hid (upR (ss.take k) = upR ss) := by
        show _ = _
        rw [List.take_of_length_le (by rw [← HN.out]; omega)]
      go_wp2_with fail
      go_ret
      refine ⟨_, rfl, ?_, HB.out⟩
      have := HR.out
      rw [HML.out, HE.out]
      rw [HE.out] at this
      exact this


end Go.Proofs.YtkajpkfhedfmaaaGreatDoor

set_option linter.unusedVariables false
namespace Go.Proofs.YtkajpkfhedfmaaaGreatDoor
open Go.RowKit Go.Deep

theorem infoBlk : (Tryz.prog.info? 39).map (fun i => (i.zero, i.size, i.bytes)) = some (some (.agg #[.string ⟨#[]⟩, .string ⟨#[]⟩, .int .i64 0, .int .i64 0, .int .i64 0, .slice none 0 0]), 6, 80) := by kernel_rfl
/-- The items of some blocks, each in a block of its own at or above B, are in memory. -/
def OwnItems (B : Nat) (w : World) (bs : List BlkV) : Prop := ∀ b ∈ bs, ItemsAt w b ∧ B ≤ b.g
/-- The items' row of a block is the call's own. -/
def OwnIt (B : Nat) (w : World) (c : BlkV) : Prop := w.ownsRow B 9 1 (.slice (some ⟨c.g, 0, none⟩) c.n c.cap) c.n (c.ss.map Value.string)
theorem OwnIt.keep {B : Nat} {w w' : World} {c : BlkV} (h : OwnIt B w c) (hk : w'.heap[c.g]? = w.heap[c.g]?) : OwnIt B w' c := by
  obtain ⟨h1, h2⟩ := h
  refine ⟨h1, ?_⟩
  rcases h2 with ⟨h3, _⟩ | ⟨g', cap', cur, hv, hB, hg, h4⟩
  · cases h3
  · have e : c.g = g' := by simp only [Value.slice.injEq, Option.some.injEq, Addr.mk.injEq, and_true] at hv; exact hv.1
    exact .inr ⟨g', cap', cur, hv, hB, by rw [← e, hk, e]; exact hg, h4⟩
theorem OwnIt.mono {B C : Nat} {w : World} {c : BlkV} (h : OwnIt B w c) (hC : C ≤ B) : OwnIt C w c := by
  obtain ⟨h1, h2⟩ := h
  refine ⟨h1, ?_⟩
  rcases h2 with ⟨h3, _⟩ | ⟨g', cap', cur, hv, hB, h4⟩
  · cases h3
  · exact .inr ⟨g', cap', cur, hv, Nat.le_trans hC hB, h4⟩
theorem OwnIt.of {Z B g n c : Nat} {h : HeadV} {ss : List ByteArray} {w : World} (ho : w.ownsRow Z 9 1 (.slice (some ⟨g, 0, none⟩) (0 + n) c) (0 + n) ([] ++ ss.map Value.string)) (hB : B ≤ Z) : OwnIt B w ⟨h, g, n, c, ss⟩ := by
  rw [Nat.zero_add, List.nil_append] at ho
  exact OwnIt.mono (B := Z) (c := ⟨h, g, n, c, ss⟩) ho hB
/-- The items' rows of the blocks are different blocks of memory. -/
def Sep (cs : List BlkV) : Prop := cs.Pairwise fun a b => a.g ≠ b.g
theorem Sep.more {cs : List BlkV} {c : BlkV} (h : Sep cs) (hc : ∀ x ∈ cs, x.g ≠ c.g) : Sep (cs ++ [c]) := by
  unfold Sep
  rw [List.pairwise_append]
  exact ⟨h, List.pairwise_singleton _ _, fun a ha b hb => by rw [List.mem_singleton.1 hb]; exact hc a ha⟩
theorem Sep.one {cs : List BlkV} {a b : BlkV} (h : Sep cs) (ha : a ∈ cs) (hb : b ∈ cs) (he : a.g = b.g) : a = b := by
  unfold Sep at h
  induction cs with
  | nil => cases ha
  | cons x cs ih =>
    have h1 := List.pairwise_cons.1 h
    rcases List.mem_cons.1 ha with ha | ha
    · rcases List.mem_cons.1 hb with hb | hb
      · rw [ha, hb]
      · exact absurd (by rw [← ha]; exact he) (h1.1 b hb)
    · rcases List.mem_cons.1 hb with hb | hb
      · exact absurd (by rw [← hb]; exact he.symm) (h1.1 a ha)
      · exact ih h1.2 ha hb
/-- A list of blocks that the call itself has made: its row, its items, apart from each other. -/
structure BList (B : Nat) (v : Value) (cs : List BlkV) (w : World) : Prop where
  row : BRow B v cs w
  items : OwnItems B w cs
  apart : ∀ c ∈ cs, v.ownBlock ≠ some c.g
  own : ∀ c ∈ cs, OwnIt B w c
  sep : Sep cs
theorem BList.keep {B : Nat} {v : Value} {cs : List BlkV} {w w' : World} (h : BList B v cs w) (hs : w.heap.size ≤ w'.heap.size) (hk : ∀ g, B ≤ g → g < w.heap.size → w'.heap[g]? = w.heap[g]?) : BList B v cs w' :=
  ⟨h.row.keep hk, fun c hc => ⟨⟨⟨Nat.lt_of_lt_of_le (h.items c hc).1.1.1 hs, fun i hi => (World.cell?_of_block (a := ⟨c.g, i, none⟩) (hk c.g (h.items c hc).2 (h.items c hc).1.1.1)).trans ((h.items c hc).1.1.2 i hi)⟩, (h.items c hc).1.2⟩, (h.items c hc).2⟩, h.apart, fun c hc => (h.own c hc).keep (hk c.g (h.items c hc).2 (h.items c hc).1.1.1), h.sep⟩
theorem BList.below {B : Nat} {v : Value} {cs : List BlkV} {w w' : World} (h : BList B v cs w) (hb : Below w.heap.size w w') : BList B v cs w' := h.keep hb.size (fun g _ hg => hb.block g hg)
theorem BList.mono {B C : Nat} {v : Value} {cs : List BlkV} {w : World} (h : BList B v cs w) (hC : C ≤ B) : BList C v cs w := ⟨h.row.mono hC, fun c hc => ⟨(h.items c hc).1, Nat.le_trans hC (h.items c hc).2⟩, h.apart, fun c hc => (h.own c hc).mono hC, h.sep⟩
/-- Two lists of blocks tell the same. -/
def SameBlks (bs cs : List BlkV) : Prop := cs.map (·.h) = bs.map (·.h) ∧ cs.map (·.ss) = bs.map (·.ss)

theorem atS_far {w w' : World} {g : Nat} {zs : List ByteArray} (h : AtS w g zs) (hk : w'.heap[g]? = w.heap[g]?) (hs : w.heap.size ≤ w'.heap.size) : AtS w' g zs :=
  ⟨Nat.lt_of_lt_of_le h.1 hs, fun i hi => (World.cell?_of_block (a := ⟨g, i, none⟩) hk).trans (h.2 i hi)⟩
theorem srow_of {B n g cap : Nat} {zs : List ByteArray} {w : World} (h : w.ownsRow B 9 1 (.slice (some ⟨g, 0, none⟩) n cap) n (zs.map Value.string)) (hn : n = zs.length) : SRow B (.slice (some ⟨g, 0, none⟩) n cap) zs w := by
  subst hn
  exact ⟨⟨g, cap, rfl⟩, h⟩

theorem AtS.news {w w' : World} {g : Nat} {ss : List ByteArray} (h : AtS w g ss) (hb : Below w.heap.size w w') : ∀ j u, (ss.map Value.string)[j]? = some u → w'.cell? ((⟨g, 0, none⟩ : Addr).add j) = some u := by
  intro j u hj
  have hjl : j < ss.length := by
    rcases Nat.lt_or_ge j ss.length with h' | h'
    · exact h'
    · rw [List.getElem?_eq_none (by simpa using h')] at hj; cases hj
  have e1 : (⟨g, 0, none⟩ : Addr).add j = ⟨g, j, none⟩ := by unfold Addr.add; split <;> simp_all
  rw [e1, hb.cell (p := ⟨g, j, none⟩) h.1]
  have e3 : u = .string (ss.getD j ByteArray.empty) := by
    rw [List.getElem?_map, List.getElem?_eq_getElem hjl] at hj
    rw [List.getD_eq_getElem?_getD, List.getElem?_eq_getElem hjl]
    exact (Option.some.inj hj).symm
  rw [e3]
  exact h.2 j hjl
theorem itemsOneCell (ss : List ByteArray) : ∀ u ∈ ss.map Value.string, u.oneCell' = true := by
  intro u hu
  obtain ⟨x, _, rfl⟩ := List.mem_map.1 hu
  rfl

set_option maxHeartbeats 4000000 in
set_option maxRecDepth 100000 in
theorem specL4Copy (g n cap : Nat) (bs : List BlkV) (w : World) (h : AtBlk w g bs) (hit : ∀ b ∈ bs, ItemsAt w b) (hn : n = bs.length) (hm : n ≤ 1048576) (hs : ∀ b ∈ bs, b.ss.length ≤ 1048576) :
    Calls Tryz.prog 133 #[.slice (some ⟨g, 0, none⟩) n cap] w fun e w' => ∃ v cs, e = .returned v ∧ BList w.heap.size v cs w' ∧ SameBlks bs cs ∧ Below w.heap.size w w' := by
  obtain ⟨i0, hi, hz0, hz1, hz2⟩ := info3 infoBlk
  obtain ⟨j0, ji, jz0, jz1, jz2⟩ := info_parts infoStr
  have HA : Hid (AtBlk w g bs) := h
  have HN : Hid (n = bs.length) := hn
  have HI : Hid (∀ b ∈ bs, ItemsAt w b ∧ b.ss.length ≤ 1048576) := fun b hb => ⟨hit b hb, hs b hb⟩
  have R0 : Hid (BRow w.heap.size (.slice (some ⟨w.heap.size, 0, none⟩) 0 0) [] (w.alloc (.cells #[] 39))) := frow_new _ _ _ w
  have B0 : Hid (Below w.heap.size w (w.alloc (.cells #[] 39))) := (Below.refl _ w).alloc (Nat.le_refl _) _
  clear h hn hit hs
  go_enter Tryz.func133, Tryz.ntmps133
  go_wp2_with fail
  go_loopw [3, 4] (fun v i wr => ∃ (k g2 c2 : Nat) (cs : List BlkV), k ≤ n ∧ i = .int .i64 (k : Int) ∧ v = .slice (some ⟨g2, 0, none⟩) k c2 ∧ Hid (BRow w.heap.size v cs wr) ∧ Hid (OwnItems w.heap.size wr cs ∧ (∀ c ∈ cs, c.g ≠ g2) ∧ (∀ c ∈ cs, OwnIt w.heap.size wr c) ∧ Sep cs) ∧ Hid (SameBlks (bs.take k) cs) ∧ Hid (Below w.heap.size w wr)) (fun _ i _ => n - (intOf i).toNat)
  case atStart => exact ⟨0, w.heap.size, 0, [], by omega, rfl, rfl, R0, ⟨(fun c hc => by cases hc), (fun c hc => by cases hc), (fun c hc => by cases hc), List.Pairwise.nil⟩, ⟨rfl, rfl⟩, B0⟩
  case round =>
    clear R0 B0
    obtain ⟨k, g2, c2, cs, hk, rfl, rfl, R, HO, HSm, HB⟩ := hrel
    by_cases hlt : k < n
    · have hkl : k < bs.length := by rw [← HN.out]; exact hlt
      have HAr : Hid (AtBlk wr g bs) := HA.out.below HB.out HA.out.1
      have q0 := AtBlk.c0 HAr.out k hkl
      have q1 := AtBlk.c1 HAr.out k hkl
      have q2 := AtBlk.c2 HAr.out k hkl
      have q3 := AtBlk.c3 HAr.out k hkl
      have q4 := AtBlk.c4 HAr.out k hkl
      have q5 := AtBlk.c5 HAr.out k hkl
      have hgl := HAr.out.1
      have lk : (k : Int) < (n : Int) := by omega
      have lk0 : (0 : Int) ≤ (k : Int) := by omega
      have wk : IntKind.i64.wrap ((k : Int) + 1) = (k : Int) + 1 := by rw [IntKind.wrap_i64]; omega
      have HK : Hid (k + 1 ≤ n) := hlt
      have hbm : bs.getD k default ∈ bs := by rw [List.getD_eq_getElem?_getD, List.getElem?_eq_getElem hkl]; exact List.getElem_mem hkl
      have HIb := HI.out _ hbm
      have hcl : cs.length = k := by
        have := congrArg List.length HSm.out.1
        rw [List.length_map, List.length_map, List.length_take] at this
        omega
      have HOW : Hid (wr.ownsRow w.heap.size 39 6 (.slice (some ⟨g2, 0, none⟩) k c2) k (cs.flatMap enBlk)) := by
        have := R.out.2
        rw [hcl] at this
        exact this
      have HT : Hid (bs.take (k + 1) = bs.take k ++ [bs.getD k default]) := by
        show _ = _
        rw [List.take_add_one, List.getElem?_eq_getElem hkl]
        simp [List.getElem?_eq_getElem hkl]
      generalize bs.getD k default = b at q0 q1 q2 q3 q4 q5 HIb HT
      obtain ⟨bh, bg, bn, bc, bss⟩ := b
      dsimp only at q0 q1 q2 q3 q4 q5
      have hbn : bn = bss.length := HIb.1.2
      have HIt : Hid (AtS wr bg bss) := HIb.1.1.below HB.out HIb.1.1.1
      have hbl : bss.length ≤ 1048576 := HIb.2
      have hgb := HIt.out.1
      have hsz := HB.out.size
      have HBN : Hid (bn = bss.length) := hbn
      have hnl : bn ≤ 1048576 := by omega
      have HS0 : Hid ((wr.drew.alloc (.cells #[] 9)).ownsRow wr.heap.size 9 1 (.slice (some ⟨wr.heap.size, 0, none⟩) 0 0) 0 []) := (srow_new wr.drew).2
      have HNW : Hid (∀ j u, (bss.map Value.string)[j]? = some u → (wr.drew.alloc (.cells #[] 9)).cell? ((⟨bg, 0, none⟩ : Addr).add j) = some u) := by
        intro j u hj
        have hjl : j < bss.length := by
          rcases Nat.lt_or_ge j bss.length with h' | h'
          · exact h'
          · rw [List.getElem?_eq_none (by simpa using h')] at hj; cases hj
        have e1 : (⟨bg, 0, none⟩ : Addr).add j = ⟨bg, j, none⟩ := by unfold Addr.add; split <;> simp_all
        rw [e1, ((Below.refl wr.heap.size wr).drew.alloc (Nat.le_refl _) _).cell (p := ⟨bg, j, none⟩) hgb]
        have e2 := HIt.out.2 j hjl
        have e3 : u = .string (bss.getD j ByteArray.empty) := by
          rw [List.getElem?_map, List.getElem?_eq_getElem hjl] at hj
          rw [List.getD_eq_getElem?_getD, List.getElem?_eq_getElem hjl]
          exact (Option.some.inj hj).symm
        rw [e3]
        exact e2
      have HM1 : Hid ((bss.map Value.string).length = bn * 1) := by show _ = _; rw [List.length_map, HBN.out, Nat.mul_one]
      have HU1 : Hid (∀ u ∈ bss.map Value.string, u.oneCell' = true) := by
        intro u hu
        obtain ⟨x, _, rfl⟩ := List.mem_map.1 hu
        rfl
      have hx1 : 0 + bn ≤ maxLen := by unfold maxLen; omega
      have hx2 : (0 + bn) * 16 ≤ 140737488355328 := by omega
      have hy1 : k + 1 ≤ maxLen := by unfold maxLen; omega
      have hy2 : (k + 1) * 80 ≤ 140737488355328 := by omega
      have hg2 : g2 < wr.heap.size := by
        obtain ⟨g', c', cur, hv, _, hl', _⟩ := R.out.block
        simp only [Value.slice.injEq, Option.some.injEq, Addr.mk.injEq, and_true] at hv
        rw [hv.1]
        exact hl'
      have HR3 : Hid (∀ w3, Below wr.heap.size wr w3 → w3.ownsRow w.heap.size 39 6 (.slice (some ⟨g2, 0, none⟩) k c2) k (cs.flatMap enBlk)) := fun w3 b3 => by
        have := (R.out.below b3).2
        rw [hcl] at this
        exact this
      have hne : ¬ g = g2 := by
        obtain ⟨g', c', cur, hv, hB', _⟩ := R.out.block
        simp only [Value.slice.injEq, Option.some.injEq, Addr.mk.injEq, and_true] at hv
        have := HA.out.1
        omega
      clear HIb hbm hkl hbn hbl HOW
      go_wp2_with fail
      go_region_held3 (fun w' => w'.cell? ⟨g, k * 6, none⟩ = some (.string bh.prev) ∧ w'.cell? ⟨g, k * 6 + 1, none⟩ = some (.string bh.root) ∧ w'.cell? ⟨g, k * 6 + 2, none⟩ = some (.int .i64 bh.time) ∧ w'.cell? ⟨g, k * 6 + 3, none⟩ = some (.int .i64 bh.diff) ∧ w'.cell? ⟨g, k * 6 + 4, none⟩ = some (.int .i64 bh.nonce) ∧ w'.cell? ⟨g, k * 6 + 5, none⟩ = some (.slice (some ⟨bg, 0, none⟩) bn bc))
        (first | go_keep | (exact ⟨(b3.cell (p := ⟨g, k * 6, none⟩) hgl).trans q0, (b3.cell (p := ⟨g, k * 6 + 1, none⟩) hgl).trans q1, (b3.cell (p := ⟨g, k * 6 + 2, none⟩) hgl).trans q2, (b3.cell (p := ⟨g, k * 6 + 3, none⟩) hgl).trans q3, (b3.cell (p := ⟨g, k * 6 + 4, none⟩) hgl).trans q4, (b3.cell (p := ⟨g, k * 6 + 5, none⟩) hgl).trans q5⟩) | (have hfar : w4.heap[g]? = w3.heap[g]? := (hgrow4.block g (by simp; omega) (by simpa using hne)).trans (Below.heap_alloc _ _ _ (by omega)); exact ⟨(World.cell?_of_block (a := ⟨g, k * 6, none⟩) hfar).trans ((b3.cell (p := ⟨g, k * 6, none⟩) hgl).trans q0), (World.cell?_of_block (a := ⟨g, k * 6 + 1, none⟩) hfar).trans ((b3.cell (p := ⟨g, k * 6 + 1, none⟩) hgl).trans q1), (World.cell?_of_block (a := ⟨g, k * 6 + 2, none⟩) hfar).trans ((b3.cell (p := ⟨g, k * 6 + 2, none⟩) hgl).trans q2), (World.cell?_of_block (a := ⟨g, k * 6 + 3, none⟩) hfar).trans ((b3.cell (p := ⟨g, k * 6 + 3, none⟩) hgl).trans q3), (World.cell?_of_block (a := ⟨g, k * 6 + 4, none⟩) hfar).trans ((b3.cell (p := ⟨g, k * 6 + 4, none⟩) hgl).trans q4), (World.cell?_of_block (a := ⟨g, k * 6 + 5, none⟩) hfar).trans ((b3.cell (p := ⟨g, k * 6 + 5, none⟩) hgl).trans q5)⟩))
        (first
          | (refine step_append_any (by rfl) _ _ 37 (by rfl) wr.heap.size 9 j0 (.string ⟨#[]⟩) 1 16 Tryz.underlying37 ji jz0 jz1 jz2 rfl (by decide) wr.heap.size 0 0 [] (by rfl) HS0.out ⟨bg, 0, none⟩ bn bc (bss.map Value.string) (by rfl) HM1.out HNW.out HU1.out hx1 hx2 (by simp) ?_; intro g3 c3 w3 hown3 hgrow3 hat3 hlt3; have b3 : Below wr.heap.size wr w3 := ((Below.refl wr.heap.size wr).drew.alloc (Nat.le_refl _) _).grown hgrow3 (by simp) (fun j hj => by cases hj; exact Nat.le_refl _); have hsz3 := b3.size; clear HS0)
          | (refine step_append_any (by rfl) _ _ 23 (by rfl) w.heap.size 39 i0 (.agg #[.string ⟨#[]⟩, .string ⟨#[]⟩, .int .i64 0, .int .i64 0, .int .i64 0, .slice none 0 0]) 6 80 Tryz.underlying23 hi hz0 hz1 hz2 rfl (by decide) g2 c2 k _ (by rfl) (World.ownsRow.alloc (HR3.out _ b3) _) ⟨w3.heap.size, 0, none⟩ 1 1 (enBlk ⟨bh, g3, bn, c3, bss⟩) (by rfl) rfl (cells_new w3 _ _) (enBlk_one _) hy1 hy2 (by simp; omega) ?_; intro g4 c4 w4 hown4 hgrow4 hat4 hlt4))
      have hg3 : wr.heap.size ≤ g3 := by
        rcases hat3.out with h | h
        · omega
        · rw [h]; simp
      have hown3' := hown3
      have F3 : Hid (AtS w3 g3 bss) := by
        rw [Nat.zero_add] at hown3
        exact (SRow.at (srow_of (by simpa using hown3) HBN.out)).1
      have HFAR : Hid (∀ c, c < w3.heap.size → c ≠ g2 → w4.heap[c]? = w3.heap[c]?) := fun c hc hne' => (hgrow4.block c (by simp; omega) (by simpa using hne')).trans (Below.heap_alloc _ _ _ hc)
      have hsz4 : w3.heap.size ≤ w4.heap.size := Nat.le_trans (by simp) hgrow4.size
      have B4 : Hid (Below w.heap.size w w4) := ((HB.out.trans (b3.mono hsz)).alloc (by omega) _).grown hgrow4 (by simp; omega) (fun j hj => by
        cases hj
        obtain ⟨g', c', cur, hv, hB', _⟩ := R.out.block
        simp only [Value.slice.injEq, Option.some.injEq, Addr.mk.injEq, and_true] at hv
        omega)
      have R4 : Hid (BRow w.heap.size (.slice (some ⟨g4, 0, none⟩) (k + 1) c4) (cs ++ [⟨bh, g3, bn, c3, bss⟩]) w4) := by
        refine FRow.of ?_ ?_
        · rw [List.flatMap_append]
          simpa using hown4
        · rw [List.length_append, hcl]; rfl
      have O4 : Hid (OwnItems w.heap.size w4 (cs ++ [⟨bh, g3, bn, c3, bss⟩]) ∧ (∀ c ∈ cs ++ [(⟨bh, g3, bn, c3, bss⟩ : BlkV)], c.g ≠ g4) ∧ (∀ c ∈ cs ++ [(⟨bh, g3, bn, c3, bss⟩ : BlkV)], OwnIt w.heap.size w4 c) ∧ Sep (cs ++ [(⟨bh, g3, bn, c3, bss⟩ : BlkV)])) := by
        have hold : ∀ c ∈ cs, c.g < wr.heap.size ∧ c.g ≠ g2 ∧ w.heap.size ≤ c.g := fun c hc => ⟨(HO.out.1 c hc).1.1.1, HO.out.2.1 c hc, (HO.out.1 c hc).2⟩
        have hg4 : g4 = g2 ∨ w3.heap.size ≤ g4 := by
          rcases hat4.out with h | h
          · exact .inl h.symm
          · exact .inr (by rw [h]; simp)
        have hlt3' := hlt3.out
        refine ⟨?_, ?_, ?_, ?_⟩
        · intro c hc
          rcases List.mem_append.1 hc with h | h
          · have h1 := hold c h
            have h2 := (HO.out.1 c h).1
            exact ⟨⟨atS_far (h2.1.below b3 h1.1) (HFAR.out _ (by omega) h1.2.1) hsz4, h2.2⟩, h1.2.2⟩
          · obtain rfl := List.mem_singleton.1 h
            exact ⟨⟨atS_far F3.out (HFAR.out _ hlt3' (by show g3 ≠ g2; omega)) hsz4, HBN.out⟩, by show _ ≤ g3; omega⟩
        · intro c hc
          rcases List.mem_append.1 hc with h | h
          · have h1 := hold c h
            rcases hg4 with h' | h' <;> omega
          · obtain rfl := List.mem_singleton.1 h
            show g3 ≠ g4
            rcases hg4 with h' | h' <;> omega
        · intro c hc
          rcases List.mem_append.1 hc with h | h
          · have h1 := hold c h
            exact ((HO.out.2.2.1 c h).keep (b3.block _ h1.1)).keep (HFAR.out _ (by omega) h1.2.1)
          · obtain rfl := List.mem_singleton.1 h
            exact OwnIt.keep (c := ⟨bh, g3, bn, c3, bss⟩) (OwnIt.of hown3' hsz) (HFAR.out _ hlt3' (by show g3 ≠ g2; omega))
        · exact HO.out.2.2.2.more (fun x hx => by have h1 := (hold x hx).1; show x.g ≠ g3; omega)
      have S4 : Hid (SameBlks (bs.take (k + 1)) (cs ++ [⟨bh, g3, bn, c3, bss⟩])) := by
        refine ⟨?_, ?_⟩ <;> rw [HT.out, List.map_append, List.map_append]
        · rw [HSm.out.1]; rfl
        · rw [HSm.out.2]; rfl
      clear hown3 hown3' hgrow3 hown4 hgrow4 hat3 hat4 hlt3 hlt4 HFAR F3 b3 HO R HSm HNW
      go_wp2_with fail
      go_roundw
      case rel => exact ⟨k + 1, g4, c4, _, HK.out, by go_num, rfl, R4, O4, S4, B4⟩
      case measure => have := HK.out; simp [intOf]; omega
    · obtain rfl : k = n := by omega
      have HE : Hid (bs.take k = bs) := by show _ = _; rw [HN.out, List.take_length]
      go_wp2_with fail
      go_ret
      exact ⟨_, cs, rfl, ⟨R.out, HO.out.1, fun c hc h => HO.out.2.1 c hc (by simpa [Value.ownBlock] using h.symm), HO.out.2.2.1, HO.out.2.2.2⟩, by rw [HE.out] at HSm; exact HSm.out, HB.out⟩

end Go.Proofs.YtkajpkfhedfmaaaGreatDoor

