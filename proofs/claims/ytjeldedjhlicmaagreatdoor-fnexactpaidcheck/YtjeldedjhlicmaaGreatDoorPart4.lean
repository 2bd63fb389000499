/-
  Texts that the last part needs, joined.
-/
import Derived.Test.YtjeldedjhlicmaaGreatDoorPart1
import Derived.Test.YtjeldedjhlicmaaGreatDoorPart2
import Derived.Test.YtjeldedjhlicmaaGreatDoorPart3
import Derived.Test.YtjeldedjhlicmaaGreatDoorProg
import Derived.WalkKit
import Derived.WalkSpells
import Derived.Below
import Derived.Shelf.Strconv.Itoa3
import Derived.Lib.Builder
import Derived.Deep.RegionWith
import Derived.ChangeArms
import Derived.WideShapes
import Derived.OpenShut
import Derived.ProofKit
import Derived.ChangeOld
import Derived.ShutString
import Derived.BigRegion
import Derived.Deep.OwnRows
import Derived.Laws.Rows
import Derived.SliceStrings
import Derived.Lib.SmallJoins
set_option linter.unusedVariables false
namespace Go.Proofs.YtjeldedjhlicmaaGreatDoor
open Go.RowKit

theorem convOne (W : World) (g d : Nat) (hd : d < 256) (h : W.cell? ⟨g, 0, none⟩ = some (.int .u8 (d : Int))) : (convert 102 9 (.slice (some ⟨g, 0, none⟩) 1 1)).run Tryz.prog W = .ok (.string ⟨#[UInt8.ofNat d]⟩) W := by
  refine run_convert_bytes_back (P := Tryz.prog) _ 102 9 5 ⟨g, 0, none⟩ 1 [UInt8.ofNat d] Tryz.underlying102 Tryz.underlying5 Tryz.underlying9 ?_
  intro j hj
  obtain rfl : j = 0 := by simpa using hj
  have e : ([UInt8.ofNat d][0].toNat : Int) = (d : Int) := by simp [Nat.mod_eq_of_lt hd]
  have e2 : (⟨g, 0, none⟩ : Addr).add 0 = ⟨g, 0, none⟩ := rfl
  rw [e2, h]
  first | rw [e] | simp [Nat.mod_eq_of_lt hd]
theorem nDig_le : ∀ (k u : Nat), u < 10 ^ (k + 1) → Lib.nDigits u ≤ k + 1
  | 0, u, h => by rw [Lib.nDigits_small (by omega)]; omega
  | k + 1, u, h => by
    by_cases h1 : u < 10
    · rw [Lib.nDigits_small h1]; omega
    · rw [Lib.nDigits_big h1]
      have := nDig_le k (u / 10) (by rw [Nat.pow_succ] at h; omega)
      omega
theorem decLen {n : Nat} (h : n ≤ 1000000000000000000) : (Lib.decDigits n).length ≤ 19 := by
  rw [Lib.decDigits_length]
  exact nDig_le 18 n (by omega)
theorem cellOne (w : World) (v : Value) : (w.alloc (.cells #[v] 5)).cell? ⟨w.heap.size, 0, none⟩ = some v := by
  rw [Lib.cell_of_heap (heap_alloc_new _ _)]
  rfl

set_option maxHeartbeats 1000000 in
set_option maxRecDepth 100000 in
theorem specDec1 (n : Nat) (w : World) (hn : n < 10) :
    Calls Tryz.prog 61 #[.int .i64 (n : Int)] w fun e w' => e = .returned (.string ⟨(Lib.decDigits n).toArray⟩) ∧ Below w.heap.size w w' := by
  have l1 : ¬ (n : Int) < -9223372036854775807 := by omega
  have l2 : ¬ (n : Int) < 0 := by omega
  have l3 : (n : Int) < 10 := by omega
  have hcv := convOne _ w.heap.size (48 + n) (by omega) (cellOne w _)
  have e : ((48 + n : Nat) : Int) = 48 + (n : Int) := by omega
  rw [e] at hcv
  rw [Lib.decDigits_one hn]
  go_enter Tryz.func61, Tryz.ntmps61
  go_wp2
  go_ret
  exact ⟨rfl, (Below.refl _ w).alloc (Nat.le_refl _) _⟩

set_option maxHeartbeats 1000000 in
set_option maxRecDepth 100000 in
theorem specDec (n : Nat) : ∀ (w : World), n ≤ 1000000000000000000 →
    Calls Tryz.prog 61 #[.int .i64 (n : Int)] w fun e w' => e = .returned (.string ⟨(Lib.decDigits n).toArray⟩) ∧ Below w.heap.size w w' := by
  induction n using Nat.strongRecOn with
  | ind n ih =>
    intro w hn
    by_cases h10 : n < 10
    · exact specDec1 n w h10
    · have l1 : ¬ (n : Int) < -9223372036854775807 := by omega
      have l2 : ¬ (n : Int) < 0 := by omega
      have l3 : ¬ (n : Int) < 10 := by omega
      have hr := fun w' => ih (n / 10) (by omega) w' (by omega)
      have e1 : (n : Int).tdiv 10 = ((n / 10 : Nat) : Int) := by rw [Int.tdiv_eq_ediv_of_nonneg (by omega)]; omega
      have e3 : (n : Int) / 10 = ((n / 10 : Nat) : Int) := by omega
      have e4 : (n : Int) % 10 = ((n % 10 : Nat) : Int) := by omega
      have e2 : (n : Int).tmod 10 = ((n % 10 : Nat) : Int) := by rw [Int.tmod_eq_emod_of_nonneg (by omega)]; omega
      have hd : Lib.decDigits n = Lib.decDigits (n / 10) ++ [UInt8.ofNat (48 + n % 10)] := by rw [Lib.decDigits, dif_neg h10]
      have hcv := fun W g (h : W.cell? ⟨g, 0, none⟩ = some (.int .u8 (48 + ((n % 10 : Nat) : Int)))) => convOne W g (48 + n % 10) (by omega) h
      have hlen : (Lib.decDigits (n / 10)).length ≤ 1000 := by
        rw [Lib.decDigits_length]
        have := nDig_le 18 (n / 10) (by omega)
        omega
      rw [hd]
      have lm : ((n % 10 : Nat) : Int) < 10 := by omega
      have lm0 : (0 : Int) ≤ ((n % 10 : Nat) : Int) := by omega
      generalize n / 10 = q at hr e1 e3 hd hlen
      generalize n % 10 = r at hcv e2 e4 hd lm lm0
      generalize Lib.decDigits q = dq at hr hd hlen
      have hwq : IntKind.i64.wrap (q : Int) = (q : Int) := by rw [IntKind.wrap_i64]; omega
      have hw48 : IntKind.i64.wrap (48 + (r : Int)) = 48 + (r : Int) := by rw [IntKind.wrap_i64]; omega
      have hw8 : IntKind.u8.wrap (48 + (r : Int)) = 48 + (r : Int) := by rw [IntKind.wrap_u8]; omega
      generalize UInt8.ofNat (48 + r) = u at hcv hd ⊢
      clear hd ih
      go_enter Tryz.func61, Tryz.ntmps61
      go_wp2_with fail
      go_region_with (go_at_call 61; refine (hr _).mono ?_; rintro e w1 ⟨rfl, b1⟩; try (have q1 := (b1.cell (p := ⟨w.heap.size, 0, none⟩) (by simp)).trans (cellOne w _)))
      all_goals
        go_wp2_with fail
        go_ret
        have HEQ : Hid ((⟨dq.toArray⟩ ++ ⟨#[u]⟩ : ByteArray) = ⟨(dq ++ [u]).toArray⟩) := by
          show _ = _
          apply ByteArray.ext
          simp
        refine ⟨?_, ?_⟩
        · rw [← HEQ.out]
          rfl
        · first
            | exact (((Below.refl w.heap.size w).drew).trans b1).alloc b1.size _
            | exact (((Below.refl w.heap.size w).alloc (Nat.le_refl _) _).drew).trans (b1.mono (by simp))

end Go.Proofs.YtjeldedjhlicmaaGreatDoor

set_option linter.unusedVariables false
namespace Go.Proofs.YtjeldedjhlicmaaGreatDoor
open Go.RowKit

structure HeadV where
  prev : ByteArray
  root : ByteArray
  time : Int
  diff : Int
  nonce : Int
instance : Inhabited HeadV := ⟨⟨⟨#[]⟩, ⟨#[]⟩, 0, 0, 0⟩⟩
def headOkB (h : HeadV) : Bool := isSum h.prev.data.toList && (isSum h.root.data.toList && (decide (0 ≤ h.time ∧ h.time ≤ 99999) && (decide (1 ≤ h.diff ∧ h.diff ≤ 8) && decide (0 ≤ h.nonce ∧ h.nonce ≤ 400))))
/-- The five texts of a head. -/
def headL (h : HeadV) : List ByteArray := [h.prev, h.root, ⟨(Lib.decDigits h.time.toNat).toArray⟩, ⟨(Lib.decDigits h.diff.toNat).toArray⟩, ⟨(Lib.decDigits h.nonce.toNat).toArray⟩]
def headT (h : HeadV) : List UInt8 := joinTo (headL h) [32] 4
def headPut (h : HeadV) : List UInt8 := if headOkB h = true then headT h else []
theorem headOk_in {h : HeadV} (hh : headOkB h = true) : isSum h.prev.data.toList = true ∧ isSum h.root.data.toList = true ∧ (0 ≤ h.time ∧ h.time ≤ 99999) ∧ (1 ≤ h.diff ∧ h.diff ≤ 8) ∧ 0 ≤ h.nonce ∧ h.nonce ≤ 400 := by
  simp only [headOkB, Bool.and_eq_true, decide_eq_true_eq] at hh
  exact hh

set_option maxHeartbeats 2000000 in
set_option maxRecDepth 100000 in
theorem implHeadOk (h : HeadV) (w : World) :
    Calls Tryz.prog 69 #[.agg #[.string h.prev, .string h.root, .int .i64 h.time, .int .i64 h.diff, .int .i64 h.nonce]] w fun e w' => e = .returned (.bool (headOkB h)) ∧ Below w.heap.size w w' := by
  have hb : ∀ o, Below w.heap.size w (w.alloc o) := fun o => (Below.refl _ w).alloc (Nat.le_refl _) o
  by_cases h1 : isSum h.prev.data.toList = false
  · have e : headOkB h = false := by simp [headOkB, h1]
    rw [e]
    clear e
    go_enter Tryz.func69, Tryz.ntmps69
    go_wp2_with (go_at_call 53; refine (implSumOk _ _).mono ?_; rintro e w1 ⟨rfl, rfl⟩)
    go_ret
    exact ⟨rfl, hb _⟩
  have k1 : isSum h.prev.data.toList = true := by simpa using h1
  clear h1
  by_cases h2 : isSum h.root.data.toList = false
  · have e : headOkB h = false := by simp [headOkB, h2]
    rw [e]
    clear e
    go_enter Tryz.func69, Tryz.ntmps69
    go_wp2_with (go_at_call 53; refine (implSumOk _ _).mono ?_; rintro e w1 ⟨rfl, rfl⟩)
    go_ret
    exact ⟨rfl, hb _⟩
  have k2 : isSum h.root.data.toList = true := by simpa using h2
  clear h2
  by_cases h3 : h.time < 0
  · have e : headOkB h = false := by
      cases hh : headOkB h with
      | false => rfl
      | true => have := headOk_in hh; omega
    rw [e]
    clear e
    go_enter Tryz.func69, Tryz.ntmps69
    go_wp2_with (go_at_call 53; refine (implSumOk _ _).mono ?_; rintro e w1 ⟨rfl, rfl⟩)
    go_ret
    exact ⟨rfl, hb _⟩
  by_cases h4 : 99999 < h.time
  · have e : headOkB h = false := by
      cases hh : headOkB h with
      | false => rfl
      | true => have := headOk_in hh; omega
    rw [e]
    clear e
    go_enter Tryz.func69, Tryz.ntmps69
    go_wp2_with (go_at_call 53; refine (implSumOk _ _).mono ?_; rintro e w1 ⟨rfl, rfl⟩)
    go_ret
    exact ⟨rfl, hb _⟩
  by_cases h5 : h.diff < 1
  · have e : headOkB h = false := by
      cases hh : headOkB h with
      | false => rfl
      | true => have := headOk_in hh; omega
    rw [e]
    clear e
    go_enter Tryz.func69, Tryz.ntmps69
    go_wp2_with (go_at_call 53; refine (implSumOk _ _).mono ?_; rintro e w1 ⟨rfl, rfl⟩)
    go_ret
    exact ⟨rfl, hb _⟩
  by_cases h6 : 8 < h.diff
  · have e : headOkB h = false := by
      cases hh : headOkB h with
      | false => rfl
      | true => have := headOk_in hh; omega
    rw [e]
    clear e
    go_enter Tryz.func69, Tryz.ntmps69
    go_wp2_with (go_at_call 53; refine (implSumOk _ _).mono ?_; rintro e w1 ⟨rfl, rfl⟩)
    go_ret
    exact ⟨rfl, hb _⟩
  by_cases h7 : h.nonce < 0
  · have e : headOkB h = false := by
      cases hh : headOkB h with
      | false => rfl
      | true => have := headOk_in hh; omega
    rw [e]
    clear e
    go_enter Tryz.func69, Tryz.ntmps69
    go_wp2_with (go_at_call 53; refine (implSumOk _ _).mono ?_; rintro e w1 ⟨rfl, rfl⟩)
    go_ret
    exact ⟨rfl, hb _⟩
  have e : headOkB h = decide (h.nonce ≤ 400) := by
    rw [headOkB, k1, k2, Bool.true_and, Bool.true_and, Bool.eq_iff_iff]
    simp
    omega
  rw [e]
  clear e
  go_enter Tryz.func69, Tryz.ntmps69
  go_wp2_with (go_at_call 53; refine (implSumOk _ _).mono ?_; rintro e w1 ⟨rfl, rfl⟩)
  go_ret
  exact ⟨rfl, hb _⟩

set_option maxHeartbeats 2000000 in
set_option maxRecDepth 100000 in
theorem specL3Ok (h : HeadV) (w : World) (hp : h.prev.size ≤ maxLen) (hr : h.root.size ≤ maxLen) :
    Calls Tryz.prog 13 #[.agg #[.string h.prev, .string h.root, .int .i64 h.time, .int .i64 h.diff, .int .i64 h.nonce]] w fun e w' => e = .returned (.bool (headOkB h)) ∧ Below w.heap.size w w' := by
  have hb : ∀ o, Below w.heap.size w (w.alloc o) := fun o => (Below.refl _ w).alloc (Nat.le_refl _) o
  by_cases h1 : isSum h.prev.data.toList = false
  · have e : headOkB h = false := by simp [headOkB, h1]
    rw [e]
    clear e
    go_enter Tryz.func13, Tryz.ntmps13
    go_wp2_with (first | (go_at_call_of 12 (Value.string h.prev); refine (specIsSum _ _ hp).mono ?_; rintro e w1 ⟨rfl, rfl⟩) | (go_at_call_of 12 (Value.string h.root); refine (specIsSum _ _ hr).mono ?_; rintro e w1 ⟨rfl, rfl⟩) | (go_at_call 28; refine (specIn _ _ _ _).mono ?_; rintro e w1 ⟨rfl, rfl⟩))
    go_ret
    exact ⟨rfl, hb _⟩
  have k1 : isSum h.prev.data.toList = true := by simpa using h1
  clear h1
  by_cases h2 : isSum h.root.data.toList = false
  · have e : headOkB h = false := by simp [headOkB, h2]
    rw [e]
    clear e
    go_enter Tryz.func13, Tryz.ntmps13
    go_wp2_with (first | (go_at_call_of 12 (Value.string h.prev); refine (specIsSum _ _ hp).mono ?_; rintro e w1 ⟨rfl, rfl⟩) | (go_at_call_of 12 (Value.string h.root); refine (specIsSum _ _ hr).mono ?_; rintro e w1 ⟨rfl, rfl⟩) | (go_at_call 28; refine (specIn _ _ _ _).mono ?_; rintro e w1 ⟨rfl, rfl⟩))
    go_ret
    exact ⟨rfl, hb _⟩
  have k2 : isSum h.root.data.toList = true := by simpa using h2
  clear h2
  by_cases h3 : ¬ (0 ≤ h.time ∧ h.time ≤ 99999)
  · have e : headOkB h = false := by
      cases hh : headOkB h with
      | false => rfl
      | true => have := headOk_in hh; omega
    have i3 := inB_no h3
    rw [e]
    clear e
    go_enter Tryz.func13, Tryz.ntmps13
    go_wp2_with (first | (go_at_call_of 12 (Value.string h.prev); refine (specIsSum _ _ hp).mono ?_; rintro e w1 ⟨rfl, rfl⟩) | (go_at_call_of 12 (Value.string h.root); refine (specIsSum _ _ hr).mono ?_; rintro e w1 ⟨rfl, rfl⟩) | (go_at_call 28; refine (specIn _ _ _ _).mono ?_; rintro e w1 ⟨rfl, rfl⟩))
    go_ret
    exact ⟨rfl, hb _⟩
  have i3 := inB_yes (by simpa using h3 : 0 ≤ h.time ∧ h.time ≤ 99999)
  by_cases h4 : ¬ (1 ≤ h.diff ∧ h.diff ≤ 8)
  · have e : headOkB h = false := by
      cases hh : headOkB h with
      | false => rfl
      | true => have := headOk_in hh; omega
    have i4 := inB_no h4
    rw [e]
    clear e
    go_enter Tryz.func13, Tryz.ntmps13
    go_wp2_with (first | (go_at_call_of 12 (Value.string h.prev); refine (specIsSum _ _ hp).mono ?_; rintro e w1 ⟨rfl, rfl⟩) | (go_at_call_of 12 (Value.string h.root); refine (specIsSum _ _ hr).mono ?_; rintro e w1 ⟨rfl, rfl⟩) | (go_at_call 28; refine (specIn _ _ _ _).mono ?_; rintro e w1 ⟨rfl, rfl⟩))
    go_ret
    exact ⟨rfl, hb _⟩
  have i4 := inB_yes (by simpa using h4 : 1 ≤ h.diff ∧ h.diff ≤ 8)
  by_cases h5 : ¬ (0 ≤ h.nonce ∧ h.nonce ≤ 400)
  · have e : headOkB h = false := by
      cases hh : headOkB h with
      | false => rfl
      | true => have := headOk_in hh; omega
    have i5 := inB_no h5
    rw [e]
    clear e
    go_enter Tryz.func13, Tryz.ntmps13
    go_wp2_with (first | (go_at_call_of 12 (Value.string h.prev); refine (specIsSum _ _ hp).mono ?_; rintro e w1 ⟨rfl, rfl⟩) | (go_at_call_of 12 (Value.string h.root); refine (specIsSum _ _ hr).mono ?_; rintro e w1 ⟨rfl, rfl⟩) | (go_at_call 28; refine (specIn _ _ _ _).mono ?_; rintro e w1 ⟨rfl, rfl⟩))
    go_ret
    exact ⟨rfl, hb _⟩
  have i5 := inB_yes (by simpa using h5 : 0 ≤ h.nonce ∧ h.nonce ≤ 400)
  have e : headOkB h = true := by
    rw [headOkB, k1, k2]
    simp
    omega
  rw [e]
  clear e
  go_enter Tryz.func13, Tryz.ntmps13
  go_wp2_with (first | (go_at_call_of 12 (Value.string h.prev); refine (specIsSum _ _ hp).mono ?_; rintro e w1 ⟨rfl, rfl⟩) | (go_at_call_of 12 (Value.string h.root); refine (specIsSum _ _ hr).mono ?_; rintro e w1 ⟨rfl, rfl⟩) | (go_at_call 28; refine (specIn _ _ _ _).mono ?_; rintro e w1 ⟨rfl, rfl⟩))
  go_ret
  exact ⟨rfl, hb _⟩

end Go.Proofs.YtjeldedjhlicmaaGreatDoor

set_option linter.unusedVariables false
namespace Go.Proofs.YtjeldedjhlicmaaGreatDoor
open Go.ChangeShapes Go.WideShapes Go.ChangeAt Go.RowKit

def headVal (h : HeadV) : Value := .agg #[.string h.prev, .string h.root, .int .i64 h.time, .int .i64 h.diff, .int .i64 h.nonce]
structure HeadWf (h : HeadV) : Prop where
  p : h.prev.size ≤ maxLen
  r : h.root.size ≤ maxLen
  t : (Lit.int .i64 h.time).wf = true
  d : (Lit.int .i64 h.diff).wf = true
  n : (Lit.int .i64 h.nonce).wf = true
theorem five_of_parts {cs : Array Value} {a b c d e : Value} (hl : cs.toList.length = 5) (h0 : (cs.toList.drop 0).take 1 = [a]) (h1 : (cs.toList.drop 1).take 1 = [b]) (h2 : (cs.toList.drop 2).take 1 = [c]) (h3 : (cs.toList.drop 3).take 1 = [d]) (h4 : (cs.toList.drop 4).take 1 = [e]) : cs = #[a, b, c, d, e] := by
  obtain ⟨l⟩ := cs
  match l, hl with
  | [x0, x1, x2, x3, x4], _ =>
    simp at h0 h1 h2 h3 h4
    subst h0 h1 h2 h3 h4
    rfl
theorem cellsStr : Tryz.prog.cellsOf 9 = 1 := by kernel_rfl
theorem cellsInt : Tryz.prog.cellsOf 3 = 1 := by kernel_rfl
theorem cellsLHead : Tryz.prog.cellsOf 23 = 5 := by kernel_rfl
set_option maxRecDepth 100000 in
theorem open_head {H : Type} {enc : TypeId × Value → H} {W : World} {base b0 : Nat} {sp : Nat → Bool} {held : Bool} {v : Value} {d : DataW H} {p : List MemPlace} (hv : Value.okWide Tryz.prog W .any b0 23 v) (h : DataW.Trod enc Tryz.prog W base sp held 23 v d p) :
    ∃ x : HeadV, v = headVal x ∧ HeadWf x := by
  obtain ⟨cs, rfl, hcs⟩ := okWide_struct Tryz.underlying23 hv
  obtain ⟨fuel, hf⟩ := h
  obtain ⟨xs, n, _, _, hl, hlen, hx⟩ := DataW.trod_struct Tryz.underlying23 hf
  match xs, hlen with
  | [y0, y1, y2, y3, y4], _ =>
    have g0 := hx 0 _ rfl
    have g1 := hx 1 _ rfl
    have g2 := hx 2 _ rfl
    have g3 := hx 3 _ rfl
    have g4 := hx 4 _ rfl
    obtain ⟨s0, e0, _, z0⟩ := DataW.trod_string Tryz.underlying9 g0
    obtain ⟨s1, e1, _, z1⟩ := DataW.trod_string Tryz.underlying9 g1
    obtain ⟨s2, e2, _, z2⟩ := DataW.trod_int Tryz.underlying3 g2
    obtain ⟨s3, e3, _, z3⟩ := DataW.trod_int Tryz.underlying3 g3
    obtain ⟨s4, e4, _, z4⟩ := DataW.trod_int Tryz.underlying3 g4
    replace e0 : (cs.toList.drop 0).take (Tryz.prog.cellsOf 9) = [_] := e0
    replace e1 : (cs.toList.drop 1).take (Tryz.prog.cellsOf 9) = [_] := e1
    replace e2 : (cs.toList.drop 2).take (Tryz.prog.cellsOf 3) = [_] := e2
    replace e3 : (cs.toList.drop 3).take (Tryz.prog.cellsOf 3) = [_] := e3
    replace e4 : (cs.toList.drop 4).take (Tryz.prog.cellsOf 3) = [_] := e4
    rw [cellsStr] at e0 e1
    rw [cellsInt] at e2 e3 e4
    replace hl : cs.toList.length = Tryz.prog.cellsOf 23 := hl
    rw [cellsLHead] at hl
    refine ⟨⟨s0, s1, s2, s3, s4⟩, ?_, z0, z1, z2, z3, z4⟩
    rw [headVal, five_of_parts hl e0 e1 e2 e3 e4]

theorem alloc3_midH (w : World) (o1 o2 o3 : Obj) : (((w.alloc o1).alloc o2).alloc o3).heap[w.heap.size + 1]? = some o2 := by
  have e : w.heap.size + 1 = (w.alloc o1).heap.size := by simp
  rw [e, Below.heap_alloc _ _ _ (by simp)]
  exact heap_alloc_new _ _

set_option maxHeartbeats 1000000 in
set_option maxRecDepth 100000 in
theorem szHead (h : HeadV) (w : World) (hw : HeadWf h) :
    Calls Tryz.prog 9 #[headVal h, .int .i64 1048576] w fun e w' => Below w.heap.size w w' ∧ (e = .returned (.int .i64 (-1)) ∨ ∃ r : Nat, e = .returned (.int .i64 (r : Int)) ∧ h.prev.size ≤ 1048576 ∧ h.root.size ≤ 1048576) := by
  have h1 := hw.p
  have h2 := hw.r
  unfold maxLen at h1 h2
  clear hw
  obtain ⟨p, r, t, d, n⟩ := h
  unfold headVal
  dsimp only at h1 h2 ⊢
  have hb : ∀ o, Below w.heap.size w (w.alloc o) := fun o => (Below.refl _ w).alloc (Nat.le_refl _) o
  have w1 : IntKind.i64.wrap (1048576 - (p.size : Int)) = 1048576 - (p.size : Int) := by rw [IntKind.wrap_i64]; omega
  by_cases hp : 1048576 < p.size
  · have hp' : (1048576 : Int) - (p.size : Int) < 0 := by omega
    go_enter Tryz.func9, Tryz.ntmps9
    go_wp2
    go_ret
    exact ⟨hb _, .inl rfl⟩
  have hp' : ¬ (1048576 : Int) - (p.size : Int) < 0 := by omega
  have w2 : IntKind.i64.wrap (1048576 - (p.size : Int) - (r.size : Int)) = 1048576 - (p.size : Int) - (r.size : Int) := by rw [IntKind.wrap_i64]; omega
  by_cases hr : 1048576 - (p.size : Int) - (r.size : Int) < 0
  · go_enter Tryz.func9, Tryz.ntmps9
    go_wp2
    go_ret
    exact ⟨hb _, .inl rfl⟩
  go_enter Tryz.func9, Tryz.ntmps9
  go_wp2
  go_ret
  refine ⟨hb _, .inr ⟨⟨1048576 - p.size - r.size, ?_⟩, by omega, by omega⟩⟩
  show Ending.returned (Value.int IntKind.i64 (1048576 - (p.size : Int) - (r.size : Int))) = _
  congr 2
  omega

set_option maxHeartbeats 1000000 in
set_option maxRecDepth 100000 in
theorem toHead1 (h : HeadV) (w : World) :
    Calls Tryz.prog 17 #[headVal h] w fun e w' => e = .returned (headVal h) ∧ Below w.heap.size w w' := by
  unfold headVal
  go_enter Tryz.func17, Tryz.ntmps17
  go_wp2
  exact bodyPost_ret (results_cell_row (p := 2) rfl _ _ (w.heap.size + 1) 32 #[.string h.prev, .string h.root, .int .i64 h.time, .int .i64 h.diff, .int .i64 h.nonce] (0, 0) _ rfl (alloc3_midH _ _ _ _) Tryz.underlying32 rfl (by kernel_rfl)) rfl ⟨rfl, (((Below.refl _ w).alloc (Nat.le_refl _) _).alloc (by simp) _).alloc (by simp; omega) _⟩

end Go.Proofs.YtjeldedjhlicmaaGreatDoor

set_option linter.unusedVariables false
namespace Go.Proofs.YtjeldedjhlicmaaGreatDoor
open Go.ChangeShapes Go.WideShapes Go.ChangeAt Go.RowKit Go.Deep

def enHead (p : HeadV) : List Value := [.string p.prev, .string p.root, .int .i64 p.time, .int .i64 p.diff, .int .i64 p.nonce]
theorem enHead_len (p : HeadV) : (enHead p).length = 5 := rfl
/-- Its texts can be held. -/
def wfHead (p : HeadV) : Prop := p.prev.size ≤ maxLen ∧ p.root.size ≤ maxLen
/-- Its texts are small. -/
def smallHead (p : HeadV) : Prop := p.prev.size ≤ 1048576 ∧ p.root.size ≤ 1048576
abbrev IsHeads (w : World) (a : Option Addr) (len cap : Nat) (l : List HeadV) : Prop := IsFlat enHead wfHead 5 w a len cap l
abbrev RowHead (w : World) (g : Nat) (l : List HeadV) : Prop := RowF enHead 32 w g l
abbrev AtHead (w : World) (g : Nat) (l : List HeadV) : Prop := AtF enHead 5 w g l
theorem AtHead.c0 {w : World} {g : Nat} {l : List HeadV} (h : AtHead w g l) (i : Nat) (hi : i < l.length) : w.cell? ⟨g, i * 5, none⟩ = some (.string (l.getD i default).prev) := h.2 i 0 hi (by decide)
theorem AtHead.c1 {w : World} {g : Nat} {l : List HeadV} (h : AtHead w g l) (i : Nat) (hi : i < l.length) : w.cell? ⟨g, i * 5 + 1, none⟩ = some (.string (l.getD i default).root) := h.2 i 1 hi (by decide)
theorem AtHead.c2 {w : World} {g : Nat} {l : List HeadV} (h : AtHead w g l) (i : Nat) (hi : i < l.length) : w.cell? ⟨g, i * 5 + 2, none⟩ = some (.int .i64 (l.getD i default).time) := h.2 i 2 hi (by decide)
theorem AtHead.c3 {w : World} {g : Nat} {l : List HeadV} (h : AtHead w g l) (i : Nat) (hi : i < l.length) : w.cell? ⟨g, i * 5 + 3, none⟩ = some (.int .i64 (l.getD i default).diff) := h.2 i 3 hi (by decide)
theorem AtHead.c4 {w : World} {g : Nat} {l : List HeadV} (h : AtHead w g l) (i : Nat) (hi : i < l.length) : w.cell? ⟨g, i * 5 + 4, none⟩ = some (.int .i64 (l.getD i default).nonce) := h.2 i 4 hi (by decide)
theorem cellsHead {w : World} {x : Addr} {p : HeadV} (h : ∀ j, j < 5 → w.cell? (x.add j) = (enHead p)[j]?) : w.cell? x = some (.string p.prev) ∧ w.cell? ⟨x.block, x.off + 1, none⟩ = some (.string p.root) ∧ w.cell? ⟨x.block, x.off + 2, none⟩ = some (.int .i64 p.time) ∧ w.cell? ⟨x.block, x.off + 3, none⟩ = some (.int .i64 p.diff) ∧ w.cell? ⟨x.block, x.off + 4, none⟩ = some (.int .i64 p.nonce) := by
  exact ⟨h 0 (by decide), h 1 (by decide), h 2 (by decide), h 3 (by decide), h 4 (by decide)⟩
theorem partsHead {cs : List Value} {a0 a1 a2 a3 a4 : Value} (hl : cs.length = 5) (h0 : (cs.drop 0).take 1 = [a0]) (h1 : (cs.drop 1).take 1 = [a1]) (h2 : (cs.drop 2).take 1 = [a2]) (h3 : (cs.drop 3).take 1 = [a3]) (h4 : (cs.drop 4).take 1 = [a4]) : cs = [a0, a1, a2, a3, a4] := by
  match cs, hl with
  | [x0, x1, x2, x3, x4], _ =>
    simp at h0 h1 h2 h3 h4
    subst h0 h1 h2 h3 h4
    rfl
theorem oneHead_i : Tryz.prog.cellsOf 3 = 1 := by kernel_rfl
theorem oneHead_s : Tryz.prog.cellsOf 9 = 1 := by kernel_rfl
theorem sizeHead : Tryz.prog.cellsOf 23 = 5 := by kernel_rfl
set_option maxRecDepth 100000 in
theorem invHead {H : Type} {enc : TypeId × Value → H} {W : World} {base : Nat} {sp : Nat → Bool} {held : Bool} (n : Nat) (cs : List Value) (y : DataW H × List MemPlace) (h : DataW.trod enc Tryz.prog W base sp held n 23 cs = some y) (hl : cs.length = 5) : ∃ v : HeadV, cs = enHead v ∧ wfHead v := by
  obtain ⟨xs, n, _, _, _, hlen, hx⟩ := DataW.trod_struct Tryz.underlying23 h
  match xs, hlen with
  | [y0, y1, y2, y3, y4], _ =>
    have g0 := hx 0 _ rfl
    have g1 := hx 1 _ rfl
    have g2 := hx 2 _ rfl
    have g3 := hx 3 _ rfl
    have g4 := hx 4 _ rfl
    obtain ⟨s0, e0, _, z0⟩ := DataW.trod_string Tryz.underlying9 g0
    replace e0 : (cs.drop 0).take (Tryz.prog.cellsOf 9) = [_] := e0
    rw [oneHead_s] at e0
    obtain ⟨s1, e1, _, z1⟩ := DataW.trod_string Tryz.underlying9 g1
    replace e1 : (cs.drop 1).take (Tryz.prog.cellsOf 9) = [_] := e1
    rw [oneHead_s] at e1
    obtain ⟨s2, e2, _, z2⟩ := DataW.trod_int Tryz.underlying3 g2
    replace e2 : (cs.drop 2).take (Tryz.prog.cellsOf 3) = [_] := e2
    rw [oneHead_i] at e2
    obtain ⟨s3, e3, _, z3⟩ := DataW.trod_int Tryz.underlying3 g3
    replace e3 : (cs.drop 3).take (Tryz.prog.cellsOf 3) = [_] := e3
    rw [oneHead_i] at e3
    obtain ⟨s4, e4, _, z4⟩ := DataW.trod_int Tryz.underlying3 g4
    replace e4 : (cs.drop 4).take (Tryz.prog.cellsOf 3) = [_] := e4
    rw [oneHead_i] at e4
    exact ⟨⟨s0, s1, s2, s3, s4⟩, partsHead hl e0 e1 e2 e3 e4, z0, z1⟩
set_option maxHeartbeats 1000000 in
set_option maxRecDepth 100000 in
theorem szHead1 (p : HeadV) (r : Nat) (w : World) (hr : r ≤ 1048576) (hs : wfHead p) :
    Calls Tryz.prog 9 #[.agg #[.string p.prev, .string p.root, .int .i64 p.time, .int .i64 p.diff, .int .i64 p.nonce], .int .i64 (r : Int)] w fun e w' => Below w.heap.size w w' ∧ (e = .returned (.int .i64 (-1)) ∨ ∃ q : Nat, e = .returned (.int .i64 (q : Int)) ∧ q ≤ r ∧ smallHead p) := by
  unfold wfHead maxLen at hs
  have hb : ∀ o, Below w.heap.size w (w.alloc o) := fun o => (Below.refl _ w).alloc (Nat.le_refl _) o
  have hw_prev : IntKind.i64.wrap ((r : Int) - (p.prev.size : Int)) = (r : Int) - (p.prev.size : Int) := by rw [IntKind.wrap_i64]; omega
  by_cases hl_prev : (r : Int) - (p.prev.size : Int) < 0
  · go_enter Tryz.func9, Tryz.ntmps9
    go_wp2
    go_ret
    exact ⟨hb _, .inl rfl⟩
  have hw_root : IntKind.i64.wrap ((r : Int) - (p.prev.size : Int) - (p.root.size : Int)) = (r : Int) - (p.prev.size : Int) - (p.root.size : Int) := by rw [IntKind.wrap_i64]; omega
  by_cases hl_root : (r : Int) - (p.prev.size : Int) - (p.root.size : Int) < 0
  · go_enter Tryz.func9, Tryz.ntmps9
    go_wp2
    go_ret
    exact ⟨hb _, .inl rfl⟩
  have HS : Hid (smallHead p) := by show smallHead p; unfold smallHead; omega
  go_enter Tryz.func9, Tryz.ntmps9
  go_wp2
  go_ret
  refine ⟨hb _, .inr ⟨r - p.prev.size - p.root.size, ?_, by omega, HS.out⟩⟩
  show Ending.returned (Value.int IntKind.i64 ((r : Int) - (p.prev.size : Int) - (p.root.size : Int))) = _
  congr 2
  omega
set_option maxHeartbeats 1000000 in
set_option maxRecDepth 100000 in
theorem toHeadA (p : HeadV) (w : World) :
    Calls Tryz.prog 17 #[.agg #[.string p.prev, .string p.root, .int .i64 p.time, .int .i64 p.diff, .int .i64 p.nonce]] w fun e w' => e = .returned (.agg #[.string p.prev, .string p.root, .int .i64 p.time, .int .i64 p.diff, .int .i64 p.nonce]) ∧ Below w.heap.size w w' := by
  go_enter Tryz.func17, Tryz.ntmps17
  go_wp2
  exact bodyPost_ret (results_cell_row (p := 2) rfl _ _ (w.heap.size + 1) 32 #[.string p.prev, .string p.root, .int .i64 p.time, .int .i64 p.diff, .int .i64 p.nonce] (0, 0) _ rfl (alloc3_midH _ _ _ _) Tryz.underlying32 rfl (by kernel_rfl)) rfl ⟨rfl, (((Below.refl _ w).alloc (Nat.le_refl _) _).alloc (by simp) _).alloc (by simp; omega) _⟩
set_option maxHeartbeats 1000000 in
set_option maxRecDepth 100000 in
theorem eqHeadA (p : HeadV) (w : World) :
    Calls Tryz.prog 22 #[.agg #[.string p.prev, .string p.root, .int .i64 p.time, .int .i64 p.diff, .int .i64 p.nonce], .agg #[.string p.prev, .string p.root, .int .i64 p.time, .int .i64 p.diff, .int .i64 p.nonce]] w fun e w' => e = .returned (.bool true) ∧ Below w.heap.size w w' := by
  go_enter Tryz.func22, Tryz.ntmps22
  go_wp2
  go_ret
  exact ⟨rfl, ((Below.refl _ w).alloc (Nat.le_refl _) _).alloc (by simp) _⟩

theorem infoHead : (Tryz.prog.info? 32).map (fun i => (i.zero, i.size, i.bytes)) = some (some (.agg #[.string ⟨#[]⟩, .string ⟨#[]⟩, .int .i64 0, .int .i64 0, .int .i64 0]), 5, 56) := by kernel_rfl
def zeroHead : HeadV := ⟨⟨#[]⟩, ⟨#[]⟩, 0, 0, 0⟩
theorem RowHead.put {w : World} {g : Nat} {l : List HeadV} (h : RowHead w g l) (i : Nat) (hi : i < l.length) (p : HeadV) :
    RowHead (((((w.setCell ⟨g, i * 5, none⟩ (.string p.prev)).setCell ⟨g, i * 5 + 1, none⟩ (.string p.root)).setCell ⟨g, i * 5 + 2, none⟩ (.int .i64 p.time)).setCell ⟨g, i * 5 + 3, none⟩ (.int .i64 p.diff)).setCell ⟨g, i * 5 + 4, none⟩ (.int .i64 p.nonce)) g (l.set i p) := by
  show _ = _
  rw [← flat_put 5 enHead enHead_len l i p hi]
  exact (rowSet (rowSet (rowSet (rowSet (rowSet h _) _) _) _) _)

end Go.Proofs.YtjeldedjhlicmaaGreatDoor

set_option linter.unusedVariables false
namespace Go.Proofs.YtjeldedjhlicmaaGreatDoor
open Go.RowKit

def SzOk (zs : List ByteArray) (len : Nat) (e : Ending) : Prop := e = .returned (.int .i64 (-1)) ∨ ∃ r : Nat, e = .returned (.int .i64 (r : Int)) ∧ len ≤ 1048576 ∧ ∀ i, i < len → (zs.getD i ByteArray.empty).size ≤ 1048576
end Go.Proofs.YtjeldedjhlicmaaGreatDoor

set_option linter.unusedVariables false
namespace Go.Proofs.YtjeldedjhlicmaaGreatDoor
open Go.ChangeShapes Go.WideShapes Go.ChangeAt Go.RowKit Go.Deep

def blockVal (h : HeadV) (s : Value) : Value := .agg #[.string h.prev, .string h.root, .int .i64 h.time, .int .i64 h.diff, .int .i64 h.nonce, s]
theorem six_of_parts {cs : Array Value} {b : Value} {h : List Value} (hl : cs.toList.length = 6) (h0 : (cs.toList.drop 0).take 5 = h) (h1 : (cs.toList.drop 5).take 1 = [b]) : cs.toList = h ++ [b] := by
  rw [← h0, ← h1, List.drop_zero, List.take_of_length_le (l := cs.toList.drop 5) (by rw [List.length_drop, hl]; decide), List.take_append_drop]
theorem cellsStrs : Tryz.prog.cellsOf 128 = 1 := by kernel_rfl
/-- A block of memory, its cells written out. -/
def CBk (w : World) (g : Nat) (T : TypeId) (cs : Array Value) : Prop := w.heap[g]? = some (.cells cs T (0, 0))
theorem CBk.lt {w : World} {g : Nat} {T : TypeId} {cs : Array Value} (h : CBk w g T cs) : g < w.heap.size := by
  rcases Nat.lt_or_ge g w.heap.size with h' | h'
  · exact h'
  · simp [CBk, Array.getElem?_eq_none h'] at h
theorem CBk.below {w w' : World} {g B : Nat} {T : TypeId} {cs : Array Value} (h : CBk w g T cs) (hb : Below B w w') (hg : g < B) : CBk w' g T cs := by
  unfold CBk at h ⊢
  rw [hb.block g hg]
  exact h
theorem CBk.call {w w' : World} {g : Nat} {T : TypeId} {cs : Array Value} (h : CBk w g T cs) (hb : Below w.heap.size w w') : CBk w' g T cs := h.below hb h.lt
theorem CBk.alloc {w : World} {g : Nat} {T : TypeId} {cs : Array Value} (h : CBk w g T cs) (o : Obj) : CBk (w.alloc o) g T cs := h.call ((Below.refl _ w).alloc (Nat.le_refl _) o)
theorem CBk.new (w : World) (T : TypeId) (cs : Array Value) : CBk (w.alloc (.cells cs T)) w.heap.size T cs := heap_alloc_new w _
theorem CBk.cell {w : World} {g : Nat} {T : TypeId} {cs : Array Value} (h : CBk w g T cs) (i : Nat) : w.cell? ⟨g, i, none⟩ = cs[i]? := by rw [Lib.cell_of_heap h]
theorem CBk.frozen {w : World} {g : Nat} {T : TypeId} {cs : Array Value} (h : CBk w g T cs) (i : Nat) : w.frozen? ⟨g, i, none⟩ = false := Lib.frozen_of_heap h i
theorem CBk.set {w : World} {g : Nat} {T : TypeId} {cs : Array Value} (h : CBk w g T cs) (i : Nat) (v : Value) : CBk (w.setCell ⟨g, i, none⟩ v) g T (cs.setIfInBounds i v) := by
  unfold CBk at h ⊢
  simp only [World.setCell, Array.getElem?_modify, h]
  simp
theorem CBk.other {w : World} {g g' j : Nat} {T : TypeId} {cs : Array Value} (h : CBk w g T cs) (hg : g' ≠ g) (v : Value) : CBk (w.setCell ⟨g', j, none⟩ v) g T cs := by
  unfold CBk at h ⊢; simp [World.setCell, Array.getElem?_modify, h, hg]
theorem CBk.six {w : World} {g : Nat} {T : TypeId} {a b c d e f : Value} (h : CBk w g T #[a, b, c, d, e, f]) : w.cell? ⟨g, 0, none⟩ = some a ∧ w.cell? ⟨g, 1, none⟩ = some b ∧ w.cell? ⟨g, 2, none⟩ = some c ∧ w.cell? ⟨g, 3, none⟩ = some d ∧ w.cell? ⟨g, 4, none⟩ = some e ∧ w.cell? ⟨g, 5, none⟩ = some f ∧ w.frozen? ⟨g, 0, none⟩ = false ∧ w.frozen? ⟨g, 1, none⟩ = false ∧ w.frozen? ⟨g, 2, none⟩ = false ∧ w.frozen? ⟨g, 3, none⟩ = false ∧ w.frozen? ⟨g, 4, none⟩ = false ∧ w.frozen? ⟨g, 5, none⟩ = false :=
  ⟨h.cell 0, h.cell 1, h.cell 2, h.cell 3, h.cell 4, h.cell 5, h.frozen 0, h.frozen 1, h.frozen 2, h.frozen 3, h.frozen 4, h.frozen 5⟩

theorem rowS_other {w : World} {g g' : Nat} {l : List ByteArray} (h : RowS w g l) (hg : g' ≠ g) (j : Nat) (v : Value) : RowS (w.setCell ⟨g', j, none⟩ v) g l := by
  unfold RowS at h ⊢; simp [World.setCell, Array.getElem?_modify, h, hg]
/-- What a copy of a block leaves. -/
def BackB (h : HeadV) (len : Nat) (zs : List ByteArray) (w : World) (e : Ending) (w' : World) : Prop := ∃ g, e = .returned (blockVal h (.slice (some ⟨g, 0, none⟩) len len)) ∧ RowS w' g (zs.take len) ∧ w.heap.size ≤ g ∧ Below w.heap.size w w'

end Go.Proofs.YtjeldedjhlicmaaGreatDoor

set_option linter.unusedVariables false
namespace Go.Proofs.YtjeldedjhlicmaaGreatDoor
open Go.ChangeShapes Go.WideShapes Go.ChangeAt Go.RowKit Go.Deep Go.Joins

set_option maxHeartbeats 1000000 in
set_option maxRecDepth 100000 in
theorem szPeaksR (r0 : Nat) (hr0 : r0 ≤ 1048576) (a : Option Addr) (len cap : Nat) (ps : List PeakV) (w : World) (h : IsPeaks w a len cap ps) :
    Calls Tryz.prog 25 #[.slice a len cap, .int .i64 (r0 : Int)] w fun e w' => Below w.heap.size w w' ∧ (e = .returned (.int .i64 (-1)) ∨ ∃ r : Nat, e = .returned (.int .i64 (r : Int)) ∧ r ≤ 1048576 ∧ len ≤ 1048576 ∧ ∀ i, i < len → (ps.getD i default).sum.size ≤ 1048576) := by
  have HP : Hid (IsPeaks w a len cap ps) := h
  have hlm : len ≤ maxLen := by
    rcases h with ⟨_, h1, _⟩ | ⟨x, _, h1, h2, _⟩ <;> omega
  unfold maxLen at hlm
  have hw : IntKind.i64.wrap ((r0 : Int) - (len : Int)) = (r0 : Int) - (len : Int) := by rw [IntKind.wrap_i64]; omega
  clear h
  by_cases hl : r0 < len
  · have hl' : (r0 : Int) - (len : Int) < 0 := by omega
    go_enter Tryz.func25, Tryz.ntmps25
    go_wp2_with fail
    go_ret
    exact ⟨Below.refl _ _, .inl rfl⟩
  · have hl' : ¬ (r0 : Int) - (len : Int) < 0 := by omega
    go_enter Tryz.func25, Tryz.ntmps25
    go_wp2_with fail
    clear hw hl'
    go_loopw [1, 5] (fun l i wr => ∃ (r k : Nat), k ≤ len ∧ r ≤ 1048576 ∧ i = .int .i64 (k : Int) ∧ l = .int .i64 (r : Int) ∧ Hid (Below w.heap.size w wr) ∧ Hid (∀ i, i < k → (ps.getD i default).sum.size ≤ 1048576)) (fun _ i _ => len - (intOf i).toNat)
    case atStart => exact ⟨r0 - len, 0, by omega, by omega, rfl, by show Value.int .i64 _ = Value.int .i64 _; congr 1; omega, Below.refl _ _, fun i hi => by omega⟩
    case round =>
      obtain ⟨r, k, hk, hr, rfl, rfl, HB, HS⟩ := hrel
      by_cases hlt : k < len
      · obtain ⟨x, rfl, hp⟩ := HP.out.at HB.out k hlt
        obtain ⟨c0, c1, c2⟩ := hp
        have lk : (k : Int) < (len : Int) := by omega
        have HK : Hid (k + 1 ≤ len) := hlt
        have hsz : (ps.getD k default).sum.size ≤ maxLen := HP.out.size k hlt
        have HN : Hid ((ps.getD k default).sum.size ≤ 1048576 → ∀ i, i < k + 1 → (ps.getD i default).sum.size ≤ 1048576) := by
          intro h1 i hi
          rcases Nat.lt_or_ge i k with h' | h'
          · exact HS.out i h'
          · obtain rfl : i = k := by omega
            exact h1
        generalize ps.getD k default = p at c0 c1 c2 hsz HN
        go_wp2_with fail
        refine (szPeak1 p r _ hr hsz).mono ?_
        rintro e w1 ⟨b1, rfl | ⟨q, rfl, hq, hps⟩⟩
        · go_wp2_with fail
          go_ret
          exact ⟨HB.out.trans (b1.mono HB.out.size), .inl rfl⟩
        · have HQ := HN.out hps
          have HQ2 : Hid (∀ i, i < k + 1 → (ps.getD i default).sum.size ≤ 1048576) := HQ
          clear HQ HN
          have hq0 : ¬ (q : Int) < 0 := by omega
          go_wp2_with fail
          go_roundw
          case rel => exact ⟨q, k + 1, HK.out, by omega, by go_num, rfl, HB.out.trans (b1.mono HB.out.size), HQ2⟩
          case measure => have := HK.out; simp [intOf]; omega
      · go_wp2_with fail
        go_ret
        exact ⟨HB.out, .inr ⟨r, rfl, by omega, by omega, fun i hi => HS.out i (by omega)⟩⟩

theorem CBk.two {w : World} {g : Nat} {T : TypeId} {a b : Value} (h : CBk w g T #[a, b]) : w.cell? ⟨g, 0, none⟩ = some a ∧ w.cell? ⟨g, 1, none⟩ = some b ∧ w.frozen? ⟨g, 0, none⟩ = false ∧ w.frozen? ⟨g, 1, none⟩ = false :=
  ⟨h.cell 0, h.cell 1, h.frozen 0, h.frozen 1⟩
theorem CBk.out2 {w : World} {g : Nat} {T : TypeId} {a b : Value} (h : CBk w g T #[a, b]) : w.cell? ⟨g, 0, none⟩ = some a ∧ w.cell? ⟨g, 1, none⟩ = some b := ⟨h.cell 0, h.cell 1⟩
/-- A proof of the laws. -/
structure LPrf where
  pa : Option Addr
  pn : Nat
  pc : Nat
  pl : List PeakV
  sa : Option Addr
  sn : Nat
  sc : Nat
  sl : List PeakV
def lprfVal (L : LPrf) : Value := .agg #[.slice L.pa L.pn L.pc, .slice L.sa L.sn L.sc]
structure IsPrf (w : World) (L : LPrf) : Prop where
  p : IsPeaks w L.pa L.pn L.pc L.pl
  s : IsPeaks w L.sa L.sn L.sc L.sl
theorem peaks_below {w w' : World} {a : Option Addr} {len cap : Nat} {ps : List PeakV} (h : IsPeaks w a len cap ps) (hb : Below w.heap.size w w') : IsPeaks w' a len cap ps := by
  have hat := fun i hi => h.at hb i hi
  rcases h with h1 | ⟨x, hx, h1, h2, h3, h4, h5⟩
  · exact .inl h1
  · refine .inr ⟨x, hx, h1, h2, h3, fun i hi => ?_, h5⟩
    obtain ⟨y, hy, hc⟩ := hat i hi
    rw [hx] at hy
    obtain rfl := Option.some.inj hy
    exact hc
theorem IsPrf.below {w w' : World} {L : LPrf} (h : IsPrf w L) (hb : Below w.heap.size w w') : IsPrf w' L := ⟨peaks_below h.p hb, peaks_below h.s hb⟩
theorem shape_slice2 {P : Program} {H : Type} {enc : TypeId × Value → H} {W : World} {base : Nat} {sp : Nat → Bool} {held : Bool} {n : Nat} {t e : TypeId} {v : Value} {y : DataW H × List MemPlace} (ht : P.underlying t = some (.slice e)) (h : DataW.trod enc P W base sp held n t [v] = some y) : ∃ a len cap, v = .slice a len cap := by
  rcases open_slice ht h with ⟨hcs, _⟩ | ⟨x, l, c, m, n, D, Pl, hcs, _⟩
  · simp at hcs
    exact ⟨_, _, _, hcs⟩
  · simp at hcs
    exact ⟨_, _, _, hcs⟩
theorem cellsLProof : Tryz.prog.cellsOf 26 = 2 := by kernel_rfl
set_option maxRecDepth 100000 in
theorem open_proof {H : Type} {enc : TypeId × Value → H} {W : World} {base b0 : Nat} {held : Bool} {v : Value} {d : DataW H} {p : List MemPlace} (hv : Value.okWide Tryz.prog W .any b0 26 v) (h : DataW.Trod enc Tryz.prog W base (fun _ => true) held 26 v d p) :
    ∃ L : LPrf, v = lprfVal L ∧ IsPrf W L := by
  obtain ⟨c0, c1, y0, y1, n, rfl, _, _, h0, h1⟩ := open_agg2 Tryz.underlying26 (by kernel_rfl) cellsLProof hv h
  replace h0 : DataW.trod enc Tryz.prog W base (fun _ => true) held n 24 [c0] = some y0 := h0
  replace h1 : DataW.trod enc Tryz.prog W base (fun _ => true) held n 24 [c1] = some y1 := h1
  obtain ⟨a0, l0, k0, rfl⟩ := shape_slice2 Tryz.underlying24 h0
  obtain ⟨a1, l1, k1, rfl⟩ := shape_slice2 Tryz.underlying24 h1
  obtain ⟨pl, hp⟩ := open_peaks (d := y0.1) (p := y0.2) ⟨n, h0⟩
  obtain ⟨sl, hs⟩ := open_peaks (d := y1.1) (p := y1.2) ⟨n, h1⟩
  exact ⟨⟨a0, l0, k0, pl, a1, l1, k1, sl⟩, rfl, ⟨hp, hs⟩⟩

structure SmallPrf (L : LPrf) : Prop where
  pn : L.pn ≤ 1048576
  ps : ∀ i, i < L.pn → (L.pl.getD i default).sum.size ≤ 1048576
  sn : L.sn ≤ 1048576
  ss : ∀ i, i < L.sn → (L.sl.getD i default).sum.size ≤ 1048576
set_option maxHeartbeats 1000000 in
set_option maxRecDepth 100000 in
theorem szProof1 (L : LPrf) (r0 : Nat) (hr0 : r0 ≤ 1048576) (w : World) (h : IsPrf w L) :
    Calls Tryz.prog 10 #[lprfVal L, .int .i64 (r0 : Int)] w fun e w' => Below w.heap.size w w' ∧ (e = .returned (.int .i64 (-1)) ∨ ∃ r : Nat, e = .returned (.int .i64 (r : Int)) ∧ r ≤ 1048576 ∧ SmallPrf L) := by
  have HQ : Hid (L.pn ≤ 1048576 → (∀ i, i < L.pn → (L.pl.getD i default).sum.size ≤ 1048576) → L.sn ≤ 1048576 → (∀ i, i < L.sn → (L.sl.getD i default).sum.size ≤ 1048576) → SmallPrf L) := fun h1 h2 h3 h4 => ⟨h1, h2, h3, h4⟩
  generalize SmallPrf L = Q at HQ ⊢
  have HI : Hid (∀ w', Below w.heap.size w w' → IsPrf w' L) := fun w' hb => h.below hb
  clear h
  unfold lprfVal
  have B0 : Hid (CBk (w.alloc (.cells #[.slice L.pa L.pn L.pc, .slice L.sa L.sn L.sc] 26)) w.heap.size 26 #[.slice L.pa L.pn L.pc, .slice L.sa L.sn L.sc]) := CBk.new w _ _
  have L0 : Hid (Below w.heap.size w (w.alloc (.cells #[.slice L.pa L.pn L.pc, .slice L.sa L.sn L.sc] 26))) := (Below.refl _ w).alloc (Nat.le_refl _) _
  go_enter Tryz.func10, Tryz.ntmps10
  go_wp2_with fail
  refine (szPeaksR r0 hr0 L.pa L.pn L.pc L.pl _ (HI.out _ L0.out).p).mono ?_
  rintro e w1 ⟨b1, rfl | ⟨r, rfl, hr, hn, hs⟩⟩
  · go_wp2_with fail
    go_ret
    exact ⟨L0.out.trans (b1.mono L0.out.size), .inl rfl⟩
  have L1 : Hid (Below w.heap.size w w1) := L0.out.trans (b1.mono L0.out.size)
  have B1 : Hid (CBk w1 w.heap.size 26 #[.slice L.pa L.pn L.pc, .slice L.sa L.sn L.sc]) := B0.out.call b1
  obtain ⟨c0, c1, _⟩ := B1.out.two
  have HS1 : Hid (L.pn ≤ 1048576 ∧ ∀ i, i < L.pn → (L.pl.getD i default).sum.size ≤ 1048576) := ⟨hn, hs⟩
  have hrn : ¬ (r : Int) < 0 := by omega
  clear B0 L0 b1 hs hn
  go_wp2_with fail
  refine (szPeaksR r hr L.sa L.sn L.sc L.sl _ (HI.out _ L1.out).s).mono ?_
  rintro e w3 ⟨b3, rfl | ⟨r3, rfl, hr3, hn3, hs3⟩⟩
  · go_wp2_with fail
    go_ret
    exact ⟨L1.out.trans (b3.mono L1.out.size), .inl rfl⟩
  have HS3 : Hid (L.sn ≤ 1048576 ∧ ∀ i, i < L.sn → (L.sl.getD i default).sum.size ≤ 1048576) := ⟨hn3, hs3⟩
  have HR3 : Hid (r3 ≤ 1048576) := by show _ ≤ _; omega
  have hr30 : ¬ (r3 : Int) < 0 := by omega
  clear hs3 hn3 hr3
  go_wp2_with fail
  go_ret
  exact ⟨L1.out.trans (b3.mono L1.out.size), .inr ⟨r3, rfl, HR3.out, HQ.out HS1.out.1 HS1.out.2 HS3.out.1 HS3.out.2⟩⟩

/-- A proof in memory of its own. -/
structure PrfV where
  g : Nat
  n : Nat
  c : Nat
  ps : List PeakV
  sg : Nat
  sn : Nat
  sc : Nat
  ss : List PeakV
def prfVal (s : PrfV) : Value := .agg #[.slice (some ⟨s.g, 0, none⟩) s.n s.c, .slice (some ⟨s.sg, 0, none⟩) s.sn s.sc]
structure CopyPrf (B : Nat) (L : LPrf) (v : PrfV) (w : World) : Prop where
  p : RowP w v.g L.pl
  ps : v.ps = L.pl
  pn : v.n = L.pn
  pc : v.c = v.n
  st : RowP w v.sg L.sl
  ss : v.ss = L.sl
  sn : v.sn = L.sn
  sc : v.sc = v.sn
  lo : B ≤ v.g
  up : v.g < v.sg
theorem CopyPrf.below {B : Nat} {L : LPrf} {s : PrfV} {w w' : World} (h : CopyPrf B L s w) (hb : Below w.heap.size w w') : CopyPrf B L s w' :=
  ⟨h.p.below hb h.p.lt, h.ps, h.pn, h.pc, h.st.below hb h.st.lt, h.ss, h.sn, h.sc, h.lo, h.up⟩
theorem rowP_other {w : World} {g g' : Nat} {l : List PeakV} (h : RowP w g l) (hg : g' ≠ g) (j : Nat) (v : Value) : RowP (w.setCell ⟨g', j, none⟩ v) g l := by
  unfold RowP RowF at h ⊢; simp [World.setCell, Array.getElem?_modify, h, hg]

set_option maxHeartbeats 2000000 in
set_option maxRecDepth 100000 in
theorem toProof1 (L : LPrf) (w w0 : World) (h0 : IsPrf w0 L) (hw : Below w0.heap.size w0 w) (hs : SmallPrf L) :
    Calls Tryz.prog 18 #[lprfVal L] w fun e w' => ∃ s, e = .returned (prfVal s) ∧ CopyPrf w.heap.size L s w' ∧ Below w.heap.size w w' := by
  have HB : Hid (∀ w', Below w.heap.size w w' → Calls Tryz.prog 35 #[.slice L.pa L.pn L.pc] w' fun e w'' => e = .returned (.slice (some ⟨w'.heap.size, 0, none⟩) L.pn L.pn) ∧ RowP w'' w'.heap.size L.pl ∧ Below w'.heap.size w' w'') := fun w' hb => toPeaks L.pa L.pn L.pc L.pl w' w0 h0.p (hw.trans (hb.mono hw.size)) hs.pn
  have HT : Hid (∀ w', Below w.heap.size w w' → Calls Tryz.prog 35 #[.slice L.sa L.sn L.sc] w' fun e w'' => e = .returned (.slice (some ⟨w'.heap.size, 0, none⟩) L.sn L.sn) ∧ RowP w'' w'.heap.size L.sl ∧ Below w'.heap.size w' w'') := fun w' hb => toPeaks L.sa L.sn L.sc L.sl w' w0 h0.s (hw.trans (hb.mono hw.size)) hs.sn
  have HQ : Hid (∀ (e : Ending) (w' : World) (s : PrfV), e = .returned (prfVal s) → CopyPrf w.heap.size L s w' → Below w.heap.size w w' → ∃ s, e = .returned (prfVal s) ∧ CopyPrf w.heap.size L s w' ∧ Below w.heap.size w w') := fun e w' s h1 h2 h3 => ⟨s, h1, h2, h3⟩
  clear h0 hw hs
  unfold lprfVal
  have A0 : Hid (CBk (((w.alloc (.cells #[.slice L.pa L.pn L.pc, .slice L.sa L.sn L.sc] 26)).alloc (.cells #[.slice none 0 0, .slice none 0 0] 35)).alloc (.cells #[.slice none 0 0, .slice none 0 0] 35)) w.heap.size 26 #[.slice L.pa L.pn L.pc, .slice L.sa L.sn L.sc]) := ((CBk.new w _ _).alloc _).alloc _
  have A1 : Hid (CBk (((w.alloc (.cells #[.slice L.pa L.pn L.pc, .slice L.sa L.sn L.sc] 26)).alloc (.cells #[.slice none 0 0, .slice none 0 0] 35)).alloc (.cells #[.slice none 0 0, .slice none 0 0] 35)) (w.heap.size + 1) 35 #[.slice none 0 0, .slice none 0 0]) := by
    have := (CBk.new (w.alloc (.cells #[.slice L.pa L.pn L.pc, .slice L.sa L.sn L.sc] 26)) 35 #[.slice none 0 0, .slice none 0 0]).alloc (.cells #[.slice none 0 0, .slice none 0 0] 35)
    rwa [show (w.alloc (.cells #[.slice L.pa L.pn L.pc, .slice L.sa L.sn L.sc] 26)).heap.size = w.heap.size + 1 from by simp] at this
  have A2 : Hid (CBk (((w.alloc (.cells #[.slice L.pa L.pn L.pc, .slice L.sa L.sn L.sc] 26)).alloc (.cells #[.slice none 0 0, .slice none 0 0] 35)).alloc (.cells #[.slice none 0 0, .slice none 0 0] 35)) (w.heap.size + 1 + 1) 35 #[.slice none 0 0, .slice none 0 0]) := by
    have := CBk.new ((w.alloc (.cells #[.slice L.pa L.pn L.pc, .slice L.sa L.sn L.sc] 26)).alloc (.cells #[.slice none 0 0, .slice none 0 0] 35)) 35 #[.slice none 0 0, .slice none 0 0]
    rwa [show ((w.alloc (.cells #[.slice L.pa L.pn L.pc, .slice L.sa L.sn L.sc] 26)).alloc (.cells #[.slice none 0 0, .slice none 0 0] 35)).heap.size = w.heap.size + 1 + 1 from by simp] at this
  have L0 : Hid (Below w.heap.size w (((w.alloc (.cells #[.slice L.pa L.pn L.pc, .slice L.sa L.sn L.sc] 26)).alloc (.cells #[.slice none 0 0, .slice none 0 0] 35)).alloc (.cells #[.slice none 0 0, .slice none 0 0] 35))) := (((Below.refl _ w).alloc (Nat.le_refl _) _).alloc (by simp) _).alloc (by simp; omega) _
  have HL3 : Hid (w.heap.size + 3 ≤ (((w.alloc (.cells #[.slice L.pa L.pn L.pc, .slice L.sa L.sn L.sc] 26)).alloc (.cells #[.slice none 0 0, .slice none 0 0] 35)).alloc (.cells #[.slice none 0 0, .slice none 0 0] 35)).heap.size) := by show _ ≤ _; simp
  go_enter Tryz.func18, Tryz.ntmps18
  go_wp2_with fail
  generalize (((w.alloc (.cells #[.slice L.pa L.pn L.pc, .slice L.sa L.sn L.sc] 26)).alloc (.cells #[.slice none 0 0, .slice none 0 0] 35)).alloc (.cells #[.slice none 0 0, .slice none 0 0] 35)) = W0 at A0 A1 A2 L0 HL3 ⊢
  refine (HB.out _ L0.out).mono ?_
  rintro e w1 ⟨rfl, C1, b1⟩
  obtain ⟨g0, hg0⟩ : ∃ g0, g0 = w.heap.size := ⟨_, rfl⟩
  obtain ⟨g1, hg1⟩ : ∃ g1, g1 = W0.heap.size := ⟨_, rfl⟩
  have HG1 : Hid (g0 + 3 ≤ g1) := by show _ ≤ _; have := HL3.out; omega
  have A01 : Hid (CBk w1 g0 26 #[.slice L.pa L.pn L.pc, .slice L.sa L.sn L.sc]) := by rw [hg0]; exact A0.out.call b1
  have A11 : Hid (CBk w1 (g0 + 1) 35 #[.slice none 0 0, .slice none 0 0]) := by rw [hg0]; exact A1.out.call b1
  have A21 : Hid (CBk w1 (g0 + 1 + 1) 35 #[.slice none 0 0, .slice none 0 0]) := by rw [hg0]; exact A2.out.call b1
  have L1 : Hid (Below w.heap.size w w1) := L0.out.trans (b1.mono L0.out.size)
  have HLw : Hid (g0 = w.heap.size) := hg0
  have C1' : Hid (RowP w1 g1 L.pl) := by rw [hg1]; exact C1
  rw [← hg0, ← hg1]
  clear A0 A1 A2 L0 b1 C1 HL3
  clear hg1
  clear hg0
  clear W0
  obtain ⟨c0, c1, _⟩ := A01.out.two
  obtain ⟨d0, d1, z0, z1⟩ := A21.out.two
  have S1 : Hid (CBk (w1.setCell ⟨g0 + 1 + 1, 0, none⟩ (.slice (some ⟨g1, 0, none⟩) L.pn L.pn)) (g0 + 1 + 1) 35 #[.slice (some ⟨g1, 0, none⟩) L.pn L.pn, .slice none 0 0]) := A21.out.set 0 _
  have T1 : Hid (CBk (w1.setCell ⟨g0 + 1 + 1, 0, none⟩ (.slice (some ⟨g1, 0, none⟩) L.pn L.pn)) (g0 + 1) 35 #[.slice none 0 0, .slice none 0 0]) := A11.out.other (by omega) _
  have U1 : Hid (CBk (w1.setCell ⟨g0 + 1 + 1, 0, none⟩ (.slice (some ⟨g1, 0, none⟩) L.pn L.pn)) g0 26 #[.slice L.pa L.pn L.pc, .slice L.sa L.sn L.sc]) := A01.out.other (by omega) _
  have C2 : Hid (RowP (w1.setCell ⟨g0 + 1 + 1, 0, none⟩ (.slice (some ⟨g1, 0, none⟩) L.pn L.pn)) g1 L.pl) := rowP_other C1'.out (by have := HG1.out; omega) _ _
  have LB1 : Hid (Below w.heap.size w (w1.setCell ⟨g0 + 1 + 1, 0, none⟩ (.slice (some ⟨g1, 0, none⟩) L.pn L.pn))) := L1.out.setCell (p := ⟨g0 + 1 + 1, 0, none⟩) (by show w.heap.size ≤ g0 + 1 + 1; have := HLw.out; omega) _
  have HZ1 : Hid ((w1.setCell ⟨g0 + 1 + 1, 0, none⟩ (.slice (some ⟨g1, 0, none⟩) L.pn L.pn)).heap.size = w1.heap.size ∧ g1 < w1.heap.size) := ⟨by simp [World.setCell], C1'.out.lt⟩
  clear A01 A11 A21 L1 C1'
  go_wp2_with fail
  generalize w1.setCell ⟨g0 + 1 + 1, 0, none⟩ (.slice (some ⟨g1, 0, none⟩) L.pn L.pn) = W1 at S1 T1 U1 C2 LB1 HZ1 ⊢
  refine (HT.out _ LB1.out).mono ?_
  rintro e w2 ⟨rfl, R2, b2⟩
  obtain ⟨g2, hg2⟩ : ∃ g2, g2 = W1.heap.size := ⟨_, rfl⟩
  have HG2 : Hid (g1 < g2) := by show _ < _; have := HZ1.out; omega
  have A12 : Hid (CBk w2 (g0 + 1) 35 #[.slice none 0 0, .slice none 0 0]) := T1.out.call b2
  have A22 : Hid (CBk w2 (g0 + 1 + 1) 35 #[.slice (some ⟨g1, 0, none⟩) L.pn L.pn, .slice none 0 0]) := S1.out.call b2
  have L2 : Hid (Below w.heap.size w w2) := LB1.out.trans (b2.mono LB1.out.size)
  have C2' : Hid (RowP w2 g1 L.pl) := C2.out.below b2 C2.out.lt
  have R2' : Hid (RowP w2 g2 L.sl) := by rw [hg2]; exact R2
  rw [← hg2]
  clear S1 T1 U1 C2 LB1 HZ1 b2 R2
  clear hg2
  clear c0 c1 d0 d1 z0 z1
  clear W1
  obtain ⟨d0, d1, z0, z1⟩ := A22.out.two
  obtain ⟨p0, p1, y0, y1⟩ := A12.out.two
  have S3 : Hid (CBk (w2.setCell ⟨g0 + 1 + 1, 1, none⟩ (.slice (some ⟨g2, 0, none⟩) L.sn L.sn)) (g0 + 1 + 1) 35 #[.slice (some ⟨g1, 0, none⟩) L.pn L.pn, .slice (some ⟨g2, 0, none⟩) L.sn L.sn]) := A22.out.set 1 _
  have T3 : Hid (CBk (((w2.setCell ⟨g0 + 1 + 1, 1, none⟩ (.slice (some ⟨g2, 0, none⟩) L.sn L.sn)).setCell ⟨g0 + 1, 0, none⟩ (.slice (some ⟨g1, 0, none⟩) L.pn L.pn)).setCell ⟨g0 + 1, 1, none⟩ (.slice (some ⟨g2, 0, none⟩) L.sn L.sn)) (g0 + 1) 35 #[.slice (some ⟨g1, 0, none⟩) L.pn L.pn, .slice (some ⟨g2, 0, none⟩) L.sn L.sn]) := ((A12.out.other (by omega) _).set 0 _).set 1 _
  have HF : Hid (CopyPrf w.heap.size L ⟨g1, L.pn, L.pn, L.pl, g2, L.sn, L.sn, L.sl⟩ (((w2.setCell ⟨g0 + 1 + 1, 1, none⟩ (.slice (some ⟨g2, 0, none⟩) L.sn L.sn)).setCell ⟨g0 + 1, 0, none⟩ (.slice (some ⟨g1, 0, none⟩) L.pn L.pn)).setCell ⟨g0 + 1, 1, none⟩ (.slice (some ⟨g2, 0, none⟩) L.sn L.sn))) := by
    have e1 := HG1.out
    have e2 := HG2.out
    have e4 := HLw.out
    exact ⟨rowP_other (rowP_other (rowP_other C2'.out (by omega) _ _) (by omega) _ _) (by omega) _ _, rfl, rfl, rfl, rowP_other (rowP_other (rowP_other R2'.out (by omega) _ _) (by omega) _ _) (by omega) _ _, rfl, rfl, rfl, by show w.heap.size ≤ g1; omega, e2⟩
  have LF : Hid (Below w.heap.size w (((w2.setCell ⟨g0 + 1 + 1, 1, none⟩ (.slice (some ⟨g2, 0, none⟩) L.sn L.sn)).setCell ⟨g0 + 1, 0, none⟩ (.slice (some ⟨g1, 0, none⟩) L.pn L.pn)).setCell ⟨g0 + 1, 1, none⟩ (.slice (some ⟨g2, 0, none⟩) L.sn L.sn))) := by
    have e4 := HLw.out
    exact ((L2.out.setCell (p := ⟨g0 + 1 + 1, 1, none⟩) (by show w.heap.size ≤ g0 + 1 + 1; omega) _).setCell (p := ⟨g0 + 1, 0, none⟩) (by show w.heap.size ≤ g0 + 1; omega) _).setCell (p := ⟨g0 + 1, 1, none⟩) (by show w.heap.size ≤ g0 + 1; omega) _
  obtain ⟨s0, s1, _⟩ := S3.out.two
  clear A12 A22 L2 C2' R2'
  go_wp2_with fail
  exact bodyPost_ret (results_cell_row (p := 2) rfl _ _ (g0 + 1) 35 #[.slice (some ⟨g1, 0, none⟩) L.pn L.pn, .slice (some ⟨g2, 0, none⟩) L.sn L.sn] (0, 0) _ rfl T3.out Tryz.underlying35 rfl (by kernel_rfl)) rfl (HQ.out _ _ _ rfl HF.out LF.out)

set_option maxHeartbeats 2000000 in
set_option maxRecDepth 100000 in
theorem eqProof1 (L : LPrf) (s t : PrfV) (B C : Nat) (w : World) (hs : SmallPrf L) (hp : L.pl.length = L.pn) (hq : L.sl.length = L.sn) (h1 : CopyPrf B L s w) (h2 : CopyPrf C L t w) :
    Calls Tryz.prog 23 #[prfVal s, prfVal t] w fun e w' => e = .returned (.bool true) ∧ Below w.heap.size w w' := by
  have e1 : t.n = s.n := by rw [h1.pn, h2.pn]
  have e2 : t.sn = s.sn := by rw [h1.sn, h2.sn]
  have hq1 := fun (w' : World) (hb : Below w.heap.size w w') => eqPeaks s.g t.g s.n s.c t.c L.pl w' ((h1.below hb).p.at 3 pEnc_len) ((h2.below hb).p.at 3 pEnc_len) (by rw [h1.pn, hp]) (by rw [h1.pn]; have := hs.pn; omega)
  have hq2 := fun (w' : World) (hb : Below w.heap.size w w') => eqPeaks s.sg t.sg s.sn s.sc t.sc L.sl w' ((h1.below hb).st.at 3 pEnc_len) ((h2.below hb).st.at 3 pEnc_len) (by rw [h1.sn, hq]) (by rw [h1.sn]; have := hs.sn; omega)
  unfold prfVal
  rw [e1, e2]
  clear h1 h2 hs e1 e2 hp hq
  have C0 : Hid (CBk ((w.alloc (.cells #[.slice (some ⟨s.g, 0, none⟩) s.n s.c, .slice (some ⟨s.sg, 0, none⟩) s.sn s.sc] 35)).alloc (.cells #[.slice (some ⟨t.g, 0, none⟩) s.n t.c, .slice (some ⟨t.sg, 0, none⟩) s.sn t.sc] 35)) w.heap.size 35 #[.slice (some ⟨s.g, 0, none⟩) s.n s.c, .slice (some ⟨s.sg, 0, none⟩) s.sn s.sc]) := (CBk.new w _ _).alloc _
  have D0 : Hid (CBk ((w.alloc (.cells #[.slice (some ⟨s.g, 0, none⟩) s.n s.c, .slice (some ⟨s.sg, 0, none⟩) s.sn s.sc] 35)).alloc (.cells #[.slice (some ⟨t.g, 0, none⟩) s.n t.c, .slice (some ⟨t.sg, 0, none⟩) s.sn t.sc] 35)) (w.heap.size + 1) 35 #[.slice (some ⟨t.g, 0, none⟩) s.n t.c, .slice (some ⟨t.sg, 0, none⟩) s.sn t.sc]) := by
    have := CBk.new (w.alloc (.cells #[.slice (some ⟨s.g, 0, none⟩) s.n s.c, .slice (some ⟨s.sg, 0, none⟩) s.sn s.sc] 35)) 35 #[.slice (some ⟨t.g, 0, none⟩) s.n t.c, .slice (some ⟨t.sg, 0, none⟩) s.sn t.sc]
    rwa [show (w.alloc (.cells #[.slice (some ⟨s.g, 0, none⟩) s.n s.c, .slice (some ⟨s.sg, 0, none⟩) s.sn s.sc] 35)).heap.size = w.heap.size + 1 from by simp] at this
  have L0 : Hid (Below w.heap.size w ((w.alloc (.cells #[.slice (some ⟨s.g, 0, none⟩) s.n s.c, .slice (some ⟨s.sg, 0, none⟩) s.sn s.sc] 35)).alloc (.cells #[.slice (some ⟨t.g, 0, none⟩) s.n t.c, .slice (some ⟨t.sg, 0, none⟩) s.sn t.sc] 35))) := ((Below.refl _ w).alloc (Nat.le_refl _) _).alloc (by simp) _
  go_enter Tryz.func23, Tryz.ntmps23
  go_wp2_with fail
  refine (hq1 _ L0.out).mono ?_
  rintro e w1 ⟨rfl, b1⟩
  have C1 : Hid (CBk w1 w.heap.size 35 #[.slice (some ⟨s.g, 0, none⟩) s.n s.c, .slice (some ⟨s.sg, 0, none⟩) s.sn s.sc]) := C0.out.call b1
  have D1 : Hid (CBk w1 (w.heap.size + 1) 35 #[.slice (some ⟨t.g, 0, none⟩) s.n t.c, .slice (some ⟨t.sg, 0, none⟩) s.sn t.sc]) := D0.out.call b1
  have L1 : Hid (Below w.heap.size w w1) := L0.out.trans (b1.mono L0.out.size)
  obtain ⟨c0, c1, _⟩ := C1.out.two
  obtain ⟨d0, d1, _⟩ := D1.out.two
  clear C0 D0 L0 b1 hq1
  go_wp2_with fail
  refine (hq2 _ L1.out).mono ?_
  rintro e w2 ⟨rfl, b2⟩
  go_wp2_with fail
  go_ret
  exact ⟨rfl, L1.out.trans (b2.mono L1.out.size)⟩

end Go.Proofs.YtjeldedjhlicmaaGreatDoor

set_option linter.unusedVariables false
namespace Go.Proofs.YtjeldedjhlicmaaGreatDoor
open Go.ChangeShapes Go.WideShapes Go.ChangeAt Go.RowKit Go.Deep

structure SideV where
  sum : ByteArray
  left : Bool
instance : Inhabited SideV := ⟨⟨⟨#[]⟩, false⟩⟩
def enSide (p : SideV) : List Value := [.string p.sum, .bool p.left]
theorem enSide_len (p : SideV) : (enSide p).length = 2 := rfl
/-- Its texts can be held. -/
def wfSide (p : SideV) : Prop := p.sum.size ≤ maxLen
/-- Its texts are small. -/
def smallSide (p : SideV) : Prop := p.sum.size ≤ 1048576
abbrev IsSides (w : World) (a : Option Addr) (len cap : Nat) (l : List SideV) : Prop := IsFlat enSide wfSide 2 w a len cap l
abbrev RowSide (w : World) (g : Nat) (l : List SideV) : Prop := RowF enSide 71 w g l
abbrev AtSide (w : World) (g : Nat) (l : List SideV) : Prop := AtF enSide 2 w g l
theorem AtSide.c0 {w : World} {g : Nat} {l : List SideV} (h : AtSide w g l) (i : Nat) (hi : i < l.length) : w.cell? ⟨g, i * 2, none⟩ = some (.string (l.getD i default).sum) := h.2 i 0 hi (by decide)
theorem AtSide.c1 {w : World} {g : Nat} {l : List SideV} (h : AtSide w g l) (i : Nat) (hi : i < l.length) : w.cell? ⟨g, i * 2 + 1, none⟩ = some (.bool (l.getD i default).left) := h.2 i 1 hi (by decide)
theorem cellsSide {w : World} {x : Addr} {p : SideV} (h : ∀ j, j < 2 → w.cell? (x.add j) = (enSide p)[j]?) : w.cell? x = some (.string p.sum) ∧ w.cell? ⟨x.block, x.off + 1, none⟩ = some (.bool p.left) := by
  exact ⟨h 0 (by decide), h 1 (by decide)⟩
theorem partsSide {cs : List Value} {a0 a1 : Value} (hl : cs.length = 2) (h0 : (cs.drop 0).take 1 = [a0]) (h1 : (cs.drop 1).take 1 = [a1]) : cs = [a0, a1] := by
  match cs, hl with
  | [x0, x1], _ =>
    simp at h0 h1
    subst h0 h1
    rfl
theorem oneSide_b : Tryz.prog.cellsOf 4 = 1 := by kernel_rfl
theorem oneSide_s : Tryz.prog.cellsOf 9 = 1 := by kernel_rfl
theorem sizeSide : Tryz.prog.cellsOf 64 = 2 := by kernel_rfl
set_option maxRecDepth 100000 in
theorem invSide {H : Type} {enc : TypeId × Value → H} {W : World} {base : Nat} {sp : Nat → Bool} {held : Bool} (n : Nat) (cs : List Value) (y : DataW H × List MemPlace) (h : DataW.trod enc Tryz.prog W base sp held n 64 cs = some y) (hl : cs.length = 2) : ∃ v : SideV, cs = enSide v ∧ wfSide v := by
  obtain ⟨xs, n, _, _, _, hlen, hx⟩ := DataW.trod_struct Tryz.underlying64 h
  match xs, hlen with
  | [y0, y1], _ =>
    have g0 := hx 0 _ rfl
    have g1 := hx 1 _ rfl
    obtain ⟨s0, e0, _, z0⟩ := DataW.trod_string Tryz.underlying9 g0
    replace e0 : (cs.drop 0).take (Tryz.prog.cellsOf 9) = [_] := e0
    rw [oneSide_s] at e0
    obtain ⟨s1, e1, _⟩ := DataW.trod_bool Tryz.underlying4 g1
    replace e1 : (cs.drop 1).take (Tryz.prog.cellsOf 4) = [_] := e1
    rw [oneSide_b] at e1
    exact ⟨⟨s0, s1⟩, partsSide hl e0 e1, z0⟩
theorem open_sides {H : Type} {enc : TypeId × Value → H} {W : World} {base : Nat} {sp : Nat → Bool} {held : Bool} {a : Option Addr} {len cap : Nat} {d : DataW H} {p : List MemPlace} (h : DataW.Trod enc Tryz.prog W base sp held 27 (.slice a len cap) d p) : ∃ l : List SideV, IsSides W a len cap l :=
  open_flat enSide wfSide Tryz.underlying27 sizeSide (fun n cs y h1 h2 => invSide n cs y h1 h2) h

set_option maxHeartbeats 1000000 in
set_option maxRecDepth 100000 in
theorem szSide1 (p : SideV) (r : Nat) (w : World) (hr : r ≤ 1048576) (hs : wfSide p) :
    Calls Tryz.prog 26 #[.agg #[.string p.sum, .bool p.left], .int .i64 (r : Int)] w fun e w' => Below w.heap.size w w' ∧ (e = .returned (.int .i64 (-1)) ∨ ∃ q : Nat, e = .returned (.int .i64 (q : Int)) ∧ q ≤ r ∧ smallSide p) := by
  unfold wfSide maxLen at hs
  have hb : ∀ o, Below w.heap.size w (w.alloc o) := fun o => (Below.refl _ w).alloc (Nat.le_refl _) o
  have hw_sum : IntKind.i64.wrap ((r : Int) - (p.sum.size : Int)) = (r : Int) - (p.sum.size : Int) := by rw [IntKind.wrap_i64]; omega
  by_cases hl_sum : (r : Int) - (p.sum.size : Int) < 0
  · go_enter Tryz.func26, Tryz.ntmps26
    go_wp2
    go_ret
    exact ⟨hb _, .inl rfl⟩
  have HS : Hid (smallSide p) := by show smallSide p; unfold smallSide; omega
  go_enter Tryz.func26, Tryz.ntmps26
  go_wp2
  go_ret
  refine ⟨hb _, .inr ⟨r - p.sum.size, ?_, by omega, HS.out⟩⟩
  show Ending.returned (Value.int IntKind.i64 ((r : Int) - (p.sum.size : Int))) = _
  congr 2
  omega
theorem alloc3_midS (w : World) (o1 o2 o3 : Obj) : (((w.alloc o1).alloc o2).alloc o3).heap[w.heap.size + 1]? = some o2 := by
  have e : w.heap.size + 1 = (w.alloc o1).heap.size := by simp
  rw [e, Below.heap_alloc _ _ _ (by simp)]
  exact heap_alloc_new _ _
set_option maxHeartbeats 1000000 in
set_option maxRecDepth 100000 in
theorem toSideA (p : SideV) (w : World) :
    Calls Tryz.prog 36 #[.agg #[.string p.sum, .bool p.left]] w fun e w' => e = .returned (.agg #[.string p.sum, .bool p.left]) ∧ Below w.heap.size w w' := by
  go_enter Tryz.func36, Tryz.ntmps36
  go_wp2
  exact bodyPost_ret (results_cell_row (p := 2) rfl _ _ (w.heap.size + 1) 71 #[.string p.sum, .bool p.left] (0, 0) _ rfl (alloc3_midS _ _ _ _) Tryz.underlying71 rfl (by kernel_rfl)) rfl ⟨rfl, (((Below.refl _ w).alloc (Nat.le_refl _) _).alloc (by simp) _).alloc (by simp; omega) _⟩
set_option maxHeartbeats 1000000 in
set_option maxRecDepth 100000 in
theorem eqSideA (p : SideV) (w : World) :
    Calls Tryz.prog 40 #[.agg #[.string p.sum, .bool p.left], .agg #[.string p.sum, .bool p.left]] w fun e w' => e = .returned (.bool true) ∧ Below w.heap.size w w' := by
  go_enter Tryz.func40, Tryz.ntmps40
  go_wp2
  go_ret
  exact ⟨rfl, ((Below.refl _ w).alloc (Nat.le_refl _) _).alloc (by simp) _⟩

set_option maxHeartbeats 1000000 in
set_option maxRecDepth 100000 in
theorem szSides (a : Option Addr) (len cap : Nat) (ps : List SideV) (w : World) (h : IsSides w a len cap ps) :
    Calls Tryz.prog 11 #[.slice a len cap, .int .i64 1048576] w fun e w' => Below w.heap.size w w' ∧ (e = .returned (.int .i64 (-1)) ∨ ∃ r : Nat, e = .returned (.int .i64 (r : Int)) ∧ r ≤ 1048576 ∧ len ≤ 1048576 ∧ ∀ i, i < len → smallSide (ps.getD i default)) := by
  have HP : Hid (IsSides w a len cap ps) := h
  have hlm : len ≤ maxLen := h.max
  unfold maxLen at hlm
  have hw : IntKind.i64.wrap (1048576 - (len : Int)) = 1048576 - (len : Int) := by rw [IntKind.wrap_i64]; omega
  clear h
  by_cases hl : 1048576 < len
  · have hl' : (1048576 : Int) - (len : Int) < 0 := by omega
    go_enter Tryz.func11, Tryz.ntmps11
    go_wp2_with fail
    go_ret
    exact ⟨Below.refl _ _, .inl rfl⟩
  · have hl' : ¬ (1048576 : Int) - (len : Int) < 0 := by omega
    go_enter Tryz.func11, Tryz.ntmps11
    go_wp2_with fail
    clear hw hl'
    go_loopw [1, 5] (fun l i wr => ∃ (r k : Nat), k ≤ len ∧ r ≤ 1048576 ∧ i = .int .i64 (k : Int) ∧ l = .int .i64 (r : Int) ∧ Hid (Below w.heap.size w wr) ∧ Hid (∀ i, i < k → smallSide (ps.getD i default))) (fun _ i _ => len - (intOf i).toNat)
    case atStart => exact ⟨1048576 - len, 0, by omega, by omega, rfl, by go_num, Below.refl _ _, fun i hi => by omega⟩
    case round =>
      obtain ⟨r, k, hk, hr, rfl, rfl, HB, HS⟩ := hrel
      by_cases hlt : k < len
      · obtain ⟨x, rfl, hp, hsz⟩ := HP.out.at enSide_len HB.out k hlt
        obtain ⟨c0, c1⟩ := cellsSide hp
        have lk : (k : Int) < (len : Int) := by omega
        have HK : Hid (k + 1 ≤ len) := hlt
        have HN : Hid (smallSide (ps.getD k default) → ∀ i, i < k + 1 → smallSide (ps.getD i default)) := by
          intro h1 i hi
          rcases Nat.lt_or_ge i k with h' | h'
          · exact HS.out i h'
          · obtain rfl : i = k := by omega
            exact h1
        clear hp
        generalize ps.getD k default = p at c0 c1 hsz HN
        go_wp2_with fail
        refine (szSide1 p r _ hr hsz).mono ?_
        rintro e w1 ⟨b1, rfl | ⟨q, rfl, hq, hps⟩⟩
        · go_wp2_with fail
          go_ret
          exact ⟨HB.out.trans (b1.mono HB.out.size), .inl rfl⟩
        · have HQ2 : Hid (∀ i, i < k + 1 → smallSide (ps.getD i default)) := HN.out hps
          clear HN hps
          have hq0 : ¬ (q : Int) < 0 := by omega
          go_wp2_with fail
          go_roundw
          case rel => exact ⟨q, k + 1, HK.out, by omega, by go_num, rfl, HB.out.trans (b1.mono HB.out.size), HQ2⟩
          case measure => have := HK.out; simp [intOf]; omega
      · go_wp2_with fail
        go_ret
        exact ⟨HB.out, .inr ⟨r, rfl, by omega, by omega, fun i hi => HS.out i (by omega)⟩⟩

theorem infoSide : (Tryz.prog.info? 71).map (fun i => (i.zero, i.size, i.bytes)) = some (some (.agg #[.string ⟨#[]⟩, .bool false]), 2, 24) := by kernel_rfl
def zeroSide : SideV := ⟨⟨#[]⟩, false⟩
theorem makeSide (n : Nat) (hn : n ≤ 1099511627776) (w : World) : (Instr.makeSlice 36 (.int .i64 (n : Int)) (.int .i64 (n : Int))).run Tryz.prog w = .ok (.slice (some ⟨w.heap.size, 0, none⟩) n n) (w.alloc (.cells ((List.replicate n zeroSide).flatMap enSide).toArray 71)) := by
  obtain ⟨i, hi, hz, hs, hb⟩ := info_parts infoSide
  have hb' : (i.bytes : Int) * (n : Int) ≤ 281474976710656 := by rw [hb]; omega
  have hr := run_make (P := Tryz.prog) w 36 71 i _ Tryz.underlying36 hi hz .i64 .i64 (n : Int) (n : Int) (by omega) (by omega) hb' (by omega)
  simp only [Int.toNat_natCast, hs, Value.cells] at hr
  rw [← made_flat 2 enSide enSide_len (by decide) zeroSide n]
  exact hr
theorem RowSide.put {w : World} {g : Nat} {l : List SideV} (h : RowSide w g l) (i : Nat) (hi : i < l.length) (p : SideV) :
    RowSide ((w.setCell ⟨g, i * 2, none⟩ (.string p.sum)).setCell ⟨g, i * 2 + 1, none⟩ (.bool p.left)) g (l.set i p) := by
  show _ = _
  rw [← flat_put 2 enSide enSide_len l i p hi]
  exact (rowSet (rowSet h _) _)

set_option maxHeartbeats 1000000 in
set_option maxRecDepth 100000 in
theorem toSides (a : Option Addr) (len cap : Nat) (ps : List SideV) (w w0 : World) (h0 : IsSides w0 a len cap ps) (hw : Below w0.heap.size w0 w) (hn : len ≤ 1048576) :
    Calls Tryz.prog 19 #[.slice a len cap] w fun e w' => e = .returned (.slice (some ⟨w.heap.size, 0, none⟩) len len) ∧ RowSide w' w.heap.size ps ∧ Below w.heap.size w w' := by
  have hmk := makeSide len (by omega)
  have HP : Hid (IsSides w0 a len cap ps) := h0
  have HW : Hid (Below w0.heap.size w0 w) := hw
  have HLn : Hid (ps.length = len) := h0.len
  clear h0 hw
  go_enter Tryz.func19, Tryz.ntmps19
  go_wp2_with fail
  clear hmk
  go_loopw [4] (fun i wr => ∃ k : Nat, k ≤ len ∧ i = .int .i64 (k : Int) ∧ Hid (RowSide wr w.heap.size (ps.take k ++ List.replicate (len - k) zeroSide)) ∧ Hid (Below w.heap.size w wr)) (fun i _ => len - (intOf i).toNat)
  case atStart => exact ⟨0, by omega, rfl, heap_alloc_new w _, (Below.refl _ w).alloc (Nat.le_refl _) _⟩
  case round =>
    obtain ⟨k, hk, rfl, HR, HB⟩ := hrel
    by_cases hlt : k < len
    · obtain ⟨x, rfl, hp, _⟩ := HP.out.at enSide_len (HW.out.trans (HB.out.mono HW.out.size)) k hlt
      obtain ⟨c0, c1⟩ := cellsSide hp
      have HK : Hid (k + 1 ≤ len) := hlt
      have HS : Hid ((ps.take k ++ List.replicate (len - k) zeroSide).set k (ps.getD k default) = ps.take (k + 1) ++ List.replicate (len - (k + 1)) zeroSide) := set_nextF zeroSide ps len k (by rw [HLn.out]; exact hlt) hlt
      have HKL : Hid (k < (ps.take k ++ List.replicate (len - k) zeroSide).length) := by show _ < _; simp [HLn.out]; omega
      have lk : (k : Int) < (len : Int) := by omega
      clear hp
      generalize ps.getD k default = p at c0 c1 HS
      go_wp2_with fail
      refine (toSideA p _).mono ?_
      rintro e w1 ⟨rfl, b1⟩
      have HR1 : Hid (RowSide w1 w.heap.size (ps.take k ++ List.replicate (len - k) zeroSide)) := HR.out.below b1 HR.out.lt
      have HB1 : Hid (Below w.heap.size w w1) := HB.out.trans (b1.mono HB.out.size)
      have f0 := HR1.out.frozen (k * 2)
      have f1 := HR1.out.frozen (k * 2 + 1)
      have d0 := AtSide.c0 (HR1.out.at 2 enSide_len) k HKL.out
      have d1 := AtSide.c1 (HR1.out.at 2 enSide_len) k HKL.out
      generalize (ps.take k ++ List.replicate (len - k) zeroSide).getD k default = o at d0 d1
      clear b1 c0 c1
      go_wp2_with fail
      go_roundw
      case rel =>
        refine ⟨k + 1, HK.out, by go_num, ?_, ((HB1.out.setCell (p := ⟨w.heap.size, k * 2, none⟩) (Nat.le_refl _) _).setCell (p := ⟨w.heap.size, k * 2 + 1, none⟩) (Nat.le_refl _) _)⟩
        have := RowSide.put HR1.out k HKL.out p
        rw [HS.out] at this
        exact this
      case measure => have := HK.out; simp [intOf]; omega
    · have HE : Hid (ps.take k ++ List.replicate (len - k) zeroSide = ps) := by
        show _ = _
        rw [List.take_of_length_le (by rw [HLn.out]; omega), show len - k = 0 from by omega]
        simp
      go_wp2_with fail
      go_ret
      refine ⟨rfl, ?_, HB.out⟩
      rw [← HE.out]
      exact HR.out

set_option maxHeartbeats 1000000 in
set_option maxRecDepth 100000 in
theorem eqSides (g1 g2 n c1 c2 : Nat) (ps : List SideV) (w : World) (h1 : AtSide w g1 ps) (h2 : AtSide w g2 ps) (hn : n = ps.length) (hm : n ≤ 1073741824) :
    Calls Tryz.prog 24 #[.slice (some ⟨g1, 0, none⟩) n c1, .slice (some ⟨g2, 0, none⟩) n c2] w fun e w' => e = .returned (.bool true) ∧ Below w.heap.size w w' := by
  have HA : Hid (AtSide w g1 ps ∧ AtSide w g2 ps ∧ Below w.heap.size w w) := ⟨h1, h2, Below.refl _ w⟩
  have HN : Hid (n = ps.length) := hn
  clear h1 h2 hn
  go_enter Tryz.func24, Tryz.ntmps24
  go_wp2_with fail
  go_loopw [5] (fun i wr => ∃ k : Nat, k ≤ n ∧ i = .int .i64 (k : Int) ∧ Hid (AtSide wr g1 ps ∧ AtSide wr g2 ps ∧ Below w.heap.size w wr)) (fun i _ => n - (intOf i).toNat)
  case atStart => exact ⟨0, by omega, rfl, HA⟩
  case round =>
    clear HA
    obtain ⟨k, hk, rfl, HA⟩ := hrel
    by_cases hlt : k < n
    · have hkz : k < ps.length := by rw [← HN.out]; exact hlt
      have d0 := AtSide.c0 HA.out.1 k hkz
      have e0 := AtSide.c0 HA.out.2.1 k hkz
      have d1 := AtSide.c1 HA.out.1 k hkz
      have e1 := AtSide.c1 HA.out.2.1 k hkz
      have HK : Hid (k + 1 ≤ n) := hlt
      generalize ps.getD k default = p at d0 e0 d1 e1
      have lk : (k : Int) < (n : Int) := by omega
      clear hkz
      go_wp2_with fail
      go_region_with (go_at_call 40; refine (eqSideA p _).mono ?_; rintro e w1 ⟨rfl, b1⟩)
      all_goals
        have HA1 : Hid (AtSide w1 g1 ps ∧ AtSide w1 g2 ps ∧ Below w.heap.size w w1) := ⟨HA.out.1.drew.below b1 HA.out.1.1, HA.out.2.1.drew.below b1 HA.out.2.1.1, HA.out.2.2.drew.trans (b1.mono HA.out.2.2.size)⟩
        clear b1
        go_wp2_with fail
        go_roundw
        case rel => exact ⟨k + 1, HK.out, by go_num, HA1⟩
        case measure => have := HK.out; simp [intOf]; omega
    · go_wp2_with fail
      go_ret
      exact ⟨rfl, HA.out.2.2⟩

end Go.Proofs.YtjeldedjhlicmaaGreatDoor

