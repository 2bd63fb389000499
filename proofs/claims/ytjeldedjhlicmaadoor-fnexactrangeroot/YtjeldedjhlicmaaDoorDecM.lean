/-
  Numbers in decimals: the specification.
-/
import Derived.Test.YtjeldedjhlicmaaDoorProg
import Derived.Test.YtjeldedjhlicmaaDoorMath
import Derived.WalkKit
import Derived.WalkSpells
import Derived.Below
import Derived.Shelf.Strconv.Itoa3
import Derived.Lib.Builder
import Derived.Deep.RegionWith
set_option linter.unusedVariables false
namespace Go.Proofs.YtjeldedjhlicmaaDoor
open Go.RowKit

theorem convOne (W : World) (g d : Nat) (hd : d < 256) (h : W.cell? ⟨g, 0, none⟩ = some (.int .u8 (d : Int))) : (convert 78 9 (.slice (some ⟨g, 0, none⟩) 1 1)).run Tryd.prog W = .ok (.string ⟨#[UInt8.ofNat d]⟩) W := by
  refine run_convert_bytes_back (P := Tryd.prog) _ 78 9 5 ⟨g, 0, none⟩ 1 [UInt8.ofNat d] Tryd.underlying78 Tryd.underlying5 Tryd.underlying9 ?_
  intro j hj
  obtain rfl : j = 0 := by simpa using hj
  have e : ([UInt8.ofNat d][0].toNat : Int) = (d : Int) := by simp [Nat.mod_eq_of_lt hd]
  have e2 : (⟨g, 0, none⟩ : Addr).add 0 = ⟨g, 0, none⟩ := rfl
  rw [e2, h]
  first | rw [e] | simp [Nat.mod_eq_of_lt hd]
theorem nDig_le : ∀ (k u : Nat), u < 10 ^ (k + 1) → Lib.nDigits u ≤ k + 1
  | 0, u, h => by rw [Lib.nDigits_small (by omega)]; omega
  | k + 1, u, h => by
    by_cases h1 : u < 10
    · rw [Lib.nDigits_small h1]; omega
    · rw [Lib.nDigits_big h1]
      have := nDig_le k (u / 10) (by rw [Nat.pow_succ] at h; omega)
      omega
theorem decLen {n : Nat} (h : n ≤ 1000000000000000000) : (Lib.decDigits n).length ≤ 19 := by
  rw [Lib.decDigits_length]
  exact nDig_le 18 n (by omega)
theorem cellOne (w : World) (v : Value) : (w.alloc (.cells #[v] 5)).cell? ⟨w.heap.size, 0, none⟩ = some v := by
  rw [Lib.cell_of_heap (heap_alloc_new _ _)]
  rfl

set_option maxHeartbeats 1000000 in
set_option maxRecDepth 100000 in
theorem specDec1 (n : Nat) (w : World) (hn : n < 10) :
    Calls Tryd.prog 95 #[.int .i64 (n : Int)] w fun e w' => e = .returned (.string ⟨(Lib.decDigits n).toArray⟩) ∧ Below w.heap.size w w' := by
  have l1 : ¬ (n : Int) < -9223372036854775807 := by omega
  have l2 : ¬ (n : Int) < 0 := by omega
  have l3 : (n : Int) < 10 := by omega
  have hcv := convOne _ w.heap.size (48 + n) (by omega) (cellOne w _)
  have e : ((48 + n : Nat) : Int) = 48 + (n : Int) := by omega
  rw [e] at hcv
  rw [Lib.decDigits_one hn]
  go_enter Tryd.func95, Tryd.ntmps95
  go_wp2
  go_ret
  exact ⟨rfl, (Below.refl _ w).alloc (Nat.le_refl _) _⟩

set_option maxHeartbeats 1000000 in
set_option maxRecDepth 100000 in
theorem specDec (n : Nat) : ∀ (w : World), n ≤ 1000000000000000000 →
    Calls Tryd.prog 95 #[.int .i64 (n : Int)] w fun e w' => e = .returned (.string ⟨(Lib.decDigits n).toArray⟩) ∧ Below w.heap.size w w' := by
  induction n using Nat.strongRecOn with
  | ind n ih =>
    intro w hn
    by_cases h10 : n < 10
    · exact specDec1 n w h10
    · have l1 : ¬ (n : Int) < -9223372036854775807 := by omega
      have l2 : ¬ (n : Int) < 0 := by omega
      have l3 : ¬ (n : Int) < 10 := by omega
      have hr := fun w' => ih (n / 10) (by omega) w' (by omega)
      have e1 : (n : Int).tdiv 10 = ((n / 10 : Nat) : Int) := by rw [Int.tdiv_eq_ediv_of_nonneg (by omega)]; omega
      have e3 : (n : Int) / 10 = ((n / 10 : Nat) : Int) := by omega
      have e4 : (n : Int) % 10 = ((n % 10 : Nat) : Int) := by omega
      have e2 : (n : Int).tmod 10 = ((n % 10 : Nat) : Int) := by rw [Int.tmod_eq_emod_of_nonneg (by omega)]; omega
      have hd : Lib.decDigits n = Lib.decDigits (n / 10) ++ [UInt8.ofNat (48 + n % 10)] := by rw [Lib.decDigits, dif_neg h10]
      have hcv := fun W g (h : W.cell? ⟨g, 0, none⟩ = some (.int .u8 (48 + ((n % 10 : Nat) : Int)))) => convOne W g (48 + n % 10) (by omega) h
      have hlen : (Lib.decDigits (n / 10)).length ≤ 1000 := by
        rw [Lib.decDigits_length]
        have := nDig_le 18 (n / 10) (by omega)
        omega
      rw [hd]
      have lm : ((n % 10 : Nat) : Int) < 10 := by omega
      have lm0 : (0 : Int) ≤ ((n % 10 : Nat) : Int) := by omega
      generalize n / 10 = q at hr e1 e3 hd hlen
      generalize n % 10 = r at hcv e2 e4 hd lm lm0
      generalize Lib.decDigits q = dq at hr hd hlen
      have hwq : IntKind.i64.wrap (q : Int) = (q : Int) := by rw [IntKind.wrap_i64]; omega
      have hw48 : IntKind.i64.wrap (48 + (r : Int)) = 48 + (r : Int) := by rw [IntKind.wrap_i64]; omega
      have hw8 : IntKind.u8.wrap (48 + (r : Int)) = 48 + (r : Int) := by rw [IntKind.wrap_u8]; omega
      generalize UInt8.ofNat (48 + r) = u at hcv hd ⊢
      clear hd ih
      go_enter Tryd.func95, Tryd.ntmps95
      go_wp2_with fail
      go_region_with (go_at_call 95; refine (hr _).mono ?_; rintro e w1 ⟨rfl, b1⟩; try (have q1 := (b1.cell (p := ⟨w.heap.size, 0, none⟩) (by simp)).trans (cellOne w _)))
      all_goals
        go_wp2_with fail
        go_ret
        have HEQ : Hid ((⟨dq.toArray⟩ ++ ⟨#[u]⟩ : ByteArray) = ⟨(dq ++ [u]).toArray⟩) := by
          show _ = _
          apply ByteArray.ext
          simp
        refine ⟨?_, ?_⟩
        · rw [← HEQ.out]
          rfl
        · first
            | exact (((Below.refl w.heap.size w).drew).trans b1).alloc b1.size _
            | exact (((Below.refl w.heap.size w).alloc (Nat.le_refl _) _).drew).trans (b1.mono (by simp))

end Go.Proofs.YtjeldedjhlicmaaDoor
