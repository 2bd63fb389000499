/-
  Both ways to write a number in bytes come to the same bytes.
-/
import Derived.Test.YtcaejndpmagfaaaDoorBuild
import Derived.Test.YtcaejndpmagfaaaDoorMath
set_option linter.unusedVariables false
namespace Go.Proofs.YtcaejndpmagfaaaDoor
open Go.Shelf Go.RowKit

set_option maxHeartbeats 1000000 in
set_option maxRecDepth 100000 in
theorem implVarPut_no (n : Int) (w : World) (h : n < 0 ∨ 2147483647 < n) :
    Calls Tryd.prog 47 #[.int .i64 n] w fun e w' => e = .returned (.string ⟨#[]⟩) ∧ Below w.heap.size w w' := by
  rcases h with h | h
  · go_enter Tryd.func47, Tryd.ntmps47
    go_wp2
    go_ret
    exact ⟨rfl, Below.refl _ _⟩
  · have h' : ¬ n < 0 := by omega
    go_enter Tryd.func47, Tryd.ntmps47
    go_wp2
    go_ret
    exact ⟨rfl, Below.refl _ _⟩

set_option maxHeartbeats 2000000 in
set_option maxRecDepth 100000 in
theorem implVarPut_yes (n : Nat) (w : World) (h : n ≤ 2147483647) :
    Calls Tryd.prog 47 #[.int .i64 n] w fun e w' => e = .returned (.string ⟨(varB 4 n).toArray⟩) ∧ Below w.heap.size w w' := by
  have h0 : ¬ (n : Int) < 0 := by omega
  have h1 : ¬ (2147483647 : Int) < n := by omega
  go_enter Tryd.func47, Tryd.ntmps47
  go_wp2
  go_loopw [0] (fun v wr => ∃ (m f : Nat) (acc : List UInt8), v = .int .i64 m ∧ m ≤ n ∧ m < 128 ^ (f + 1) ∧ f ≤ 4 ∧ acc.length + f = 4 ∧ acc ++ varB f m = varB 4 n ∧ Lib.IsBuilderF 79 5 w.heap.size w.heap.size (Lib.byteCells acc) wr ∧ Below w.heap.size w wr) (fun v _ => (intOf v).toNat)
  case atStart =>
    exact ⟨n, 4, [], rfl, Nat.le_refl _, by omega, by omega, rfl, rfl, Lib.IsBuilderF.of (Lib.fresh_isBuilder 79 5 w), (Below.refl _ w).alloc (Nat.le_refl _) _⟩
  case round =>
    obtain ⟨m, f, acc, rfl, hm, hf, hf4, hacc, heq, hI, hbw⟩ := hrel
    have hsz := hbw.size
    by_cases hlt : m < 128
    · have h2 : (m : Int) < 128 := by omega
      go_wp2_with fail
      refine (writeByte _ _ _ _ _ hI (by rw [Lib.byteCells_length]; omega) hsz).mono ?_
      rintro e w1 ⟨rfl, h1, b1, k1⟩
      rw [byteCells_snoc acc _ m (by omega) (by omega)] at h1
      go_wp2_with fail
      refine (Tryd.Builder_String_any_k _ _ _ _ h1 (by have := b1.size; omega)).mono ?_
      rintro e w2 ⟨rfl, _, b2, _⟩
      go_wp2
      go_ret
      rw [varB_small f m hlt] at heq
      rw [heq]
      exact ⟨rfl, (hbw.trans b1).trans b2⟩
    · have h2 : ¬ (m : Int) < 128 := by omega
      obtain ⟨g, rfl⟩ : ∃ g, f = g + 1 := by
        cases f with
        | zero => omega
        | succ g => exact ⟨g, rfl⟩
      go_wp2_with fail
      refine (writeByte _ _ _ _ _ hI (by rw [Lib.byteCells_length]; omega) hsz).mono ?_
      rintro e w1 ⟨rfl, h1, b1, k1⟩
      rw [byteCells_snoc acc _ (128 + m % 128) (by omega) (by omega)] at h1
      go_wp2
      go_roundw
      case rel =>
        refine ⟨m / 128, g, acc ++ [UInt8.ofNat (128 + m % 128)], by go_num, by omega, ?_, by omega, by simp; omega, ?_, h1, hbw.trans b1⟩
        · have : 128 ^ (g + 1 + 1) = 128 ^ (g + 1) * 128 := Nat.pow_succ ..
          omega
        · rw [← heq, varB_step g m hlt]; simp
      case measure => simp [intOf]; omega

end Go.Proofs.YtcaejndpmagfaaaDoor
