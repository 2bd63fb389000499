/-
  The specification's own way to write a number in bytes.
-/
import Derived.Test.YtimknohdclnihaaMath
import Derived.Test.YtimknohdclnihaaRows1
import Derived.Test.YtimknohdclnihaaProg
import Derived.WalkKit
import Derived.WalkSpells
set_option linter.unusedVariables false
namespace Go.Proofs.Ytimknohdclnihaa
open Go.RowKit
theorem infoU8 : (Try.prog.info? 5).map (fun i => (i.zero, i.size, i.bytes)) = some (some (.int .u8 0), 1, 1) := by kernel_rfl

set_option maxHeartbeats 2000000 in
set_option maxRecDepth 100000 in
theorem specVar (n : Nat) (w : World) (h : n ≤ 2147483647) :
    Calls Try.prog 19 #[.int .i64 n] w fun e w' => e = .returned (.string ⟨(varB 4 n).toArray⟩) ∧ Below w.heap.size w w' := by
  obtain ⟨i0, hi, hz0, hz1, hz2⟩ := info_parts infoU8
  go_enter Try.func19, Try.ntmps19
  go_wp2
  go_loopw [0, 3] (fun v s wr => ∃ (m f : Nat) (acc : List UInt8), v = .int .i64 m ∧ m ≤ n ∧ m < 128 ^ (f + 1) ∧ f ≤ 4 ∧ acc.length + f = 4 ∧ acc ++ varB f m = varB 4 n ∧ wr.ownsRow w.heap.size 5 1 s acc.length (Lib.byteCells acc) ∧ Below w.heap.size w wr) (fun v _ _ => (intOf v).toNat)
  case atStart =>
    exact ⟨n, 4, [], rfl, Nat.le_refl _, by omega, by omega, rfl, rfl, World.ownsRow_made w #[] 0 (Nat.le_refl _) (by simp) rfl, (Below.refl _ w).alloc (Nat.le_refl _) _⟩
  case round =>
    obtain ⟨m, f, acc, rfl, hm, hf, hf4, hacc, heq, hown, hbw⟩ := hrel
    have hsz := hbw.size
    have hx1 : acc.length + 1 ≤ maxLen := by unfold maxLen; omega
    have hx2 : (acc.length + 1) * 1 ≤ 140737488355328 := by omega
    by_cases hlt : m < 128
    · have h2 : (m : Int) < 128 := by omega
      go_wp2_with (at_builtin; refine wp_app1 rfl _ _ 27 rfl w.heap.size 5 i0 (.int .u8 0) 1 Try.underlying27 hi hz0 hz1 hz2 rfl _ _ _ rfl hown (.int .u8 m) rfl rfl hx1 hx2 hsz ?_)
      intro g cap w1 hown1 hb1 _
      rw [byteCells_snoc acc _ m rfl (by omega)] at hown1
      have hcv := bytes_back (P := Try.prog) 27 9 Try.underlying27 Try.underlying5 Try.underlying9 hown1 (by simp)
      go_wp2
      go_ret
      rw [varB_small f m hlt] at heq
      rw [heq]
      exact ⟨rfl, hbw.trans hb1⟩
    · have h2 : ¬ (m : Int) < 128 := by omega
      obtain ⟨g, rfl⟩ : ∃ g, f = g + 1 := by
        cases f with
        | zero => omega
        | succ g => exact ⟨g, rfl⟩
      go_wp2_with (at_builtin; refine wp_app1 rfl _ _ 27 rfl w.heap.size 5 i0 (.int .u8 0) 1 Try.underlying27 hi hz0 hz1 hz2 rfl _ _ _ rfl hown (.int .u8 (128 + m % 128)) rfl rfl hx1 hx2 hsz ?_)
      intro g1 cap w1 hown1 hb1 _
      rw [byteCells_snoc acc _ (128 + m % 128) (by omega) (by omega)] at hown1
      go_wp2
      go_roundw
      case rel =>
        refine ⟨m / 128, g, acc ++ [UInt8.ofNat (128 + m % 128)], by go_num, by omega, ?_, by omega, by simp; omega, ?_, by simpa using hown1, hbw.trans hb1⟩
        · have : 128 ^ (g + 1 + 1) = 128 ^ (g + 1) * 128 := Nat.pow_succ ..
          omega
        · rw [← heq, varB_step g m hlt]; simp
      case measure => simp [intOf]; omega

end Go.Proofs.Ytimknohdclnihaa
