/-
  The laws' comparison of two lists of numbers.
-/
import Derived.Test.YteihpdnbehnnhaaReader
import Derived.Test.YteihpdnbehnnhaaRicePM
import Derived.BigRegion
set_option linter.unusedVariables false
namespace Go.Proofs.Yteihpdnbehnnhaa
open Go.RowKit

set_option maxHeartbeats 1000000 in
set_option maxRecDepth 100000 in
theorem coIntsYes (g1 g2 n c1 c2 : Nat) (zs : List Int) (w : World) (h1 : At w g1 zs) (h2 : At w g2 zs) (hn : n = zs.length) (hm : n ≤ 1073741824) :
    Calls Try.prog 18 #[.slice (some ⟨g1, 0, none⟩) n c1, .slice (some ⟨g2, 0, none⟩) n c2] w fun e w' => e = .returned (.bool true) ∧ Below w.heap.size w w' := by
  have HA : Hid (At w g1 zs ∧ At w g2 zs ∧ Below w.heap.size w w) := ⟨h1, h2, Below.refl _ w⟩
  have HN : Hid (n = zs.length) := hn
  clear h1 h2 hn
  go_enter Try.func18, Try.ntmps18
  go_wp2
  go_loopw [5] (fun i wr => ∃ k : Nat, k ≤ n ∧ i = .int .i64 (k : Int) ∧ Hid (At wr g1 zs ∧ At wr g2 zs ∧ Below w.heap.size w wr)) (fun i _ => n - (intOf i).toNat)
  case atStart => exact ⟨0, by omega, rfl, HA⟩
  case round =>
    clear HA
    obtain ⟨k, hk, rfl, HA⟩ := hrel
    by_cases hlt : k < n
    · have hkz : k < zs.length := by rw [← HN.out]; exact hlt
      have d1 := HA.out.1.2 k hkz
      have d2 := HA.out.2.1.2 k hkz
      have HK : Hid (k + 1 ≤ n) := hlt
      generalize zs.getD k 0 = z at d1 d2
      have lk : (k : Int) < (n : Int) := by omega
      clear hkz
      go_wp2_with fail
      go_region
      go_wp2_with fail
      go_roundw
      case rel => exact ⟨k + 1, HK.out, by go_num, HA.out.1.drew, HA.out.2.1.drew, HA.out.2.2.drew⟩
      case measure => have := HK.out; simp [intOf]; omega
    · go_wp2_with fail
      go_ret
      exact ⟨rfl, HA.out.2.2⟩
set_option maxRecDepth 100000 in
theorem coIntsNil (w : World) :
    Calls Try.prog 18 #[.slice none 0 0, .slice none 0 0] w fun e w' => e = .returned (.bool true) ∧ w = w' := by
  go_enter Try.func18, Try.ntmps18
  go_wp2
  go_loop [5] (fun i => i = .int .i64 0) (fun _ => 0)
  case atStart => rfl
  case round =>
    subst hrel
    go_wp2
    go_ret
    exact ⟨rfl, rfl⟩

end Go.Proofs.Yteihpdnbehnnhaa
