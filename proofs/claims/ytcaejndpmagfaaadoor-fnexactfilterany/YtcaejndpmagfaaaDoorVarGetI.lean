/-
  What the program's VarGet reads: at every text within Go's own bound on a text's size.
-/
import Derived.Test.YtcaejndpmagfaaaDoorVarPutI
import Derived.BigQuiet
import Derived.Lib.Strings
set_option linter.unusedVariables false
namespace Go.Proofs.YtcaejndpmagfaaaDoor
open Go.RowKit

set_option maxHeartbeats 2000000 in
set_option maxRecDepth 100000 in
theorem implVarGet (s : ByteArray) (w : World) (hs : s.size ≤ maxLen) :
    Calls Tryd.prog 32 #[.string s] w fun e w' => e = .returned (.tuple #[.int .i64 (varGet s.data.toList).1, .int .i64 (varGet s.data.toList).2]) ∧ Below w.heap.size w w' := by
  unfold maxLen at hs
  go_enter Tryd.func32, Tryd.ntmps32
  go_wp2
  go_loopw [4, 5] (fun n i wr => ∃ k : Nat, k ≤ s.size ∧ k ≤ 5 ∧ i = .int .i64 k ∧ n = .int .i64 (vNum (s.data.toList.take k)) ∧ vg (5 - k) (s.data.toList.take k) (s.data.toList.drop k) = varGet s.data.toList ∧ Below w.heap.size w wr) (fun _ i _ => s.size - (intOf i).toNat)
  case atStart => exact ⟨0, by omega, by omega, rfl, rfl, rfl, Below.refl _ _⟩
  case round =>
    obtain ⟨k, hk, hk5, rfl, rfl, heq, hbw⟩ := hrel
    by_cases hlt : k < s.size ∧ k < 5
    · obtain ⟨hlt, h5⟩ := hlt
      have hor : bits .or .i64 (vNum (s.data.toList.take k) : Int) (wrap64 ((s[k].toNat : Int) % 128 * 2 ^ (7 * k))) = (vNum (s.data.toList.take (k + 1)) : Int) := by
        rw [take_snoc s k hlt, vNum_snoc, take_len s k hk]
        have := or_step (vNum (s.data.toList.take k)) (s[k].toNat % 128) k (by have := vNum_lt (s.data.toList.take k); rwa [take_len s k hk] at this) (by omega) h5
        simpa using this
      by_cases hb : 128 ≤ s[k].toNat
      · have hb' : (128 : Int) ≤ (s[k].toNat : Int) := by omega
        have HE : Hid (vg (5 - (k + 1)) (s.data.toList.take (k + 1)) (s.data.toList.drop (k + 1)) = varGet s.data.toList) := by rw [← vg_on s k hlt h5 hb]; exact heq
        clear heq
        go_wp2
        go_roundw
        case rel => exact ⟨k + 1, by omega, by omega, by go_num, rfl, HE.out, hbw⟩
        case measure => simp [intOf]; omega
      · have hb' : ¬ (128 : Int) ≤ (s[k].toNat : Int) := by omega
        have hw1 : IntKind.i64.wrap ((k : Int) + 1) = (k : Int) + 1 := by rw [IntKind.wrap_i64]; omega
        have hbd : 0 ≤ (k : Int) + 1 ∧ (k : Int) + 1 ≤ (s.size : Int) := by omega
        have hex : (s.extract 0 (k + 1)).toList = s.data.toList.take (k + 1) := by rw [Lib.extract_toList]; simp
        by_cases hp : varPut (vNum (s.data.toList.take (k + 1))) = s.data.toList.take (k + 1)
        · have HE : Hid (varGet s.data.toList = (vNum (s.data.toList.take (k + 1)), k + 1)) := by rw [← heq]; exact vg_yes s k hlt h5 hb hp
          have hcmp : (varPut (vNum (s.data.toList.take (k + 1))) == (s.extract 0 (k + 1)).toList) = true := by rw [hex, hp]; simp
          clear heq hex hp
          go_wp2_with fail
          go_region_with (go_at_call 47; refine (implVarPut _ _).mono ?_; rintro e w1 ⟨rfl, b1⟩)
          all_goals
            go_wp2
            go_ret2
            rw [HE.out]
            exact ⟨by simp, hbw.trans ((Below.drew (Below.refl _ wr)).trans b1 |>.mono hbw.size)⟩
        · have HE : Hid (varGet s.data.toList = (0, 0)) := by rw [← heq]; exact vg_no s k hlt h5 hb hp
          have hcmp : (varPut (vNum (s.data.toList.take (k + 1))) == (s.extract 0 (k + 1)).toList) = false := by rw [hex]; simpa using hp
          clear heq hex hp
          go_wp2_with fail
          go_region_with (go_at_call 47; refine (implVarPut _ _).mono ?_; rintro e w1 ⟨rfl, b1⟩)
          all_goals
            go_wp2
            go_ret2
            rw [HE.out]
            exact ⟨by simp, hbw.trans ((Below.drew (Below.refl _ wr)).trans b1 |>.mono hbw.size)⟩
    · have HE : Hid (varGet s.data.toList = (0, 0)) := by rw [← heq]; exact vg_end s k hlt
      clear heq
      by_cases hl : k < s.size
      · have h5 : ¬ k < 5 := fun h => hlt ⟨hl, h⟩
        clear hlt
        go_wp2
        go_ret2
        rw [HE.out]
        exact ⟨rfl, hbw⟩
      · clear hlt
        go_wp2
        go_ret2
        rw [HE.out]
        exact ⟨rfl, hbw⟩

end Go.Proofs.YtcaejndpmagfaaaDoor
