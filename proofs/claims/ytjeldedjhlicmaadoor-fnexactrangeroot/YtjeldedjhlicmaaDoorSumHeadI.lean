/-
  What the program's SumHead reads.
-/
import Derived.Test.YtjeldedjhlicmaaDoorHexM
import Derived.Test.YtjeldedjhlicmaaDoorShelf
import Derived.WalkSpells
set_option linter.unusedVariables false
namespace Go.Proofs.YtjeldedjhlicmaaDoor
open Go.RowKit

theorem figIndex (b : UInt8) (w : World) :
    Calls Tryd.prog 98 #[.string ⟨#[48, 49, 50, 51, 52, 53, 54, 55, 56, 57, 97, 98, 99, 100, 101, 102]⟩, .int .u8 b.toNat] w fun e w' => e = .returned (.int .i64 (figAt b)) ∧ w = w' := by
  refine (Tryd.strings_IndexByte _ _ _).mono ?_
  rintro e w' ⟨rfl, rfl⟩
  refine ⟨?_, rfl⟩
  have : ((b.toNat : Int).toNat).toUInt8 = b := by simp
  rw [this]
  exact congrArg (fun x => Ending.returned (Value.int .i64 x)) (figAt_eq b)

set_option maxHeartbeats 2000000 in
set_option maxRecDepth 100000 in
theorem implSumOk (s : ByteArray) (w : World) :
    Calls Tryd.prog 76 #[.string s] w fun e w' => e = .returned (.bool (isSum s.data.toList)) ∧ w = w' := by
  by_cases hl : s.size = 16
  · have hl' : ((s.size : Int) != 16) = false := by simp [hl]
    go_enter Tryd.func76, Tryd.ntmps76
    go_wp2
    go_loop [9] (fun i => ∃ k : Nat, k ≤ s.size ∧ i = .int .i64 k ∧ Hid (∀ j (hj : j < s.size), j < k → hexB s[j] = true)) (fun i => s.size - (intOf i).toNat)
    case atStart => exact ⟨0, by omega, rfl, fun j hj h => by omega⟩
    case round =>
      obtain ⟨k, hk, rfl, hall⟩ := hrel
      by_cases hlt : k < s.size
      · cases hx : hexB s[k] with
        | true =>
          have hf : ¬ figAt s[k] < 0 := by rw [figAt_yes _ hx]; omega
          go_wp2_with (go_at_call 98; refine (figIndex _ _).mono ?_; rintro e w1 ⟨rfl, rfl⟩)
          go_round
          case rel =>
            refine ⟨k + 1, by omega, by go_num, ?_⟩
            intro j hj hjk
            rcases Nat.lt_or_ge j k with h | h
            · exact hall.out j hj h
            · obtain rfl : j = k := by omega
              exact hx
          case measure => simp [intOf]; omega
        | false =>
          have hf : figAt s[k] < 0 := by rw [figAt_no _ hx]; decide
          have hno := isSum_no k hlt hx
          go_wp2_with (go_at_call 98; refine (figIndex _ _).mono ?_; rintro e w1 ⟨rfl, rfl⟩)
          go_ret
          rw [hno]
          exact ⟨rfl, rfl⟩
      · have hyes := isSum_yes hl (fun j hj => hall.out j hj (by omega))
        go_wp2
        go_ret
        exact ⟨rfl, rfl⟩
  · have hl' : ((s.size : Int) != 16) = true := by simp; omega
    have hno : isSum s.data.toList = false := by
      cases hh : isSum s.data.toList with
      | false => rfl
      | true => exact absurd (by simpa using isSum_len hh) hl
    go_enter Tryd.func76, Tryd.ntmps76
    go_wp2
    go_ret
    rw [hno]
    exact ⟨rfl, rfl⟩

end Go.Proofs.YtjeldedjhlicmaaDoor
