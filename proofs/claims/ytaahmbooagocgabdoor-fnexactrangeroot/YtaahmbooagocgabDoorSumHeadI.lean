/-
  What the program's SumHead reads.
-/
import Derived.Test.YtaahmbooagocgabDoorHexM
import Derived.Test.YtaahmbooagocgabDoorShelf
import Derived.WalkSpells
set_option linter.unusedVariables false
namespace Go.Proofs.YtaahmbooagocgabDoor
open Go.RowKit

theorem figIndex (b : UInt8) (w : World) :
    Calls Tryd.prog 32 #[.string ⟨#[48, 49, 50, 51, 52, 53, 54, 55, 56, 57, 97, 98, 99, 100, 101, 102]⟩, .int .u8 b.toNat] w fun e w' => e = .returned (.int .i64 (figAt b)) ∧ w = w' := by
  refine (Tryd.strings_IndexByte _ _ _).mono ?_
  rintro e w' ⟨rfl, rfl⟩
  refine ⟨?_, rfl⟩
  have : ((b.toNat : Int).toNat).toUInt8 = b := by simp
  rw [this]
  exact congrArg (fun x => Ending.returned (Value.int .i64 x)) (figAt_eq b)

set_option maxHeartbeats 2000000 in
set_option maxRecDepth 100000 in
theorem implSumOk (s : ByteArray) (w : World) :
    Calls Tryd.prog 31 #[.string s] w fun e w' => e = .returned (.bool (isSum s.data.toList)) ∧ w = w' := by
  by_cases hl : s.size = 16
  · have hl' : ((s.size : Int) != 16) = false := by simp [hl]
    go_enter Tryd.func31, Tryd.ntmps31
    go_wp2
    go_loop [9] (fun i => ∃ k : Nat, k ≤ s.size ∧ i = .int .i64 k ∧ Hid (∀ j (hj : j < s.size), j < k → hexB s[j] = true)) (fun i => s.size - (intOf i).toNat)
    case atStart => exact ⟨0, by omega, rfl, fun j hj h => by omega⟩
    case round =>
      obtain ⟨k, hk, rfl, hall⟩ := hrel
      by_cases hlt : k < s.size
      · cases hx : hexB s[k] with
        | true =>
          have hf : ¬ figAt s[k] < 0 := by rw [figAt_yes _ hx]; omega
          go_wp2_with (go_at_call 32; refine (figIndex _ _).mono ?_; rintro e w1 ⟨rfl, rfl⟩)
          go_round
          case rel =>
            refine ⟨k + 1, by omega, by go_num, ?_⟩
            intro j hj hjk
            rcases Nat.lt_or_ge j k with h | h
            · exact hall.out j hj h
            · obtain rfl : j = k := by omega
              exact hx
          case measure => simp [intOf]; omega
        | false =>
          have hf : figAt s[k] < 0 := by rw [figAt_no _ hx]; decide
          have hno := isSum_no k hlt hx
          go_wp2_with (go_at_call 32; refine (figIndex _ _).mono ?_; rintro e w1 ⟨rfl, rfl⟩)
          go_ret
          rw [hno]
          exact ⟨rfl, rfl⟩
      · have hyes := isSum_yes hl (fun j hj => hall.out j hj (by omega))
        go_wp2
        go_ret
        exact ⟨rfl, rfl⟩
  · have hl' : ((s.size : Int) != 16) = true := by simp; omega
    have hno : isSum s.data.toList = false := by
      cases hh : isSum s.data.toList with
      | false => rfl
      | true => exact absurd (by simpa using isSum_len hh) hl
    go_enter Tryd.func31, Tryd.ntmps31
    go_wp2
    go_ret
    rw [hno]
    exact ⟨rfl, rfl⟩

set_option maxHeartbeats 2000000 in
set_option maxRecDepth 100000 in
theorem implSumHead (s : ByteArray) (w : World) :
    Calls Tryd.prog 13 #[.string s] w fun e w' => e = .returned (.int .i64 (sumHead s.data.toList)) ∧ w = w' := by
  cases hx : isSum s.data.toList with
  | false =>
    have hv : sumHead s.data.toList = -1 := by simp [sumHead, hx]
    rw [hv]
    go_enter Tryd.func13, Tryd.ntmps13
    go_wp2_with (go_at_call 31; refine (implSumOk _ _).mono ?_; rintro e w1 ⟨rfl, rfl⟩)
    go_ret
    exact ⟨rfl, rfl⟩
  | true =>
    have HV : Hid (sumHead s.data.toList = ((hexN (s.data.toList.take 8) / 2 : Nat) : Int)) := by simp [Hid, sumHead, hx]
    have hsz : s.size = 16 := by simpa using isSum_len hx
    have HX : Hid (isSum s.data.toList = true) := hx
    go_enter Tryd.func13, Tryd.ntmps13
    go_wp2_with (go_at_call 31; refine (implSumOk _ _).mono ?_; rintro e w1 ⟨rfl, rfl⟩)
    clear hx
    go_loop [3, 8] (fun h i => ∃ k n : Nat, k ≤ 8 ∧ i = .int .i64 k ∧ h = .int .u32 n ∧ Hid (n = hexN (s.data.toList.take k))) (fun _ i => 8 - (intOf i).toNat)
    case atStart => exact ⟨0, 0, by omega, rfl, rfl, rfl⟩
    case round =>
      obtain ⟨k, n, hk, rfl, rfl, hn⟩ := hrel
      by_cases hlt : k < 8
      · have hks : k < s.size := by omega
        have hxk := isSum_at HX.out k hks
        have hf : figAt s[k] = (hexV s[k] : Int) := figAt_yes _ hxk
        have hvl := hexV_lt _ hxk
        have hall : (s.data.toList.take k).all hexB = true := by
          rw [List.all_eq_true]
          intro b hb
          have := HX.out
          simp only [isSum, Bool.and_eq_true, List.all_eq_true] at this
          exact this.2 b (List.mem_of_mem_take hb)
        have hle := hexN_le _ hall
        rw [take_len s k (by omega), ← hn.out] at hle
        have h7 : 16 ^ k ≤ 16 ^ 7 := Nat.pow_le_pow_right (by decide) (by omega)
        have hor := or16 n (hexV s[k]) (by omega) hvl
        have HN : Hid (n * 16 + hexV s[k] = hexN (s.data.toList.take (k + 1))) := by
          have := hexN_snoc (s.data.toList.take k) s[k]
          rw [← take_snoc s k hks, ← hn.out] at this
          exact this.symm
        clear hall hle h7
        go_wp2_with (go_at_call 32; refine (figIndex _ _).mono ?_; rintro e w1 ⟨rfl, rfl⟩)
        go_round
        case rel => exact ⟨k + 1, _, by omega, by go_num, rfl, HN⟩
        case measure => simp [intOf]; omega
      · obtain rfl : k = 8 := by omega
        have hall : (s.data.toList.take 8).all hexB = true := by
          rw [List.all_eq_true]
          intro b hb
          have := HX.out
          simp only [isSum, Bool.and_eq_true, List.all_eq_true] at this
          exact this.2 b (List.mem_of_mem_take hb)
        have hle := hexN_le _ hall
        rw [take_len s 8 (by omega), ← hn.out] at hle
        clear hall
        go_wp2
        go_ret
        rw [HV.out, ← hn.out]
        exact ⟨by simp, rfl⟩

end Go.Proofs.YtaahmbooagocgabDoor
