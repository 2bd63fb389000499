/-
  What the specification's SumHead reads.
-/
import Derived.Test.YtaahmbooagocgabDoorHexM
import Derived.Test.YtaahmbooagocgabDoorProg
import Derived.WalkSpells
set_option linter.unusedVariables false
namespace Go.Proofs.YtaahmbooagocgabDoor
open Go.RowKit

def figB (b : UInt8) : Bool := decide (48 ≤ b.toNat ∧ b.toNat ≤ 57)
theorem specFigure (b : UInt8) (w : World) :
    Calls Tryd.prog 66 #[.int .u8 b.toNat] w fun e w' => e = .returned (.bool (figB b)) ∧ w = w' := by
  by_cases h1 : (48 : Int) ≤ (b.toNat : Int)
  · by_cases h2 : (b.toNat : Int) ≤ 57
    · have h3 : figB b = true := decide_eq_true (by omega)
      rw [h3]
      go_enter Tryd.func66, Tryd.ntmps66
      go_wp2
      go_ret
      exact ⟨rfl, rfl⟩
    · have h3 : figB b = false := decide_eq_false (by omega)
      have h4 : decide ((b.toNat : Int) ≤ 57) = false := decide_eq_false h2
      rw [h3]
      go_enter Tryd.func66, Tryd.ntmps66
      go_wp2
      go_ret
      exact ⟨rfl, rfl⟩
  · have h3 : figB b = false := decide_eq_false (by omega)
    have h4 : decide ((48 : Int) ≤ (b.toNat : Int)) = false := decide_eq_false h1
    rw [h3]
    go_enter Tryd.func66, Tryd.ntmps66
    go_wp2
    go_ret
    exact ⟨rfl, rfl⟩

set_option maxHeartbeats 2000000 in
set_option maxRecDepth 100000 in
theorem specIsSum (s : ByteArray) (w : World) (hs : s.size ≤ maxLen) :
    Calls Tryd.prog 36 #[.string s] w fun e w' => e = .returned (.bool (isSum s.data.toList)) ∧ w = w' := by
  unfold maxLen at hs
  go_enter Tryd.func36, Tryd.ntmps36
  go_wp2
  go_loop [3] (fun i => ∃ k : Nat, k ≤ s.size ∧ i = .int .i64 k ∧ Hid (∀ j (hj : j < s.size), j < k → hexB s[j] = true)) (fun i => s.size - (intOf i).toNat)
  case atStart => exact ⟨0, by omega, rfl, fun j hj h => by omega⟩
  case round =>
    obtain ⟨k, hk, rfl, hall⟩ := hrel
    by_cases hlt : k < s.size
    · cases hx : hexB s[k] with
      | true =>
        have hxx := of_decide_eq_true hx
        have HX : Hid (hexB s[k] = true) := hx
        by_cases hfg : figB s[k] = true
        · clear hx
          go_wp2_with (go_at_call 66; refine (specFigure _ _).mono ?_; rintro e w1 ⟨rfl, rfl⟩)
          go_round
          case rel =>
            refine ⟨k + 1, by omega, by go_num, ?_⟩
            intro j hj hjk
            rcases Nat.lt_or_ge j k with h | h
            · exact hall.out j hj h
            · obtain rfl : j = k := by omega
              exact HX.out
          case measure => simp [intOf]; omega
        · have hff : figB s[k] = false := by simpa using hfg
          have h97 : ¬ (s[k].toNat : Int) < 97 := by
            have : ¬ (48 ≤ s[k].toNat ∧ s[k].toNat ≤ 57) := of_decide_eq_false hff
            omega
          have h102 : ¬ (102 : Int) < (s[k].toNat : Int) := by omega
          clear hx hxx hfg
          go_wp2_with (go_at_call 66; refine (specFigure _ _).mono ?_; rintro e w1 ⟨rfl, rfl⟩)
          go_round
          case rel =>
            refine ⟨k + 1, by omega, by go_num, ?_⟩
            intro j hj hjk
            rcases Nat.lt_or_ge j k with h | h
            · exact hall.out j hj h
            · obtain rfl : j = k := by omega
              exact HX.out
          case measure => simp [intOf]; omega
      | false =>
        have hno := isSum_no k hlt hx
        have hxx := of_decide_eq_false hx
        have hff : figB s[k] = false := decide_eq_false (by omega)
        have HNO : Hid (isSum s.data.toList = false) := hno
        clear hx hno
        by_cases h97 : (s[k].toNat : Int) < 97
        · go_wp2_with (go_at_call 66; refine (specFigure _ _).mono ?_; rintro e w1 ⟨rfl, rfl⟩)
          go_ret
          rw [HNO.out]
          exact ⟨rfl, rfl⟩
        · have h102 : (102 : Int) < (s[k].toNat : Int) := by omega
          go_wp2_with (go_at_call 66; refine (specFigure _ _).mono ?_; rintro e w1 ⟨rfl, rfl⟩)
          go_ret
          rw [HNO.out]
          exact ⟨rfl, rfl⟩
    · by_cases hl : s.size = 16
      · have hyes := isSum_yes hl (fun j hj => hall.out j hj (by omega))
        have hl' : ((s.size : Int) == 16) = true := by simp [hl]
        have HY : Hid (isSum s.data.toList = true) := hyes
        clear hyes hl
        go_wp2
        go_ret
        rw [HY.out]
        exact ⟨rfl, rfl⟩
      · have hl' : ((s.size : Int) == 16) = false := by simp; omega
        have hno : isSum s.data.toList = false := by
          cases hh : isSum s.data.toList with
          | false => rfl
          | true => exact absurd (by simpa using isSum_len hh) hl
        have HNO : Hid (isSum s.data.toList = false) := hno
        clear hno
        go_wp2
        go_ret
        rw [HNO.out]
        exact ⟨rfl, rfl⟩

set_option maxHeartbeats 2000000 in
set_option maxRecDepth 100000 in
theorem specHead (s : ByteArray) (w : World) (HX : Hid (isSum s.data.toList = true)) :
    Calls Tryd.prog 53 #[.string s] w fun e w' => e = .returned (.int .i64 ((hexN (s.data.toList.take 8) / 2 : Nat) : Int)) ∧ w = w' := by
  have hsz : s.size = 16 := by simpa using isSum_len HX.out
  go_enter Tryd.func53, Tryd.ntmps53
  go_wp2
  go_loop [3, 4] (fun h i => ∃ k n : Nat, k ≤ 8 ∧ i = .int .i64 k ∧ h = .int .i64 n ∧ Hid (n = hexN (s.data.toList.take k))) (fun _ i => 8 - (intOf i).toNat)
  case atStart => exact ⟨0, 0, by omega, rfl, rfl, rfl⟩
  case round =>
    obtain ⟨k, n, hk, rfl, rfl, hn⟩ := hrel
    have hall : (s.data.toList.take k).all hexB = true := by
      rw [List.all_eq_true]
      intro b hb
      have := HX.out
      simp only [isSum, Bool.and_eq_true, List.all_eq_true] at this
      exact this.2 b (List.mem_of_mem_take hb)
    have hle := hexN_le _ hall
    rw [take_len s k (by omega), ← hn.out] at hle
    have h8 : 16 ^ k ≤ 16 ^ 8 := Nat.pow_le_pow_right (by decide) (by omega)
    have hn8 : n < 4294967296 := by omega
    clear hall hle h8
    by_cases hlt : k < 8
    · have hks : k < s.size := by omega
      have hxk := isSum_at HX.out k hks
      have hxx := of_decide_eq_true hxk
      have HN : Hid (n * 16 + hexV s[k] = hexN (s.data.toList.take (k + 1))) := by
        have := hexN_snoc (s.data.toList.take k) s[k]
        rw [← take_snoc s k hks, ← hn.out] at this
        exact this.symm
      by_cases h97 : (97 : Int) ≤ (s[k].toNat : Int)
      · have hv : hexV s[k] = s[k].toNat - 87 := by unfold hexV; rw [if_neg (by omega)]
        rw [hv] at HN
        clear hxk hv
        go_wp2
        go_round
        case rel => exact ⟨k + 1, n * 16 + (s[k].toNat - 87), by omega, by go_num, by go_num, HN⟩
        case measure => simp [intOf]; omega
      · have hv : hexV s[k] = s[k].toNat - 48 := by unfold hexV; rw [if_pos (by omega)]
        rw [hv] at HN
        have h48 : (48 : Int) ≤ (s[k].toNat : Int) := by omega
        clear hxk hv
        go_wp2
        go_round
        case rel => exact ⟨k + 1, n * 16 + (s[k].toNat - 48), by omega, by go_num, by go_num, HN⟩
        case measure => simp [intOf]; omega
    · obtain rfl : k = 8 := by omega
      go_wp2
      go_ret
      rw [← hn.out]
      exact ⟨by simp, rfl⟩

end Go.Proofs.YtaahmbooagocgabDoor
