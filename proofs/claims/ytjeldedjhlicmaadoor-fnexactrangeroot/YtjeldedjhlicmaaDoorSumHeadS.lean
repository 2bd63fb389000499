/-
  What the specification's SumHead reads.
-/
import Derived.Test.YtjeldedjhlicmaaDoorHexM
import Derived.Test.YtjeldedjhlicmaaDoorProg
import Derived.WalkSpells
set_option linter.unusedVariables false
namespace Go.Proofs.YtjeldedjhlicmaaDoor
open Go.RowKit

def figB (b : UInt8) : Bool := decide (48 ≤ b.toNat ∧ b.toNat ≤ 57)
theorem specFigure (b : UInt8) (w : World) :
    Calls Tryd.prog 92 #[.int .u8 b.toNat] w fun e w' => e = .returned (.bool (figB b)) ∧ w = w' := by
  by_cases h1 : (48 : Int) ≤ (b.toNat : Int)
  · by_cases h2 : (b.toNat : Int) ≤ 57
    · have h3 : figB b = true := decide_eq_true (by omega)
      rw [h3]
      go_enter Tryd.func92, Tryd.ntmps92
      go_wp2
      go_ret
      exact ⟨rfl, rfl⟩
    · have h3 : figB b = false := decide_eq_false (by omega)
      have h4 : decide ((b.toNat : Int) ≤ 57) = false := decide_eq_false h2
      rw [h3]
      go_enter Tryd.func92, Tryd.ntmps92
      go_wp2
      go_ret
      exact ⟨rfl, rfl⟩
  · have h3 : figB b = false := decide_eq_false (by omega)
    have h4 : decide ((48 : Int) ≤ (b.toNat : Int)) = false := decide_eq_false h1
    rw [h3]
    go_enter Tryd.func92, Tryd.ntmps92
    go_wp2
    go_ret
    exact ⟨rfl, rfl⟩

set_option maxHeartbeats 2000000 in
set_option maxRecDepth 100000 in
theorem specIsSum (s : ByteArray) (w : World) (hs : s.size ≤ maxLen) :
    Calls Tryd.prog 70 #[.string s] w fun e w' => e = .returned (.bool (isSum s.data.toList)) ∧ w = w' := by
  unfold maxLen at hs
  go_enter Tryd.func70, Tryd.ntmps70
  go_wp2
  go_loop [3] (fun i => ∃ k : Nat, k ≤ s.size ∧ i = .int .i64 k ∧ Hid (∀ j (hj : j < s.size), j < k → hexB s[j] = true)) (fun i => s.size - (intOf i).toNat)
  case atStart => exact ⟨0, by omega, rfl, fun j hj h => by omega⟩
  case round =>
    obtain ⟨k, hk, rfl, hall⟩ := hrel
    by_cases hlt : k < s.size
    · cases hx : hexB s[k] with
      | true =>
        have hxx := of_decide_eq_true hx
        have HX : Hid (hexB s[k] = true) := hx
        by_cases hfg : figB s[k] = true
        · clear hx
          go_wp2_with (go_at_call 92; refine (specFigure _ _).mono ?_; rintro e w1 ⟨rfl, rfl⟩)
          go_round
          case rel =>
            refine ⟨k + 1, by omega, by go_num, ?_⟩
            intro j hj hjk
            rcases Nat.lt_or_ge j k with h | h
            · exact hall.out j hj h
            · obtain rfl : j = k := by omega
              exact HX.out
          case measure => simp [intOf]; omega
        · have hff : figB s[k] = false := by simpa using hfg
          have h97 : ¬ (s[k].toNat : Int) < 97 := by
            have : ¬ (48 ≤ s[k].toNat ∧ s[k].toNat ≤ 57) := of_decide_eq_false hff
            omega
          have h102 : ¬ (102 : Int) < (s[k].toNat : Int) := by omega
          clear hx hxx hfg
          go_wp2_with (go_at_call 92; refine (specFigure _ _).mono ?_; rintro e w1 ⟨rfl, rfl⟩)
          go_round
          case rel =>
            refine ⟨k + 1, by omega, by go_num, ?_⟩
            intro j hj hjk
            rcases Nat.lt_or_ge j k with h | h
            · exact hall.out j hj h
            · obtain rfl : j = k := by omega
              exact HX.out
          case measure => simp [intOf]; omega
      | false =>
        have hno := isSum_no k hlt hx
        have hxx := of_decide_eq_false hx
        have hff : figB s[k] = false := decide_eq_false (by omega)
        have HNO : Hid (isSum s.data.toList = false) := hno
        clear hx hno
        by_cases h97 : (s[k].toNat : Int) < 97
        · go_wp2_with (go_at_call 92; refine (specFigure _ _).mono ?_; rintro e w1 ⟨rfl, rfl⟩)
          go_ret
          rw [HNO.out]
          exact ⟨rfl, rfl⟩
        · have h102 : (102 : Int) < (s[k].toNat : Int) := by omega
          go_wp2_with (go_at_call 92; refine (specFigure _ _).mono ?_; rintro e w1 ⟨rfl, rfl⟩)
          go_ret
          rw [HNO.out]
          exact ⟨rfl, rfl⟩
    · by_cases hl : s.size = 16
      · have hyes := isSum_yes hl (fun j hj => hall.out j hj (by omega))
        have hl' : ((s.size : Int) == 16) = true := by simp [hl]
        have HY : Hid (isSum s.data.toList = true) := hyes
        clear hyes hl
        go_wp2
        go_ret
        rw [HY.out]
        exact ⟨rfl, rfl⟩
      · have hl' : ((s.size : Int) == 16) = false := by simp; omega
        have hno : isSum s.data.toList = false := by
          cases hh : isSum s.data.toList with
          | false => rfl
          | true => exact absurd (by simpa using isSum_len hh) hl
        have HNO : Hid (isSum s.data.toList = false) := hno
        clear hno
        go_wp2
        go_ret
        rw [HNO.out]
        exact ⟨rfl, rfl⟩

end Go.Proofs.YtjeldedjhlicmaaDoor
