/-
  The specification's look at an item.
-/
import Derived.Test.YtaahmbooagocgabDoorItemM
import Derived.Test.YtaahmbooagocgabDoorSpecIn
import Derived.Test.YtaahmbooagocgabDoorSumHeadS
set_option linter.unusedVariables false
namespace Go.Proofs.YtaahmbooagocgabDoor
open Go.RowKit

set_option maxHeartbeats 2000000 in
set_option maxRecDepth 100000 in
theorem specItemOk (s : ByteArray) (w : World) (hs : s.size ≤ maxLen) :
    Calls Tryd.prog 34 #[.string s] w fun e w' => e = .returned (.bool (isItem s.data.toList)) ∧ w = w' := by
  unfold maxLen at hs
  go_enter Tryd.func34, Tryd.ntmps34
  go_wp2
  go_loop [3] (fun i => ∃ k : Nat, k ≤ s.size ∧ i = .int .i64 k ∧ Hid (∀ j (hj : j < s.size), j < k → itemC s[j] = true)) (fun i => s.size - (intOf i).toNat)
  case atStart => exact ⟨0, by omega, rfl, fun j hj h => by omega⟩
  case round =>
    obtain ⟨k, hk, rfl, hall⟩ := hrel
    by_cases hlt : k < s.size
    · cases hx : itemC s[k] with
      | true =>
        have hxx := of_decide_eq_true hx
        have HX : Hid (itemC s[k] = true) := hx
        by_cases hfg : figB s[k] = true
        · have h97 : (s[k].toNat : Int) < 97 := by
            have : 48 ≤ s[k].toNat ∧ s[k].toNat ≤ 57 := of_decide_eq_true hfg
            omega
          clear hx hxx
          go_wp2_with (go_at_call 66; refine (specFigure _ _).mono ?_; rintro e w1 ⟨rfl, rfl⟩)
          go_round
          case rel =>
            refine ⟨k + 1, by omega, by go_num, ?_⟩
            intro j hj hjk
            rcases Nat.lt_or_ge j k with h | h
            · exact hall.out j hj h
            · obtain rfl : j = k := by omega
              exact HX.out
          case measure => simp [intOf]; omega
        · have hff : figB s[k] = false := by simpa using hfg
          have h97 : ¬ (s[k].toNat : Int) < 97 := by
            have : ¬ (48 ≤ s[k].toNat ∧ s[k].toNat ≤ 57) := of_decide_eq_false hff
            omega
          have h122 : ¬ (122 : Int) < (s[k].toNat : Int) := by omega
          clear hx hxx hfg
          go_wp2_with (go_at_call 66; refine (specFigure _ _).mono ?_; rintro e w1 ⟨rfl, rfl⟩)
          go_round
          case rel =>
            refine ⟨k + 1, by omega, by go_num, ?_⟩
            intro j hj hjk
            rcases Nat.lt_or_ge j k with h | h
            · exact hall.out j hj h
            · obtain rfl : j = k := by omega
              exact HX.out
          case measure => simp [intOf]; omega
      | false =>
        have hxx := of_decide_eq_false hx
        have hff : figB s[k] = false := decide_eq_false (by omega)
        have HNO : Hid (isItem s.data.toList = false) := isItem_no k hlt hx
        clear hx
        by_cases h97 : (s[k].toNat : Int) < 97
        · go_wp2_with (go_at_call 66; refine (specFigure _ _).mono ?_; rintro e w1 ⟨rfl, rfl⟩)
          go_ret
          rw [HNO.out]
          exact ⟨rfl, rfl⟩
        · have h122 : (122 : Int) < (s[k].toNat : Int) := by omega
          go_wp2_with (go_at_call 66; refine (specFigure _ _).mono ?_; rintro e w1 ⟨rfl, rfl⟩)
          go_ret
          rw [HNO.out]
          exact ⟨rfl, rfl⟩
    · have HE : Hid (inB (s.size : Int) 1 8 = isItem s.data.toList) := by
        show _ = _
        by_cases hl : 1 ≤ s.size ∧ s.size ≤ 8
        · rw [isItem_yes hl (fun j hj => hall.out j hj (by omega)), inB_yes (by omega)]
        · rw [isItem_len_no hl, inB_no (by omega)]
      go_wp2_with (go_at_call 52; refine (specIn _ _ _ _).mono ?_; rintro e w1 ⟨rfl, rfl⟩)
      go_ret
      rw [HE.out]
      exact ⟨rfl, rfl⟩

end Go.Proofs.YtaahmbooagocgabDoor
