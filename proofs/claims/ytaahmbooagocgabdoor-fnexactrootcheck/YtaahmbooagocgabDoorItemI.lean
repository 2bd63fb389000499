/-
  The program's look at an item.
-/
import Derived.Test.YtaahmbooagocgabDoorItemM
import Derived.Test.YtaahmbooagocgabDoorProg
set_option linter.unusedVariables false
namespace Go.Proofs.YtaahmbooagocgabDoor
open Go.RowKit

set_option maxHeartbeats 2000000 in
set_option maxRecDepth 100000 in
theorem implItemOk (s : ByteArray) (w : World) :
    Calls Tryd.prog 38 #[.string s] w fun e w' => e = .returned (.bool (isItem s.data.toList)) ∧ w = w' := by
  by_cases h0 : s.size = 0
  · have hno := isItem_len_no (s := s) (by omega)
    obtain rfl : s = ⟨#[]⟩ := by
      apply ByteArray.ext
      exact Array.size_eq_zero_iff.1 h0
    rw [hno]
    go_enter Tryd.func38, Tryd.ntmps38
    go_wp2
    go_ret
    exact ⟨rfl, rfl⟩
  · have hne : ¬ s = ⟨#[]⟩ := by rintro rfl; exact h0 rfl
    have hn1 : ¬ s.toList = [] := by
      rw [ByteArray.toList_eq]
      intro h
      exact h0 (by have := congrArg List.length h; simpa using this)
    have hn2 : s.toList.isEmpty = false := by
      cases hl : s.toList with
      | nil => exact absurd hl hn1
      | cons a l => rfl
    by_cases h8 : (8 : Int) < (s.size : Int)
    · have hno := isItem_len_no (s := s) (by omega)
      rw [hno]
      go_enter Tryd.func38, Tryd.ntmps38
      go_wp2
      go_ret
      exact ⟨rfl, rfl⟩
    · have hl : 1 ≤ s.size ∧ s.size ≤ 8 := by omega
      go_enter Tryd.func38, Tryd.ntmps38
      go_wp2
      go_loop [15] (fun i => ∃ k : Nat, k ≤ s.size ∧ i = .int .i64 k ∧ Hid (∀ j (hj : j < s.size), j < k → itemC s[j] = true)) (fun i => s.size - (intOf i).toNat)
      case atStart => exact ⟨0, by omega, rfl, fun j hj h => by omega⟩
      case round =>
        obtain ⟨k, hk, rfl, hall⟩ := hrel
        by_cases hlt : k < s.size
        · cases hx : itemC s[k] with
          | true =>
            have hxx := of_decide_eq_true hx
            have HX : Hid (itemC s[k] = true) := hx
            by_cases h97 : (97 : Int) ≤ (s[k].toNat : Int)
            · have h122 : (s[k].toNat : Int) ≤ 122 := by omega
              have h48 : (48 : Int) ≤ (s[k].toNat : Int) := by omega
              have h57 : decide ((s[k].toNat : Int) ≤ 57) = false := decide_eq_false (by omega)
              clear hx hxx
              go_wp2
              go_round
              case rel =>
                refine ⟨k + 1, by omega, by go_num, ?_⟩
                intro j hj hjk
                rcases Nat.lt_or_ge j k with h | h
                · exact hall.out j hj h
                · obtain rfl : j = k := by omega
                  exact HX.out
              case measure => simp [intOf]; omega
            · have h97' : decide ((97 : Int) ≤ (s[k].toNat : Int)) = false := decide_eq_false h97
              have h48 : (48 : Int) ≤ (s[k].toNat : Int) := by omega
              have h57 : (s[k].toNat : Int) ≤ 57 := by omega
              clear hx hxx
              go_wp2
              go_round
              case rel =>
                refine ⟨k + 1, by omega, by go_num, ?_⟩
                intro j hj hjk
                rcases Nat.lt_or_ge j k with h | h
                · exact hall.out j hj h
                · obtain rfl : j = k := by omega
                  exact HX.out
              case measure => simp [intOf]; omega
          | false =>
            have hxx := of_decide_eq_false hx
            have HNO : Hid (isItem s.data.toList = false) := isItem_no k hlt hx
            clear hx
            by_cases h97 : (97 : Int) ≤ (s[k].toNat : Int)
            · have h122 : decide ((s[k].toNat : Int) ≤ 122) = false := decide_eq_false (by omega)
              have h48 : (48 : Int) ≤ (s[k].toNat : Int) := by omega
              have h57 : decide ((s[k].toNat : Int) ≤ 57) = false := decide_eq_false (by omega)
              go_wp2
              go_ret
              rw [HNO.out]
              exact ⟨rfl, rfl⟩
            · have h97' : decide ((97 : Int) ≤ (s[k].toNat : Int)) = false := decide_eq_false h97
              by_cases h48 : (48 : Int) ≤ (s[k].toNat : Int)
              · have h57 : decide ((s[k].toNat : Int) ≤ 57) = false := decide_eq_false (by omega)
                go_wp2
                go_ret
                rw [HNO.out]
                exact ⟨rfl, rfl⟩
              · have h48' : decide ((48 : Int) ≤ (s[k].toNat : Int)) = false := decide_eq_false h48
                go_wp2
                go_ret
                rw [HNO.out]
                exact ⟨rfl, rfl⟩
        · have HY : Hid (isItem s.data.toList = true) := isItem_yes hl (fun j hj => hall.out j hj (by omega))
          go_wp2
          go_ret
          rw [HY.out]
          exact ⟨rfl, rfl⟩

end Go.Proofs.YtaahmbooagocgabDoor
