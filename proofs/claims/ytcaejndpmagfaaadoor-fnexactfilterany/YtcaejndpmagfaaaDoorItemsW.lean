/-
  Whether items are ok: the program's look, and the specification's.
-/
import Derived.Test.YtcaejndpmagfaaaDoorStrM
import Derived.Test.YtcaejndpmagfaaaDoorItemI
import Derived.Test.YtcaejndpmagfaaaDoorItemS
set_option linter.unusedVariables false
namespace Go.Proofs.YtcaejndpmagfaaaDoor
open Go.RowKit

def itemsOkB (ss : List ByteArray) : Bool := decide (ss.length ≤ 40) && ss.all fun s => isItem s.data.toList
theorem itemsOk_len {ss : List ByteArray} (h : itemsOkB ss = true) : ss.length ≤ 40 := by
  simp only [itemsOkB, Bool.and_eq_true, decide_eq_true_eq] at h
  exact h.1
theorem itemsOk_at {ss : List ByteArray} (h : itemsOkB ss = true) (i : Nat) (hi : i < ss.length) : isItem (ss.getD i ByteArray.empty).data.toList = true := by
  simp only [itemsOkB, Bool.and_eq_true, List.all_eq_true] at h
  refine h.2 _ ?_
  simp [List.getElem?_eq_getElem hi]
theorem itemsOk_no {ss : List ByteArray} (i : Nat) (hi : i < ss.length) (h : isItem (ss.getD i ByteArray.empty).data.toList = false) : itemsOkB ss = false := by
  cases hh : itemsOkB ss with
  | false => rfl
  | true => rw [itemsOk_at hh i hi] at h; cases h
theorem itemsOk_yes {ss : List ByteArray} (h1 : ss.length ≤ 40) (h2 : ∀ i, i < ss.length → isItem (ss.getD i ByteArray.empty).data.toList = true) : itemsOkB ss = true := by
  simp only [itemsOkB, Bool.and_eq_true, List.all_eq_true, decide_eq_true_eq]
  refine ⟨h1, fun s hs => ?_⟩
  obtain ⟨i, hi, rfl⟩ := List.mem_iff_getElem.1 hs
  have := h2 i hi
  rw [List.getD_eq_getElem?_getD, List.getElem?_eq_getElem hi] at this
  exact this

set_option maxHeartbeats 1000000 in
set_option maxRecDepth 100000 in
theorem implItemsOk (g n cap : Nat) (ss : List ByteArray) (w : World) (h : AtS w g ss) (hn : n = ss.length) :
    Calls Tryd.prog 25 #[.slice (some ⟨g, 0, none⟩) n cap] w fun e w' => e = .returned (.bool (itemsOkB ss)) ∧ w = w' := by
  have HA : Hid (AtS w g ss) := h
  have HN : Hid (n = ss.length) := hn
  clear h hn
  by_cases h40 : (40 : Int) < (n : Int)
  · have HNO : Hid (itemsOkB ss = false) := by
      show _ = _
      cases hh : itemsOkB ss with
      | false => rfl
      | true => have := itemsOk_len hh; have := HN.out; omega
    rw [HNO.out]
    go_enter Tryd.func25, Tryd.ntmps25
    go_wp2_with fail
    go_ret
    exact ⟨rfl, rfl⟩
  · have hn40 : n ≤ 40 := by omega
    go_enter Tryd.func25, Tryd.ntmps25
    go_wp2_with fail
    go_loop [10] (fun i => ∃ k : Nat, k ≤ n ∧ i = .int .i64 (k : Int) ∧ Hid (∀ j, j < k → isItem (ss.getD j ByteArray.empty).data.toList = true)) (fun i => n - (intOf i).toNat)
    case atStart => exact ⟨0, by omega, rfl, fun j hj => by omega⟩
    case round =>
      obtain ⟨k, hk, rfl, HT⟩ := hrel
      by_cases hlt : k < n
      · have HK : Hid (k + 1 ≤ n) := hlt
        have hc := HA.out.2 k (by rw [← HN.out]; exact hlt)
        have lk : (k : Int) < (n : Int) := by omega
        obtain ⟨z, hz⟩ : ∃ z, z = ss.getD k ByteArray.empty := ⟨_, rfl⟩
        rw [← hz] at hc
        have HZ : Hid (z = ss.getD k ByteArray.empty) := hz
        clear hz
        cases hit : isItem z.data.toList with
        | true =>
          have HIT : Hid (isItem z.data.toList = true) := hit
          go_wp2_with (go_at_call 22; refine (implItemOk _ _).mono ?_; rintro e w1 ⟨rfl, rfl⟩)
          go_round
          case rel =>
            refine ⟨k + 1, HK.out, by go_num, fun j hj => ?_⟩
            rcases Nat.lt_or_ge j k with h' | h'
            · exact HT.out j h'
            · obtain rfl : j = k := by omega
              rw [← HZ.out]; exact HIT.out
          case measure => have := HK.out; simp [intOf]; omega
        | false =>
          have HNO : Hid (itemsOkB ss = false) := itemsOk_no k (by rw [← HN.out]; exact hlt) (by rw [← HZ.out]; exact hit)
          go_wp2_with (go_at_call 22; refine (implItemOk _ _).mono ?_; rintro e w1 ⟨rfl, rfl⟩)
          go_ret
          rw [HNO.out]
          exact ⟨rfl, rfl⟩
      · have HY : Hid (itemsOkB ss = true) := itemsOk_yes (by rw [← HN.out]; exact hn40) (fun i hi => HT.out i (by have := HN.out; omega))
        go_wp2_with fail
        go_ret
        rw [HY.out]
        exact ⟨rfl, rfl⟩

set_option maxHeartbeats 1000000 in
set_option maxRecDepth 100000 in
theorem specItems (g n cap : Nat) (ss : List ByteArray) (w : World) (h : AtS w g ss) (hn : n = ss.length) (hm : n ≤ 1073741824) (hs : ∀ i, i < ss.length → (ss.getD i ByteArray.empty).size ≤ maxLen) :
    Calls Tryd.prog 24 #[.slice (some ⟨g, 0, none⟩) n cap] w fun e w' => e = .returned (.bool (itemsOkB ss)) ∧ w = w' := by
  have HA : Hid (AtS w g ss) := h
  have HN : Hid (n = ss.length) := hn
  have HS : Hid (∀ i, i < ss.length → (ss.getD i ByteArray.empty).size ≤ maxLen) := hs
  clear h hn hs
  go_enter Tryd.func24, Tryd.ntmps24
  go_wp2_with fail
  go_loop [3] (fun i => ∃ k : Nat, k ≤ n ∧ i = .int .i64 (k : Int) ∧ Hid (∀ j, j < k → isItem (ss.getD j ByteArray.empty).data.toList = true)) (fun i => n - (intOf i).toNat)
  case atStart => exact ⟨0, by omega, rfl, fun j hj => by omega⟩
  case round =>
    obtain ⟨k, hk, rfl, HT⟩ := hrel
    by_cases hlt : k < n
    · have HK : Hid (k + 1 ≤ n) := hlt
      have hc := HA.out.2 k (by rw [← HN.out]; exact hlt)
      have hsz := HS.out k (by rw [← HN.out]; exact hlt)
      have lk : (k : Int) < (n : Int) := by omega
      obtain ⟨z, hz⟩ : ∃ z, z = ss.getD k ByteArray.empty := ⟨_, rfl⟩
      rw [← hz] at hc hsz
      have HZ : Hid (z = ss.getD k ByteArray.empty) := hz
      clear hz
      cases hit : isItem z.data.toList with
      | true =>
        have HIT : Hid (isItem z.data.toList = true) := hit
        go_wp2_with (go_at_call 19; refine (specItemOk _ _ hsz).mono ?_; rintro e w1 ⟨rfl, rfl⟩)
        go_round
        case rel =>
          refine ⟨k + 1, HK.out, by go_num, fun j hj => ?_⟩
          rcases Nat.lt_or_ge j k with h' | h'
          · exact HT.out j h'
          · obtain rfl : j = k := by omega
            rw [← HZ.out]; exact HIT.out
        case measure => have := HK.out; simp [intOf]; omega
      | false =>
        have HNO : Hid (itemsOkB ss = false) := itemsOk_no k (by rw [← HN.out]; exact hlt) (by rw [← HZ.out]; exact hit)
        go_wp2_with (go_at_call 19; refine (specItemOk _ _ hsz).mono ?_; rintro e w1 ⟨rfl, rfl⟩)
        go_ret
        rw [HNO.out]
        exact ⟨rfl, rfl⟩
    · have HY : Hid (itemsOkB ss = decide (n ≤ 40)) := by
        show _ = _
        by_cases h4 : n ≤ 40
        · rw [itemsOk_yes (by rw [← HN.out]; exact h4) (fun i hi => HT.out i (by have := HN.out; omega))]
          simp [h4]
        · cases hh : itemsOkB ss with
          | false => simp [h4]
          | true => have := itemsOk_len hh; have := HN.out; omega
      go_wp2_with fail
      go_ret
      rw [HY.out]
      exact ⟨by simp; omega, rfl⟩

end Go.Proofs.YtcaejndpmagfaaaDoor
