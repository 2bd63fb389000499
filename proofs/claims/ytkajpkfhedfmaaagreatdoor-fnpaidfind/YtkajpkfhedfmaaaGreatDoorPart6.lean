/-
  Texts that the last part needs, joined.
-/
import Derived.Test.YtkajpkfhedfmaaaGreatDoorPart1
import Derived.Test.YtkajpkfhedfmaaaGreatDoorPart2
import Derived.Test.YtkajpkfhedfmaaaGreatDoorPart3
import Derived.Test.YtkajpkfhedfmaaaGreatDoorPart4
import Derived.Test.YtkajpkfhedfmaaaGreatDoorPart5
import Derived.Test.YtkajpkfhedfmaaaGreatDoorProg
import Derived.WalkKit
import Derived.WalkSpells
import Derived.Below
import Derived.Lib.UnsafeStr
import Derived.Lib.FrozenHead2
import Derived.Lib.Builder
import Derived.Deep.MidRow
import Derived.BigRegion
import Derived.Deep.RegionWith
import Derived.Maps.AppendAt
import Derived.Lib.BufferRead
import Derived.OwnWalk
set_option linter.unusedVariables false
namespace Go.Proofs.YtkajpkfhedfmaaaGreatDoor
open Go.RowKit

set_option maxHeartbeats 2000000 in
set_option maxRecDepth 100000 in
theorem implItemOk (s : ByteArray) (w : World) :
    Calls Tryz.prog 104 #[.string s] w fun e w' => e = .returned (.bool (isItem s.data.toList)) ∧ w = w' := by
  by_cases h0 : s.size = 0
  · have hno := isItem_len_no (s := s) (by omega)
    obtain rfl : s = ⟨#[]⟩ := by
      apply ByteArray.ext
      exact Array.size_eq_zero_iff.1 h0
    rw [hno]
    go_enter Tryz.func104, Tryz.ntmps104
    go_wp2
    go_ret
    exact ⟨rfl, rfl⟩
  · have hne : ¬ s = ⟨#[]⟩ := by rintro rfl; exact h0 rfl
    have hn1 : ¬ s.toList = [] := by
      rw [ByteArray.toList_eq]
      intro h
      exact h0 (by have := congrArg List.length h; simpa using this)
    have hn2 : s.toList.isEmpty = false := by
      cases hl : s.toList with
      | nil => exact absurd hl hn1
      | cons a l => rfl
    by_cases h8 : (8 : Int) < (s.size : Int)
    · have hno := isItem_len_no (s := s) (by omega)
      rw [hno]
      go_enter Tryz.func104, Tryz.ntmps104
      go_wp2
      go_ret
      exact ⟨rfl, rfl⟩
    · have hl : 1 ≤ s.size ∧ s.size ≤ 8 := by omega
      go_enter Tryz.func104, Tryz.ntmps104
      go_wp2
      go_loop [15] (fun i => ∃ k : Nat, k ≤ s.size ∧ i = .int .i64 k ∧ Hid (∀ j (hj : j < s.size), j < k → itemC s[j] = true)) (fun i => s.size - (intOf i).toNat)
      case atStart => exact ⟨0, by omega, rfl, fun j hj h => by omega⟩
      case round =>
        obtain ⟨k, hk, rfl, hall⟩ := hrel
        by_cases hlt : k < s.size
        · cases hx : itemC s[k] with
          | true =>
            have hxx := of_decide_eq_true hx
            have HX : Hid (itemC s[k] = true) := hx
            by_cases h97 : (97 : Int) ≤ (s[k].toNat : Int)
            · have h122 : (s[k].toNat : Int) ≤ 122 := by omega
              have h48 : (48 : Int) ≤ (s[k].toNat : Int) := by omega
              have h57 : decide ((s[k].toNat : Int) ≤ 57) = false := decide_eq_false (by omega)
              clear hx hxx
              go_wp2
              go_round
              case rel =>
                refine ⟨k + 1, by omega, by go_num, ?_⟩
                intro j hj hjk
                rcases Nat.lt_or_ge j k with h | h
                · exact hall.out j hj h
                · obtain rfl : j = k := by omega
                  exact HX.out
              case measure => simp [intOf]; omega
            · have h97' : decide ((97 : Int) ≤ (s[k].toNat : Int)) = false := decide_eq_false h97
              have h48 : (48 : Int) ≤ (s[k].toNat : Int) := by omega
              have h57 : (s[k].toNat : Int) ≤ 57 := by omega
              clear hx hxx
              go_wp2
              go_round
              case rel =>
                refine ⟨k + 1, by omega, by go_num, ?_⟩
                intro j hj hjk
                rcases Nat.lt_or_ge j k with h | h
                · exact hall.out j hj h
                · obtain rfl : j = k := by omega
                  exact HX.out
              case measure => simp [intOf]; omega
          | false =>
            have hxx := of_decide_eq_false hx
            have HNO : Hid (isItem s.data.toList = false) := isItem_no k hlt hx
            clear hx
            by_cases h97 : (97 : Int) ≤ (s[k].toNat : Int)
            · have h122 : decide ((s[k].toNat : Int) ≤ 122) = false := decide_eq_false (by omega)
              have h48 : (48 : Int) ≤ (s[k].toNat : Int) := by omega
              have h57 : decide ((s[k].toNat : Int) ≤ 57) = false := decide_eq_false (by omega)
              go_wp2
              go_ret
              rw [HNO.out]
              exact ⟨rfl, rfl⟩
            · have h97' : decide ((97 : Int) ≤ (s[k].toNat : Int)) = false := decide_eq_false h97
              by_cases h48 : (48 : Int) ≤ (s[k].toNat : Int)
              · have h57 : decide ((s[k].toNat : Int) ≤ 57) = false := decide_eq_false (by omega)
                go_wp2
                go_ret
                rw [HNO.out]
                exact ⟨rfl, rfl⟩
              · have h48' : decide ((48 : Int) ≤ (s[k].toNat : Int)) = false := decide_eq_false h48
                go_wp2
                go_ret
                rw [HNO.out]
                exact ⟨rfl, rfl⟩
        · have HY : Hid (isItem s.data.toList = true) := isItem_yes hl (fun j hj => hall.out j hj (by omega))
          go_wp2
          go_ret
          rw [HY.out]
          exact ⟨rfl, rfl⟩

end Go.Proofs.YtkajpkfhedfmaaaGreatDoor

set_option linter.unusedVariables false
namespace Go.Proofs.YtkajpkfhedfmaaaGreatDoor
open Go.RowKit

set_option maxHeartbeats 2000000 in
set_option maxRecDepth 100000 in
theorem specItemOk (s : ByteArray) (w : World) (hs : s.size ≤ maxLen) :
    Calls Tryz.prog 114 #[.string s] w fun e w' => e = .returned (.bool (isItem s.data.toList)) ∧ w = w' := by
  unfold maxLen at hs
  go_enter Tryz.func114, Tryz.ntmps114
  go_wp2
  go_loop [3] (fun i => ∃ k : Nat, k ≤ s.size ∧ i = .int .i64 k ∧ Hid (∀ j (hj : j < s.size), j < k → itemC s[j] = true)) (fun i => s.size - (intOf i).toNat)
  case atStart => exact ⟨0, by omega, rfl, fun j hj h => by omega⟩
  case round =>
    obtain ⟨k, hk, rfl, hall⟩ := hrel
    by_cases hlt : k < s.size
    · cases hx : itemC s[k] with
      | true =>
        have hxx := of_decide_eq_true hx
        have HX : Hid (itemC s[k] = true) := hx
        by_cases hfg : figB s[k] = true
        · have h97 : (s[k].toNat : Int) < 97 := by
            have : 48 ≤ s[k].toNat ∧ s[k].toNat ≤ 57 := of_decide_eq_true hfg
            omega
          clear hx hxx
          go_wp2_with (go_at_call 134; refine (specFigure _ _).mono ?_; rintro e w1 ⟨rfl, rfl⟩)
          go_round
          case rel =>
            refine ⟨k + 1, by omega, by go_num, ?_⟩
            intro j hj hjk
            rcases Nat.lt_or_ge j k with h | h
            · exact hall.out j hj h
            · obtain rfl : j = k := by omega
              exact HX.out
          case measure => simp [intOf]; omega
        · have hff : figB s[k] = false := by simpa using hfg
          have h97 : ¬ (s[k].toNat : Int) < 97 := by
            have : ¬ (48 ≤ s[k].toNat ∧ s[k].toNat ≤ 57) := of_decide_eq_false hff
            omega
          have h122 : ¬ (122 : Int) < (s[k].toNat : Int) := by omega
          clear hx hxx hfg
          go_wp2_with (go_at_call 134; refine (specFigure _ _).mono ?_; rintro e w1 ⟨rfl, rfl⟩)
          go_round
          case rel =>
            refine ⟨k + 1, by omega, by go_num, ?_⟩
            intro j hj hjk
            rcases Nat.lt_or_ge j k with h | h
            · exact hall.out j hj h
            · obtain rfl : j = k := by omega
              exact HX.out
          case measure => simp [intOf]; omega
      | false =>
        have hxx := of_decide_eq_false hx
        have hff : figB s[k] = false := decide_eq_false (by omega)
        have HNO : Hid (isItem s.data.toList = false) := isItem_no k hlt hx
        clear hx
        by_cases h97 : (s[k].toNat : Int) < 97
        · go_wp2_with (go_at_call 134; refine (specFigure _ _).mono ?_; rintro e w1 ⟨rfl, rfl⟩)
          go_ret
          rw [HNO.out]
          exact ⟨rfl, rfl⟩
        · have h122 : (122 : Int) < (s[k].toNat : Int) := by omega
          go_wp2_with (go_at_call 134; refine (specFigure _ _).mono ?_; rintro e w1 ⟨rfl, rfl⟩)
          go_ret
          rw [HNO.out]
          exact ⟨rfl, rfl⟩
    · have HE : Hid (inB (s.size : Int) 1 8 = isItem s.data.toList) := by
        show _ = _
        by_cases hl : 1 ≤ s.size ∧ s.size ≤ 8
        · rw [isItem_yes hl (fun j hj => hall.out j hj (by omega)), inB_yes (by omega)]
        · rw [isItem_len_no hl, inB_no (by omega)]
      go_wp2_with (go_at_call 111; refine (specIn _ _ _ _).mono ?_; rintro e w1 ⟨rfl, rfl⟩)
      go_ret
      rw [HE.out]
      exact ⟨rfl, rfl⟩

end Go.Proofs.YtkajpkfhedfmaaaGreatDoor

set_option linter.unusedVariables false
namespace Go.Proofs.YtkajpkfhedfmaaaGreatDoor
open Go.RowKit

def itemsOkB (ss : List ByteArray) : Bool := decide (ss.length ≤ 40) && ss.all fun s => isItem s.data.toList
theorem itemsOk_len {ss : List ByteArray} (h : itemsOkB ss = true) : ss.length ≤ 40 := by
  simp only [itemsOkB, Bool.and_eq_true, decide_eq_true_eq] at h
  exact h.1
theorem itemsOk_at {ss : List ByteArray} (h : itemsOkB ss = true) (i : Nat) (hi : i < ss.length) : isItem (ss.getD i ByteArray.empty).data.toList = true := by
  simp only [itemsOkB, Bool.and_eq_true, List.all_eq_true] at h
  refine h.2 _ ?_
  simp [List.getElem?_eq_getElem hi]
theorem itemsOk_no {ss : List ByteArray} (i : Nat) (hi : i < ss.length) (h : isItem (ss.getD i ByteArray.empty).data.toList = false) : itemsOkB ss = false := by
  cases hh : itemsOkB ss with
  | false => rfl
  | true => rw [itemsOk_at hh i hi] at h; cases h
theorem itemsOk_yes {ss : List ByteArray} (h1 : ss.length ≤ 40) (h2 : ∀ i, i < ss.length → isItem (ss.getD i ByteArray.empty).data.toList = true) : itemsOkB ss = true := by
  simp only [itemsOkB, Bool.and_eq_true, List.all_eq_true, decide_eq_true_eq]
  refine ⟨h1, fun s hs => ?_⟩
  obtain ⟨i, hi, rfl⟩ := List.mem_iff_getElem.1 hs
  have := h2 i hi
  rw [List.getD_eq_getElem?_getD, List.getElem?_eq_getElem hi] at this
  exact this

set_option maxHeartbeats 1000000 in
set_option maxRecDepth 100000 in
theorem implItemsOk (g n cap : Nat) (ss : List ByteArray) (w : World) (h : AtS w g ss) (hn : n = ss.length) :
    Calls Tryz.prog 69 #[.slice (some ⟨g, 0, none⟩) n cap] w fun e w' => e = .returned (.bool (itemsOkB ss)) ∧ w = w' := by
  have HA : Hid (AtS w g ss) := h
  have HN : Hid (n = ss.length) := hn
  clear h hn
  by_cases h40 : (40 : Int) < (n : Int)
  · have HNO : Hid (itemsOkB ss = false) := by
      show _ = _
      cases hh : itemsOkB ss with
      | false => rfl
      | true => have := itemsOk_len hh; have := HN.out; omega
    rw [HNO.out]
    go_enter Tryz.func69, Tryz.ntmps69
    go_wp2_with fail
    go_ret
    exact ⟨rfl, rfl⟩
  · have hn40 : n ≤ 40 := by omega
    go_enter Tryz.func69, Tryz.ntmps69
    go_wp2_with fail
    go_loop [10] (fun i => ∃ k : Nat, k ≤ n ∧ i = .int .i64 (k : Int) ∧ Hid (∀ j, j < k → isItem (ss.getD j ByteArray.empty).data.toList = true)) (fun i => n - (intOf i).toNat)
    case atStart => exact ⟨0, by omega, rfl, fun j hj => by omega⟩
    case round =>
      obtain ⟨k, hk, rfl, HT⟩ := hrel
      by_cases hlt : k < n
      · have HK : Hid (k + 1 ≤ n) := hlt
        have hc := HA.out.2 k (by rw [← HN.out]; exact hlt)
        have lk : (k : Int) < (n : Int) := by omega
        obtain ⟨z, hz⟩ : ∃ z, z = ss.getD k ByteArray.empty := ⟨_, rfl⟩
        rw [← hz] at hc
        have HZ : Hid (z = ss.getD k ByteArray.empty) := hz
        clear hz
        cases hit : isItem z.data.toList with
        | true =>
          have HIT : Hid (isItem z.data.toList = true) := hit
          go_wp2_with (go_at_call 104; refine (implItemOk _ _).mono ?_; rintro e w1 ⟨rfl, rfl⟩)
          go_round
          case rel =>
            refine ⟨k + 1, HK.out, by go_num, fun j hj => ?_⟩
            rcases Nat.lt_or_ge j k with h' | h'
            · exact HT.out j h'
            · obtain rfl : j = k := by omega
              rw [← HZ.out]; exact HIT.out
          case measure => have := HK.out; simp [intOf]; omega
        | false =>
          have HNO : Hid (itemsOkB ss = false) := itemsOk_no k (by rw [← HN.out]; exact hlt) (by rw [← HZ.out]; exact hit)
          go_wp2_with (go_at_call 104; refine (implItemOk _ _).mono ?_; rintro e w1 ⟨rfl, rfl⟩)
          go_ret
          rw [HNO.out]
          exact ⟨rfl, rfl⟩
      · have HY : Hid (itemsOkB ss = true) := itemsOk_yes (by rw [← HN.out]; exact hn40) (fun i hi => HT.out i (by have := HN.out; omega))
        go_wp2_with fail
        go_ret
        rw [HY.out]
        exact ⟨rfl, rfl⟩

set_option maxHeartbeats 1000000 in
set_option maxRecDepth 100000 in
theorem specItems (g n cap : Nat) (ss : List ByteArray) (w : World) (h : AtS w g ss) (hn : n = ss.length) (hm : n ≤ 1073741824) (hs : ∀ i, i < ss.length → (ss.getD i ByteArray.empty).size ≤ maxLen) :
    Calls Tryz.prog 79 #[.slice (some ⟨g, 0, none⟩) n cap] w fun e w' => e = .returned (.bool (itemsOkB ss)) ∧ w = w' := by
  have HA : Hid (AtS w g ss) := h
  have HN : Hid (n = ss.length) := hn
  have HS : Hid (∀ i, i < ss.length → (ss.getD i ByteArray.empty).size ≤ maxLen) := hs
  clear h hn hs
  go_enter Tryz.func79, Tryz.ntmps79
  go_wp2_with fail
  go_loop [3] (fun i => ∃ k : Nat, k ≤ n ∧ i = .int .i64 (k : Int) ∧ Hid (∀ j, j < k → isItem (ss.getD j ByteArray.empty).data.toList = true)) (fun i => n - (intOf i).toNat)
  case atStart => exact ⟨0, by omega, rfl, fun j hj => by omega⟩
  case round =>
    obtain ⟨k, hk, rfl, HT⟩ := hrel
    by_cases hlt : k < n
    · have HK : Hid (k + 1 ≤ n) := hlt
      have hc := HA.out.2 k (by rw [← HN.out]; exact hlt)
      have hsz := HS.out k (by rw [← HN.out]; exact hlt)
      have lk : (k : Int) < (n : Int) := by omega
      obtain ⟨z, hz⟩ : ∃ z, z = ss.getD k ByteArray.empty := ⟨_, rfl⟩
      rw [← hz] at hc hsz
      have HZ : Hid (z = ss.getD k ByteArray.empty) := hz
      clear hz
      cases hit : isItem z.data.toList with
      | true =>
        have HIT : Hid (isItem z.data.toList = true) := hit
        go_wp2_with (go_at_call 114; refine (specItemOk _ _ hsz).mono ?_; rintro e w1 ⟨rfl, rfl⟩)
        go_round
        case rel =>
          refine ⟨k + 1, HK.out, by go_num, fun j hj => ?_⟩
          rcases Nat.lt_or_ge j k with h' | h'
          · exact HT.out j h'
          · obtain rfl : j = k := by omega
            rw [← HZ.out]; exact HIT.out
        case measure => have := HK.out; simp [intOf]; omega
      | false =>
        have HNO : Hid (itemsOkB ss = false) := itemsOk_no k (by rw [← HN.out]; exact hlt) (by rw [← HZ.out]; exact hit)
        go_wp2_with (go_at_call 114; refine (specItemOk _ _ hsz).mono ?_; rintro e w1 ⟨rfl, rfl⟩)
        go_ret
        rw [HNO.out]
        exact ⟨rfl, rfl⟩
    · have HY : Hid (itemsOkB ss = decide (n ≤ 40)) := by
        show _ = _
        by_cases h4 : n ≤ 40
        · rw [itemsOk_yes (by rw [← HN.out]; exact h4) (fun i hi => HT.out i (by have := HN.out; omega))]
          simp [h4]
        · cases hh : itemsOkB ss with
          | false => simp [h4]
          | true => have := itemsOk_len hh; have := HN.out; omega
      go_wp2_with fail
      go_ret
      rw [HY.out]
      exact ⟨by simp; omega, rfl⟩

end Go.Proofs.YtkajpkfhedfmaaaGreatDoor

set_option linter.unusedVariables false
namespace Go.Proofs.YtkajpkfhedfmaaaGreatDoor
open Go.RowKit

theorem rootItemB_16 (ss : List ByteArray) : ∀ s ∈ ss.map rootItemB, s.size = 16 := by
  intro s hs
  obtain ⟨x, _, rfl⟩ := List.mem_map.1 hs
  exact bsum_size _
theorem sumNil (w : World) : Calls Tryz.prog 116 #[.string ⟨#[]⟩] w fun e w' => e = .returned (.string (bsum [])) ∧ Below w.heap.size w w' := by
  have h : ∀ t : ByteArray, t = ⟨#[]⟩ → Calls Tryz.prog 116 #[.string t] w fun e w' => e = .returned (.string (bsum t.data.toList)) ∧ Below w.heap.size w w' := by
    intro t ht
    exact specSum t w (by rw [ht]; decide)
  exact h ⟨#[]⟩ rfl
/-- The root of items that are ok. -/
def rootL (ss : List ByteArray) : ByteArray := if ss = [] then bsum [] else rootR (ss.map rootItemB)

set_option maxHeartbeats 1000000 in
set_option maxRecDepth 100000 in
theorem specRoot (g n cap : Nat) (ss : List ByteArray) (w : World) (h : AtS w g ss) (hn : n = ss.length) (hm : n ≤ 1000000) (hs : ∀ i, i < ss.length → (ss.getD i ByteArray.empty).size ≤ 1048576) :
    Calls Tryz.prog 80 #[.slice (some ⟨g, 0, none⟩) n cap] w fun e w' => e = .returned (.string (rootL ss)) ∧ Below w.heap.size w w' := by
  have hrow := specRow g n cap ss w h hn hm hs
  obtain ⟨R, hRR⟩ : ∃ R, R = rootL ss := ⟨_, rfl⟩
  rw [← hRR]
  have HRR : Hid (R = rootL ss) := hRR
  clear hRR
  obtain ⟨rows, hrows⟩ : ∃ rows, rows = ss.map rootItemB := ⟨_, rfl⟩
  have H16 : Hid (∀ s ∈ rows, s.size = 16) := by rw [hrows]; exact rootItemB_16 ss
  have HRL : Hid (rows.length = ss.length) := by show _ = _; rw [hrows, List.length_map]
  have HRZ : Hid (ss ≠ [] → R = rootR rows) := by
    intro hne
    rw [HRR.out, rootL, if_neg hne, hrows]
  have HR0 : Hid (ss = [] → R = bsum []) := by
    intro he
    rw [HRR.out, rootL, if_pos he]
  rw [← hrows] at hrow
  have HN : Hid (n = ss.length) := hn
  clear hrows HRR hn h hs
  go_enter Tryz.func80, Tryz.ntmps80
  go_wp2_with fail
  refine hrow.mono ?_
  rintro e w1 ⟨v, rfl, hr, b1⟩
  have HB1 : Hid (Below w.heap.size w w1) := b1
  obtain ⟨g1, c1, rfl⟩ := hr.1
  have hlen : rows.length = n := by rw [HRL.out]; exact HN.out.symm
  have HR1 : Hid (SRow w.heap.size (.slice (some ⟨g1, 0, none⟩) rows.length c1) rows w1) := hr
  have HL : Hid (rows.length = n) := hlen
  rw [hlen]
  by_cases h0 : n = 0
  · have hne : ((n : Int) == 0) = true := by simp [h0]
    have HE : Hid (R = bsum []) := HR0.out (List.length_eq_zero_iff.1 (by rw [← HN.out]; exact h0))
    have hsum := sumNil w1
    clear HR0 HRZ
    generalize bsum [] = z at HE hsum
    clear hrow hr b1 hlen h0
    go_wp2_with fail
    refine hsum.mono ?_
    rintro e w2 ⟨rfl, b2⟩
    clear hsum
    go_wp2_with fail
    go_ret
    rw [HE.out]
    exact ⟨rfl, HB1.out.trans (b2.mono HB1.out.size)⟩
  · have hne : ((n : Int) == 0) = false := by simp; omega
    have HE : Hid (R = rootR rows) := HRZ.out (fun e => h0 (by rw [HN.out, e]; rfl))
    clear HR0 HRZ
    have HN0 : Hid (n ≠ 0) := h0
    clear hrow hr b1 hlen h0
    go_wp2_with fail
    go_loopw [3] (fun v wr => ∃ (rs : List ByteArray) (g2 c2 m : Nat), v = .slice (some ⟨g2, 0, none⟩) m c2 ∧ m ≤ n ∧ Hid (m = rs.length ∧ m ≠ 0) ∧ Hid (SRow w.heap.size v rs wr) ∧ Hid (∀ s ∈ rs, s.size = 16) ∧ Hid (rootR rs = rootR rows) ∧ Hid (Below w.heap.size w wr)) (fun v _ => sliceLen2 v)
    case atStart =>
      refine ⟨rows, g1, c1, n, rfl, Nat.le_refl _, ⟨HL.out.symm, HN0.out⟩, ?_, H16, rfl, HB1⟩
      have := HR1.out
      rw [HL.out] at this
      exact this
    case round =>
      obtain ⟨rs, g2, c2, m, rfl, hmn, HM, HR, H6, HT, HB⟩ := hrel
      have hat := HR.out.at
      by_cases h1 : 1 < m
      · have h1' : (1 : Int) < (m : Int) := by omega
        have hup := specUp g2 m c2 rs wr hat.1 HM.out.1 (by omega) H6.out
        have HU : Hid (rootR (upR rs) = rootR rows) := by
          show _ = _
          rw [← HT.out]
          exact (rootR_up (by have := HM.out.1; omega)).symm
        have HUL : Hid ((upR rs).length < m ∧ (upR rs).length ≠ 0) := by
          have := upR_length rs
          have := HM.out.1
          exact ⟨by omega, by omega⟩
        have HU6 : Hid (∀ s ∈ upR rs, s.size = 16) := upR_16 rs H6.out
        clear hat
        go_wp2_with fail
        refine hup.mono ?_
        rintro e w2 ⟨v2, rfl, hr2, b2⟩
        obtain ⟨g3, c3, rfl⟩ := hr2.1
        have HR2 : Hid (SRow wr.heap.size (.slice (some ⟨g3, 0, none⟩) (upR rs).length c3) (upR rs) w2) := hr2
        have HB2 : Hid (Below w.heap.size w w2) := HB.out.trans (b2.mono HB.out.size)
        clear hup hr2 b2
        obtain ⟨m2, hm2⟩ : ∃ m2, m2 = (upR rs).length := ⟨_, rfl⟩
        rw [← hm2] at HR2 HUL ⊢
        have HM2 : Hid (m2 = (upR rs).length) := hm2
        clear hm2
        go_wp2_with fail
        go_roundw
        case rel => exact ⟨upR rs, g3, c3, m2, rfl, by have := HUL.out; omega, ⟨HM2.out, HUL.out.2⟩, HR2.out.mono HB.out.size, HU6, HU, HB2⟩
        case measure => have := HUL.out; simp [sliceLen2]; omega
      · have h1' : ¬ (1 : Int) < (m : Int) := by omega
        have hm1 : m = 1 := by have := HM.out.2; omega
        subst hm1
        have hc := hat.1.2 0 (by rw [← HM.out.1]; omega)
        have HV : Hid (rs.getD 0 ByteArray.empty = rootR rows) := by
          show _ = _
          rw [← HT.out, rootR_one (by rw [← HM.out.1]; omega)]
        generalize rs.getD 0 ByteArray.empty = z at hc HV
        clear hat
        go_wp2_with fail
        go_ret
        rw [HE.out, ← HV.out]
        exact ⟨rfl, HB.out⟩


/-- What RootOf answers. -/
def rootOf (ss : List ByteArray) : ByteArray := if itemsOkB ss = true then rootL ss else ⟨#[]⟩
theorem rootOf_yes {ss : List ByteArray} (h : itemsOkB ss = true) : rootOf ss = rootL ss := by rw [rootOf, if_pos h]
theorem rootOf_no {ss : List ByteArray} (h : itemsOkB ss = false) : rootOf ss = ⟨#[]⟩ := by rw [rootOf, if_neg (by rw [h]; decide)]
end Go.Proofs.YtkajpkfhedfmaaaGreatDoor

set_option linter.unusedVariables false
namespace Go.Proofs.YtkajpkfhedfmaaaGreatDoor
open Go.RowKit Go.Deep

theorem bsum_sum (t : List UInt8) : isSum (bsum t).data.toList = true := isSum_sumB t
theorem upR_sum : ∀ l : List ByteArray, (∀ s ∈ l, isSum s.data.toList = true) → ∀ s ∈ upR l, isSum s.data.toList = true
  | [], _ => by simp [upR]
  | [a], h => by simpa [upR] using h
  | a :: b :: r, h => by
    intro s hs
    rcases List.mem_cons.1 hs with rfl | hs
    · exact bsum_sum _
    · exact upR_sum r (fun x hx => h x (by simp [hx])) s hs
theorem rootR_sum : ∀ (n : Nat) (r : List ByteArray), r.length ≤ n → r ≠ [] → (∀ s ∈ r, isSum s.data.toList = true) → isSum (rootR r).data.toList = true
  | 0, r, h, h0, _ => absurd (List.length_eq_zero_iff.1 (Nat.le_zero.1 h)) h0
  | n + 1, r, h, h0, hs => by
    by_cases h1 : r.length ≤ 1
    · rw [rootR_one h1]
      cases r with
      | nil => exact absurd rfl h0
      | cons a t => exact hs a (by simp)
    · rw [rootR_up h1]
      have hl := upR_length r
      refine rootR_sum n (upR r) (by omega) ?_ (upR_sum r hs)
      intro h2
      rw [h2] at hl
      simp at hl
      omega
theorem rootL_sum (ss : List ByteArray) : isSum (rootL ss).data.toList = true := by
  unfold rootL
  split
  · exact bsum_sum _
  · rename_i h
    refine rootR_sum _ _ (Nat.le_refl _) (by simpa using h) ?_
    intro s hs
    obtain ⟨x, _, rfl⟩ := List.mem_map.1 hs
    exact bsum_sum _
theorem prevV_sum (l : List HeadV) : isSum (prevV l).data.toList = true := by
  unfold prevV
  split
  · decide
  · exact isSum_sumB _
abbrev canMine (l : List HeadV) (t : Int) : Prop := l.length < 20 ∧ (0 ≤ t ∧ t ≤ 99999) ∧ (l.length = 0 ∨ (lastH l).time < t)
def newH (l : List HeadV) (t : Int) (ss : List ByteArray) : HeadV := ⟨prevV l, rootL ss, t, hardV l, 0⟩
def mineV (l : List HeadV) (t : Int) (ss : List ByteArray) : Option HeadV := if canMine l t ∧ (headMine (newH l t ss)).2 = true then some (headMine (newH l t ss)).1 else none
theorem mine_no1 {l : List HeadV} {t : Int} {ss : List ByteArray} (h : ¬ canMine l t) : mineV l t ss = none := by rw [mineV, if_neg (fun h' => h h'.1)]
theorem mine_no2 {l : List HeadV} {t : Int} {ss : List ByteArray} (h : (headMine (newH l t ss)).2 = false) : mineV l t ss = none := by rw [mineV, if_neg (fun h' => by rw [h] at h'; cases h'.2)]
theorem mine_yes {l : List HeadV} {t : Int} {ss : List ByteArray} (h : canMine l t) (h2 : (headMine (newH l t ss)).2 = true) : mineV l t ss = some (headMine (newH l t ss)).1 := by rw [mineV, if_pos ⟨h, h2⟩]
theorem newH_ok {l : List HeadV} {t : Int} {ss : List ByteArray} (ht : 0 ≤ t ∧ t ≤ 99999) (hok : ∀ i, i < l.length → headOkB (l.getD i default) = true) : headOkB (newH l t ss) = true := by
  have hd := hard_in hok
  have e1 : decide (0 ≤ (newH l t ss).time ∧ (newH l t ss).time ≤ 99999) = true := decide_eq_true ht
  have e2 : decide (1 ≤ (newH l t ss).diff ∧ (newH l t ss).diff ≤ 8) = true := decide_eq_true hd
  have e3 : isSum (newH l t ss).prev.data.toList = true := prevV_sum l
  have e4 : isSum (newH l t ss).root.data.toList = true := rootL_sum ss
  unfold headOkB
  rw [e1, e2, e3, e4]
  rfl
theorem headMine_ok {h : HeadV} (hok : headOkB (headNo h 0) = true) (h2 : (headMine h).2 = true) : headOkB (headMine h).1 = true := by
  unfold headMine at h2 ⊢
  split at h2
  · rename_i k hk
    have := List.find?_some hk
    have hm : headMeets (headNo h k) = true := by simpa using this
    cases hh : headOkB (headNo h k) with
    | true => rfl
    | false => rw [meets_no hh] at hm; cases hm
  · cases h2
/-- What l4Mine leaves. -/
def MinePost (w : World) (src : Value) (bs : List BlkV) (t : Int) (ss : List ByteArray) (e : Ending) (w' : World) : Prop :=
  Below w.heap.size w w' ∧ ((mineV (bs.map (·.h)) t ss = none ∧ e = .returned (.tuple #[src, .bool false])) ∨
    ∃ x v cs, mineV (bs.map (·.h)) t ss = some x ∧ e = .returned (.tuple #[v, .bool true]) ∧ BList w.heap.size v cs w' ∧ cs.map (·.h) = bs.map (·.h) ++ [x] ∧ cs.map (·.ss) = bs.map (·.ss) ++ [ss])
theorem HAt.out {w : World} {g : Nat} {p r : ByteArray} {t d n : Int} (h : HAt w g p r t d n) : w.cell? ⟨g, 0, none⟩ = some (.string p) ∧ w.cell? ⟨g, 1, none⟩ = some (.string r) ∧ w.cell? ⟨g, 2, none⟩ = some (.int .i64 t) ∧ w.cell? ⟨g, 3, none⟩ = some (.int .i64 d) ∧ w.cell? ⟨g, 4, none⟩ = some (.int .i64 n) := h
theorem HAt.far {w w' : World} {g : Nat} {p r : ByteArray} {t d n : Int} (h : HAt w g p r t d n) (hk : w'.heap[g]? = w.heap[g]?) : HAt w' g p r t d n :=
  ⟨(World.cell?_of_block (a := ⟨g, 0, none⟩) hk).trans h.1, (World.cell?_of_block (a := ⟨g, 1, none⟩) hk).trans h.2.1, (World.cell?_of_block (a := ⟨g, 2, none⟩) hk).trans h.2.2.1, (World.cell?_of_block (a := ⟨g, 3, none⟩) hk).trans h.2.2.2.1, (World.cell?_of_block (a := ⟨g, 4, none⟩) hk).trans h.2.2.2.2⟩
theorem SameBlks.len {bs cs : List BlkV} (h : SameBlks bs cs) : cs.length = bs.length := by
  have := congrArg List.length h.1
  simpa using this
theorem le_max1 {k : Nat} (h : k ≤ 1048576) : k + 1 ≤ maxLen := by unfold maxLen; omega
theorem le_80 {k : Nat} (h : k ≤ 1048576) : (k + 1) * 80 ≤ 140737488355328 := by omega
theorem BList.rowOwn {B k : Nat} {v : Value} {cs : List BlkV} {w : World} (h : BList B v cs w) (hk : cs.length = k) : w.ownsRow B 39 6 v k (cs.flatMap enBlk) := by
  have := h.row.2
  rw [hk] at this
  exact this
theorem BList.blk {B g k c : Nat} {cs : List BlkV} {w : World} (h : BList B (.slice (some ⟨g, 0, none⟩) k c) cs w) : B ≤ g ∧ g < w.heap.size := by
  obtain ⟨g', c', cur, hv, hB', hl', _⟩ := h.row.block
  simp only [Value.slice.injEq, Option.some.injEq, Addr.mk.injEq, and_true] at hv
  rw [hv.1]
  exact ⟨hB', hl'⟩
theorem size_le_alloc (w : World) (o : Obj) : w.heap.size ≤ (w.alloc o).heap.size := by simp
theorem grown_off {w w' : World} {o : Obj} {g : Nat} (h : (w.alloc o).grownBy w' (some g)) : ∀ c, c < w.heap.size → c ≠ g → w'.heap[c]? = w.heap[c]? := fun c hc hne =>
  (h.block c (Nat.lt_of_lt_of_le hc (size_le_alloc w o)) (by simpa using hne)).trans (Below.heap_alloc _ _ _ hc)
theorem grown_new {w w' : World} {o : Obj} (h : (w.alloc o).grownBy w' (some w.heap.size)) : Below w.heap.size w w' :=
  ((Below.refl w.heap.size w).alloc (Nat.le_refl _) _).grown h (size_le_alloc w o) (fun j hj => by cases hj; exact Nat.le_refl _)
theorem ne_of_lt' {a b : Nat} (h : a + 1 ≤ b) : a ≠ b := by omega
/-- What lies there when the items are copied: the copied blocks, the items, the head. -/
structure Nine (w : World) (B g8 k8 c8 : Nat) (cs : List BlkV) (gx : Nat) (p r : ByteArray) (t d n : Int) (g9 : Nat) (ss : List ByteArray) (w9 : World) : Prop where
  list : BList B (.slice (some ⟨g8, 0, none⟩) k8 c8) cs w9
  len : cs.length = k8
  items : AtS w9 g9 ss
  below : Below w.heap.size w w9
  head : HAt w9 gx p r t d n
  gx_lt : gx < B
  gx_w : w.heap.size ≤ gx
  b_le : B ≤ w9.heap.size
  g9_lt : g9 < w9.heap.size
  g9_x : gx < g9
  g9_8 : g9 ≠ g8
  g9_c : ∀ c ∈ cs, c.g ≠ g9
theorem Nine.one {w w8 w9 : World} {B g8 k8 c8 gx : Nat} {cs : List BlkV} {p r : ByteArray} {t d n : Int} {ss : List ByteArray} {g9 c9 ni : Nat} (l8 : BList B (.slice (some ⟨g8, 0, none⟩) k8 c8) cs w8) (hk : cs.length = k8) (b8 : Below w.heap.size w w8) (h8 : HAt w8 gx p r t d n) (hx : gx < B) (hxw : w.heap.size ≤ gx) (hB : B ≤ w8.heap.size)
    (hown : w9.ownsRow w8.heap.size 9 1 (.slice (some ⟨g9, 0, none⟩) (0 + ni) c9) (0 + ni) ([] ++ ss.map Value.string)) (hni : ni = ss.length) (hg : (w8.alloc (.cells #[] 9)).grownBy w9 (some w8.heap.size)) : Nine w B g8 k8 c8 cs gx p r t d n g9 ss w9 := by
  have b9 := grown_new hg
  have hb := l8.blk
  rw [Nat.zero_add] at hown
  have hat := SRow.at (srow_of (by simpa using hown) hni)
  refine ⟨l8.below b9, hk, hat.1, b8.trans (b9.mono b8.size), h8.below b9 (by omega), hx, hxw, Nat.le_trans hB b9.size, hat.1.1, by have := hat.2.2; omega, by have := hat.2.2; omega, fun c hc => ?_⟩
  have := (l8.items c hc).1.1.1
  have := hat.2.2
  omega
theorem Nine.two {w w8 w9 : World} {B g8 k8 c8 gx z : Nat} {cs : List BlkV} {p r : ByteArray} {t d n : Int} {ss : List ByteArray} {g9 c9 ni : Nat} (l8 : BList B (.slice (some ⟨g8, 0, none⟩) k8 c8) cs w8) (hk : cs.length = k8) (b8 : Below w.heap.size w w8) (h8 : HAt w8 gx p r t d n) (hx : gx < z) (hz : z < B) (hxw : w.heap.size ≤ gx) (hB : B ≤ w8.heap.size)
    (hown : w9.ownsRow z 9 1 (.slice (some ⟨g9, 0, none⟩) (0 + ni) c9) (0 + ni) ([] ++ ss.map Value.string)) (hni : ni = ss.length) (hg : w8.grownBy w9 (some z)) (ha : z = g9 ∨ g9 = w8.heap.size) : Nine w B g8 k8 c8 cs gx p r t d n g9 ss w9 := by
  have hb := l8.blk
  rw [Nat.zero_add] at hown
  have hat := SRow.at (srow_of (by simpa using hown) hni)
  have hfar : ∀ c, c < w8.heap.size → c ≠ z → w9.heap[c]? = w8.heap[c]? := fun c hc hne => hg.block c hc (by simpa using hne)
  refine ⟨l8.keep hg.size (fun c hc hl => hfar c hl (by omega)), hk, hat.1, b8.grown hg (by have := b8.size; omega) (fun j hj => by cases hj; omega), HAt.far h8 (hfar gx (by omega) (by omega)), by omega, hxw, Nat.le_trans hB hg.size, hat.1.1, by have := hat.2.2; omega, by omega, fun c hc => ?_⟩
  have := (l8.items c hc).1.1.1
  have := (l8.items c hc).2
  omega
/-- The list with one more. -/
theorem Nine.ten {w w9 w10 : World} {B g8 k8 c8 gx g9 ni c9 : Nat} {cs : List BlkV} {p r : ByteArray} {t d n : Int} {ss : List ByteArray} {g10 c10 : Nat} {o : Obj} (h : Nine w B g8 k8 c8 cs gx p r t d n g9 ss w9) (hni : ni = ss.length)
    (hit9 : OwnIt w.heap.size w9 ⟨⟨p, r, t, d, n⟩, g9, ni, c9, ss⟩) (hown : w10.ownsRow B 39 6 (.slice (some ⟨g10, 0, none⟩) (k8 + 1) c10) (k8 + 1) (cs.flatMap enBlk ++ enBlk ⟨⟨p, r, t, d, n⟩, g9, ni, c9, ss⟩)) (hg : (w9.alloc o).grownBy w10 (some g8)) (ha : g8 = g10 ∨ g10 = (w9.alloc o).heap.size) :
    BList w.heap.size (.slice (some ⟨g10, 0, none⟩) (k8 + 1) c10) (cs ++ [⟨⟨p, r, t, d, n⟩, g9, ni, c9, ss⟩]) w10 ∧ Below w.heap.size w w10 ∧ HAt w10 gx p r t d n := by
  have hfar := grown_off hg
  have hb := h.list.blk
  have hs : w9.heap.size ≤ w10.heap.size := Nat.le_trans (size_le_alloc w9 o) hg.size
  have hg10 : g10 = g8 ∨ w9.heap.size ≤ g10 := by
    rcases ha with h' | h'
    · exact .inl h'.symm
    · exact .inr (by rw [h']; exact size_le_alloc w9 o)
  have hx := h.gx_lt
  have hxw := h.gx_w
  have h9 := h.g9_8
  have h9x := h.g9_x
  have h9l := h.g9_lt
  refine ⟨⟨FRow.of ?_ ?_, ?_, ?_, ?_, ?_⟩, (h.below.alloc h.below.size _).grown hg (by have := h.below.size; have := size_le_alloc w9 o; omega) (fun j hj => by cases hj; omega), HAt.far h.head (hfar gx (by have := h.b_le; omega) (by omega))⟩
  · rw [List.flatMap_append]
    obtain ⟨h13, h14⟩ := hown
    refine ⟨by simpa using h13, ?_⟩
    rcases h14 with h15 | ⟨g', cap', cur, hv, hB, h16⟩
    · exact absurd h15.1 (by simp)
    · exact .inr ⟨g', cap', cur, hv, by omega, by simpa using h16⟩
  · rw [List.length_append, h.len]; rfl
  · intro c hc
    rcases List.mem_append.1 hc with h' | h'
    · have h2 := h.list.items c h'
      have h3 := h2.1.1.1
      have h4 : c.g ≠ g8 := fun e => h.list.apart c h' (by rw [e]; rfl)
      exact ⟨⟨atS_far h2.1.1 (hfar _ h3 h4) hs, h2.1.2⟩, by have := h2.2; omega⟩
    · obtain rfl := List.mem_singleton.1 h'
      exact ⟨⟨atS_far h.items (hfar _ h.g9_lt (by show g9 ≠ g8; omega)) hs, hni⟩, by show _ ≤ g9; omega⟩
  · intro c hc hne
    have h'' : g10 = c.g := by simpa [Value.ownBlock] using hne
    rcases List.mem_append.1 hc with h' | h'
    · have h2 := h.list.items c h'
      have h3 := h2.1.1.1
      have h4 : c.g ≠ g8 := fun e => h.list.apart c h' (by rw [e]; rfl)
      rcases hg10 with h5 | h5 <;> omega
    · obtain rfl := List.mem_singleton.1 h'
      have h3 : g10 = g9 := h''
      rcases hg10 with h4 | h4 <;> omega
  · intro c hc
    rcases List.mem_append.1 hc with h' | h'
    · have h2 := h.list.items c h'
      have h4 : c.g ≠ g8 := fun e => h.list.apart c h' (by rw [e]; rfl)
      exact ((h.list.own c h').mono (by omega)).keep (hfar _ h2.1.1.1 h4)
    · obtain rfl := List.mem_singleton.1 h'
      exact OwnIt.keep (c := ⟨⟨p, r, t, d, n⟩, g9, ni, c9, ss⟩) hit9 (hfar _ h.g9_lt (by show g9 ≠ g8; omega))
  · exact h.list.sep.more (fun x hx => h.g9_c x hx)
/-- A block of cells of a head. -/
theorem HBk.call {w w' : World} {g : Nat} {p r : ByteArray} {t d n : Int} (h : HBk w g p r t d n) (hb : Below w.heap.size w w') : HBk w' g p r t d n := h.below hb h.lt

set_option maxHeartbeats 4000000 in
set_option maxRecDepth 100000 in
theorem specL4Mine (g n cap : Nat) (bs : List BlkV) (t : Int) (gi ni ci : Nat) (ss : List ByteArray) (w : World) (h : AtBlk w g bs) (hit : ∀ b ∈ bs, ItemsAt w b ∧ b.ss.length ≤ 1048576) (hn : n = bs.length) (hm : n ≤ 1048576)
    (hok : ∀ i, i < (bs.map (·.h)).length → headOkB ((bs.map (·.h)).getD i default) = true) (hI : AtS w gi ss) (hni : ni = ss.length) (hns : ni ≤ 1000000) (hsz : ∀ i, i < ss.length → (ss.getD i ByteArray.empty).size ≤ 1048576) :
    Calls Tryz.prog 108 #[.slice (some ⟨g, 0, none⟩) n cap, .int .i64 t, .slice (some ⟨gi, 0, none⟩) ni ci] w fun e w' => MinePost w (.slice (some ⟨g, 0, none⟩) n cap) bs t ss e w' := by
  have hhd := specL4Heads g n cap bs w h hn hm
  have hrt := fun w' (hb : Below w.heap.size w w') => specRoot gi ni ci ss w' (hI.below hb hI.1) hni hns hsz
  have hcp := fun w' (hb : Below w.heap.size w w') => specL4Copy g n cap bs w' (h.below hb h.1) (fun b hb' => ⟨(hit b hb').1.1.below hb (hit b hb').1.1.1, (hit b hb').1.2⟩) hn hm (fun b hb' => (hit b hb').2)
  have hln : (bs.map (·.h)).length = n := by rw [List.length_map, hn]
  have HI : Hid (∀ w', Below w.heap.size w w' → AtS w' gi ss) := fun w' hb => hI.below hb hI.1
  have HNI : Hid (ni = ss.length) := hni
  have HML : Hid (∀ e w', Below w.heap.size w w' → mineV (bs.map (·.h)) t ss = none → e = .returned (.tuple #[.slice (some ⟨g, 0, none⟩) n cap, .bool false]) → MinePost w (.slice (some ⟨g, 0, none⟩) n cap) bs t ss e w') := fun e w' hb h1 h2 => ⟨hb, .inl ⟨h1, h2⟩⟩
  have HMY : Hid (∀ e w' x v cs, Below w.heap.size w w' → mineV (bs.map (·.h)) t ss = some x → e = .returned (.tuple #[v, .bool true]) → BList w.heap.size v cs w' → cs.map (·.h) = bs.map (·.h) ++ [x] → cs.map (·.ss) = bs.map (·.ss) ++ [ss] → MinePost w (.slice (some ⟨g, 0, none⟩) n cap) bs t ss e w') := fun e w' x v cs hb h1 h2 h3 h5 h6 => ⟨hb, .inr ⟨x, v, cs, h1, h2, h3, h5, h6⟩⟩
  obtain ⟨i0, hi, hz0, hz1, hz2⟩ := info3 infoBlk
  obtain ⟨j0, ji, jz0, jz1, jz2⟩ := info_parts infoStr
  have HM1 : Hid ((ss.map Value.string).length = ni * 1) := by show _ = _; rw [List.length_map, hni, Nat.mul_one]
  have hx1 : 0 + ni ≤ maxLen := by unfold maxLen; omega
  have hx2 : (0 + ni) * 16 ≤ 140737488355328 := by omega
  have HNB : Hid (bs.length ≤ 1048576) := by rw [← hn]; exact hm
  have HNC : Hid (∀ b, ¬ b ∈ ([] : List BlkV)) := fun b h => by cases h
  generalize hL : bs.map (·.h) = L at *
  generalize MinePost w (.slice (some ⟨g, 0, none⟩) n cap) bs t ss = MP at HML HMY ⊢
  have HOK : Hid (∀ i, i < L.length → headOkB (L.getD i default) = true) := hok
  have HLN : Hid (L.length = n) := hln
  have hhl := hard_in hok
  clear h hn hI hni hit HNC hok hln hsz
  go_enter Tryz.func108, Tryz.ntmps108
  go_wp2_with fail
  refine hhd.mono ?_
  rintro e w1 ⟨v1, rfl, r1, b1⟩
  obtain ⟨g1, c1, hv1⟩ := r1.1
  rw [HLN.out] at hv1
  subst hv1
  have A1 : Hid (AtHead w1 g1 L) := (FRow.at enHead_len r1).1
  have B1 : Hid (Below w.heap.size w w1) := b1
  clear r1 b1 hhd
  go_wp2_with fail
  refine (specL4Zero _).mono ?_
  rintro e w1' ⟨rfl, hq1⟩
  have hq1' := hq1.symm
  subst hq1'
  clear hq1
  go_wp2_with fail
  refine (hrt _ B1.out).mono ?_
  rintro e w2 ⟨rfl, b2⟩
  have B2 : Hid (Below w.heap.size w w2) := B1.out.trans (b2.mono B1.out.size)
  have A2 : Hid (AtHead w2 g1 L) := A1.out.below b2 A1.out.1
  clear b2 B1 A1 hrt
  go_wp2_with fail
  refine (specL4Diff g1 n c1 L w2 ⟨A2.out, HLN.out.symm, hm, HOK.out⟩).mono ?_
  rintro e w3 ⟨rfl, b3⟩
  have B3 : Hid (Below w.heap.size w w3) := B2.out.trans (b3.mono B2.out.size)
  have A3 : Hid (AtHead w3 g1 L) := A2.out.below b3 A2.out.1
  clear b3 B2 A2
  have HH : Hid (HBk (w3.alloc (.cells #[.string zeros16, .string (rootL ss), .int .i64 t, .int .i64 (hardV L), .int .i64 0] 36)) w3.heap.size zeros16 (rootL ss) t (hardV L) 0) := HBk.new w3 zeros16 (rootL ss) t (hardV L) 0
  have B4 : Hid (Below w.heap.size w (w3.alloc (.cells #[.string zeros16, .string (rootL ss), .int .i64 t, .int .i64 (hardV L), .int .i64 0] 36))) := B3.out.alloc B3.out.size _
  have A4 : Hid (AtHead (w3.alloc (.cells #[.string zeros16, .string (rootL ss), .int .i64 t, .int .i64 (hardV L), .int .i64 0] 36)) g1 L) := A3.out.below ((Below.refl _ w3).alloc (Nat.le_refl _) _) A3.out.1
  have HNW : Hid (newH L t ss = ⟨prevV L, rootL ss, t, hardV L, 0⟩) := rfl
  have HCN : Hid (¬ canMine L t → mineV L t ss = none) := fun h => mine_no1 h
  have HC2 : Hid ((headMine (newH L t ss)).2 = false → mineV L t ss = none) := fun h => mine_no2 h
  have HC3 : Hid (canMine L t → (headMine (newH L t ss)).2 = true → mineV L t ss = some (headMine (newH L t ss)).1) := fun h h2 => mine_yes h h2
  have HMI : Hid (0 ≤ t ∧ t ≤ 99999 → ∀ w', Calls Tryz.prog 132 #[headVal (newH L t ss)] w' fun e w'' => e = .returned (.tuple #[headVal (headMine (newH L t ss)).1, .bool (headMine (newH L t ss)).2]) ∧ Below w'.heap.size w' w'') := fun ht w' => specL3Mine (newH L t ss) w' (newH_ok ht HOK.out)
  generalize headMine (newH L t ss) = M at HC2 HC3 HMI
  rw [HNW.out] at HMI
  generalize mineV L t ss = MV at HCN HC2 HC3 HML HMY
  generalize rootL ss = rt at HH B4 A4 HMI ⊢
  have HG1 : Hid (g1 < w3.heap.size) := A3.out.1
  clear HNW A3
  by_cases h0 : n = 0
  · have hpv : prevV L = zeros16 := by rw [prevV, if_pos (by rw [HLN.out]; exact h0)]
    have HL0 : Hid (L.length = 0) := by show _ = _; rw [HLN.out]; exact h0
    rw [hpv] at HMI
    unfold headVal at HMI
    dsimp only at HMI
    clear hpv HLN
    generalize hardV L = hd at HH B4 A4 HMI hhl ⊢
    generalize zeros16 = zs at HH B4 A4 HMI ⊢
    have HCM : Hid (canMine L t ↔ 0 ≤ t ∧ t ≤ 99999) := ⟨fun h => h.2.1, fun h => ⟨by rw [HL0.out]; omega, h, .inl HL0.out⟩⟩
    subst h0
    obtain ⟨c0, c1', c2', c3', c4', z0, z1, z2, z3, z4⟩ := HH.out.facts
    by_cases ct : 0 ≤ t ∧ t ≤ 99999
    · have i3 := inB_yes ct
      have hmi := HMI.out ct
      have HC4 := HC3.out (HCM.out.2 ct)
      have HC5 : Hid (M.2 = true → MV = some M.1) := HC4
      clear HCN HC3 HC4 HMI HCM ct
      obtain ⟨x, okb⟩ := M
      obtain ⟨xp, xr, xt, xd, xn⟩ := x
      dsimp only at hmi HC2 HC5
      cases okb with
      | false =>
        have HV : Hid (MV = none) := HC2.out rfl
        clear HC2 HC5
        go_wp2_with (first | (go_at_call 111; refine (specIn _ _ _ _).mono ?_; rintro e w5 ⟨rfl, rfl⟩) | (go_at_call 132; refine (hmi _).mono ?_; rintro e w6 ⟨rfl, b6⟩))
        exact HML.out _ _ ((B4.out.trans (b6.mono B4.out.size)).alloc (B4.out.trans (b6.mono B4.out.size)).size _) HV.out rfl
      | true =>
        have HV : Hid (MV = some ⟨xp, xr, xt, xd, xn⟩) := HC5.out rfl
        clear HC2 HC5
        go_wp2_with (first | (go_at_call 111; refine (specIn _ _ _ _).mono ?_; rintro e w5 ⟨rfl, rfl⟩) | (go_at_call 132; refine (hmi _).mono ?_; rintro e w6 ⟨rfl, b6⟩))
        have B6 : Hid (Below w.heap.size w w6) := B4.out.trans (b6.mono B4.out.size)
        have X6 : HSt w6 _ w6.heap.size xp xr xt xd xn := HSt.new w6 36 xp xr xt xd xn
        have B7 : Hid (Below w.heap.size w (w6.alloc (.cells #[.string xp, .string xr, .int .i64 xt, .int .i64 xd, .int .i64 xn] 36)).drew) := (B6.out.alloc B6.out.size _).drew
        have H61 : Hid (w6.heap.size + 1 ≤ ((w6.alloc (.cells #[.string xp, .string xr, .int .i64 xt, .int .i64 xd, .int .i64 xn] 36)).drew).heap.size) := by show _ ≤ _; simp
        have H62 : Hid (w6.heap.size + 2 ≤ (((w6.alloc (.cells #[.string xp, .string xr, .int .i64 xt, .int .i64 xd, .int .i64 xn] 36)).alloc (.cells #[] 9)).drew).heap.size) := by show _ ≤ _; simp
        have B7b : Hid (Below w.heap.size w ((w6.alloc (.cells #[.string xp, .string xr, .int .i64 xt, .int .i64 xd, .int .i64 xn] 36)).alloc (.cells #[] 9)).drew) := ((B6.out.alloc B6.out.size _).alloc (B6.out.alloc B6.out.size _).size _).drew
        have HS00 : Hid (∀ w8, Below (((w6.alloc (.cells #[.string xp, .string xr, .int .i64 xt, .int .i64 xd, .int .i64 xn] 36)).alloc (.cells #[] 9)).drew).heap.size ((w6.alloc (.cells #[.string xp, .string xr, .int .i64 xt, .int .i64 xd, .int .i64 xn] 36)).alloc (.cells #[] 9)).drew w8 → w8.ownsRow (w6.heap.size + 1) 9 1 (.slice (some ⟨w6.heap.size + 1, 0, none⟩) 0 0) 0 []) := fun w8 b8 => by
          have h0 := (srow_new (w6.alloc (.cells #[.string xp, .string xr, .int .i64 xt, .int .i64 xd, .int .i64 xn] 36))).below (C := 0) (show Below ((w6.alloc (.cells #[.string xp, .string xr, .int .i64 xt, .int .i64 xd, .int .i64 xn] 36)).alloc (.cells #[] 9)).heap.size ((w6.alloc (.cells #[.string xp, .string xr, .int .i64 xt, .int .i64 xd, .int .i64 xn] 36)).alloc (.cells #[] 9)) w8 from (Below.refl _ _).drew.trans b8)
          have e6 : (w6.alloc (.cells #[.string xp, .string xr, .int .i64 xt, .int .i64 xd, .int .i64 xn] 36)).heap.size = w6.heap.size + 1 := by simp
          rw [e6] at h0
          exact h0.2
        clear b6 hmi c0 c1' c2' c3' c4' z0 z1 z2 z3 z4
        go_region_held3 (fun w' => w'.cell? ⟨w6.heap.size, 0, none⟩ = some (.string xp) ∧ w'.cell? ⟨w6.heap.size, 1, none⟩ = some (.string xr) ∧ w'.cell? ⟨w6.heap.size, 2, none⟩ = some (.int .i64 xt) ∧ w'.cell? ⟨w6.heap.size, 3, none⟩ = some (.int .i64 xd) ∧ w'.cell? ⟨w6.heap.size, 4, none⟩ = some (.int .i64 xn))
          (first | (with_reducible first | exact HAt.out X10 | exact HAt.out N9.head | exact X8.out | exact X6.out | exact X6.drew.out) | go_keep)
          (first
            | (go_at_call 133; refine (hcp _ B7.out).mono ?_; rintro e w8 ⟨v8, cs, rfl, l8, s8, b8⟩; have X8 : HSt w6 w8 w6.heap.size xp xr xt xd xn := X6.drew.call b8; have B8 : Hid (Below w.heap.size w w8) := B7.out.trans (b8.mono B7.out.size); obtain ⟨g8, c8, hv8⟩ := l8.row.1; subst hv8; obtain ⟨Bz, hBz⟩ : ∃ B, B = w6.heap.size + 1 := ⟨_, rfl⟩; have hBz2 : Bz ≤ ((w6.alloc (.cells #[.string xp, .string xr, .int .i64 xt, .int .i64 xd, .int .i64 xn] 36)).drew).heap.size := hBz ▸ H61.out; have S8 : Hid (SameBlks bs cs) := s8; have hcm : cs.length ≤ 1048576 := Nat.le_trans (Nat.le_of_eq S8.out.len) HNB.out; have L80 : Hid (BList Bz (.slice (some ⟨g8, 0, none⟩) cs.length c8) cs w8) := l8.mono hBz2; generalize hkk : cs.length = k8 at hcm L80 ⊢; have L8 : Hid (BList Bz (.slice (some ⟨g8, 0, none⟩) k8 c8) cs w8) := L80; have HKK : Hid (cs.length = k8) := hkk; have hy1 : k8 + 1 ≤ maxLen := le_max1 hcm; have hy2 : (k8 + 1) * 80 ≤ 140737488355328 := le_80 hcm; have HB89 : Hid (Bz ≤ w8.heap.size) := Nat.le_trans hBz2 b8.size; have HS0a : Hid ((w8.alloc (.cells #[] 9)).ownsRow w8.heap.size 9 1 (.slice (some ⟨w8.heap.size, 0, none⟩) 0 0) 0 []) := (srow_new w8).2; have HNW : Hid (∀ j u, (ss.map Value.string)[j]? = some u → (w8.alloc (.cells #[] 9)).cell? ((⟨gi, 0, none⟩ : Addr).add j) = some u) := (HI.out _ B8.out).news ((Below.refl _ w8).alloc (Nat.le_refl _) _); have NN : Hid (∀ g9 c9 w9, w9.ownsRow w8.heap.size 9 1 (.slice (some ⟨g9, 0, none⟩) (0 + ni) c9) (0 + ni) ([] ++ ss.map Value.string) → (w8.alloc (.cells #[] 9)).grownBy w9 (some w8.heap.size) → (w8.heap.size = g9 ∨ g9 = (w8.alloc (.cells #[] 9)).heap.size) → Nine w Bz g8 k8 c8 cs w6.heap.size xp xr xt xd xn g9 ss w9) := (fun g9 c9 w9 hown hg ha => Nine.one L8.out HKK.out B8.out X8.1 (hBz ▸ Nat.lt_succ_self _) B6.out.size HB89.out hown HNI.out hg); clear l8 s8 b8 hkk L80 hBz2 hBz)
            | (go_at_call 133; refine (hcp _ B7b.out).mono ?_; rintro e w8 ⟨v8, cs, rfl, l8, s8, b8⟩; have X8 : HSt w6 w8 w6.heap.size xp xr xt xd xn := (X6.alloc (.cells #[] 9)).drew.call b8; have B8 : Hid (Below w.heap.size w w8) := B7b.out.trans (b8.mono B7b.out.size); obtain ⟨g8, c8, hv8⟩ := l8.row.1; subst hv8; obtain ⟨Bz, hBz⟩ : ∃ B, B = w6.heap.size + 2 := ⟨_, rfl⟩; have hBz2 : Bz ≤ (((w6.alloc (.cells #[.string xp, .string xr, .int .i64 xt, .int .i64 xd, .int .i64 xn] 36)).alloc (.cells #[] 9)).drew).heap.size := hBz ▸ H62.out; have S8 : Hid (SameBlks bs cs) := s8; have hcm : cs.length ≤ 1048576 := Nat.le_trans (Nat.le_of_eq S8.out.len) HNB.out; have L80 : Hid (BList Bz (.slice (some ⟨g8, 0, none⟩) cs.length c8) cs w8) := l8.mono hBz2; generalize hkk : cs.length = k8 at hcm L80 ⊢; have L8 : Hid (BList Bz (.slice (some ⟨g8, 0, none⟩) k8 c8) cs w8) := L80; have HKK : Hid (cs.length = k8) := hkk; have hy1 : k8 + 1 ≤ maxLen := le_max1 hcm; have hy2 : (k8 + 1) * 80 ≤ 140737488355328 := le_80 hcm; have HB89 : Hid (Bz ≤ w8.heap.size) := Nat.le_trans hBz2 b8.size; have HS0b : Hid (w8.ownsRow (w6.heap.size + 1) 9 1 (.slice (some ⟨(w6.heap.size + 1), 0, none⟩) 0 0) 0 []) := HS00.out _ b8; have HNW : Hid (∀ j u, (ss.map Value.string)[j]? = some u → w8.cell? ((⟨gi, 0, none⟩ : Addr).add j) = some u) := (HI.out _ B8.out).news (Below.refl _ w8); have NN : Hid (∀ g9 c9 w9, w9.ownsRow (w6.heap.size + 1) 9 1 (.slice (some ⟨g9, 0, none⟩) (0 + ni) c9) (0 + ni) ([] ++ ss.map Value.string) → w8.grownBy w9 (some (w6.heap.size + 1)) → ((w6.heap.size + 1) = g9 ∨ g9 = w8.heap.size) → Nine w Bz g8 k8 c8 cs w6.heap.size xp xr xt xd xn g9 ss w9) := (fun g9 c9 w9 hown hg ha => Nine.two L8.out HKK.out B8.out X8.1 (Nat.lt_succ_self _) (hBz ▸ Nat.lt_succ_self _) B6.out.size HB89.out hown HNI.out hg ha); clear l8 s8 b8 hkk L80 hBz2 hBz)
            | (refine step_append_any (by rfl) _ _ 37 (by rfl) w8.heap.size 9 j0 (.string ⟨#[]⟩) 1 16 Tryz.underlying37 ji jz0 jz1 jz2 rfl (by decide) w8.heap.size 0 0 [] (by rfl) HS0a.out ⟨gi, 0, none⟩ ni ci (ss.map Value.string) (by rfl) HM1.out HNW.out (itemsOneCell ss) hx1 hx2 (size_le_alloc w8 _) ?_; intro g9 c9 w9 hown9 hgrow9 hat9 hlt9; have N9 := NN.out _ _ _ hown9 hgrow9 hat9.out; have OI9 : ∀ hh, OwnIt w.heap.size w9 ⟨hh, g9, ni, c9, ss⟩ := (fun hh => OwnIt.of hown9 B8.out.size); clear HS0a)
            | (refine step_append_any (by rfl) _ _ 37 (by rfl) (w6.heap.size + 1) 9 j0 (.string ⟨#[]⟩) 1 16 Tryz.underlying37 ji jz0 jz1 jz2 rfl (by decide) (w6.heap.size + 1) 0 0 [] (by rfl) HS0b.out ⟨gi, 0, none⟩ ni ci (ss.map Value.string) (by rfl) HM1.out HNW.out (itemsOneCell ss) hx1 hx2 (Nat.succ_le_of_lt X8.2.2) ?_; intro g9 c9 w9 hown9 hgrow9 hat9 hlt9; have N9 := NN.out _ _ _ hown9 hgrow9 hat9.out; have OI9 : ∀ hh, OwnIt w.heap.size w9 ⟨hh, g9, ni, c9, ss⟩ := (fun hh => OwnIt.of hown9 (Nat.le_succ_of_le B6.out.size)); clear HS0b)
            | (refine step_append_any (by rfl) _ _ 23 (by rfl) Bz 39 i0 (.agg #[.string ⟨#[]⟩, .string ⟨#[]⟩, .int .i64 0, .int .i64 0, .int .i64 0, .slice none 0 0]) 6 80 Tryz.underlying23 hi hz0 hz1 hz2 rfl (by decide) g8 c8 k8 _ (by rfl) (World.ownsRow.alloc (N9.list.rowOwn N9.len) _) ⟨w9.heap.size, 0, none⟩ 1 1 (enBlk ⟨⟨xp, xr, xt, xd, xn⟩, g9, ni, c9, ss⟩) (by rfl) rfl (cells_new w9 _ _) (enBlk_one _) hy1 hy2 (Nat.le_trans N9.b_le (size_le_alloc w9 _)) ?_; intro g10 c10 w10 hown10 hgrow10 hat10 hlt10; have T10 := N9.ten HNI.out (OI9 _) hown10 hgrow10 hat10.out; have X10 := T10.2.2))
        all_goals
          obtain ⟨L10, B10, _⟩ := T10
          have HE1 : Hid ((cs ++ [(⟨⟨xp, xr, xt, xd, xn⟩, g9, ni, c9, ss⟩ : BlkV)]).map (·.h) = L ++ [⟨xp, xr, xt, xd, xn⟩]) := by show _ = _; rw [List.map_append, S8.out.1, hL]; rfl
          have HE2 : Hid ((cs ++ [(⟨⟨xp, xr, xt, xd, xn⟩, g9, ni, c9, ss⟩ : BlkV)]).map (·.ss) = bs.map (·.ss) ++ [ss]) := by show _ = _; rw [List.map_append, S8.out.2]; rfl
          have HL10 : Hid (BList w.heap.size (.slice (some ⟨g10, 0, none⟩) (k8 + 1) c10) (cs ++ [⟨⟨xp, xr, xt, xd, xn⟩, g9, ni, c9, ss⟩]) w10) := L10
          have HB10 : Hid (Below w.heap.size w w10) := B10
          clear L10 B10 hown9 hgrow9 hown10 hgrow10 hat9 OI9 L8 N9 NN HNW X10 X8 X6
          go_wp2_with fail
          exact HMY.out _ _ _ _ _ HB10.out HV.out rfl HL10.out HE1.out HE2.out
    · have i3 := inB_no ct
      have HV : Hid (MV = none) := HCN.out (fun h => ct (HCM.out.1 h))
      clear HCN HC2 HC3 HMI HCM ct
      go_wp2_with (first | (go_at_call 111; refine (specIn _ _ _ _).mono ?_; rintro e w5 ⟨rfl, rfl⟩))
      exact HML.out _ _ B4.out HV.out rfl
  · obtain ⟨j, hj⟩ : ∃ j, n = j + 1 := ⟨n - 1, by omega⟩
    have hjl : j < L.length := by rw [HLN.out]; omega
    have q0 := AtHead.c0 A4.out j hjl
    have q1 := AtHead.c1 A4.out j hjl
    have q2 := AtHead.c2 A4.out j hjl
    have q3 := AtHead.c3 A4.out j hjl
    have q4 := AtHead.c4 A4.out j hjl
    have HLs : lastH L = L.getD j default := by rw [lastH, HLN.out, hj, Nat.add_sub_cancel]
    have hsm := fun w' => specL3Sum (L.getD j default) w' (HOK.out j hjl)
    have hpv : prevV L = ⟨(sumB (headX (L.getD j default))).toArray⟩ := by rw [prevV, if_neg (by rw [HLN.out]; exact h0), HLs]; rfl
    rw [hpv] at HMI
    have HCM : Hid (canMine L t ↔ n < 20 ∧ (0 ≤ t ∧ t ≤ 99999) ∧ (L.getD j default).time < t) := by
      show _ ↔ _
      unfold canMine
      rw [HLN.out, HLs]
      exact ⟨fun h => ⟨h.1, h.2.1, h.2.2.resolve_left h0⟩, fun h => ⟨h.1, h.2.1, .inr h.2.2⟩⟩
    have hg1' : g1 < w3.heap.size := HG1.out
    unfold headVal at HMI hsm
    dsimp only at HMI
    generalize sumB (headX (L.getD j default)) = sb at HMI hsm
    generalize L.getD j default = p at q0 q1 q2 q3 q4 hsm HCM
    generalize hardV L = hd at HH B4 A4 HMI hhl q0 q1 q2 q3 q4 ⊢
    generalize zeros16 = zs at HH B4 A4 HMI q0 q1 q2 q3 q4 ⊢
    have hw1 : IntKind.i64.wrap ((n : Int) - 1) = (j : Int) := by rw [IntKind.wrap_i64]; omega
    have lj : (j : Int) < (n : Int) := by omega
    have lj0 : (0 : Int) ≤ (j : Int) := by omega
    have hn0 : (0 : Int) < (n : Int) := by omega
    have HJ : Hid (n = j + 1) := hj
    clear hpv HLs hjl hj h0 HLN
    go_wp2_with fail
    refine (hsm _).mono ?_
    rintro e w5 ⟨rfl, b5⟩
    have B5 : Hid (Below w.heap.size w w5) := B4.out.trans (b5.mono B4.out.size)
    have H5 : Hid (HBk w5 w3.heap.size zs rt t hd 0) := HH.out.call b5
    have q2' : w5.cell? ⟨g1, j * 5 + 2, none⟩ = some (.int .i64 p.time) := by
      rw [b5.cell (p := ⟨g1, j * 5 + 2, none⟩) (by show g1 < _; simp; omega)]
      exact q2
    have q2x : Hid (w5.cell? ⟨g1, j * 5 + 2, none⟩ = some (.int .i64 p.time)) := q2'
    have hg35 : ¬ w3.heap.size = g1 := by omega
    have hg53 : ¬ g1 = w3.heap.size := by omega
    have BX : Hid (Below w.heap.size w (w5.setCell ⟨w3.heap.size, 0, none⟩ (.string ⟨sb.toArray⟩))) := B5.out.setCell (p := ⟨w3.heap.size, 0, none⟩) B3.out.size _
    have HX : Hid (HBk (w5.setCell ⟨w3.heap.size, 0, none⟩ (.string ⟨sb.toArray⟩)) w3.heap.size ⟨sb.toArray⟩ rt t hd 0) := H5.out.set0 _
    clear q0 q1 q2 q3 q4 b5 hsm HH B4 A4
    obtain ⟨e0, e1', e2', e3', e4', y0, y1, y2, y3, y4⟩ := H5.out.facts
    by_cases h20 : 20 ≤ n
    · have h20' : (20 : Int) ≤ (n : Int) := by omega
      have HV : Hid (MV = none) := HCN.out (fun h => by have := (HCM.out.1 h).1; omega)
      clear HCN HC2 HC3 HMI HCM h20
      go_wp2_with (first | (go_at_call 111; refine (specIn _ _ _ _).mono ?_; rintro e wq ⟨rfl, rfl⟩))
      exact HML.out _ _ BX.out HV.out rfl
    · have h20' : ¬ (20 : Int) ≤ (n : Int) := by omega
      by_cases ct : 0 ≤ t ∧ t ≤ 99999
      · have i3 := inB_yes ct
        by_cases ctl : p.time < t
        · skip
          have hmi := HMI.out ct
          have HC4 := HC3.out (HCM.out.2 ⟨by omega, ct, ctl⟩)
          have HC5 : Hid (M.2 = true → MV = some M.1) := HC4
          have h20 : decide ((20 : Int) ≤ (n : Int)) = false := decide_eq_false (by omega)
          have ctl' : decide (t ≤ p.time) = false := decide_eq_false (by omega)
          have ctl2 : ¬ t ≤ p.time := by omega
          clear HCN HC3 HC4 HMI HCM ct
          obtain ⟨x, okb⟩ := M
          obtain ⟨xp, xr, xt, xd, xn⟩ := x
          dsimp only at hmi HC2 HC5
          cases okb with
          | false =>
            have HV : Hid (MV = none) := HC2.out rfl
            clear HC2 HC5
            go_wp2_with (first | (go_at_call 111; refine (specIn _ _ _ _).mono ?_; rintro e wq ⟨rfl, rfl⟩) | (go_at_call 132; refine (hmi _).mono ?_; rintro e w6 ⟨rfl, b6⟩))
            exact HML.out _ _ ((BX.out.trans (b6.mono BX.out.size)).alloc (BX.out.trans (b6.mono BX.out.size)).size _) HV.out rfl
          | true =>
            have HV : Hid (MV = some ⟨xp, xr, xt, xd, xn⟩) := HC5.out rfl
            clear HC2 HC5
            go_wp2_with (first | (go_at_call 111; refine (specIn _ _ _ _).mono ?_; rintro e wq ⟨rfl, rfl⟩) | (go_at_call 132; refine (hmi _).mono ?_; rintro e w6 ⟨rfl, b6⟩))
            have B6 : Hid (Below w.heap.size w w6) := BX.out.trans (b6.mono BX.out.size)
            have X6 : HSt w6 _ w6.heap.size xp xr xt xd xn := HSt.new w6 36 xp xr xt xd xn
            have B7 : Hid (Below w.heap.size w (w6.alloc (.cells #[.string xp, .string xr, .int .i64 xt, .int .i64 xd, .int .i64 xn] 36)).drew) := (B6.out.alloc B6.out.size _).drew
            have H61 : Hid (w6.heap.size + 1 ≤ ((w6.alloc (.cells #[.string xp, .string xr, .int .i64 xt, .int .i64 xd, .int .i64 xn] 36)).drew).heap.size) := by show _ ≤ _; simp
            have H62 : Hid (w6.heap.size + 2 ≤ (((w6.alloc (.cells #[.string xp, .string xr, .int .i64 xt, .int .i64 xd, .int .i64 xn] 36)).alloc (.cells #[] 9)).drew).heap.size) := by show _ ≤ _; simp
            have B7b : Hid (Below w.heap.size w ((w6.alloc (.cells #[.string xp, .string xr, .int .i64 xt, .int .i64 xd, .int .i64 xn] 36)).alloc (.cells #[] 9)).drew) := ((B6.out.alloc B6.out.size _).alloc (B6.out.alloc B6.out.size _).size _).drew
            have HS00 : Hid (∀ w8, Below (((w6.alloc (.cells #[.string xp, .string xr, .int .i64 xt, .int .i64 xd, .int .i64 xn] 36)).alloc (.cells #[] 9)).drew).heap.size ((w6.alloc (.cells #[.string xp, .string xr, .int .i64 xt, .int .i64 xd, .int .i64 xn] 36)).alloc (.cells #[] 9)).drew w8 → w8.ownsRow (w6.heap.size + 1) 9 1 (.slice (some ⟨w6.heap.size + 1, 0, none⟩) 0 0) 0 []) := fun w8 b8 => by
              have h0 := (srow_new (w6.alloc (.cells #[.string xp, .string xr, .int .i64 xt, .int .i64 xd, .int .i64 xn] 36))).below (C := 0) (show Below ((w6.alloc (.cells #[.string xp, .string xr, .int .i64 xt, .int .i64 xd, .int .i64 xn] 36)).alloc (.cells #[] 9)).heap.size ((w6.alloc (.cells #[.string xp, .string xr, .int .i64 xt, .int .i64 xd, .int .i64 xn] 36)).alloc (.cells #[] 9)) w8 from (Below.refl _ _).drew.trans b8)
              have e6 : (w6.alloc (.cells #[.string xp, .string xr, .int .i64 xt, .int .i64 xd, .int .i64 xn] 36)).heap.size = w6.heap.size + 1 := by simp
              rw [e6] at h0
              exact h0.2
            clear b6 hmi e0 e1' e2' e3' e4' y0 y1 y2 y3 y4 q2'
            go_region_held3 (fun w' => w'.cell? ⟨w6.heap.size, 0, none⟩ = some (.string xp) ∧ w'.cell? ⟨w6.heap.size, 1, none⟩ = some (.string xr) ∧ w'.cell? ⟨w6.heap.size, 2, none⟩ = some (.int .i64 xt) ∧ w'.cell? ⟨w6.heap.size, 3, none⟩ = some (.int .i64 xd) ∧ w'.cell? ⟨w6.heap.size, 4, none⟩ = some (.int .i64 xn))
              (first | (with_reducible first | exact HAt.out X10 | exact HAt.out N9.head | exact X8.out | exact X6.out | exact X6.drew.out) | go_keep)
              (first
                | (go_at_call 133; refine (hcp _ B7.out).mono ?_; rintro e w8 ⟨v8, cs, rfl, l8, s8, b8⟩; have X8 : HSt w6 w8 w6.heap.size xp xr xt xd xn := X6.drew.call b8; have B8 : Hid (Below w.heap.size w w8) := B7.out.trans (b8.mono B7.out.size); obtain ⟨g8, c8, hv8⟩ := l8.row.1; subst hv8; obtain ⟨Bz, hBz⟩ : ∃ B, B = w6.heap.size + 1 := ⟨_, rfl⟩; have hBz2 : Bz ≤ ((w6.alloc (.cells #[.string xp, .string xr, .int .i64 xt, .int .i64 xd, .int .i64 xn] 36)).drew).heap.size := hBz ▸ H61.out; have S8 : Hid (SameBlks bs cs) := s8; have hcm : cs.length ≤ 1048576 := Nat.le_trans (Nat.le_of_eq S8.out.len) HNB.out; have L80 : Hid (BList Bz (.slice (some ⟨g8, 0, none⟩) cs.length c8) cs w8) := l8.mono hBz2; generalize hkk : cs.length = k8 at hcm L80 ⊢; have L8 : Hid (BList Bz (.slice (some ⟨g8, 0, none⟩) k8 c8) cs w8) := L80; have HKK : Hid (cs.length = k8) := hkk; have hy1 : k8 + 1 ≤ maxLen := le_max1 hcm; have hy2 : (k8 + 1) * 80 ≤ 140737488355328 := le_80 hcm; have HB89 : Hid (Bz ≤ w8.heap.size) := Nat.le_trans hBz2 b8.size; have HS0a : Hid ((w8.alloc (.cells #[] 9)).ownsRow w8.heap.size 9 1 (.slice (some ⟨w8.heap.size, 0, none⟩) 0 0) 0 []) := (srow_new w8).2; have HNW : Hid (∀ j u, (ss.map Value.string)[j]? = some u → (w8.alloc (.cells #[] 9)).cell? ((⟨gi, 0, none⟩ : Addr).add j) = some u) := (HI.out _ B8.out).news ((Below.refl _ w8).alloc (Nat.le_refl _) _); have NN : Hid (∀ g9 c9 w9, w9.ownsRow w8.heap.size 9 1 (.slice (some ⟨g9, 0, none⟩) (0 + ni) c9) (0 + ni) ([] ++ ss.map Value.string) → (w8.alloc (.cells #[] 9)).grownBy w9 (some w8.heap.size) → (w8.heap.size = g9 ∨ g9 = (w8.alloc (.cells #[] 9)).heap.size) → Nine w Bz g8 k8 c8 cs w6.heap.size xp xr xt xd xn g9 ss w9) := (fun g9 c9 w9 hown hg ha => Nine.one L8.out HKK.out B8.out X8.1 (hBz ▸ Nat.lt_succ_self _) B6.out.size HB89.out hown HNI.out hg); clear l8 s8 b8 hkk L80 hBz2 hBz)
                | (go_at_call 133; refine (hcp _ B7b.out).mono ?_; rintro e w8 ⟨v8, cs, rfl, l8, s8, b8⟩; have X8 : HSt w6 w8 w6.heap.size xp xr xt xd xn := (X6.alloc (.cells #[] 9)).drew.call b8; have B8 : Hid (Below w.heap.size w w8) := B7b.out.trans (b8.mono B7b.out.size); obtain ⟨g8, c8, hv8⟩ := l8.row.1; subst hv8; obtain ⟨Bz, hBz⟩ : ∃ B, B = w6.heap.size + 2 := ⟨_, rfl⟩; have hBz2 : Bz ≤ (((w6.alloc (.cells #[.string xp, .string xr, .int .i64 xt, .int .i64 xd, .int .i64 xn] 36)).alloc (.cells #[] 9)).drew).heap.size := hBz ▸ H62.out; have S8 : Hid (SameBlks bs cs) := s8; have hcm : cs.length ≤ 1048576 := Nat.le_trans (Nat.le_of_eq S8.out.len) HNB.out; have L80 : Hid (BList Bz (.slice (some ⟨g8, 0, none⟩) cs.length c8) cs w8) := l8.mono hBz2; generalize hkk : cs.length = k8 at hcm L80 ⊢; have L8 : Hid (BList Bz (.slice (some ⟨g8, 0, none⟩) k8 c8) cs w8) := L80; have HKK : Hid (cs.length = k8) := hkk; have hy1 : k8 + 1 ≤ maxLen := le_max1 hcm; have hy2 : (k8 + 1) * 80 ≤ 140737488355328 := le_80 hcm; have HB89 : Hid (Bz ≤ w8.heap.size) := Nat.le_trans hBz2 b8.size; have HS0b : Hid (w8.ownsRow (w6.heap.size + 1) 9 1 (.slice (some ⟨(w6.heap.size + 1), 0, none⟩) 0 0) 0 []) := HS00.out _ b8; have HNW : Hid (∀ j u, (ss.map Value.string)[j]? = some u → w8.cell? ((⟨gi, 0, none⟩ : Addr).add j) = some u) := (HI.out _ B8.out).news (Below.refl _ w8); have NN : Hid (∀ g9 c9 w9, w9.ownsRow (w6.heap.size + 1) 9 1 (.slice (some ⟨g9, 0, none⟩) (0 + ni) c9) (0 + ni) ([] ++ ss.map Value.string) → w8.grownBy w9 (some (w6.heap.size + 1)) → ((w6.heap.size + 1) = g9 ∨ g9 = w8.heap.size) → Nine w Bz g8 k8 c8 cs w6.heap.size xp xr xt xd xn g9 ss w9) := (fun g9 c9 w9 hown hg ha => Nine.two L8.out HKK.out B8.out X8.1 (Nat.lt_succ_self _) (hBz ▸ Nat.lt_succ_self _) B6.out.size HB89.out hown HNI.out hg ha); clear l8 s8 b8 hkk L80 hBz2 hBz)
                | (refine step_append_any (by rfl) _ _ 37 (by rfl) w8.heap.size 9 j0 (.string ⟨#[]⟩) 1 16 Tryz.underlying37 ji jz0 jz1 jz2 rfl (by decide) w8.heap.size 0 0 [] (by rfl) HS0a.out ⟨gi, 0, none⟩ ni ci (ss.map Value.string) (by rfl) HM1.out HNW.out (itemsOneCell ss) hx1 hx2 (size_le_alloc w8 _) ?_; intro g9 c9 w9 hown9 hgrow9 hat9 hlt9; have N9 := NN.out _ _ _ hown9 hgrow9 hat9.out; have OI9 : ∀ hh, OwnIt w.heap.size w9 ⟨hh, g9, ni, c9, ss⟩ := (fun hh => OwnIt.of hown9 B8.out.size); clear HS0a)
                | (refine step_append_any (by rfl) _ _ 37 (by rfl) (w6.heap.size + 1) 9 j0 (.string ⟨#[]⟩) 1 16 Tryz.underlying37 ji jz0 jz1 jz2 rfl (by decide) (w6.heap.size + 1) 0 0 [] (by rfl) HS0b.out ⟨gi, 0, none⟩ ni ci (ss.map Value.string) (by rfl) HM1.out HNW.out (itemsOneCell ss) hx1 hx2 (Nat.succ_le_of_lt X8.2.2) ?_; intro g9 c9 w9 hown9 hgrow9 hat9 hlt9; have N9 := NN.out _ _ _ hown9 hgrow9 hat9.out; have OI9 : ∀ hh, OwnIt w.heap.size w9 ⟨hh, g9, ni, c9, ss⟩ := (fun hh => OwnIt.of hown9 (Nat.le_succ_of_le B6.out.size)); clear HS0b)
                | (refine step_append_any (by rfl) _ _ 23 (by rfl) Bz 39 i0 (.agg #[.string ⟨#[]⟩, .string ⟨#[]⟩, .int .i64 0, .int .i64 0, .int .i64 0, .slice none 0 0]) 6 80 Tryz.underlying23 hi hz0 hz1 hz2 rfl (by decide) g8 c8 k8 _ (by rfl) (World.ownsRow.alloc (N9.list.rowOwn N9.len) _) ⟨w9.heap.size, 0, none⟩ 1 1 (enBlk ⟨⟨xp, xr, xt, xd, xn⟩, g9, ni, c9, ss⟩) (by rfl) rfl (cells_new w9 _ _) (enBlk_one _) hy1 hy2 (Nat.le_trans N9.b_le (size_le_alloc w9 _)) ?_; intro g10 c10 w10 hown10 hgrow10 hat10 hlt10; have T10 := N9.ten HNI.out (OI9 _) hown10 hgrow10 hat10.out; have X10 := T10.2.2))
            all_goals
              obtain ⟨L10, B10, _⟩ := T10
              have HE1 : Hid ((cs ++ [(⟨⟨xp, xr, xt, xd, xn⟩, g9, ni, c9, ss⟩ : BlkV)]).map (·.h) = L ++ [⟨xp, xr, xt, xd, xn⟩]) := by show _ = _; rw [List.map_append, S8.out.1, hL]; rfl
              have HE2 : Hid ((cs ++ [(⟨⟨xp, xr, xt, xd, xn⟩, g9, ni, c9, ss⟩ : BlkV)]).map (·.ss) = bs.map (·.ss) ++ [ss]) := by show _ = _; rw [List.map_append, S8.out.2]; rfl
              have HL10 : Hid (BList w.heap.size (.slice (some ⟨g10, 0, none⟩) (k8 + 1) c10) (cs ++ [⟨⟨xp, xr, xt, xd, xn⟩, g9, ni, c9, ss⟩]) w10) := L10
              have HB10 : Hid (Below w.heap.size w w10) := B10
              clear L10 B10 hown9 hgrow9 hown10 hgrow10 hat9 OI9 L8 N9 NN HNW X10 X8 X6
              go_wp2_with fail
              exact HMY.out _ _ _ _ _ HB10.out HV.out rfl HL10.out HE1.out HE2.out
        · have ctl' : t ≤ p.time := by omega
          have HV : Hid (MV = none) := HCN.out (fun h => ctl (HCM.out.1 h).2.2)
          clear HCN HC2 HC3 HMI HCM ct
          go_wp2_with (first | (go_at_call 111; refine (specIn _ _ _ _).mono ?_; rintro e wq ⟨rfl, rfl⟩))
          exact HML.out _ _ BX.out HV.out rfl
      · have i3 := inB_no ct
        have HV : Hid (MV = none) := HCN.out (fun h => ct (HCM.out.1 h).2.1)
        clear HCN HC2 HC3 HMI HCM ct
        go_wp2_with (first | (go_at_call 111; refine (specIn _ _ _ _).mono ?_; rintro e wq ⟨rfl, rfl⟩))
        exact HML.out _ _ BX.out HV.out rfl

end Go.Proofs.YtkajpkfhedfmaaaGreatDoor

set_option linter.unusedVariables false
namespace Go.Proofs.YtkajpkfhedfmaaaGreatDoor
open Go.RowKit

def items12 : List ByteArray := [⟨#[97]⟩, ⟨#[98]⟩, ⟨#[99]⟩, ⟨#[100]⟩, ⟨#[97, 110, 110]⟩, ⟨#[98, 111, 98]⟩, ⟨#[99, 121, 100]⟩, ⟨#[120, 49]⟩, ⟨#[120, 50]⟩, ⟨#[120, 51]⟩, ⟨#[122, 122]⟩, ⟨#[108, 111, 110, 103, 110, 97, 109, 101]⟩]
theorem items12_size : ∀ i : Fin 12, 1 ≤ (items12.getD i.val ByteArray.empty).size ∧ (items12.getD i.val ByteArray.empty).size ≤ 8 := by decide
def sums4 : List ByteArray := [⟨#[]⟩, ⟨#[48, 48]⟩, ⟨#[103, 48, 48, 48, 48, 48, 48, 48, 48, 48, 48, 48, 48, 48, 48, 48]⟩, ⟨#[65, 66, 67, 68, 69, 70, 48, 49, 50, 51, 52, 53, 54, 55, 56, 57]⟩]
theorem sums4_size : ∀ i : Fin 4, (sums4.getD i.val ByteArray.empty).size ≤ 16 := by decide

set_option maxHeartbeats 1000000 in
set_option maxRecDepth 100000 in
theorem drawItem (B b p : Nat) (w : World) (h : Rd B b p w) (hp : p < 1000000000) :
    Calls Tryz.prog 41 #[.pointer (some ⟨b, 0, none⟩)] w fun e w' => ∃ s : ByteArray, e = .returned (.string s) ∧ s ∈ items12 ∧ 1 ≤ s.size ∧ s.size ≤ 8 ∧ Rd B b (p + 1) w' ∧ Below b w w' := by
  have hlt := h.lt
  go_enter Tryz.func41, Tryz.ntmps41
  go_wp2_with fail
  have hbk := heap_alloc_new w (.cells (items12.map Value.string).toArray 9)
  refine (of_walk B b p w.heap.size 12 12 items12 _ (h.keep ((Below.refl _ w).alloc (by omega) _)) hp (by omega) (by omega) (cells_texts hbk rfl 12 (by decide)) (by omega)).mono ?_
  rintro e w2 ⟨x, hx, rfl, hr, ho⟩
  have hsz := items12_size ⟨x, hx⟩
  have hmem : items12.getD x ByteArray.empty ∈ items12 := by
    have : x < items12.length := hx
    simp [List.getElem?_eq_getElem this]
  have hb : Below b w w2 := ((Below.refl b w).alloc (by omega) (.cells (items12.map Value.string).toArray 9)).trans (ho.below (Nat.le_refl _))
  dsimp only at hsz
  generalize items12.getD x ByteArray.empty = s at hsz hmem ⊢
  clear ho hbk
  go_wp2
  go_ret
  exact ⟨s, rfl, hmem, hsz.1, hsz.2, hr, hb⟩

end Go.Proofs.YtkajpkfhedfmaaaGreatDoor

namespace Go.Proofs.YtkajpkfhedfmaaaGreatDoor

theorem span_at {β : Type} (p : β → Bool) (d : β) : ∀ (l : List β) (k : Nat), k ≤ l.length → (∀ j, j < k → p (l.getD j d) = true) → (k < l.length → p (l.getD k d) = false) → l.takeWhile p = l.take k ∧ l.dropWhile p = l.drop k
  | [], k, hk, _, _ => by
    have : k = 0 := by simpa using hk
    subst this
    simp
  | a :: r, 0, _, _, h2 => by
    have := h2 (by simp)
    have ha : p a = false := by simpa using this
    simp [ha]
  | a :: r, k + 1, hk, h1, h2 => by
    have ha : p a = true := by simpa using h1 0 (by omega)
    have ih := span_at p d r k (by simpa using hk) (fun j hj => by simpa using h1 (j + 1) (by omega)) (fun hj => by simpa using h2 (by simpa using hj))
    simp [ha, ih.1, ih.2]
/-- One more, behind those that are not greater. -/
def sortIns (o : List Int) (z : Int) : List Int := o.takeWhile (fun y => decide (y ≤ z)) ++ z :: o.dropWhile (fun y => decide (y ≤ z))
def sortL (l : List Int) : List Int := l.foldl sortIns []
theorem sortL_snoc (l : List Int) (z : Int) : sortL (l ++ [z]) = sortIns (sortL l) z := by simp [sortL]
theorem sortIns_length (o : List Int) (z : Int) : (sortIns o z).length = o.length + 1 := by
  have := congrArg List.length (List.takeWhile_append_dropWhile (p := fun y => decide (y ≤ z)) (l := o))
  rw [List.length_append] at this
  simp [sortIns]
  omega
theorem sortIns_mem {o : List Int} {z x : Int} : x ∈ sortIns o z ↔ x = z ∨ x ∈ o := by
  have e := List.takeWhile_append_dropWhile (p := fun y => decide (y ≤ z)) (l := o)
  constructor
  · intro h
    rcases List.mem_append.1 h with h | h
    · right; rw [← e]; exact List.mem_append_left _ h
    · rcases List.mem_cons.1 h with h | h
      · exact .inl h
      · right; rw [← e]; exact List.mem_append_right _ h
  · rintro (rfl | h)
    · exact List.mem_append_right _ (by simp)
    · rw [← e] at h
      rcases List.mem_append.1 h with h | h
      · exact List.mem_append_left _ h
      · exact List.mem_append_right _ (by simp [h])
theorem sortL_take (l : List Int) (k : Nat) (hk : k < l.length) : sortL (l.take (k + 1)) = sortIns (sortL (l.take k)) (l.getD k 0) := by
  have e : l.take (k + 1) = l.take k ++ [l.getD k 0] := by
    rw [List.take_add_one, List.getElem?_eq_getElem hk, List.getD_eq_getElem?_getD, List.getElem?_eq_getElem hk]
    rfl
  rw [e, sortL_snoc]
theorem sortL_length : ∀ l : List Int, (sortL l).length = l.length := by
  have : ∀ (l o : List Int), (l.foldl sortIns o).length = o.length + l.length := by
    intro l
    induction l with
    | nil => intro o; rfl
    | cons a r ih => intro o; rw [List.foldl_cons, ih, sortIns_length, List.length_cons]; omega
  intro l
  have h := this l []
  simpa [sortL] using h
theorem sortL_mem : ∀ (l : List Int) (x : Int), x ∈ sortL l ↔ x ∈ l := by
  have : ∀ (l o : List Int) (x : Int), x ∈ l.foldl sortIns o ↔ x ∈ o ∨ x ∈ l := by
    intro l
    induction l with
    | nil => intro o x; simp
    | cons a r ih =>
      intro o x
      rw [List.foldl_cons, ih, sortIns_mem, List.mem_cons]
      constructor
      · rintro ((h | h) | h) <;> simp [h]
      · rintro (h | h | h) <;> simp [h]
  intro l x
  have h := this l [] x
  simpa [sortL] using h

end Go.Proofs.YtkajpkfhedfmaaaGreatDoor

namespace Go.Proofs.YtkajpkfhedfmaaaGreatDoor

def ltB (a b : ByteArray) : Bool := Op.bytesLess a.toList b.toList
/-- One more, behind those that are less, if it is not there. -/
def setIns (o : List ByteArray) (z : ByteArray) : List ByteArray :=
  if (o.dropWhile (fun y => ltB y z)).head? = some z then o else o.takeWhile (fun y => ltB y z) ++ z :: o.dropWhile (fun y => ltB y z)
def setL (l : List ByteArray) : List ByteArray := l.foldl setIns []
theorem setL_snoc (l : List ByteArray) (z : ByteArray) : setL (l ++ [z]) = setIns (setL l) z := by simp [setL]
theorem setIns_length (o : List ByteArray) (z : ByteArray) : (setIns o z).length = o.length ∨ (setIns o z).length = o.length + 1 := by
  have := congrArg List.length (List.takeWhile_append_dropWhile (p := fun y => ltB y z) (l := o))
  rw [List.length_append] at this
  unfold setIns
  split
  · exact .inl rfl
  · right
    rw [List.length_append, List.length_cons]
    omega
theorem setIns_mem {o : List ByteArray} {z x : ByteArray} : x ∈ setIns o z ↔ x = z ∨ x ∈ o := by
  have e := List.takeWhile_append_dropWhile (p := fun y => ltB y z) (l := o)
  unfold setIns
  split
  · rename_i hh
    constructor
    · exact fun h => .inr h
    · rintro (rfl | h)
      · rw [← e]
        refine List.mem_append_right _ ?_
        cases hd : o.dropWhile (fun y => ltB y x) with
        | nil => rw [hd] at hh; cases hh
        | cons a r => rw [hd] at hh; simp at hh; simp [hh]
      · exact h
  · constructor
    · intro h
      rcases List.mem_append.1 h with h | h
      · right; rw [← e]; exact List.mem_append_left _ h
      · rcases List.mem_cons.1 h with h | h
        · exact .inl h
        · right; rw [← e]; exact List.mem_append_right _ h
    · rintro (rfl | h)
      · exact List.mem_append_right _ (by simp)
      · rw [← e] at h
        rcases List.mem_append.1 h with h | h
        · exact List.mem_append_left _ h
        · exact List.mem_append_right _ (by simp [h])
theorem setL_take (l : List ByteArray) (k : Nat) (hk : k < l.length) : setL (l.take (k + 1)) = setIns (setL (l.take k)) (l.getD k ByteArray.empty) := by
  have e : l.take (k + 1) = l.take k ++ [l.getD k ByteArray.empty] := by
    rw [List.take_add_one, List.getElem?_eq_getElem hk, List.getD_eq_getElem?_getD, List.getElem?_eq_getElem hk]
    rfl
  rw [e, setL_snoc]
theorem setL_length : ∀ l : List ByteArray, (setL l).length ≤ l.length := by
  have : ∀ (l o : List ByteArray), (l.foldl setIns o).length ≤ o.length + l.length := by
    intro l
    induction l with
    | nil => intro o; exact Nat.le_refl _
    | cons a r ih =>
      intro o
      rw [List.foldl_cons, List.length_cons]
      have h1 := ih (setIns o a)
      rcases setIns_length o a with h2 | h2 <;> omega
  intro l
  have h := this l []
  simpa [setL] using h
theorem setL_mem : ∀ (l : List ByteArray) (x : ByteArray), x ∈ setL l ↔ x ∈ l := by
  have : ∀ (l o : List ByteArray) (x : ByteArray), x ∈ l.foldl setIns o ↔ x ∈ o ∨ x ∈ l := by
    intro l
    induction l with
    | nil => intro o x; simp
    | cons a r ih =>
      intro o x
      rw [List.foldl_cons, ih, setIns_mem, List.mem_cons]
      constructor
      · rintro ((h | h) | h) <;> simp [h]
      · rintro (h | h | h) <;> simp [h]
  intro l x
  have h := this l [] x
  simpa [setL] using h
theorem setL_ne {l : List ByteArray} (h : l ≠ []) : setL l ≠ [] := by
  intro e
  cases l with
  | nil => exact h rfl
  | cons a r =>
    have := (setL_mem (a :: r) a).2 (by simp)
    rw [e] at this
    cases this
theorem toList_inj {a b : ByteArray} (h : a.toList = b.toList) : a = b := by
  rw [ByteArray.toList_eq, ByteArray.toList_eq] at h
  cases a
  cases b
  simp at h
  rw [h]

end Go.Proofs.YtkajpkfhedfmaaaGreatDoor

namespace Go.Proofs.YtkajpkfhedfmaaaGreatDoor
open Go.RowKit

def valB (l : List Nat) : Nat := l.foldl (fun n b => n * 2 + b) 0
theorem valB_snoc (l : List Nat) (b : Nat) : valB (l ++ [b]) = valB l * 2 + b := by simp [valB]
theorem valB_lt (l : List Nat) (h : ∀ x ∈ l, x ≤ 1) : valB l + 1 ≤ 2 ^ l.length := by
  suffices ∀ (l : List Nat) (a : Nat), (∀ x ∈ l, x ≤ 1) → l.foldl (fun n b => n * 2 + b) a + 1 ≤ (a + 1) * 2 ^ l.length by
    have := this l 0 h
    simpa [valB] using this
  intro l
  induction l with
  | nil => intro a _; simp
  | cons x r ih =>
    intro a hx
    have h1 := hx x (by simp)
    have h2 := ih (a * 2 + x) (fun y hy => hx y (by simp [hy]))
    simp only [List.foldl_cons, List.length_cons, Nat.pow_succ]
    have h3 : (a * 2 + x + 1) * 2 ^ r.length ≤ (a + 1) * 2 * 2 ^ r.length := Nat.mul_le_mul_right _ (by omega)
    have h4 : (a + 1) * 2 * 2 ^ r.length = (a + 1) * (2 ^ r.length * 2) := by rw [Nat.mul_assoc, Nat.mul_comm 2]
    omega
/-- One bit more: the full bytes, and the bits that wait. -/
def stepB (s : List UInt8 × List Nat) (b : Nat) : List UInt8 × List Nat :=
  if s.2.length = 7 then (s.1 ++ [UInt8.ofNat (valB (s.2 ++ [b]))], []) else (s.1, s.2 ++ [b])
def runB (s : List UInt8 × List Nat) (bs : List Nat) : List UInt8 × List Nat := bs.foldl stepB s
def okB (s : List UInt8 × List Nat) : Prop := s.2.length < 8 ∧ ∀ x ∈ s.2, x ≤ 1
theorem stepB_ok {s : List UInt8 × List Nat} {b : Nat} (h : okB s) (hb : b ≤ 1) : okB (stepB s b) := by
  unfold stepB
  split
  · exact ⟨by simp, by simp⟩
  · refine ⟨by have := h.1; simp; omega, ?_⟩
    intro x hx
    rcases List.mem_append.1 hx with hx | hx
    · exact h.2 x hx
    · simp at hx; omega
theorem stepB_len (s : List UInt8 × List Nat) (b : Nat) : (stepB s b).1.length ≤ s.1.length + 1 := by
  unfold stepB
  split <;> simp
theorem runB_snoc (s : List UInt8 × List Nat) (bs : List Nat) (b : Nat) : runB s (bs ++ [b]) = stepB (runB s bs) b := by simp [runB]
theorem runB_append (s : List UInt8 × List Nat) (xs ys : List Nat) : runB s (xs ++ ys) = runB (runB s xs) ys := by simp [runB]
theorem runB_ok {s : List UInt8 × List Nat} {bs : List Nat} (h : okB s) (hb : ∀ b ∈ bs, b ≤ 1) : okB (runB s bs) := by
  induction bs generalizing s with
  | nil => exact h
  | cons b r ih => exact ih (stepB_ok h (hb b (by simp))) (fun x hx => hb x (by simp [hx]))
theorem runB_len (s : List UInt8 × List Nat) (bs : List Nat) : (runB s bs).1.length ≤ s.1.length + bs.length := by
  induction bs generalizing s with
  | nil => simp [runB]
  | cons b r ih =>
    have h1 := ih (stepB s b)
    have h2 := stepB_len s b
    simp only [runB, List.foldl_cons, List.length_cons] at h1 ⊢
    omega
/-- The lowest bits of a number, the highest of them first. -/
def lowB (n : Nat) : Nat → List Nat
  | 0 => []
  | k + 1 => (n / 2 ^ k % 2) :: lowB n k
theorem lowB_ok (n k : Nat) : ∀ b ∈ lowB n k, b ≤ 1 := by
  induction k with
  | zero => simp [lowB]
  | succ k ih =>
    intro b hb
    rcases List.mem_cons.1 hb with rfl | hb
    · omega
    · exact ih b hb
theorem lowB_length (n k : Nat) : (lowB n k).length = k := by
  induction k with
  | zero => rfl
  | succ k ih => simp [lowB, ih]
theorem lowB_mod (n k m : Nat) (h : k ≤ m) : lowB (n % 2 ^ m) k = lowB n k := by
  induction k with
  | zero => rfl
  | succ k ih =>
    rw [lowB, lowB, ih (by omega)]
    congr 1
    have : 2 ^ m = 2 ^ k * (2 * 2 ^ (m - k - 1)) := by
      rw [← Nat.mul_assoc, ← Nat.pow_succ, ← Nat.pow_add]
      congr 1
      omega
    rw [this, Nat.mod_mul_right_div_self, Nat.mod_mul_right_mod]
def numB (k n : Nat) : List Nat := List.replicate (n / 2 ^ k) 1 ++ 0 :: lowB n k
theorem numB_ok (k n : Nat) : ∀ b ∈ numB k n, b ≤ 1 := by
  intro b hb
  rcases List.mem_append.1 hb with hb | hb
  · simp at hb; omega
  · rcases List.mem_cons.1 hb with rfl | hb
    · omega
    · exact lowB_ok n k b hb
theorem numB_length (k n : Nat) : (numB k n).length = n / 2 ^ k + 1 + k := by
  simp [numB, lowB_length]; omega
def bitsOf (k : Nat) (l : List Nat) : List Nat := l.flatMap (numB k)
theorem bitsOf_snoc (k : Nat) (l : List Nat) (n : Nat) : bitsOf k (l ++ [n]) = bitsOf k l ++ numB k n := by simp [bitsOf]
theorem bitsOf_ok (k : Nat) (l : List Nat) : ∀ b ∈ bitsOf k l, b ≤ 1 := by
  intro b hb
  obtain ⟨n, _, hb⟩ := List.mem_flatMap.1 hb
  exact numB_ok k n b hb
theorem bitsOf_length (k : Nat) (l : List Nat) (hk : k ≤ 8) (h : ∀ x ∈ l, x ≤ 60000) : (bitsOf k l).length ≤ l.length * 60009 := by
  induction l with
  | nil => simp [bitsOf]
  | cons n r ih =>
    have h1 := ih (fun x hx => h x (by simp [hx]))
    have h2 := h n (by simp)
    have h3 : n / 2 ^ k ≤ n := Nat.div_le_self _ _
    simp only [bitsOf, List.flatMap_cons, List.length_append, numB_length, List.length_cons] at h1 ⊢
    omega
/-- The state once the last byte is full. -/
def fillB (s : List UInt8 × List Nat) : List UInt8 := (runB s (List.replicate (if s.2 = [] then 0 else 8 - s.2.length) 0)).1
def riceB (k : Nat) (l : List Nat) : List UInt8 := fillB (runB ([], []) (bitsOf k l))
/-- Noughts one by one: the bytes are those of the full state as soon as nothing waits. -/
theorem fillB_step {s : List UInt8 × List Nat} (h : s.2.length < 8) (h0 : s.2 ≠ []) : fillB (stepB s 0) = fillB s := by
  have hne : s.2.length ≠ 0 := fun e => h0 (List.length_eq_zero_iff.1 e)
  have e8 : 8 - s.2.length = (8 - s.2.length - 1) + 1 := by omega
  have hr : fillB s = (runB (stepB s 0) (List.replicate (8 - s.2.length - 1) 0)).1 := by
    rw [fillB, if_neg h0, e8, List.replicate_succ]
    rfl
  rw [hr]
  unfold fillB
  by_cases h7 : s.2.length = 7
  · have : (stepB s 0).2 = [] := by simp [stepB, h7]
    rw [if_pos this, h7]
  · have h2 : (stepB s 0).2 = s.2 ++ [0] := by simp [stepB, h7]
    have h3 : (stepB s 0).2 ≠ [] := by rw [h2]; simp
    rw [if_neg h3, h2]
    simp only [List.length_append, List.length_cons, List.length_nil]
    rw [show 8 - (s.2.length + (0 + 1)) = 8 - s.2.length - 1 from by omega]
theorem fillB_end {s : List UInt8 × List Nat} (h0 : s.2 = []) : fillB s = s.1 := by
  rw [fillB, if_pos h0]
  rfl

end Go.Proofs.YtkajpkfhedfmaaaGreatDoor

namespace Go.Proofs.YtkajpkfhedfmaaaGreatDoor
open Go.RowKit

def numOk (z : Int) : Bool := decide (0 ≤ z ∧ z ≤ 60000)
def bitsOk (k : Int) : Bool := decide (0 ≤ k ∧ k ≤ 8)
def riceOkB (zs : List Int) (k : Int) : Bool := decide (zs.length ≤ 40) && bitsOk k && zs.all numOk
def ricePut (zs : List Int) (k : Int) : List UInt8 := if riceOkB zs k = true then riceB k.toNat (zs.map Int.toNat) else []
/-- The numbers lie there. -/
def At (w : World) (g : Nat) (zs : List Int) : Prop := g < w.heap.size ∧ ∀ i, i < zs.length → w.cell? ⟨g, i, none⟩ = some (.int .i64 (zs.getD i 0))
theorem At.below {w w' : World} {g B : Nat} {zs : List Int} (h : At w g zs) (hb : Below B w w') (hg : g < B) : At w' g zs :=
  ⟨Nat.lt_of_lt_of_le h.1 hb.size, fun i hi => by rw [hb.cell (p := ⟨g, i, none⟩) hg]; exact h.2 i hi⟩
theorem At.drew {w : World} {g : Nat} {zs : List Int} (h : At w g zs) : At w.drew g zs := h
theorem riceOk_len {zs : List Int} {k : Int} (h : riceOkB zs k = true) : zs.length ≤ 40 := by
  simp only [riceOkB, Bool.and_eq_true] at h
  exact of_decide_eq_true h.1.1
theorem riceOk_bits {zs : List Int} {k : Int} (h : riceOkB zs k = true) : 0 ≤ k ∧ k ≤ 8 := by
  simp only [riceOkB, Bool.and_eq_true] at h
  exact of_decide_eq_true h.1.2
theorem riceOk_at {zs : List Int} {k : Int} (h : riceOkB zs k = true) (i : Nat) (hi : i < zs.length) : 0 ≤ zs.getD i 0 ∧ zs.getD i 0 ≤ 60000 := by
  simp only [riceOkB, Bool.and_eq_true, List.all_eq_true] at h
  have := h.2 (zs.getD i 0) (by simp [List.getElem?_eq_getElem hi])
  exact of_decide_eq_true this
theorem riceOk_no {zs : List Int} {k : Int} (i : Nat) (hi : i < zs.length) (h : ¬ (0 ≤ zs.getD i 0 ∧ zs.getD i 0 ≤ 60000)) : riceOkB zs k = false := by
  cases hh : riceOkB zs k with
  | false => rfl
  | true => exact absurd (riceOk_at hh i hi) h
theorem riceOk_yes {zs : List Int} {k : Int} (h1 : zs.length ≤ 40) (h2 : 0 ≤ k ∧ k ≤ 8) (h3 : ∀ i, i < zs.length → 0 ≤ zs.getD i 0 ∧ zs.getD i 0 ≤ 60000) : riceOkB zs k = true := by
  have e1 : decide (zs.length ≤ 40) = true := decide_eq_true h1
  have e2 : bitsOk k = true := decide_eq_true h2
  simp only [riceOkB, e1, e2, Bool.true_and, List.all_eq_true]
  intro z hz
  obtain ⟨i, hi, rfl⟩ := List.mem_iff_getElem.1 hz
  have := h3 i hi
  rw [List.getD_eq_getElem?_getD, List.getElem?_eq_getElem hi] at this
  exact decide_eq_true this
theorem ricePut_yes {zs : List Int} {k : Int} (h : riceOkB zs k = true) : ricePut zs k = riceB k.toNat (zs.map Int.toNat) := by
  rw [ricePut, if_pos h]
theorem ricePut_no {zs : List Int} {k : Int} (h : riceOkB zs k = false) : ricePut zs k = [] := by
  rw [ricePut, if_neg (by rw [h]; decide)]
/-- The first so many numbers written. -/
def upTo (k : Nat) (zs : List Int) (i : Nat) : List UInt8 × List Nat := runB ([], []) (bitsOf k ((zs.map Int.toNat).take i))
theorem upTo_zero (k : Nat) (zs : List Int) : upTo k zs 0 = ([], []) := by simp [upTo, bitsOf, runB]
theorem upTo_succ (k : Nat) (zs : List Int) (i : Nat) (hi : i < zs.length) : upTo k zs (i + 1) = runB (upTo k zs i) (numB k (zs.getD i 0).toNat) := by
  have h : (zs.map Int.toNat).take (i + 1) = (zs.map Int.toNat).take i ++ [(zs.getD i 0).toNat] := by
    rw [List.take_add_one, List.getElem?_map, List.getElem?_eq_getElem hi]
    simp [List.getElem?_eq_getElem hi]
  rw [upTo, h, bitsOf_snoc, runB_append]
  rfl
theorem upTo_ok (k : Nat) (zs : List Int) (i : Nat) : okB (upTo k zs i) := runB_ok ⟨by simp, by simp⟩ (bitsOf_ok _ _)
theorem upTo_len {k : Nat} {zs : List Int} (hk : k ≤ 8) (hl : zs.length ≤ 40) (h : ∀ i, i < zs.length → 0 ≤ zs.getD i 0 ∧ zs.getD i 0 ≤ 60000) (i : Nat) : (upTo k zs i).1.length ≤ 10000000 := by
  have h1 := runB_len ([], []) (bitsOf k ((zs.map Int.toNat).take i))
  have h2 := bitsOf_length k ((zs.map Int.toNat).take i) hk (by
    intro x hx
    have hx' := List.mem_of_mem_take hx
    obtain ⟨z, hz, rfl⟩ := List.mem_map.1 hx'
    obtain ⟨j, hj, rfl⟩ := List.mem_iff_getElem.1 hz
    have := h j hj
    rw [List.getD_eq_getElem?_getD, List.getElem?_eq_getElem hj] at this
    simp at this
    omega)
  have h3 : ((zs.map Int.toNat).take i).length ≤ 40 := by simp; omega
  have h4 : ((zs.map Int.toNat).take i).length * 60009 ≤ 40 * 60009 := Nat.mul_le_mul_right _ h3
  simp only [List.length_nil] at h1
  show (runB ([], []) (bitsOf k ((zs.map Int.toNat).take i))).1.length ≤ _
  omega
theorem upTo_end (k : Nat) (zs : List Int) : fillB (upTo k zs zs.length) = riceB k (zs.map Int.toNat) := by
  rw [upTo, riceB, List.take_of_length_le (by simp)]

end Go.Proofs.YtkajpkfhedfmaaaGreatDoor

set_option linter.unusedVariables false
namespace Go.Proofs.YtkajpkfhedfmaaaGreatDoor
open Go.RowKit

def gapsZ : Int → List Int → List Int
  | _, [] => []
  | a, x :: r => (x - a) :: gapsZ x r
theorem gapsZ_length (l : List Int) : ∀ a, (gapsZ a l).length = l.length := by
  induction l with
  | nil => intro a; rfl
  | cons x r ih => intro a; simp [gapsZ, ih]
def lastZ : Int → List Int → Int
  | a, [] => a
  | _, x :: r => lastZ x r
theorem gapsZ_snoc (l : List Int) (x : Int) : ∀ a, gapsZ a (l ++ [x]) = gapsZ a l ++ [x - lastZ a l] := by
  induction l with
  | nil => intro a; rfl
  | cons y r ih =>
    intro a
    simp [gapsZ, ih, lastZ]
theorem lastZ_snoc (x : Int) (l : List Int) : ∀ a, lastZ a (l ++ [x]) = x := by
  induction l with
  | nil => intro a; rfl
  | cons y r ih => intro a; exact ih y
/-- In order. -/
def Asc : Int → List Int → Prop
  | _, [] => True
  | a, x :: r => a ≤ x ∧ Asc x r
theorem asc_mono {a b : Int} {l : List Int} (h : Asc b l) (hab : a ≤ b) : Asc a l := by
  cases l with
  | nil => trivial
  | cons x r => exact ⟨by have := h.1; omega, h.2⟩
theorem asc_ins (z : Int) : ∀ (l : List Int) (a : Int), a ≤ z → Asc a l → Asc a (sortIns l z) := by
  intro l
  induction l with
  | nil => intro a ha _; exact ⟨ha, trivial⟩
  | cons x r ih =>
    intro a ha h
    by_cases hx : x ≤ z
    · have e : sortIns (x :: r) z = x :: sortIns r z := by simp [sortIns, hx]
      rw [e]
      exact ⟨h.1, ih x hx h.2⟩
    · have e : sortIns (x :: r) z = z :: x :: r := by simp [sortIns, hx]
      rw [e]
      exact ⟨ha, by omega, h.2⟩
theorem asc_sort (l : List Int) (h : ∀ x ∈ l, 0 ≤ x) : Asc 0 (sortL l) := by
  have : ∀ (l o : List Int), (∀ x ∈ l, 0 ≤ x) → Asc 0 o → Asc 0 (l.foldl sortIns o) := by
    intro l
    induction l with
    | nil => intro o _ ho; exact ho
    | cons a r ih =>
      intro o hl ho
      exact ih _ (fun x hx => hl x (by simp [hx])) (asc_ins a o 0 (hl a (by simp)) ho)
  exact this l [] h trivial
theorem gaps_in (M : Int) : ∀ (l : List Int) (a : Int), 0 ≤ a → Asc a l → (∀ x ∈ l, x ≤ M) → ∀ y ∈ gapsZ a l, 0 ≤ y ∧ y ≤ M := by
  intro l
  induction l with
  | nil => intro a _ _ _ y hy; cases hy
  | cons x r ih =>
    intro a ha h hM y hy
    have h1 := h.1
    have h2 := hM x (by simp)
    rcases List.mem_cons.1 hy with rfl | hy
    · omega
    · exact ih x (by omega) h.2 (fun z hz => hM z (by simp [hz])) y hy

/-- Where the different ones fall, in order. -/
def placesL (k : List UInt8) (ss : List ByteArray) : List Int := (setL ss).map fun it => filterTo k it.data.toList (((setL ss).length : Int) * 37)
def gapsL (k : List UInt8) (ss : List ByteArray) : List Int := gapsZ 0 (sortL (placesL k ss))
def filterB (k : List UInt8) (ss : List ByteArray) : List UInt8 := varB 4 (setL ss).length ++ riceB 5 ((gapsL k ss).map Int.toNat)
def filterOf (k : List UInt8) (ss : List ByteArray) : List UInt8 := if (isSum k && itemsOkB ss) = true then filterB k ss else []
theorem filterOf_yes {k : List UInt8} {ss : List ByteArray} (h1 : isSum k = true) (h2 : itemsOkB ss = true) : filterOf k ss = filterB k ss := by rw [filterOf, h1, h2]; rfl
theorem filterOf_no1 {k : List UInt8} {ss : List ByteArray} (h1 : isSum k = false) : filterOf k ss = [] := by rw [filterOf, h1]; rfl
theorem filterOf_no2 {k : List UInt8} {ss : List ByteArray} (h2 : itemsOkB ss = false) : filterOf k ss = [] := by rw [filterOf, h2]; simp
theorem set_items {ss : List ByteArray} (h : itemsOkB ss = true) : ∀ it ∈ setL ss, isItem it.data.toList = true := by
  intro it hit
  have h1 := (setL_mem ss it).1 hit
  simp only [itemsOkB, Bool.and_eq_true, List.all_eq_true] at h
  exact h.2 it h1
theorem places_in {k : List UInt8} {ss : List ByteArray} (h1 : isSum k = true) (h2 : itemsOkB ss = true) : ∀ z ∈ placesL k ss, 0 ≤ z ∧ z ≤ 1480 := by
  intro z hz
  obtain ⟨it, hit, rfl⟩ := List.mem_map.1 hz
  have hi := set_items h2 it hit
  have hn : 1 ≤ (setL ss).length := by
    cases hs : setL ss with
    | nil => rw [hs] at hit; cases hit
    | cons a r => simp
  have hn4 : (setL ss).length ≤ 40 := Nat.le_trans (setL_length ss) (itemsOk_len h2)
  have hb : 1 ≤ ((setL ss).length : Int) * 37 ∧ ((setL ss).length : Int) * 37 ≤ 60000 := by omega
  rw [filterTo_yes h1 hi hb]
  have := place_lt (headOf (k ++ 32 :: it.data.toList)) (((setL ss).length : Int) * 37) (headOf_lt _) hb
  omega
theorem gaps_ok {k : List UInt8} {ss : List ByteArray} (h1 : isSum k = true) (h2 : itemsOkB ss = true) : (gapsL k ss).length ≤ 40 ∧ ∀ i, i < (gapsL k ss).length → 0 ≤ (gapsL k ss).getD i 0 ∧ (gapsL k ss).getD i 0 ≤ 60000 := by
  have hl : (gapsL k ss).length = (setL ss).length := by rw [gapsL, gapsZ_length, sortL_length, placesL, List.length_map]
  refine ⟨by rw [hl]; exact Nat.le_trans (setL_length ss) (itemsOk_len h2), fun i hi => ?_⟩
  have hp := places_in h1 h2
  have hmem : (gapsL k ss).getD i 0 ∈ gapsL k ss := by simp [List.getElem?_eq_getElem hi]
  have := gaps_in 1480 (sortL (placesL k ss)) 0 (Int.le_refl _) (asc_sort _ (fun x hx => (hp x hx).1)) (fun x hx => (hp x ((sortL_mem _ x).1 hx)).2) _ hmem
  omega

end Go.Proofs.YtkajpkfhedfmaaaGreatDoor

set_option linter.unusedVariables false
namespace Go.Proofs.YtkajpkfhedfmaaaGreatDoor
open Go.Shelf Go.RowKit

theorem infoIntB : (Tryz.prog.info? 3).map (fun i => (i.zero, i.size, i.bytes)) = some (some (.int .i64 0), 1, 8) := by kernel_rfl
theorem infoByteB : (Tryz.prog.info? 5).map (fun i => (i.zero, i.size, i.bytes)) = some (some (.int .u8 0), 1, 1) := by kernel_rfl
def intCells (l : List Nat) : List Value := l.map fun n : Nat => Value.int .i64 (n : Int)
/-- A row that the call has made stands if its block stands. -/
theorem ownsRow_keep {base : Nat} {e : TypeId} {v : Value} {n : Nat} {xs : List Value} {w w' : World} (h : w.ownsRow base e 1 v n xs) (hk : ∀ g, v.ownBlock = some g → w'.heap[g]? = w.heap[g]?) : w'.ownsRow base e 1 v n xs := by
  refine ⟨h.1, ?_⟩
  rcases h.2 with h2 | ⟨g, cap, cur, hv, h2⟩
  · exact .inl h2
  · refine .inr ⟨g, cap, cur, hv, h2.1, ?_, h2.2.2⟩
    rw [hk g (by rw [hv]; rfl)]
    exact h2.2.1
theorem ownsRow_type {base : Nat} {e : TypeId} {v : Value} {n : Nat} {xs : List Value} {w : World} (h : w.ownsRow base e 1 v n xs) (g : Nat) (hg : v.ownBlock = some g) : ∃ cur, w.heap[g]? = some (.cells cur e (0, 0)) ∧ g < w.heap.size := by
  rcases h.2 with ⟨h2, _⟩ | ⟨g', cap, cur, hv, h2⟩
  · rw [h2] at hg; cases hg
  · rw [hv] at hg
    obtain rfl : g' = g := by simpa [Value.ownBlock] using hg
    refine ⟨cur, h2.2.1, ?_⟩
    rcases Nat.lt_or_ge g' w.heap.size with h' | h'
    · exact h'
    · have := h2.2.1
      simp [Array.getElem?_eq_none h'] at this
theorem intCell_at {base : Nat} {e : TypeId} {g n cap : Nat} {m : List Nat} {w : World} (h : w.ownsRow base e 1 (.slice (some ⟨g, 0, none⟩) n cap) n (intCells m)) (i : Nat) (hi : i < m.length) : w.cell? ⟨g, i, none⟩ = some (.int .i64 ((m.getD i 0 : Nat) : Int)) := by
  have hl : m.length = n := by have := h.1; simpa [intCells] using this
  rcases h.2 with ⟨h2, _⟩ | ⟨g', cap', cur, hv, _, hc, _, _, _, ht⟩
  · cases h2
  · simp only [Value.slice.injEq, Option.some.injEq, Addr.mk.injEq, and_true, true_and] at hv
    obtain ⟨rfl, rfl⟩ := hv
    rw [Lib.cell_of_heap hc, ← Array.getElem?_toList]
    have h3 : cur.toList[i]? = (intCells m)[i]? := by rw [← ht, List.getElem?_take]; simp [← hl, hi]
    rw [h3]
    simp [intCells, List.getElem?_eq_getElem hi]
theorem take_valB (m : List Nat) (j : Nat) (hj : j < m.length) : valB (m.take (j + 1)) = valB (m.take j) * 2 + m.getD j 0 := by
  have : m.take (j + 1) = m.take j ++ [m.getD j 0] := by
    rw [List.take_add_one, List.getElem?_eq_getElem hj]
    simp [List.getElem?_eq_getElem hj]
  rw [this, valB_snoc]
end Go.Proofs.YtkajpkfhedfmaaaGreatDoor

set_option linter.unusedVariables false
namespace Go.Proofs.YtkajpkfhedfmaaaGreatDoor
open Go.RowKit

/-- A row of integers of the call's own. -/
def ZRow (B : Nat) (v : Value) (zs : List Int) (w : World) : Prop := (∃ g cap, v = .slice (some ⟨g, 0, none⟩) zs.length cap) ∧ w.ownsRow B 3 1 v zs.length (zs.map (Value.int .i64))
theorem zrow_new (w : World) : ZRow w.heap.size (.slice (some ⟨w.heap.size, 0, none⟩) 0 0) [] (w.alloc (.cells #[] 3)) :=
  ⟨⟨_, _, rfl⟩, rfl, .inr ⟨_, _, #[], rfl, Nat.le_refl _, heap_alloc_new w _, Nat.le_refl _, by unfold maxLen; omega, rfl, rfl⟩⟩
theorem ZRow.block {B : Nat} {v : Value} {zs : List Int} {w : World} (h : ZRow B v zs w) : ∃ g cap cur, v = .slice (some ⟨g, 0, none⟩) zs.length cap ∧ B ≤ g ∧ g < w.heap.size ∧ w.heap[g]? = some (.cells cur 3 (0, 0)) ∧ cur.toList.take zs.length = zs.map (Value.int .i64) := by
  obtain ⟨⟨g, cap, rfl⟩, hl, h2⟩ := h
  rcases h2 with ⟨h2, _⟩ | ⟨g', cap', cur, hv, h3, h4, h5, h6, h7, h8⟩
  · cases h2
  · simp only [Value.slice.injEq, Option.some.injEq, Addr.mk.injEq, and_true] at hv
    obtain ⟨rfl, _, rfl⟩ := hv
    refine ⟨g, cap, cur, rfl, h3, ?_, h4, by simpa using h8⟩
    exact (Array.getElem?_eq_some_iff.1 h4).1
theorem ZRow.keep {B C : Nat} {v : Value} {zs : List Int} {w w' : World} (h : ZRow B v zs w) (hk : ∀ g, B ≤ g → g < w.heap.size → w'.heap[g]? = w.heap[g]?) : ZRow B v zs w' := by
  have hb := h.block
  refine ⟨h.1, ownsRow_keep h.2 (fun g hg => ?_)⟩
  obtain ⟨g', cap, cur, rfl, h1, h2, _⟩ := hb
  obtain rfl : g' = g := by simpa [Value.ownBlock] using hg
  exact hk g' h1 h2
theorem ZRow.only {B b : Nat} {v : Value} {zs : List Int} {w w' : World} (h : ZRow B v zs w) (ho : Only b w w') (hb : b < B) : ZRow B v zs w' := h.keep (C := B) (fun g hg _ => ho.block g (by omega))
theorem ZRow.at {B g n cap : Nat} {zs : List Int} {w : World} (h : ZRow B (.slice (some ⟨g, 0, none⟩) n cap) zs w) : At w g zs ∧ n = zs.length := by
  obtain ⟨g', cap', cur, hv, h1, h2, h3, h4⟩ := h.block
  simp only [Value.slice.injEq, Option.some.injEq, Addr.mk.injEq, and_true] at hv
  obtain ⟨rfl, rfl, rfl⟩ := hv
  refine ⟨⟨h2, fun i hi => ?_⟩, rfl⟩
  rw [Lib.cell_of_heap h3]
  have : cur.toList[i]? = (zs.map (Value.int .i64))[i]? := by rw [← h4, List.getElem?_take]; simp [hi]
  rw [← Array.getElem?_toList, this]
  simp [List.getElem?_eq_getElem hi]

def nums5 : List Int := [0, 1, 3, 8, 20]
def nums7 : List Int := [0, 1, 5, 31, 32, 100, 700]
def nums3 : List Int := [-1, 60000, 60001]
theorem nums5_in : ∀ i : Fin 5, 0 ≤ nums5.getD i.val 0 ∧ nums5.getD i.val 0 ≤ 20 := by decide

end Go.Proofs.YtkajpkfhedfmaaaGreatDoor

set_option linter.unusedVariables false
namespace Go.Proofs.YtkajpkfhedfmaaaGreatDoor
open Go.RowKit

theorem at_news {w : World} {g : Nat} {zs : List Int} (h : At w g zs) (a m off : Nat) (hk : a + m ≤ zs.length) (ho : 0 < m → off = a) : ∀ j u, (((zs.drop a).take m).map (Value.int .i64))[j]? = some u → w.cell? ((⟨g, off, none⟩ : Addr).add j) = some u := by
  intro j u hu
  have hj : j < m := by
    have := (List.getElem?_eq_some_iff.1 hu).1
    simp at this
    omega
  have e := ho (by omega)
  subst e
  have hc := h.2 (off + j) (by omega)
  have e2 : (((zs.drop off).take m).map (Value.int .i64))[j]? = some (.int .i64 (zs.getD (off + j) 0)) := by
    rw [List.getElem?_map, List.getElem?_take_of_lt hj, List.getElem?_drop, List.getElem?_eq_getElem (by omega)]
    simp [List.getElem?_eq_getElem (show off + j < zs.length by omega)]
  rw [e2] at hu
  rw [← hu, ← hc]
  rcases j with _ | j
  · simp [Addr.add]
  · simp [Addr.add]
theorem ints_one (l : List Int) : ∀ u ∈ l.map (Value.int .i64), u.oneCell' = true := by
  intro u hu
  obtain ⟨x, _, rfl⟩ := List.mem_map.1 hu
  rfl
theorem At.far {w w' : World} {g : Nat} {zs : List Int} (h : At w g zs) (hk : w'.heap[g]? = w.heap[g]?) (hs : w.heap.size ≤ w'.heap.size) : At w' g zs :=
  ⟨Nat.lt_of_lt_of_le h.1 hs, fun i hi => (World.cell?_of_block (a := ⟨g, i, none⟩) hk).trans (h.2 i hi)⟩
theorem ZRow.of {B n g cap : Nat} {zs : List Int} {w : World} (h : w.ownsRow B 3 1 (.slice (some ⟨g, 0, none⟩) n cap) n (zs.map (Value.int .i64))) (hn : n = zs.length) : ZRow B (.slice (some ⟨g, 0, none⟩) n cap) zs w := by
  subst hn
  exact ⟨⟨g, cap, rfl⟩, h⟩

theorem own_form {B n : Nat} {e : TypeId} {v : Value} {xs : List Value} {w : World} (h : w.ownsRow B e 1 v n xs) (hv : v ≠ .slice none 0 0) : ∃ g c, v = .slice (some ⟨g, 0, none⟩) n c := by
  rcases h.2 with ⟨h2, _⟩ | ⟨g, c, cur, h2, _⟩
  · exact absurd h2 hv
  · exact ⟨g, c, h2⟩
theorem own_cap {B n m g c : Nat} {e : TypeId} {xs : List Value} {w : World} (h : w.ownsRow B e 1 (.slice (some ⟨g, 0, none⟩) n c) m xs) : n ≤ c ∧ B ≤ g ∧ g < w.heap.size := by
  rcases h.2 with ⟨h2, _⟩ | ⟨g', c', cur, h2, h3, h4, h5, _⟩
  · cases h2
  · simp only [Value.slice.injEq, Option.some.injEq, Addr.mk.injEq, and_true] at h2
    obtain ⟨rfl, rfl, rfl⟩ := h2
    exact ⟨h5, h3, (Array.getElem?_eq_some_iff.1 h4).1⟩
theorem grown_far {W w1 : World} {row : Option Nat} {b : Nat} {o : Obj} (hg : (W.alloc o).grownBy w1 row) (hb : b < W.heap.size) (hne : some b ≠ row) : w1.heap[b]? = W.heap[b]? :=
  (hg.block b (by simp; omega) hne).trans (Below.heap_alloc _ _ _ hb)
theorem grown_far2 {W w1 : World} {row : Option Nat} {b : Nat} {o : Obj} (hg : (W.alloc o).drew.grownBy w1 row) (hb : b < W.heap.size) (hne : some b ≠ row) : w1.heap[b]? = W.heap[b]? :=
  (hg.block b (by show b < (W.alloc o).heap.size; simp; omega) hne).trans (Below.heap_alloc _ _ _ hb)
theorem grown_size2 {W w1 : World} {row : Option Nat} {o : Obj} (hg : (W.alloc o).drew.grownBy w1 row) : W.heap.size + 1 ≤ w1.heap.size := by
  have := hg.size
  have e : (W.alloc o).drew.heap.size = W.heap.size + 1 := by show (W.alloc o).heap.size = _; simp
  omega
theorem grown_size {W w1 : World} {row : Option Nat} {o : Obj} (hg : (W.alloc o).grownBy w1 row) : W.heap.size + 1 ≤ w1.heap.size := by
  have := hg.size
  simpa using this

end Go.Proofs.YtkajpkfhedfmaaaGreatDoor

set_option linter.unusedVariables false
namespace Go.Proofs.YtkajpkfhedfmaaaGreatDoor
open Go.RowKit

theorem at_newsS {w : World} {g : Nat} {zs : List ByteArray} (h : AtS w g zs) (a m off : Nat) (hk : a + m ≤ zs.length) (ho : 0 < m → off = a) : ∀ j u, (((zs.drop a).take m).map Value.string)[j]? = some u → w.cell? ((⟨g, off, none⟩ : Addr).add j) = some u := by
  intro j u hu
  have hj : j < m := by
    have := (List.getElem?_eq_some_iff.1 hu).1
    simp at this
    omega
  have e := ho (by omega)
  subst e
  have hc := h.2 (off + j) (by omega)
  have e2 : (((zs.drop off).take m).map Value.string)[j]? = some (.string (zs.getD (off + j) ByteArray.empty)) := by
    rw [List.getElem?_map, List.getElem?_take_of_lt hj, List.getElem?_drop, List.getElem?_eq_getElem (by omega)]
    simp [List.getElem?_eq_getElem (show off + j < zs.length by omega)]
  rw [e2] at hu
  rw [← hu, ← hc]
  rcases j with _ | j
  · simp [Addr.add]
  · simp [Addr.add]
theorem strs_one (l : List ByteArray) : ∀ u ∈ l.map Value.string, u.oneCell' = true := by
  intro u hu
  obtain ⟨x, _, rfl⟩ := List.mem_map.1 hu
  rfl
theorem AtS.far {w w' : World} {g : Nat} {zs : List ByteArray} (h : AtS w g zs) (hk : w'.heap[g]? = w.heap[g]?) (hs : w.heap.size ≤ w'.heap.size) : AtS w' g zs :=
  ⟨Nat.lt_of_lt_of_le h.1 hs, fun i hi => (World.cell?_of_block (a := ⟨g, i, none⟩) hk).trans (h.2 i hi)⟩
theorem SRow.of {B n g cap : Nat} {zs : List ByteArray} {w : World} (h : w.ownsRow B 9 1 (.slice (some ⟨g, 0, none⟩) n cap) n (zs.map Value.string)) (hn : n = zs.length) : SRow B (.slice (some ⟨g, 0, none⟩) n cap) zs w := by
  subst hn
  exact ⟨⟨g, cap, rfl⟩, h⟩

end Go.Proofs.YtkajpkfhedfmaaaGreatDoor

set_option linter.unusedVariables false
namespace Go.Proofs.YtkajpkfhedfmaaaGreatDoor
open Go.RowKit

end Go.Proofs.YtkajpkfhedfmaaaGreatDoor

set_option linter.unusedVariables false
namespace Go.Proofs.YtkajpkfhedfmaaaGreatDoor
open Go.RowKit
theorem infoU8 : (Tryz.prog.info? 5).map (fun i => (i.zero, i.size, i.bytes)) = some (some (.int .u8 0), 1, 1) := by kernel_rfl

end Go.Proofs.YtkajpkfhedfmaaaGreatDoor

set_option linter.unusedVariables false
namespace Go.Proofs.YtkajpkfhedfmaaaGreatDoor
open Go.RowKit

theorem convBack {B : Nat} {v : Value} {l : List UInt8} {w : World} (h : w.ownsRow B 5 1 v l.length (Lib.byteCells l)) : (convert 22 9 v).run Tryz.prog w = .ok (.string ⟨l.toArray⟩) w := by
  rcases h.2 with ⟨h1, h2⟩ | ⟨g, cap, cur, hv, _, hc, _, _, _, ht⟩
  · obtain rfl : l = [] := List.length_eq_zero_iff.1 h2
    rw [h1]
    exact Lib.run_convert_nil_bytes w 22 9 5 0 Tryz.underlying22 Tryz.underlying5 Tryz.underlying9
  · rw [hv]
    refine run_convert_bytes_back (P := Tryz.prog) w 22 9 5 ⟨g, 0, none⟩ cap l Tryz.underlying22 Tryz.underlying5 Tryz.underlying9 ?_
    intro j hj
    rw [Addr.add_mid, Nat.zero_add, Lib.cell_of_heap hc, ← Array.getElem?_toList]
    have h3 : cur.toList[j]? = (Lib.byteCells l)[j]? := by rw [← ht, List.getElem?_take]; simp [hj]
    rw [h3]
    simp [Lib.byteCells, List.getElem?_eq_getElem hj]
/-- How many bits wait, out of the block. -/
def waits (b : Nat) (w : World) : Nat := match w.cell? ⟨b, 1, none⟩ with
  | some (.slice _ n _) => if n = 0 then 0 else 8 - n
  | _ => 0
end Go.Proofs.YtkajpkfhedfmaaaGreatDoor

set_option linter.unusedVariables false
namespace Go.Proofs.YtkajpkfhedfmaaaGreatDoor
open Go.RowKit

end Go.Proofs.YtkajpkfhedfmaaaGreatDoor

set_option linter.unusedVariables false
namespace Go.Proofs.YtkajpkfhedfmaaaGreatDoor
open Go.RowKit

end Go.Proofs.YtkajpkfhedfmaaaGreatDoor

set_option linter.unusedVariables false
namespace Go.Proofs.YtkajpkfhedfmaaaGreatDoor
open Go.RowKit

def bent8 : List ByteArray := [⟨#[48]⟩, ⟨#[97]⟩, ⟨#[32]⟩, ⟨#[0]⟩, ⟨#[255]⟩, ⟨#[128]⟩, ⟨#[102]⟩, ⟨#[10]⟩]
theorem bent8_size : ∀ i : Fin 8, (bent8.getD i.val ByteArray.empty).size ≤ 1 := by decide
def bent4 : List ByteArray := [⟨#[48]⟩, ⟨#[32]⟩, ⟨#[0]⟩, ⟨#[255]⟩]
theorem bent4_size : ∀ i : Fin 4, (bent4.getD i.val ByteArray.empty).size ≤ 1 := by decide

end Go.Proofs.YtkajpkfhedfmaaaGreatDoor

