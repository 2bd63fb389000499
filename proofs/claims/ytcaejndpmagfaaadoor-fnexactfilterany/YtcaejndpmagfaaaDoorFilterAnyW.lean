/-
  Whether one of some items may be in a filter: both ways.
-/
import Derived.Test.YtcaejndpmagfaaaDoorFilterHasI
import Derived.Test.YtcaejndpmagfaaaDoorFilterHasS
import Derived.Test.YtcaejndpmagfaaaDoorItemsW
set_option linter.unusedVariables false
namespace Go.Proofs.YtcaejndpmagfaaaDoor
open Go.RowKit

noncomputable def filterAny (s k : List UInt8) (ss : List ByteArray) : Bool := itemsOkB ss && ss.any fun it => filterHas s k it.data.toList
theorem filterAny_no {s k : List UInt8} {ss : List ByteArray} (h : itemsOkB ss = false) : filterAny s k ss = false := by rw [filterAny, h]; rfl
theorem filterAny_no1 {s k : List UInt8} {ss : List ByteArray} (h : isSum k = false) : filterAny s k ss = false := by
  rw [filterAny]
  have : (ss.any fun it => filterHas s k it.data.toList) = false := by
    rw [List.any_eq_false]
    intro x _
    rw [filterHas_no1 h]
    decide
  rw [this, Bool.and_false]
theorem filterAny_yes {s k : List UInt8} {ss : List ByteArray} (h : itemsOkB ss = true) (i : Nat) (hi : i < ss.length) (hh : filterHas s k (ss.getD i ByteArray.empty).data.toList = true) : filterAny s k ss = true := by
  rw [filterAny, h, Bool.true_and, List.any_eq_true]
  refine ⟨ss.getD i ByteArray.empty, ?_, hh⟩
  simp [List.getElem?_eq_getElem hi]
theorem filterAny_none {s k : List UInt8} {ss : List ByteArray} (hh : ∀ i, i < ss.length → filterHas s k (ss.getD i ByteArray.empty).data.toList = false) : filterAny s k ss = false := by
  have : (ss.any fun it => filterHas s k it.data.toList) = false := by
    rw [List.any_eq_false]
    intro x hx
    obtain ⟨i, hi, rfl⟩ := List.mem_iff_getElem.1 hx
    have := hh i hi
    rw [List.getD_eq_getElem?_getD, List.getElem?_eq_getElem hi] at this
    simpa using this
  rw [filterAny, this, Bool.and_false]

set_option maxHeartbeats 1000000 in
set_option maxRecDepth 100000 in
theorem implFilterAny (g n cap : Nat) (ss : List ByteArray) (s k : ByteArray) (w : World) (h : AtS w g ss) (hn : n = ss.length) (hs : s.size ≤ maxLen) (hK : RowG w shaK) :
    Calls Tryd.prog 12 #[.string s, .string k, .slice (some ⟨g, 0, none⟩) n cap] w fun e w' => e = .returned (.bool (filterAny s.data.toList k.data.toList ss)) ∧ Below w.heap.size w w' := by
  have hit := implItemsOk g n cap ss w h hn
  cases hok : itemsOkB ss with
  | false =>
    rw [hok] at hit
    rw [filterAny_no hok]
    clear hok h hn hK
    go_enter Tryd.func12, Tryd.ntmps12
    go_wp2_with (go_at_call 25; refine hit.mono ?_; rintro e w1 ⟨rfl, rfl⟩)
    go_ret
    exact ⟨rfl, Below.refl _ _⟩
  | true =>
    rw [hok] at hit
    have hn40 : n ≤ 40 := by rw [hn]; exact itemsOk_len hok
    have HA : Hid (AtS w g ss) := h
    have HN : Hid (n = ss.length) := hn
    have HKG : Hid (RowG w shaK) := hK
    have HOK : Hid (itemsOkB ss = true) := hok
    obtain ⟨B, hB⟩ : ∃ B, B = filterAny s.data.toList k.data.toList ss := ⟨_, rfl⟩
    rw [← hB]
    have HBB : Hid (B = filterAny s.data.toList k.data.toList ss) := hB
    clear hok h hn hK hB
    go_enter Tryd.func12, Tryd.ntmps12
    go_wp2_with (go_at_call 25; refine hit.mono ?_; rintro e w1 ⟨rfl, rfl⟩)
    clear hit
    go_loopw [14] (fun i wr => ∃ j : Nat, j ≤ n ∧ i = .int .i64 (j : Int) ∧ Hid (∀ q, q < j → filterHas s.data.toList k.data.toList (ss.getD q ByteArray.empty).data.toList = false) ∧ Hid (Below w.heap.size w wr)) (fun i _ => n - (intOf i).toNat)
    case atStart => exact ⟨0, by omega, rfl, fun q hq => by omega, Below.refl _ _⟩
    case round =>
      obtain ⟨j, hj, rfl, HT, HB⟩ := hrel
      by_cases hlt : j < n
      · have hjl : j < ss.length := by rw [← HN.out]; exact hlt
        have hc : wr.cell? ⟨g, j, none⟩ = some (.string (ss.getD j ByteArray.empty)) := by
          rw [HB.out.cell (p := ⟨g, j, none⟩) HA.out.1]
          exact HA.out.2 j hjl
        have hhas := implFilterHas s k (ss.getD j ByteArray.empty) wr hs (HKG.out.below HB.out HKG.out.lt)
        have HY : Hid (filterHas s.data.toList k.data.toList (ss.getD j ByteArray.empty).data.toList = true → B = true) := fun hh => by rw [HBB.out]; exact filterAny_yes HOK.out j hjl hh
        have HT2 : Hid (filterHas s.data.toList k.data.toList (ss.getD j ByteArray.empty).data.toList = false → ∀ q, q < j + 1 → filterHas s.data.toList k.data.toList (ss.getD q ByteArray.empty).data.toList = false) := by
          intro hh q hq
          rcases Nat.lt_or_ge q j with h' | h'
          · exact HT.out q h'
          · obtain rfl : q = j := by omega
            exact hh
        generalize filterHas s.data.toList k.data.toList (ss.getD j ByteArray.empty).data.toList = fh at hhas HY HT2
        generalize ss.getD j ByteArray.empty = it at hc hhas
        have HJ : Hid (j + 1 ≤ n) := hlt
        have lj : (j : Int) < (n : Int) := by omega
        have lj0 : (0 : Int) ≤ (j : Int) := by omega
        clear hjl
        cases fh with
        | true =>
          have HY2 : Hid (B = true) := HY.out rfl
          clear HY HT2
          go_wp2_with (go_at_call 8; refine hhas.mono ?_; rintro e w1 ⟨rfl, b1⟩)
          go_ret
          rw [HY2.out]
          exact ⟨rfl, HB.out.trans (b1.mono HB.out.size)⟩
        | false =>
          have HT3 : Hid (∀ q, q < j + 1 → filterHas s.data.toList k.data.toList (ss.getD q ByteArray.empty).data.toList = false) := HT2.out rfl
          clear HY HT2
          go_wp2_with (go_at_call 8; refine hhas.mono ?_; rintro e w1 ⟨rfl, b1⟩)
          have HB1 : Hid (Below w.heap.size w w1) := HB.out.trans (b1.mono HB.out.size)
          clear b1
          go_roundw
          case rel => exact ⟨j + 1, HJ.out, by go_num, HT3, HB1⟩
          case measure => have := HJ.out; simp [intOf]; omega
      · have HY : Hid (B = false) := by rw [HBB.out]; exact filterAny_none (fun i hi => HT.out i (by have := HN.out; omega))
        go_wp2_with fail
        go_ret
        rw [HY.out]
        exact ⟨rfl, HB.out⟩

set_option maxHeartbeats 1000000 in
set_option maxRecDepth 100000 in
theorem specFilterAny (g n cap : Nat) (ss : List ByteArray) (s k : ByteArray) (w : World) (h : AtS w g ss) (hn : n = ss.length) (hm : n ≤ 1073741824) (hz : ∀ i, i < ss.length → (ss.getD i ByteArray.empty).size ≤ maxLen) (hs : s.size ≤ 1048576) (hk : k.size ≤ maxLen) :
    Calls Tryd.prog 10 #[.string s, .string k, .slice (some ⟨g, 0, none⟩) n cap] w fun e w' => e = .returned (.bool (filterAny s.data.toList k.data.toList ss)) ∧ Below w.heap.size w w' := by
  have hit := specItems g n cap ss w h hn hm hz
  cases h1 : isSum k.data.toList with
  | false =>
    rw [filterAny_no1 h1]
    clear h hn hit
    go_enter Tryd.func10, Tryd.ntmps10
    go_wp2_with (go_at_call 18; refine (specIsSum _ _ hk).mono ?_; rintro e w1 ⟨rfl, rfl⟩)
    go_ret
    exact ⟨rfl, Below.refl _ _⟩
  | true =>
  cases hok : itemsOkB ss with
  | false =>
    rw [hok] at hit
    rw [filterAny_no hok]
    clear hok h hn
    go_enter Tryd.func10, Tryd.ntmps10
    go_wp2_with first
      | (go_at_call 18; refine (specIsSum _ _ hk).mono ?_; rintro e w1 ⟨rfl, rfl⟩)
      | (go_at_call 24; refine hit.mono ?_; rintro e w1 ⟨rfl, rfl⟩)
    go_ret
    exact ⟨rfl, Below.refl _ _⟩
  | true =>
    rw [hok] at hit
    have hn40 : n ≤ 40 := by rw [hn]; exact itemsOk_len hok
    have HA : Hid (AtS w g ss) := h
    have HN : Hid (n = ss.length) := hn
    have HOK : Hid (itemsOkB ss = true) := hok
    have H1 : Hid (isSum k.data.toList = true) := h1
    obtain ⟨B, hB⟩ : ∃ B, B = filterAny s.data.toList k.data.toList ss := ⟨_, rfl⟩
    rw [← hB]
    have HBB : Hid (B = filterAny s.data.toList k.data.toList ss) := hB
    clear hok h hn hB hz
    go_enter Tryd.func10, Tryd.ntmps10
    go_wp2_with first
      | (go_at_call 18; refine (specIsSum _ _ hk).mono ?_; rintro e w1 ⟨rfl, rfl⟩)
      | (go_at_call 24; refine hit.mono ?_; rintro e w1 ⟨rfl, rfl⟩)
    clear hit
    go_loopw [7] (fun i wr => ∃ j : Nat, j ≤ n ∧ i = .int .i64 (j : Int) ∧ Hid (∀ q, q < j → filterHas s.data.toList k.data.toList (ss.getD q ByteArray.empty).data.toList = false) ∧ Hid (Below w.heap.size w wr)) (fun i _ => n - (intOf i).toNat)
    case atStart => exact ⟨0, by omega, rfl, fun q hq => by omega, Below.refl _ _⟩
    case round =>
      obtain ⟨j, hj, rfl, HT, HB⟩ := hrel
      by_cases hlt : j < n
      · have hjl : j < ss.length := by rw [← HN.out]; exact hlt
        have hc : wr.cell? ⟨g, j, none⟩ = some (.string (ss.getD j ByteArray.empty)) := by
          rw [HB.out.cell (p := ⟨g, j, none⟩) HA.out.1]
          exact HA.out.2 j hjl
        have hhas := specHas s k (ss.getD j ByteArray.empty) wr hs H1.out (itemsOk_at HOK.out j hjl)
        have HY : Hid (filterHas s.data.toList k.data.toList (ss.getD j ByteArray.empty).data.toList = true → B = true) := fun hh => by rw [HBB.out]; exact filterAny_yes HOK.out j hjl hh
        have HT2 : Hid (filterHas s.data.toList k.data.toList (ss.getD j ByteArray.empty).data.toList = false → ∀ q, q < j + 1 → filterHas s.data.toList k.data.toList (ss.getD q ByteArray.empty).data.toList = false) := by
          intro hh q hq
          rcases Nat.lt_or_ge q j with h' | h'
          · exact HT.out q h'
          · obtain rfl : q = j := by omega
            exact hh
        generalize filterHas s.data.toList k.data.toList (ss.getD j ByteArray.empty).data.toList = fh at hhas HY HT2
        generalize ss.getD j ByteArray.empty = it at hc hhas
        have HJ : Hid (j + 1 ≤ n) := hlt
        have lj : (j : Int) < (n : Int) := by omega
        have lj0 : (0 : Int) ≤ (j : Int) := by omega
        clear hjl
        cases fh with
        | true =>
          have HY2 : Hid (B = true) := HY.out rfl
          clear HY HT2
          go_wp2_with (go_at_call 20; refine hhas.mono ?_; rintro e w1 ⟨rfl, b1⟩)
          go_ret
          rw [HY2.out]
          exact ⟨rfl, HB.out.trans (b1.mono HB.out.size)⟩
        | false =>
          have HT3 : Hid (∀ q, q < j + 1 → filterHas s.data.toList k.data.toList (ss.getD q ByteArray.empty).data.toList = false) := HT2.out rfl
          clear HY HT2
          go_wp2_with (go_at_call 20; refine hhas.mono ?_; rintro e w1 ⟨rfl, b1⟩)
          have HB1 : Hid (Below w.heap.size w w1) := HB.out.trans (b1.mono HB.out.size)
          clear b1
          go_roundw
          case rel => exact ⟨j + 1, HJ.out, by go_num, HT3, HB1⟩
          case measure => have := HJ.out; simp [intOf]; omega
      · have HY : Hid (B = false) := by rw [HBB.out]; exact filterAny_none (fun i hi => HT.out i (by have := HN.out; omega))
        go_wp2_with fail
        go_ret
        rw [HY.out]
        exact ⟨rfl, HB.out⟩

end Go.Proofs.YtcaejndpmagfaaaDoor
