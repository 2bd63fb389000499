/-
  Whether an item may be in a filter: both ways.
-/
import Derived.Test.YtcaejndpmagfaaaDoorFilterGetI
import Derived.Test.YtcaejndpmagfaaaDoorFilterGetS
import Derived.Test.YtcaejndpmagfaaaDoorFilterToI
import Derived.Test.YtcaejndpmagfaaaDoorFilterToS
set_option linter.unusedVariables false
namespace Go.Proofs.YtcaejndpmagfaaaDoor
open Go.RowKit

noncomputable def filterHas (s k it : List UInt8) : Bool :=
  match filterGet s with
  | none => false
  | some l => decide (l ≠ []) && isSum k && isItem it && l.any fun p => decide ((p : Int) = filterTo k it ((l.length : Int) * 37))
theorem filterHas_none {s k it : List UInt8} (h : filterGet s = none) : filterHas s k it = false := by rw [filterHas, h]
theorem filterHas_nil {s k it : List UInt8} (h : filterGet s = some []) : filterHas s k it = false := by rw [filterHas, h]; simp
theorem filterHas_no1 {s k it : List UInt8} (h : isSum k = false) : filterHas s k it = false := by
  rw [filterHas]
  split
  · rfl
  · simp [h]
theorem filterHas_no2 {s k it : List UInt8} (h : isItem it = false) : filterHas s k it = false := by
  rw [filterHas]
  split
  · rfl
  · simp [h]
theorem filterHas_yes {s k it : List UInt8} {l : List Nat} (h : filterGet s = some l) (hl : l ≠ []) (h1 : isSum k = true) (h2 : isItem it = true) : filterHas s k it = l.any fun p => decide ((p : Int) = filterTo k it ((l.length : Int) * 37)) := by
  rw [filterHas, h]
  simp [h1, h2, hl]
theorem any_yes (l : List Nat) (z : Int) (k : Nat) (hk : k < l.length) (h : ((l.getD k 0 : Nat) : Int) = z) : (l.any fun p => decide ((p : Int) = z)) = true := by
  rw [List.any_eq_true]
  refine ⟨l.getD k 0, ?_, by simpa using h⟩
  simp [List.getElem?_eq_getElem hk]
theorem any_no (l : List Nat) (z : Int) (h : ∀ j, j < l.length → ((l.getD j 0 : Nat) : Int) ≠ z) : (l.any fun p => decide ((p : Int) = z)) = false := by
  rw [List.any_eq_false]
  intro x hx
  obtain ⟨i, hi, rfl⟩ := List.mem_iff_getElem.1 hx
  have := h i hi
  rw [List.getD_eq_getElem?_getD, List.getElem?_eq_getElem hi] at this
  simpa using this
theorem filterGet_len2 {o : List UInt8} {l : List Nat} (h : filterGet o = some l) : l.length ≤ 40 ∧ l.length = (varGet o).1 := by
  unfold filterGet at h
  split at h
  · cases h
  · split at h
    · cases h
    · rename_i gaps hr
      unfold placesOf at h
      split at h
      · have e : sumsF 0 gaps = l := by simpa using h
        rw [← e, sumsF_length]
        have := riceGet_some hr
        have h2 := this.1
        simp only [getOk, Bool.and_eq_true, decide_eq_true_eq] at h2
        have h3 := this.2.1
        omega
      · cases h
theorem manyOf2_some {o : List UInt8} {l : List Nat} (h : filterGet o = some l) : manyOf2 o = l.length := by
  rw [manyOf2, h, (filterGet_len2 h).2]
  rfl

set_option maxHeartbeats 1000000 in
set_option maxRecDepth 100000 in
theorem indexInts (g n cap : Nat) (l : List Nat) (z : Int) (w : World) (h : At w g (l.map fun n : Nat => (n : Int))) (hn : n = l.length) (hm : n ≤ 1000) :
    Calls Tryd.prog 42 #[.slice (some ⟨g, 0, none⟩) n cap, .int .i64 z] w fun e w' => ∃ r : Int, e = .returned (.int .i64 r) ∧ decide (0 ≤ r) = (l.any fun p => decide ((p : Int) = z)) ∧ w = w' := by
  have HA : Hid (At w g (l.map fun n : Nat => (n : Int))) := h
  have HN : Hid (n = l.length) := hn
  clear h hn
  go_enter Tryd.func42, Tryd.ntmps42
  go_wp2_with fail
  go_loop [8] (fun i => ∃ k : Nat, k ≤ n ∧ i = .int .i64 (k : Int) ∧ Hid (∀ j, j < k → ((l.getD j 0 : Nat) : Int) ≠ z)) (fun i => n - (intOf i).toNat)
  case atStart => exact ⟨0, by omega, rfl, fun j hj => by omega⟩
  case round =>
    obtain ⟨k, hk, rfl, HT⟩ := hrel
    by_cases hlt : k < n
    · have hkl : k < l.length := by rw [← HN.out]; exact hlt
      have hc := HA.out.2 k (by simpa using hkl)
      have ez : (l.map fun n : Nat => (n : Int)).getD k 0 = ((l.getD k 0 : Nat) : Int) := by
        rw [List.getD_eq_getElem?_getD, List.getElem?_map, List.getElem?_eq_getElem hkl, List.getD_eq_getElem?_getD, List.getElem?_eq_getElem hkl]
        rfl
      rw [ez] at hc
      have HK : Hid (k + 1 ≤ n) := hlt
      have lk : (k : Int) < (n : Int) := by omega
      have lk0 : (0 : Int) ≤ (k : Int) := by omega
      by_cases he : ((l.getD k 0 : Nat) : Int) = z
      · have HY : Hid ((l.any fun p => decide ((p : Int) = z)) = true) := any_yes l z k hkl he
        obtain ⟨x, hx⟩ : ∃ x : Int, x = ((l.getD k 0 : Nat) : Int) := ⟨_, rfl⟩
        rw [← hx] at hc he
        subst he
        clear hx ez hkl
        go_wp2_with fail
        go_ret
        rw [HY.out]
        exact ⟨_, rfl, by simp, rfl⟩
      · have HZ : Hid (((l.getD k 0 : Nat) : Int) ≠ z) := he
        have HT2 : Hid (∀ j, j < k + 1 → ((l.getD j 0 : Nat) : Int) ≠ z) := by
          intro j hj
          rcases Nat.lt_or_ge j k with h' | h'
          · exact HT.out j h'
          · obtain rfl : j = k := by omega
            exact he
        obtain ⟨x, hx⟩ : ∃ x : Int, x = ((l.getD k 0 : Nat) : Int) := ⟨_, rfl⟩
        rw [← hx] at hc he
        have hne : (z == x) = false := by simp; intro e; exact he e.symm
        clear hx he ez hkl
        go_wp2_with fail
        go_round
        case rel => exact ⟨k + 1, HK.out, by go_num, HT2⟩
        case measure => have := HK.out; simp [intOf]; omega
    · have HY : Hid ((l.any fun p => decide ((p : Int) = z)) = false) := any_no l z (fun j hj => HT.out j (by have := HN.out; omega))
      go_wp2_with fail
      go_ret
      rw [HY.out]
      exact ⟨-1, rfl, by decide, rfl⟩

set_option maxHeartbeats 1000000 in
set_option maxRecDepth 100000 in
theorem containsInts (g n cap : Nat) (l : List Nat) (z : Int) (w : World) (h : At w g (l.map fun n : Nat => (n : Int))) (hn : n = l.length) (hm : n ≤ 1000) :
    Calls Tryd.prog 23 #[.slice (some ⟨g, 0, none⟩) n cap, .int .i64 z] w fun e w' => e = .returned (.bool (l.any fun p => decide ((p : Int) = z))) ∧ w = w' := by
  have hix := indexInts g n cap l z w h hn hm
  generalize (l.any fun p => decide ((p : Int) = z)) = b at hix
  clear h hn
  go_enter Tryd.func23, Tryd.ntmps23
  go_wp2_with fail
  refine hix.mono ?_
  rintro e w1 ⟨r, rfl, hr, rfl⟩
  clear hix
  go_wp2_with fail
  go_ret
  exact ⟨by simp [← hr], rfl⟩

end Go.Proofs.YtcaejndpmagfaaaDoor
