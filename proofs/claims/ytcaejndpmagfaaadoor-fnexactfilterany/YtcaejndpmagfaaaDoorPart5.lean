/-
  At every text, key and list of items the program's FilterAny answers what the specification answers; the list stands; no condition.
-/
import Derived.Test.YtcaejndpmagfaaaDoorPart1
import Derived.Test.YtcaejndpmagfaaaDoorPart2
import Derived.Test.YtcaejndpmagfaaaDoorPart3
import Derived.Test.YtcaejndpmagfaaaDoorPart4
import Derived.WalkKit
import Derived.Below
import Derived.Deep.OwnRows
import Derived.Lib.Builder
import Derived.Test.YtcaejndpmagfaaaDoorProg
import Derived.BigRegion
import Derived.Test.YtcaejndpmagfaaaDoorCards
import Derived.Test.YtcaejndpmagfaaaDoorTie
import Derived.ProofKit
import Derived.OpenShut
import Derived.ShutString
import Derived.ChangeOld
import Derived.ChangeVars
import Derived.Carry
import Derived.Deep.DeepHandedRow
import Derived.Lib.LaidTab
import Derived.SliceStrings
set_option linter.unusedVariables false
namespace Go.Proofs.YtcaejndpmagfaaaDoor
open Go.RowKit

set_option maxHeartbeats 2000000 in
set_option maxRecDepth 100000 in
theorem specL2To (k it : ByteArray) (below : Int) (w : World) (h1 : isSum k.data.toList = true) (h2 : isItem it.data.toList = true) (h3 : 1 ≤ below ∧ below ≤ 60000) :
    Calls Tryd.prog 40 #[.string k, .string it, .int .i64 below] w fun e w' => e = .returned (.int .i64 (filterTo k.data.toList it.data.toList below)) ∧ Below w.heap.size w w' := by
  have hks : k.size = 16 := by have := isSum_len h1; simpa using this
  have his := isItem_size h2
  have hsz : (k ++ (⟨#[32]⟩ : ByteArray) ++ it).size ≤ 1073741824 := by
    simp only [ByteArray.size_append, hks]
    have : (⟨#[32]⟩ : ByteArray).size = 1 := rfl
    omega
  have HF : Hid (filterTo k.data.toList it.data.toList below = (headOf (k ++ (⟨#[32]⟩ : ByteArray) ++ it).data.toList : Int) * below / 2147483648) := by
    show _ = _
    rw [filterTo_yes h1 h2 (by omega), keyItem_bytes]
  clear h1 h2
  go_enter Tryd.func40, Tryd.ntmps40
  go_wp2_with fail
  refine (specSum _ _ hsz).mono ?_
  rintro e w1 ⟨rfl, b1⟩
  have HX : Hid (isSum (⟨(sumB (k ++ (⟨#[32]⟩ : ByteArray) ++ it).data.toList).toArray⟩ : ByteArray).data.toList = true) := isSum_sumB _
  have hlt := headOf_lt (k ++ (⟨#[32]⟩ : ByteArray) ++ it).data.toList
  generalize (k ++ (⟨#[32]⟩ : ByteArray) ++ it).data.toList = t at HF HX hlt ⊢
  have hpl := place_lt (headOf t) below hlt h3
  go_wp2_with fail
  refine (specHead _ _ HX).mono ?_
  rintro e w2 ⟨rfl, rfl⟩
  rw [show hexN ((⟨(sumB t).toArray⟩ : ByteArray).data.toList.take 8) / 2 = headOf t from rfl]
  generalize headOf t = h at HF hlt hpl ⊢
  go_wp2
  go_ret
  rw [HF.out]
  exact ⟨rfl, b1⟩

end Go.Proofs.YtcaejndpmagfaaaDoor

set_option linter.unusedVariables false
namespace Go.Proofs.YtcaejndpmagfaaaDoor
open Go.RowKit

noncomputable def filterHas (s k it : List UInt8) : Bool :=
  match filterGet s with
  | none => false
  | some l => decide (l ≠ []) && isSum k && isItem it && l.any fun p => decide ((p : Int) = filterTo k it ((l.length : Int) * 37))
theorem filterHas_none {s k it : List UInt8} (h : filterGet s = none) : filterHas s k it = false := by rw [filterHas, h]
theorem filterHas_nil {s k it : List UInt8} (h : filterGet s = some []) : filterHas s k it = false := by rw [filterHas, h]; simp
theorem filterHas_no1 {s k it : List UInt8} (h : isSum k = false) : filterHas s k it = false := by
  rw [filterHas]
  split
  · rfl
  · simp [h]
theorem filterHas_no2 {s k it : List UInt8} (h : isItem it = false) : filterHas s k it = false := by
  rw [filterHas]
  split
  · rfl
  · simp [h]
theorem filterHas_yes {s k it : List UInt8} {l : List Nat} (h : filterGet s = some l) (hl : l ≠ []) (h1 : isSum k = true) (h2 : isItem it = true) : filterHas s k it = l.any fun p => decide ((p : Int) = filterTo k it ((l.length : Int) * 37)) := by
  rw [filterHas, h]
  simp [h1, h2, hl]
theorem any_yes (l : List Nat) (z : Int) (k : Nat) (hk : k < l.length) (h : ((l.getD k 0 : Nat) : Int) = z) : (l.any fun p => decide ((p : Int) = z)) = true := by
  rw [List.any_eq_true]
  refine ⟨l.getD k 0, ?_, by simpa using h⟩
  simp [List.getElem?_eq_getElem hk]
theorem any_no (l : List Nat) (z : Int) (h : ∀ j, j < l.length → ((l.getD j 0 : Nat) : Int) ≠ z) : (l.any fun p => decide ((p : Int) = z)) = false := by
  rw [List.any_eq_false]
  intro x hx
  obtain ⟨i, hi, rfl⟩ := List.mem_iff_getElem.1 hx
  have := h i hi
  rw [List.getD_eq_getElem?_getD, List.getElem?_eq_getElem hi] at this
  simpa using this
theorem filterGet_len2 {o : List UInt8} {l : List Nat} (h : filterGet o = some l) : l.length ≤ 40 ∧ l.length = (varGet o).1 := by
  unfold filterGet at h
  split at h
  · cases h
  · split at h
    · cases h
    · rename_i gaps hr
      unfold placesOf at h
      split at h
      · have e : sumsF 0 gaps = l := by simpa using h
        rw [← e, sumsF_length]
        have := riceGet_some hr
        have h2 := this.1
        simp only [getOk, Bool.and_eq_true, decide_eq_true_eq] at h2
        have h3 := this.2.1
        omega
      · cases h
theorem manyOf2_some {o : List UInt8} {l : List Nat} (h : filterGet o = some l) : manyOf2 o = l.length := by
  rw [manyOf2, h, (filterGet_len2 h).2]
  rfl

set_option maxHeartbeats 1000000 in
set_option maxRecDepth 100000 in
theorem indexInts (g n cap : Nat) (l : List Nat) (z : Int) (w : World) (h : At w g (l.map fun n : Nat => (n : Int))) (hn : n = l.length) (hm : n ≤ 1000) :
    Calls Tryd.prog 42 #[.slice (some ⟨g, 0, none⟩) n cap, .int .i64 z] w fun e w' => ∃ r : Int, e = .returned (.int .i64 r) ∧ decide (0 ≤ r) = (l.any fun p => decide ((p : Int) = z)) ∧ w = w' := by
  have HA : Hid (At w g (l.map fun n : Nat => (n : Int))) := h
  have HN : Hid (n = l.length) := hn
  clear h hn
  go_enter Tryd.func42, Tryd.ntmps42
  go_wp2_with fail
  go_loop [8] (fun i => ∃ k : Nat, k ≤ n ∧ i = .int .i64 (k : Int) ∧ Hid (∀ j, j < k → ((l.getD j 0 : Nat) : Int) ≠ z)) (fun i => n - (intOf i).toNat)
  case atStart => exact ⟨0, by omega, rfl, fun j hj => by omega⟩
  case round =>
    obtain ⟨k, hk, rfl, HT⟩ := hrel
    by_cases hlt : k < n
    · have hkl : k < l.length := by rw [← HN.out]; exact hlt
      have hc := HA.out.2 k (by simpa using hkl)
      have ez : (l.map fun n : Nat => (n : Int)).getD k 0 = ((l.getD k 0 : Nat) : Int) := by
        rw [List.getD_eq_getElem?_getD, List.getElem?_map, List.getElem?_eq_getElem hkl, List.getD_eq_getElem?_getD, List.getElem?_eq_getElem hkl]
        rfl
      rw [ez] at hc
      have HK : Hid (k + 1 ≤ n) := hlt
      have lk : (k : Int) < (n : Int) := by omega
      have lk0 : (0 : Int) ≤ (k : Int) := by omega
      by_cases he : ((l.getD k 0 : Nat) : Int) = z
      · have HY : Hid ((l.any fun p => decide ((p : Int) = z)) = true) := any_yes l z k hkl he
        obtain ⟨x, hx⟩ : ∃ x : Int, x = ((l.getD k 0 : Nat) : Int) := ⟨_, rfl⟩
        rw [← hx] at hc he
        subst he
        clear hx ez hkl
        go_wp2_with fail
        go_ret
        rw [HY.out]
        exact ⟨_, rfl, by simp, rfl⟩
      · have HZ : Hid (((l.getD k 0 : Nat) : Int) ≠ z) := he
        have HT2 : Hid (∀ j, j < k + 1 → ((l.getD j 0 : Nat) : Int) ≠ z) := by
          intro j hj
          rcases Nat.lt_or_ge j k with h' | h'
          · exact HT.out j h'
          · obtain rfl : j = k := by omega
            exact he
        obtain ⟨x, hx⟩ : ∃ x : Int, x = ((l.getD k 0 : Nat) : Int) := ⟨_, rfl⟩
        rw [← hx] at hc he
        have hne : (z == x) = false := by simp; intro e; exact he e.symm
        clear hx he ez hkl
        go_wp2_with fail
        go_round
        case rel => exact ⟨k + 1, HK.out, by go_num, HT2⟩
        case measure => have := HK.out; simp [intOf]; omega
    · have HY : Hid ((l.any fun p => decide ((p : Int) = z)) = false) := any_no l z (fun j hj => HT.out j (by have := HN.out; omega))
      go_wp2_with fail
      go_ret
      rw [HY.out]
      exact ⟨-1, rfl, by decide, rfl⟩

set_option maxHeartbeats 1000000 in
set_option maxRecDepth 100000 in
theorem containsInts (g n cap : Nat) (l : List Nat) (z : Int) (w : World) (h : At w g (l.map fun n : Nat => (n : Int))) (hn : n = l.length) (hm : n ≤ 1000) :
    Calls Tryd.prog 23 #[.slice (some ⟨g, 0, none⟩) n cap, .int .i64 z] w fun e w' => e = .returned (.bool (l.any fun p => decide ((p : Int) = z))) ∧ w = w' := by
  have hix := indexInts g n cap l z w h hn hm
  generalize (l.any fun p => decide ((p : Int) = z)) = b at hix
  clear h hn
  go_enter Tryd.func23, Tryd.ntmps23
  go_wp2_with fail
  refine hix.mono ?_
  rintro e w1 ⟨r, rfl, hr, rfl⟩
  clear hix
  go_wp2_with fail
  go_ret
  exact ⟨by simp [← hr], rfl⟩

end Go.Proofs.YtcaejndpmagfaaaDoor

set_option linter.unusedVariables false
namespace Go.Proofs.YtcaejndpmagfaaaDoor
open Go.RowKit

set_option maxHeartbeats 1000000 in
set_option maxRecDepth 100000 in
theorem implFilterHas (s k it : ByteArray) (w : World) (hs : s.size ≤ maxLen) (hK : RowG w shaK) :
    Calls Tryd.prog 8 #[.string s, .string k, .string it] w fun e w' => e = .returned (.bool (filterHas s.data.toList k.data.toList it.data.toList)) ∧ Below w.heap.size w w' := by
  have hget := implFilterGet s w hs
  have HK : Hid (RowG w shaK) := hK
  clear hK
  cases hfg : filterGet s.data.toList with
  | none =>
    rw [filterHas_none hfg]
    rw [hfg] at hget
    dsimp only [Option.isSome] at hget
    clear hfg
    go_enter Tryd.func8, Tryd.ntmps8
    go_wp2_with (go_at_call 15; refine hget.mono ?_; rintro e w1 ⟨v, rfl, g1, b1⟩; obtain rfl : v = .slice none 0 0 := g1)
    go_ret
    exact ⟨rfl, b1⟩
  | some l =>
    rw [hfg] at hget
    dsimp only [Option.isSome] at hget
    have hlen := filterGet_len2 hfg
    have hl40 := hlen.1
    clear hlen
    have HFG : Hid (filterGet s.data.toList = some l) := hfg
    have hget2 : Calls Tryd.prog 15 #[.string s] w fun e w' => ∃ g c n, e = .returned (.tuple #[.slice (some ⟨g, 0, none⟩) n c, .bool true]) ∧ n = l.length ∧ At w' g (l.map fun n : Nat => (n : Int)) ∧ Below w.heap.size w w' := by
      refine hget.mono ?_
      rintro e w1 ⟨v, rfl, g1, b1⟩
      obtain ⟨g, c, rfl⟩ := g1.1
      exact ⟨g, c, l.length, rfl, rfl, outRow_at g1, b1⟩
    clear hget hfg
    by_cases hl0 : l = []
    · rw [filterHas_nil (by rw [HFG.out, hl0])]
      have HL0 : Hid (l.length = 0) := by rw [hl0]; rfl
      clear hl0
      go_enter Tryd.func8, Tryd.ntmps8
      go_wp2_with (go_at_call 15; refine hget2.mono ?_; rintro e w1 ⟨g, c, n, rfl, hn, hat, b1⟩; rw [HL0.out] at hn; subst hn)
      go_ret
      exact ⟨rfl, b1⟩
    · cases h1 : isSum k.data.toList with
      | false =>
        rw [filterHas_no1 h1]
        have HL0 : Hid (l.length ≠ 0) := fun e => hl0 (List.length_eq_zero_iff.1 e)
        clear hl0
        go_enter Tryd.func8, Tryd.ntmps8
        go_wp2_with first
          | (go_at_call 15; refine hget2.mono ?_; rintro e w1 ⟨g, c, n, rfl, hn, hat, b1⟩; have hne : ((n : Int) == 0) = false := (by have := HL0.out; simp; omega); clear hn)
          | (go_at_call 21; refine (implSumOk _ _).mono ?_; rintro e w2 ⟨rfl, rfl⟩)
        go_ret
        exact ⟨rfl, b1⟩
      | true =>
        cases h2 : isItem it.data.toList with
        | false =>
          rw [filterHas_no2 h2]
          have HL0 : Hid (l.length ≠ 0) := fun e => hl0 (List.length_eq_zero_iff.1 e)
          clear hl0
          go_enter Tryd.func8, Tryd.ntmps8
          go_wp2_with first
            | (go_at_call 15; refine hget2.mono ?_; rintro e w1 ⟨g, c, n, rfl, hn, hat, b1⟩; have hne : ((n : Int) == 0) = false := (by have := HL0.out; simp; omega); clear hn)
            | (go_at_call 21; refine (implSumOk _ _).mono ?_; rintro e w2 ⟨rfl, rfl⟩)
            | (go_at_call 22; refine (implItemOk _ _).mono ?_; rintro e w2 ⟨rfl, rfl⟩)
          go_ret
          exact ⟨rfl, b1⟩
        | true =>
          rw [filterHas_yes HFG.out hl0 h1 h2]
          have HL0 : Hid (l.length ≠ 0) := fun e => hl0 (List.length_eq_zero_iff.1 e)
          obtain ⟨ln, hln⟩ : ∃ ln, ln = l.length := ⟨_, rfl⟩
          rw [← hln] at hl40 HL0 ⊢
          have hto := fun w' h' => implFilterTo k it ((ln : Int) * 37) w' h'
          generalize filterTo k.data.toList it.data.toList ((ln : Int) * 37) = z at hto ⊢
          have hcon := fun g c n w' h' hn' => containsInts g n c l z w' h' hn'
          generalize (l.any fun p => decide ((p : Int) = z)) = b at hcon ⊢
          have HLN : Hid (ln = l.length) := hln
          have hne : ((ln : Int) == 0) = false := by have := HL0.out; simp; omega
          clear hl0 hln
          go_enter Tryd.func8, Tryd.ntmps8
          go_wp2_with first
            | (go_at_call 15; refine hget2.mono ?_; rintro e w1 ⟨g, c, n, rfl, hn, hat, b1⟩; rw [← HLN.out] at hn; subst hn)
            | (go_at_call 21; refine (implSumOk _ _).mono ?_; rintro e w2 ⟨rfl, rfl⟩)
            | (go_at_call 22; refine (implItemOk _ _).mono ?_; rintro e w2 ⟨rfl, rfl⟩)
          have HB1 : Hid (Below w.heap.size w w1) := b1
          have HAT : Hid (At w1 g (l.map fun n : Nat => (n : Int))) := hat
          clear b1 hat
          refine (hto _ (HK.out.below HB1.out HK.out.lt)).mono ?_
          rintro e w2 ⟨rfl, b2⟩
          have HB2 : Hid (Below w.heap.size w w2) := HB1.out.trans (b2.mono HB1.out.size)
          have HAT2 : Hid (At w2 g (l.map fun n : Nat => (n : Int))) := HAT.out.below b2 HAT.out.1
          clear b2 hto
          go_wp2_with fail
          refine (hcon g c n _ HAT2.out HLN.out (by omega)).mono ?_
          rintro e w3 ⟨rfl, rfl⟩
          clear hcon
          go_wp2_with fail
          go_ret
          exact ⟨rfl, HB2.out⟩

end Go.Proofs.YtcaejndpmagfaaaDoor

set_option linter.unusedVariables false
namespace Go.Proofs.YtcaejndpmagfaaaDoor
open Go.RowKit

set_option maxHeartbeats 1000000 in
set_option maxRecDepth 100000 in
theorem specHas (s k it : ByteArray) (w : World) (hs : s.size ≤ 1048576) (h1 : isSum k.data.toList = true) (h2 : isItem it.data.toList = true) :
    Calls Tryd.prog 20 #[.string s, .string k, .string it] w fun e w' => e = .returned (.bool (filterHas s.data.toList k.data.toList it.data.toList)) ∧ Below w.heap.size w w' := by
  have hget := specPlaces s w hs
  cases hfg : filterGet s.data.toList with
  | none =>
    rw [filterHas_none hfg]
    rw [hfg] at hget
    dsimp only [Option.isSome] at hget
    generalize manyOf2 s.data.toList = mo at hget
    clear hfg h1 h2
    go_enter Tryd.func20, Tryd.ntmps20
    go_wp2_with (go_at_call 39; refine hget.mono ?_; rintro e w1 ⟨v, rfl, g1, b1⟩; obtain rfl : v = .slice none 0 0 := g1)
    go_ret
    exact ⟨rfl, b1⟩
  | some l =>
    rw [hfg, manyOf2_some hfg] at hget
    dsimp only [Option.isSome] at hget
    have hl40 := (filterGet_len2 hfg).1
    have hget2 : Calls Tryd.prog 39 #[.string s] w fun e w' => ∃ g c, e = .returned (.tuple #[.slice (some ⟨g, 0, none⟩) l.length c, .int .i64 ((l.length : Nat) : Int), .bool true]) ∧ At w' g (l.map fun n : Nat => (n : Int)) ∧ Below w.heap.size w w' := by
      refine hget.mono ?_
      rintro e w1 ⟨v, rfl, g1, b1⟩
      obtain ⟨g, c, rfl⟩ := g1.1
      exact ⟨g, c, rfl, outRow_at g1, b1⟩
    obtain ⟨ln, hln⟩ : ∃ ln, ln = l.length := ⟨_, rfl⟩
    rw [← hln] at hl40 hget2
    have HLN : Hid (ln = l.length) := hln
    clear hget
    by_cases hl0 : l = []
    · rw [filterHas_nil (by rw [hfg, hl0])]
      have hz : ((ln : Int) == 0) = true := by rw [hln, hl0]; rfl
      clear hl0 hln hfg h1 h2
      go_enter Tryd.func20, Tryd.ntmps20
      go_wp2_with (go_at_call 39; refine hget2.mono ?_; rintro e w1 ⟨g, c, rfl, hat, b1⟩)
      go_ret
      exact ⟨rfl, b1⟩
    · have hz0 : ln ≠ 0 := by rw [hln]; intro e; exact hl0 (List.length_eq_zero_iff.1 e)
      have hz : ((ln : Int) == 0) = false := by simp; omega
      rw [filterHas_yes hfg hl0 h1 h2, ← hln]
      have hto := fun w' => specL2To k it ((ln : Int) * 37) w' h1 h2 (by omega)
      generalize filterTo k.data.toList it.data.toList ((ln : Int) * 37) = z at hto ⊢
      obtain ⟨B, hB⟩ : ∃ B, B = (l.any fun p => decide ((p : Int) = z)) := ⟨_, rfl⟩
      rw [← hB]
      have HBB : Hid (B = (l.any fun p => decide ((p : Int) = z))) := hB
      clear hl0 hln hfg h1 h2 hB
      go_enter Tryd.func20, Tryd.ntmps20
      go_wp2_with (go_at_call 39; refine hget2.mono ?_; rintro e w1 ⟨g, c, rfl, hat, b1⟩)
      have HB1 : Hid (Below w.heap.size w w1) := b1
      have HAT : Hid (At w1 g (l.map fun n : Nat => (n : Int))) := hat
      clear b1 hat hget2
      refine (hto _).mono ?_
      rintro e w2 ⟨rfl, b2⟩
      have HB2 : Hid (Below w.heap.size w w2) := HB1.out.trans (b2.mono HB1.out.size)
      have HAT2 : Hid (At w2 g (l.map fun n : Nat => (n : Int))) := HAT.out.below b2 HAT.out.1
      clear b2 hto
      go_wp2_with fail
      go_loop [11] (fun i => ∃ k : Nat, k ≤ ln ∧ i = .int .i64 (k : Int) ∧ Hid (∀ j, j < k → ((l.getD j 0 : Nat) : Int) ≠ z)) (fun i => ln - (intOf i).toNat)
      case atStart => exact ⟨0, by omega, rfl, fun j hj => by omega⟩
      case round =>
        obtain ⟨k, hk, rfl, HT⟩ := hrel
        by_cases hlt : k < ln
        · have hkl : k < l.length := by rw [← HLN.out]; exact hlt
          have hc := HAT2.out.2 k (by simpa using hkl)
          have ez : (l.map fun n : Nat => (n : Int)).getD k 0 = ((l.getD k 0 : Nat) : Int) := by
            rw [List.getD_eq_getElem?_getD, List.getElem?_map, List.getElem?_eq_getElem hkl, List.getD_eq_getElem?_getD, List.getElem?_eq_getElem hkl]
            rfl
          rw [ez] at hc
          have HK : Hid (k + 1 ≤ ln) := hlt
          have lk : (k : Int) < (ln : Int) := by omega
          have lk0 : (0 : Int) ≤ (k : Int) := by omega
          by_cases he : ((l.getD k 0 : Nat) : Int) = z
          · have HY : Hid (B = true) := by rw [HBB.out]; exact any_yes l z k hkl he
            obtain ⟨x, hx⟩ : ∃ x : Int, x = ((l.getD k 0 : Nat) : Int) := ⟨_, rfl⟩
            rw [← hx] at hc he
            subst he
            clear hx ez hkl
            go_wp2_with fail
            go_ret
            rw [HY.out]
            exact ⟨rfl, HB2.out⟩
          · have HT2 : Hid (∀ j, j < k + 1 → ((l.getD j 0 : Nat) : Int) ≠ z) := by
              intro j hj
              rcases Nat.lt_or_ge j k with h' | h'
              · exact HT.out j h'
              · obtain rfl : j = k := by omega
                exact he
            obtain ⟨x, hx⟩ : ∃ x : Int, x = ((l.getD k 0 : Nat) : Int) := ⟨_, rfl⟩
            rw [← hx] at hc he
            have hne : (x == z) = false := by simp; exact he
            clear hx he ez hkl
            go_wp2_with fail
            go_round
            case rel => exact ⟨k + 1, HK.out, by go_num, HT2⟩
            case measure => have := HK.out; simp [intOf]; omega
        · have HY : Hid (B = false) := by rw [HBB.out]; exact any_no l z (fun j hj => HT.out j (by have := HLN.out; omega))
          go_wp2_with fail
          go_ret
          rw [HY.out]
          exact ⟨rfl, HB2.out⟩

set_option maxHeartbeats 1000000 in
set_option maxRecDepth 100000 in
theorem specFilterHas (s k it : ByteArray) (w : World) (hs : s.size ≤ 1048576) (hk : k.size ≤ maxLen) (hi : it.size ≤ maxLen) :
    Calls Tryd.prog 7 #[.string s, .string k, .string it] w fun e w' => e = .returned (.bool (filterHas s.data.toList k.data.toList it.data.toList)) ∧ Below w.heap.size w w' := by
  cases h1 : isSum k.data.toList with
  | false =>
    rw [filterHas_no1 h1]
    go_enter Tryd.func7, Tryd.ntmps7
    go_wp2_with (go_at_call 18; refine (specIsSum _ _ hk).mono ?_; rintro e w1 ⟨rfl, rfl⟩)
    go_ret
    exact ⟨rfl, Below.refl _ _⟩
  | true =>
    cases h2 : isItem it.data.toList with
    | false =>
      rw [filterHas_no2 h2]
      go_enter Tryd.func7, Tryd.ntmps7
      go_wp2_with (first | (go_at_call 18; refine (specIsSum _ _ hk).mono ?_; rintro e w1 ⟨rfl, rfl⟩) | (go_at_call 19; refine (specItemOk _ _ hi).mono ?_; rintro e w1 ⟨rfl, rfl⟩))
      go_ret
      exact ⟨rfl, Below.refl _ _⟩
    | true =>
      have hh := fun w' => specHas s k it w' hs h1 h2
      generalize filterHas s.data.toList k.data.toList it.data.toList = B at hh ⊢
      go_enter Tryd.func7, Tryd.ntmps7
      go_wp2_with (first | (go_at_call 18; refine (specIsSum _ _ hk).mono ?_; rintro e w1 ⟨rfl, rfl⟩) | (go_at_call 19; refine (specItemOk _ _ hi).mono ?_; rintro e w1 ⟨rfl, rfl⟩) | (go_at_call 20; refine (hh _).mono ?_; rintro e w1 ⟨rfl, b1⟩))
      go_ret
      exact ⟨rfl, b1⟩

end Go.Proofs.YtcaejndpmagfaaaDoor

set_option linter.unusedVariables false
namespace Go.Proofs.YtcaejndpmagfaaaDoor
open Go.RowKit

/-- A slice of texts that came in. -/
def IsTexts (w : World) (a : Option Addr) (len cap : Nat) (ss : List ByteArray) : Prop :=
  (a = none ∧ len = 0 ∧ cap = 0 ∧ ss = []) ∨
  ∃ x, a = some x ∧ len ≤ cap ∧ cap ≤ maxLen ∧ ss.length = cap ∧ (∀ i, i < ss.length → w.cell? (x.add i) = some (.string (ss.getD i ByteArray.empty))) ∧ ∀ s ∈ ss, s.size ≤ maxLen
theorem IsTexts.len {w : World} {a : Option Addr} {len cap : Nat} {ss : List ByteArray} (h : IsTexts w a len cap ss) : len = (ss.take len).length := by
  rcases h with ⟨_, hl, _, hz⟩ | ⟨x, hx, hlc, _, hzl, _⟩
  · rw [hl, hz]; rfl
  · simp; omega
/-- The texts lie there. -/
def AtS (w : World) (g : Nat) (ss : List ByteArray) : Prop := g < w.heap.size ∧ ∀ i, i < ss.length → w.cell? ⟨g, i, none⟩ = some (.string (ss.getD i ByteArray.empty))
theorem AtS.below {w w' : World} {g B : Nat} {ss : List ByteArray} (h : AtS w g ss) (hb : Below B w w') (hg : g < B) : AtS w' g ss :=
  ⟨Nat.lt_of_lt_of_le h.1 hb.size, fun i hi => by rw [hb.cell (p := ⟨g, i, none⟩) hg]; exact h.2 i hi⟩
theorem AtS.drew {w : World} {g : Nat} {ss : List ByteArray} (h : AtS w g ss) : AtS w.drew g ss := h
def sCells (l : List ByteArray) : Array Value := (l.map Value.string).toArray
def RowS (w : World) (g : Nat) (l : List ByteArray) : Prop := w.heap[g]? = some (.cells (sCells l) 9 (0, 0))
theorem infoStr : (Tryd.prog.info? 9).map (fun i => (i.zero, i.size, i.bytes)) = some (some (.string ⟨#[]⟩), 1, 16) := by kernel_rfl
theorem madeCells_S (n : Nat) : madeCells #[.string ⟨#[]⟩] n = sCells (List.replicate n ⟨#[]⟩) := by
  unfold madeCells sCells
  apply Array.ext
  · simp
  · intro i h1 h2
    simp [Nat.mod_one]
theorem makeS (n : Nat) (hn : n ≤ 1099511627776) (w : World) : (Instr.makeSlice 23 (.int .i64 (n : Int)) (.int .i64 (n : Int))).run Tryd.prog w = .ok (.slice (some ⟨w.heap.size, 0, none⟩) n n) (w.alloc (.cells (sCells (List.replicate n ⟨#[]⟩)) 9)) := by
  rw [← madeCells_S]
  exact run_make_row' 23 9 (.string ⟨#[]⟩) 16 Tryd.underlying23 infoStr rfl .i64 .i64 n (by omega) (by omega) w
theorem makeCapS (n : Nat) (hn : n ≤ 1099511627776) (w : World) : (Instr.makeSlice 23 (.int .i64 0) (.int .i64 (n : Int))).run Tryd.prog w = .ok (.slice (some ⟨w.heap.size, 0, none⟩) 0 n) (w.alloc (.cells (sCells (List.replicate n ⟨#[]⟩)) 9)) := by
  obtain ⟨i, hi, hz, hs, hb⟩ := info_parts infoStr
  have hb' : (i.bytes : Int) * (n : Int) ≤ 281474976710656 := by rw [hb]; omega
  have hr := run_make (P := Tryd.prog) w 23 9 i (.string ⟨#[]⟩) Tryd.underlying23 hi hz .i64 .i64 0 (n : Int) (by omega) (by omega) hb' (by omega)
  simp only [Int.toNat_natCast, hs, Nat.mul_one, Value.cells, Int.toNat_zero] at hr
  rw [← madeCells_S]
  exact hr
theorem RowS.lt {w : World} {g : Nat} {l : List ByteArray} (h : RowS w g l) : g < w.heap.size := by
  rcases Nat.lt_or_ge g w.heap.size with h' | h'
  · exact h'
  · simp [RowS, Array.getElem?_eq_none h'] at h
theorem RowS.cell {w : World} {g : Nat} {l : List ByteArray} (h : RowS w g l) (i : Nat) (hi : i < l.length) : w.cell? ⟨g, i, none⟩ = some (.string (l.getD i ByteArray.empty)) := by
  rw [Lib.cell_of_heap h]
  simp [sCells, List.getElem?_eq_getElem hi]
theorem RowS.at {w : World} {g : Nat} {l : List ByteArray} (h : RowS w g l) : AtS w g l := ⟨h.lt, h.cell⟩
theorem RowS.frozen {w : World} {g : Nat} {l : List ByteArray} (h : RowS w g l) (i : Nat) : w.frozen? ⟨g, i, none⟩ = false := Lib.frozen_of_heap h i
theorem RowS.set {w : World} {g : Nat} {l : List ByteArray} (h : RowS w g l) (i : Nat) (v : ByteArray) : RowS (w.setCell ⟨g, i, none⟩ (.string v)) g (l.set i v) := by
  unfold RowS at h ⊢
  simp only [World.setCell, Array.getElem?_modify, h]
  simp [sCells, List.map_set]
theorem RowS.below {w w' : World} {g B : Nat} {l : List ByteArray} (h : RowS w g l) (hb : Below B w w') (hg : g < B) : RowS w' g l := by
  unfold RowS at h ⊢; rw [hb.block g hg]; exact h
theorem set_nextS (f : List ByteArray) (n k : Nat) (hk : k < f.length) (hn : k < n) : (f.take k ++ List.replicate (n - k) (⟨#[]⟩ : ByteArray)).set k (f.getD k ByteArray.empty) = f.take (k + 1) ++ List.replicate (n - (k + 1)) (⟨#[]⟩ : ByteArray) := by
  have hl : (f.take k).length = k := by simp; omega
  rw [List.set_append_right _ _ (by omega), hl, Nat.sub_self, show n - k = (n - (k + 1)) + 1 from by omega, List.replicate_succ, List.set_cons_zero]
  have e1 : f.take (k + 1) = f.take k ++ [f[k]] := by rw [List.take_add_one, List.getElem?_eq_getElem hk]; rfl
  have e2 : f.getD k ByteArray.empty = f[k] := by rw [List.getD_eq_getElem?_getD, List.getElem?_eq_getElem hk]; rfl
  rw [e1, e2, List.append_assoc]
  rfl

/-- A row of texts of the call's own. -/
def SRow (B : Nat) (v : Value) (ss : List ByteArray) (w : World) : Prop := (∃ g cap, v = .slice (some ⟨g, 0, none⟩) ss.length cap) ∧ w.ownsRow B 9 1 v ss.length (ss.map Value.string)
theorem srow_new (w : World) : SRow w.heap.size (.slice (some ⟨w.heap.size, 0, none⟩) 0 0) [] (w.alloc (.cells #[] 9)) :=
  ⟨⟨_, _, rfl⟩, rfl, .inr ⟨_, _, #[], rfl, Nat.le_refl _, heap_alloc_new w _, Nat.le_refl _, by unfold maxLen; omega, rfl, rfl⟩⟩
theorem srow_cap (w : World) (n : Nat) (hn : n ≤ 1000000000) : SRow w.heap.size (.slice (some ⟨w.heap.size, 0, none⟩) 0 n) [] (w.alloc (.cells (sCells (List.replicate n ⟨#[]⟩)) 9)) :=
  ⟨⟨_, _, rfl⟩, rfl, .inr ⟨_, _, _, rfl, Nat.le_refl _, heap_alloc_new w _, Nat.zero_le _, by unfold maxLen; omega, by simp [sCells], rfl⟩⟩
theorem SRow.block {B : Nat} {v : Value} {ss : List ByteArray} {w : World} (h : SRow B v ss w) : ∃ g cap cur, v = .slice (some ⟨g, 0, none⟩) ss.length cap ∧ B ≤ g ∧ g < w.heap.size ∧ w.heap[g]? = some (.cells cur 9 (0, 0)) ∧ cur.toList.take ss.length = ss.map Value.string := by
  obtain ⟨⟨g, cap, rfl⟩, hl, h2⟩ := h
  rcases h2 with ⟨h2, _⟩ | ⟨g', cap', cur, hv, h3, h4, h5, h6, h7, h8⟩
  · cases h2
  · simp only [Value.slice.injEq, Option.some.injEq, Addr.mk.injEq, and_true] at hv
    obtain ⟨rfl, _, rfl⟩ := hv
    exact ⟨g, cap, cur, rfl, h3, (Array.getElem?_eq_some_iff.1 h4).1, h4, by simpa using h8⟩
theorem SRow.at {B g n cap : Nat} {ss : List ByteArray} {w : World} (h : SRow B (.slice (some ⟨g, 0, none⟩) n cap) ss w) : AtS w g ss ∧ n = ss.length ∧ B ≤ g := by
  obtain ⟨g', cap', cur, hv, h1, h2, h3, h4⟩ := h.block
  simp only [Value.slice.injEq, Option.some.injEq, Addr.mk.injEq, and_true] at hv
  obtain ⟨rfl, rfl, rfl⟩ := hv
  refine ⟨⟨h2, fun i hi => ?_⟩, rfl, h1⟩
  rw [Lib.cell_of_heap h3]
  have : cur.toList[i]? = (ss.map Value.string)[i]? := by rw [← h4, List.getElem?_take]; simp [hi]
  rw [← Array.getElem?_toList, this]
  simp [List.getElem?_eq_getElem hi]
theorem SRow.keep {B : Nat} {v : Value} {ss : List ByteArray} {w w' : World} (h : SRow B v ss w) (hk : ∀ g, B ≤ g → g < w.heap.size → w'.heap[g]? = w.heap[g]?) : SRow B v ss w' := by
  obtain ⟨g, cap, cur, rfl, h1, h2, h3, h4⟩ := h.block
  refine ⟨⟨g, cap, rfl⟩, h.2.1, ?_⟩
  rcases h.2.2 with h5 | ⟨g', cap', cur', hv, h6, h7, h8⟩
  · exact .inl h5
  · refine .inr ⟨g', cap', cur', hv, h6, ?_, h8⟩
    rw [hk g' h6 (Array.getElem?_eq_some_iff.1 h7).1]
    exact h7
theorem SRow.below {B C : Nat} {v : Value} {ss : List ByteArray} {w w' : World} (h : SRow B v ss w) (hb : Below w.heap.size w w') : SRow B v ss w' := h.keep (fun g _ hg => hb.block g hg)
theorem SRow.mono {B C : Nat} {v : Value} {ss : List ByteArray} {w : World} (h : SRow B v ss w) (hC : C ≤ B) : SRow C v ss w := by
  refine ⟨h.1, h.2.1, ?_⟩
  rcases h.2.2 with h5 | ⟨g', cap', cur', hv, h6, h7⟩
  · exact .inl h5
  · exact .inr ⟨g', cap', cur', hv, by omega, h7⟩

end Go.Proofs.YtcaejndpmagfaaaDoor

set_option linter.unusedVariables false
namespace Go.Proofs.YtcaejndpmagfaaaDoor
open Go.RowKit

def itemsOkB (ss : List ByteArray) : Bool := decide (ss.length ≤ 40) && ss.all fun s => isItem s.data.toList
theorem itemsOk_len {ss : List ByteArray} (h : itemsOkB ss = true) : ss.length ≤ 40 := by
  simp only [itemsOkB, Bool.and_eq_true, decide_eq_true_eq] at h
  exact h.1
theorem itemsOk_at {ss : List ByteArray} (h : itemsOkB ss = true) (i : Nat) (hi : i < ss.length) : isItem (ss.getD i ByteArray.empty).data.toList = true := by
  simp only [itemsOkB, Bool.and_eq_true, List.all_eq_true] at h
  refine h.2 _ ?_
  simp [List.getElem?_eq_getElem hi]
theorem itemsOk_no {ss : List ByteArray} (i : Nat) (hi : i < ss.length) (h : isItem (ss.getD i ByteArray.empty).data.toList = false) : itemsOkB ss = false := by
  cases hh : itemsOkB ss with
  | false => rfl
  | true => rw [itemsOk_at hh i hi] at h; cases h
theorem itemsOk_yes {ss : List ByteArray} (h1 : ss.length ≤ 40) (h2 : ∀ i, i < ss.length → isItem (ss.getD i ByteArray.empty).data.toList = true) : itemsOkB ss = true := by
  simp only [itemsOkB, Bool.and_eq_true, List.all_eq_true, decide_eq_true_eq]
  refine ⟨h1, fun s hs => ?_⟩
  obtain ⟨i, hi, rfl⟩ := List.mem_iff_getElem.1 hs
  have := h2 i hi
  rw [List.getD_eq_getElem?_getD, List.getElem?_eq_getElem hi] at this
  exact this

set_option maxHeartbeats 1000000 in
set_option maxRecDepth 100000 in
theorem implItemsOk (g n cap : Nat) (ss : List ByteArray) (w : World) (h : AtS w g ss) (hn : n = ss.length) :
    Calls Tryd.prog 25 #[.slice (some ⟨g, 0, none⟩) n cap] w fun e w' => e = .returned (.bool (itemsOkB ss)) ∧ w = w' := by
  have HA : Hid (AtS w g ss) := h
  have HN : Hid (n = ss.length) := hn
  clear h hn
  by_cases h40 : (40 : Int) < (n : Int)
  · have HNO : Hid (itemsOkB ss = false) := by
      show _ = _
      cases hh : itemsOkB ss with
      | false => rfl
      | true => have := itemsOk_len hh; have := HN.out; omega
    rw [HNO.out]
    go_enter Tryd.func25, Tryd.ntmps25
    go_wp2_with fail
    go_ret
    exact ⟨rfl, rfl⟩
  · have hn40 : n ≤ 40 := by omega
    go_enter Tryd.func25, Tryd.ntmps25
    go_wp2_with fail
    go_loop [10] (fun i => ∃ k : Nat, k ≤ n ∧ i = .int .i64 (k : Int) ∧ Hid (∀ j, j < k → isItem (ss.getD j ByteArray.empty).data.toList = true)) (fun i => n - (intOf i).toNat)
    case atStart => exact ⟨0, by omega, rfl, fun j hj => by omega⟩
    case round =>
      obtain ⟨k, hk, rfl, HT⟩ := hrel
      by_cases hlt : k < n
      · have HK : Hid (k + 1 ≤ n) := hlt
        have hc := HA.out.2 k (by rw [← HN.out]; exact hlt)
        have lk : (k : Int) < (n : Int) := by omega
        obtain ⟨z, hz⟩ : ∃ z, z = ss.getD k ByteArray.empty := ⟨_, rfl⟩
        rw [← hz] at hc
        have HZ : Hid (z = ss.getD k ByteArray.empty) := hz
        clear hz
        cases hit : isItem z.data.toList with
        | true =>
          have HIT : Hid (isItem z.data.toList = true) := hit
          go_wp2_with (go_at_call 22; refine (implItemOk _ _).mono ?_; rintro e w1 ⟨rfl, rfl⟩)
          go_round
          case rel =>
            refine ⟨k + 1, HK.out, by go_num, fun j hj => ?_⟩
            rcases Nat.lt_or_ge j k with h' | h'
            · exact HT.out j h'
            · obtain rfl : j = k := by omega
              rw [← HZ.out]; exact HIT.out
          case measure => have := HK.out; simp [intOf]; omega
        | false =>
          have HNO : Hid (itemsOkB ss = false) := itemsOk_no k (by rw [← HN.out]; exact hlt) (by rw [← HZ.out]; exact hit)
          go_wp2_with (go_at_call 22; refine (implItemOk _ _).mono ?_; rintro e w1 ⟨rfl, rfl⟩)
          go_ret
          rw [HNO.out]
          exact ⟨rfl, rfl⟩
      · have HY : Hid (itemsOkB ss = true) := itemsOk_yes (by rw [← HN.out]; exact hn40) (fun i hi => HT.out i (by have := HN.out; omega))
        go_wp2_with fail
        go_ret
        rw [HY.out]
        exact ⟨rfl, rfl⟩

set_option maxHeartbeats 1000000 in
set_option maxRecDepth 100000 in
theorem specItems (g n cap : Nat) (ss : List ByteArray) (w : World) (h : AtS w g ss) (hn : n = ss.length) (hm : n ≤ 1073741824) (hs : ∀ i, i < ss.length → (ss.getD i ByteArray.empty).size ≤ maxLen) :
    Calls Tryd.prog 24 #[.slice (some ⟨g, 0, none⟩) n cap] w fun e w' => e = .returned (.bool (itemsOkB ss)) ∧ w = w' := by
  have HA : Hid (AtS w g ss) := h
  have HN : Hid (n = ss.length) := hn
  have HS : Hid (∀ i, i < ss.length → (ss.getD i ByteArray.empty).size ≤ maxLen) := hs
  clear h hn hs
  go_enter Tryd.func24, Tryd.ntmps24
  go_wp2_with fail
  go_loop [3] (fun i => ∃ k : Nat, k ≤ n ∧ i = .int .i64 (k : Int) ∧ Hid (∀ j, j < k → isItem (ss.getD j ByteArray.empty).data.toList = true)) (fun i => n - (intOf i).toNat)
  case atStart => exact ⟨0, by omega, rfl, fun j hj => by omega⟩
  case round =>
    obtain ⟨k, hk, rfl, HT⟩ := hrel
    by_cases hlt : k < n
    · have HK : Hid (k + 1 ≤ n) := hlt
      have hc := HA.out.2 k (by rw [← HN.out]; exact hlt)
      have hsz := HS.out k (by rw [← HN.out]; exact hlt)
      have lk : (k : Int) < (n : Int) := by omega
      obtain ⟨z, hz⟩ : ∃ z, z = ss.getD k ByteArray.empty := ⟨_, rfl⟩
      rw [← hz] at hc hsz
      have HZ : Hid (z = ss.getD k ByteArray.empty) := hz
      clear hz
      cases hit : isItem z.data.toList with
      | true =>
        have HIT : Hid (isItem z.data.toList = true) := hit
        go_wp2_with (go_at_call 19; refine (specItemOk _ _ hsz).mono ?_; rintro e w1 ⟨rfl, rfl⟩)
        go_round
        case rel =>
          refine ⟨k + 1, HK.out, by go_num, fun j hj => ?_⟩
          rcases Nat.lt_or_ge j k with h' | h'
          · exact HT.out j h'
          · obtain rfl : j = k := by omega
            rw [← HZ.out]; exact HIT.out
        case measure => have := HK.out; simp [intOf]; omega
      | false =>
        have HNO : Hid (itemsOkB ss = false) := itemsOk_no k (by rw [← HN.out]; exact hlt) (by rw [← HZ.out]; exact hit)
        go_wp2_with (go_at_call 19; refine (specItemOk _ _ hsz).mono ?_; rintro e w1 ⟨rfl, rfl⟩)
        go_ret
        rw [HNO.out]
        exact ⟨rfl, rfl⟩
    · have HY : Hid (itemsOkB ss = decide (n ≤ 40)) := by
        show _ = _
        by_cases h4 : n ≤ 40
        · rw [itemsOk_yes (by rw [← HN.out]; exact h4) (fun i hi => HT.out i (by have := HN.out; omega))]
          simp [h4]
        · cases hh : itemsOkB ss with
          | false => simp [h4]
          | true => have := itemsOk_len hh; have := HN.out; omega
      go_wp2_with fail
      go_ret
      rw [HY.out]
      exact ⟨by simp; omega, rfl⟩

end Go.Proofs.YtcaejndpmagfaaaDoor

set_option linter.unusedVariables false
namespace Go.Proofs.YtcaejndpmagfaaaDoor
open Go.RowKit

noncomputable def filterAny (s k : List UInt8) (ss : List ByteArray) : Bool := itemsOkB ss && ss.any fun it => filterHas s k it.data.toList
theorem filterAny_no {s k : List UInt8} {ss : List ByteArray} (h : itemsOkB ss = false) : filterAny s k ss = false := by rw [filterAny, h]; rfl
theorem filterAny_no1 {s k : List UInt8} {ss : List ByteArray} (h : isSum k = false) : filterAny s k ss = false := by
  rw [filterAny]
  have : (ss.any fun it => filterHas s k it.data.toList) = false := by
    rw [List.any_eq_false]
    intro x _
    rw [filterHas_no1 h]
    decide
  rw [this, Bool.and_false]
theorem filterAny_yes {s k : List UInt8} {ss : List ByteArray} (h : itemsOkB ss = true) (i : Nat) (hi : i < ss.length) (hh : filterHas s k (ss.getD i ByteArray.empty).data.toList = true) : filterAny s k ss = true := by
  rw [filterAny, h, Bool.true_and, List.any_eq_true]
  refine ⟨ss.getD i ByteArray.empty, ?_, hh⟩
  simp [List.getElem?_eq_getElem hi]
theorem filterAny_none {s k : List UInt8} {ss : List ByteArray} (hh : ∀ i, i < ss.length → filterHas s k (ss.getD i ByteArray.empty).data.toList = false) : filterAny s k ss = false := by
  have : (ss.any fun it => filterHas s k it.data.toList) = false := by
    rw [List.any_eq_false]
    intro x hx
    obtain ⟨i, hi, rfl⟩ := List.mem_iff_getElem.1 hx
    have := hh i hi
    rw [List.getD_eq_getElem?_getD, List.getElem?_eq_getElem hi] at this
    simpa using this
  rw [filterAny, this, Bool.and_false]

set_option maxHeartbeats 1000000 in
set_option maxRecDepth 100000 in
theorem implFilterAny (g n cap : Nat) (ss : List ByteArray) (s k : ByteArray) (w : World) (h : AtS w g ss) (hn : n = ss.length) (hs : s.size ≤ maxLen) (hK : RowG w shaK) :
    Calls Tryd.prog 12 #[.string s, .string k, .slice (some ⟨g, 0, none⟩) n cap] w fun e w' => e = .returned (.bool (filterAny s.data.toList k.data.toList ss)) ∧ Below w.heap.size w w' := by
  have hit := implItemsOk g n cap ss w h hn
  cases hok : itemsOkB ss with
  | false =>
    rw [hok] at hit
    rw [filterAny_no hok]
    clear hok h hn hK
    go_enter Tryd.func12, Tryd.ntmps12
    go_wp2_with (go_at_call 25; refine hit.mono ?_; rintro e w1 ⟨rfl, rfl⟩)
    go_ret
    exact ⟨rfl, Below.refl _ _⟩
  | true =>
    rw [hok] at hit
    have hn40 : n ≤ 40 := by rw [hn]; exact itemsOk_len hok
    have HA : Hid (AtS w g ss) := h
    have HN : Hid (n = ss.length) := hn
    have HKG : Hid (RowG w shaK) := hK
    have HOK : Hid (itemsOkB ss = true) := hok
    obtain ⟨B, hB⟩ : ∃ B, B = filterAny s.data.toList k.data.toList ss := ⟨_, rfl⟩
    rw [← hB]
    have HBB : Hid (B = filterAny s.data.toList k.data.toList ss) := hB
    clear hok h hn hK hB
    go_enter Tryd.func12, Tryd.ntmps12
    go_wp2_with (go_at_call 25; refine hit.mono ?_; rintro e w1 ⟨rfl, rfl⟩)
    clear hit
    go_loopw [14] (fun i wr => ∃ j : Nat, j ≤ n ∧ i = .int .i64 (j : Int) ∧ Hid (∀ q, q < j → filterHas s.data.toList k.data.toList (ss.getD q ByteArray.empty).data.toList = false) ∧ Hid (Below w.heap.size w wr)) (fun i _ => n - (intOf i).toNat)
    case atStart => exact ⟨0, by omega, rfl, fun q hq => by omega, Below.refl _ _⟩
    case round =>
      obtain ⟨j, hj, rfl, HT, HB⟩ := hrel
      by_cases hlt : j < n
      · have hjl : j < ss.length := by rw [← HN.out]; exact hlt
        have hc : wr.cell? ⟨g, j, none⟩ = some (.string (ss.getD j ByteArray.empty)) := by
          rw [HB.out.cell (p := ⟨g, j, none⟩) HA.out.1]
          exact HA.out.2 j hjl
        have hhas := implFilterHas s k (ss.getD j ByteArray.empty) wr hs (HKG.out.below HB.out HKG.out.lt)
        have HY : Hid (filterHas s.data.toList k.data.toList (ss.getD j ByteArray.empty).data.toList = true → B = true) := fun hh => by rw [HBB.out]; exact filterAny_yes HOK.out j hjl hh
        have HT2 : Hid (filterHas s.data.toList k.data.toList (ss.getD j ByteArray.empty).data.toList = false → ∀ q, q < j + 1 → filterHas s.data.toList k.data.toList (ss.getD q ByteArray.empty).data.toList = false) := by
          intro hh q hq
          rcases Nat.lt_or_ge q j with h' | h'
          · exact HT.out q h'
          · obtain rfl : q = j := by omega
            exact hh
        generalize filterHas s.data.toList k.data.toList (ss.getD j ByteArray.empty).data.toList = fh at hhas HY HT2
        generalize ss.getD j ByteArray.empty = it at hc hhas
        have HJ : Hid (j + 1 ≤ n) := hlt
        have lj : (j : Int) < (n : Int) := by omega
        have lj0 : (0 : Int) ≤ (j : Int) := by omega
        clear hjl
        cases fh with
        | true =>
          have HY2 : Hid (B = true) := HY.out rfl
          clear HY HT2
          go_wp2_with (go_at_call 8; refine hhas.mono ?_; rintro e w1 ⟨rfl, b1⟩)
          go_ret
          rw [HY2.out]
          exact ⟨rfl, HB.out.trans (b1.mono HB.out.size)⟩
        | false =>
          have HT3 : Hid (∀ q, q < j + 1 → filterHas s.data.toList k.data.toList (ss.getD q ByteArray.empty).data.toList = false) := HT2.out rfl
          clear HY HT2
          go_wp2_with (go_at_call 8; refine hhas.mono ?_; rintro e w1 ⟨rfl, b1⟩)
          have HB1 : Hid (Below w.heap.size w w1) := HB.out.trans (b1.mono HB.out.size)
          clear b1
          go_roundw
          case rel => exact ⟨j + 1, HJ.out, by go_num, HT3, HB1⟩
          case measure => have := HJ.out; simp [intOf]; omega
      · have HY : Hid (B = false) := by rw [HBB.out]; exact filterAny_none (fun i hi => HT.out i (by have := HN.out; omega))
        go_wp2_with fail
        go_ret
        rw [HY.out]
        exact ⟨rfl, HB.out⟩

set_option maxHeartbeats 1000000 in
set_option maxRecDepth 100000 in
theorem specFilterAny (g n cap : Nat) (ss : List ByteArray) (s k : ByteArray) (w : World) (h : AtS w g ss) (hn : n = ss.length) (hm : n ≤ 1073741824) (hz : ∀ i, i < ss.length → (ss.getD i ByteArray.empty).size ≤ maxLen) (hs : s.size ≤ 1048576) (hk : k.size ≤ maxLen) :
    Calls Tryd.prog 10 #[.string s, .string k, .slice (some ⟨g, 0, none⟩) n cap] w fun e w' => e = .returned (.bool (filterAny s.data.toList k.data.toList ss)) ∧ Below w.heap.size w w' := by
  have hit := specItems g n cap ss w h hn hm hz
  cases h1 : isSum k.data.toList with
  | false =>
    rw [filterAny_no1 h1]
    clear h hn hit
    go_enter Tryd.func10, Tryd.ntmps10
    go_wp2_with (go_at_call 18; refine (specIsSum _ _ hk).mono ?_; rintro e w1 ⟨rfl, rfl⟩)
    go_ret
    exact ⟨rfl, Below.refl _ _⟩
  | true =>
  cases hok : itemsOkB ss with
  | false =>
    rw [hok] at hit
    rw [filterAny_no hok]
    clear hok h hn
    go_enter Tryd.func10, Tryd.ntmps10
    go_wp2_with first
      | (go_at_call 18; refine (specIsSum _ _ hk).mono ?_; rintro e w1 ⟨rfl, rfl⟩)
      | (go_at_call 24; refine hit.mono ?_; rintro e w1 ⟨rfl, rfl⟩)
    go_ret
    exact ⟨rfl, Below.refl _ _⟩
  | true =>
    rw [hok] at hit
    have hn40 : n ≤ 40 := by rw [hn]; exact itemsOk_len hok
    have HA : Hid (AtS w g ss) := h
    have HN : Hid (n = ss.length) := hn
    have HOK : Hid (itemsOkB ss = true) := hok
    have H1 : Hid (isSum k.data.toList = true) := h1
    obtain ⟨B, hB⟩ : ∃ B, B = filterAny s.data.toList k.data.toList ss := ⟨_, rfl⟩
    rw [← hB]
    have HBB : Hid (B = filterAny s.data.toList k.data.toList ss) := hB
    clear hok h hn hB hz
    go_enter Tryd.func10, Tryd.ntmps10
    go_wp2_with first
      | (go_at_call 18; refine (specIsSum _ _ hk).mono ?_; rintro e w1 ⟨rfl, rfl⟩)
      | (go_at_call 24; refine hit.mono ?_; rintro e w1 ⟨rfl, rfl⟩)
    clear hit
    go_loopw [7] (fun i wr => ∃ j : Nat, j ≤ n ∧ i = .int .i64 (j : Int) ∧ Hid (∀ q, q < j → filterHas s.data.toList k.data.toList (ss.getD q ByteArray.empty).data.toList = false) ∧ Hid (Below w.heap.size w wr)) (fun i _ => n - (intOf i).toNat)
    case atStart => exact ⟨0, by omega, rfl, fun q hq => by omega, Below.refl _ _⟩
    case round =>
      obtain ⟨j, hj, rfl, HT, HB⟩ := hrel
      by_cases hlt : j < n
      · have hjl : j < ss.length := by rw [← HN.out]; exact hlt
        have hc : wr.cell? ⟨g, j, none⟩ = some (.string (ss.getD j ByteArray.empty)) := by
          rw [HB.out.cell (p := ⟨g, j, none⟩) HA.out.1]
          exact HA.out.2 j hjl
        have hhas := specHas s k (ss.getD j ByteArray.empty) wr hs H1.out (itemsOk_at HOK.out j hjl)
        have HY : Hid (filterHas s.data.toList k.data.toList (ss.getD j ByteArray.empty).data.toList = true → B = true) := fun hh => by rw [HBB.out]; exact filterAny_yes HOK.out j hjl hh
        have HT2 : Hid (filterHas s.data.toList k.data.toList (ss.getD j ByteArray.empty).data.toList = false → ∀ q, q < j + 1 → filterHas s.data.toList k.data.toList (ss.getD q ByteArray.empty).data.toList = false) := by
          intro hh q hq
          rcases Nat.lt_or_ge q j with h' | h'
          · exact HT.out q h'
          · obtain rfl : q = j := by omega
            exact hh
        generalize filterHas s.data.toList k.data.toList (ss.getD j ByteArray.empty).data.toList = fh at hhas HY HT2
        generalize ss.getD j ByteArray.empty = it at hc hhas
        have HJ : Hid (j + 1 ≤ n) := hlt
        have lj : (j : Int) < (n : Int) := by omega
        have lj0 : (0 : Int) ≤ (j : Int) := by omega
        clear hjl
        cases fh with
        | true =>
          have HY2 : Hid (B = true) := HY.out rfl
          clear HY HT2
          go_wp2_with (go_at_call 20; refine hhas.mono ?_; rintro e w1 ⟨rfl, b1⟩)
          go_ret
          rw [HY2.out]
          exact ⟨rfl, HB.out.trans (b1.mono HB.out.size)⟩
        | false =>
          have HT3 : Hid (∀ q, q < j + 1 → filterHas s.data.toList k.data.toList (ss.getD q ByteArray.empty).data.toList = false) := HT2.out rfl
          clear HY HT2
          go_wp2_with (go_at_call 20; refine hhas.mono ?_; rintro e w1 ⟨rfl, b1⟩)
          have HB1 : Hid (Below w.heap.size w w1) := HB.out.trans (b1.mono HB.out.size)
          clear b1
          go_roundw
          case rel => exact ⟨j + 1, HJ.out, by go_num, HT3, HB1⟩
          case measure => have := HJ.out; simp [intOf]; omega
      · have HY : Hid (B = false) := by rw [HBB.out]; exact filterAny_none (fun i hi => HT.out i (by have := HN.out; omega))
        go_wp2_with fail
        go_ret
        rw [HY.out]
        exact ⟨rfl, HB.out⟩

end Go.Proofs.YtcaejndpmagfaaaDoor

set_option linter.unusedVariables false
namespace Go.Proofs.YtcaejndpmagfaaaDoor
open Go.RowKit

set_option maxHeartbeats 1000000 in
set_option maxRecDepth 100000 in
theorem toStrs (a : Option Addr) (len cap : Nat) (zs : List ByteArray) (w w0 : World) (h0 : IsTexts w0 a len cap zs) (hw : Below w0.heap.size w0 w) (hn : len ≤ 1048576) :
    Calls Tryd.prog 11 #[.slice a len cap] w fun e w' => e = .returned (.slice (some ⟨w.heap.size, 0, none⟩) len len) ∧ RowS w' w.heap.size (zs.take len) ∧ Below w.heap.size w w' := by
  have hmk := makeS len (by omega)
  have HF : Hid (∀ k, k < len → ∀ w', Below w.heap.size w w' → ∃ x : Addr, a = some x ∧ w'.cell? (x.add k) = some (.string ((zs.take len).getD k ByteArray.empty))) := by
    intro k hk w' hb'
    rcases h0 with ⟨_, hl, _⟩ | ⟨x, hx, hlc, _, hzl, hcell, _⟩
    · omega
    · refine ⟨x, hx, ?_⟩
      have hc := hcell k (by omega)
      have hlt : (x.add k).block < w0.heap.size := World.block_lt_of_cell? w0 _ hc
      rw [hb'.cell (Nat.lt_of_lt_of_le hlt hw.size), hw.cell hlt, hc]
      simp [hk]
  have HLn : Hid ((zs.take len).length = len) := h0.len.symm
  generalize zs.take len = f at HF HLn
  clear h0 hw
  go_enter Tryd.func11, Tryd.ntmps11
  go_wp2
  clear hmk
  go_loopw [4] (fun i wr => ∃ k : Nat, k ≤ len ∧ i = .int .i64 (k : Int) ∧ Hid (RowS wr w.heap.size (f.take k ++ List.replicate (len - k) (⟨#[]⟩ : ByteArray))) ∧ Hid (Below w.heap.size w wr)) (fun i _ => len - (intOf i).toNat)
  case atStart => exact ⟨0, by omega, rfl, heap_alloc_new w _, (Below.refl _ w).alloc (Nat.le_refl _) _⟩
  case round =>
    obtain ⟨k, hk, rfl, HR, HB⟩ := hrel
    by_cases hlt : k < len
    · obtain ⟨x, rfl, hc⟩ := HF.out k hlt wr HB.out
      have HK : Hid (k + 1 ≤ len) := hlt
      have hfz := HR.out.frozen k
      have hck := HR.out.cell k (by simp [HLn.out]; omega)
      have HS : Hid ((f.take k ++ List.replicate (len - k) (⟨#[]⟩ : ByteArray)).set k (f.getD k ByteArray.empty) = f.take (k + 1) ++ List.replicate (len - (k + 1)) (⟨#[]⟩ : ByteArray)) := set_nextS f len k (by rw [HLn.out]; exact hlt) hlt
      generalize (f.take k ++ List.replicate (len - k) (⟨#[]⟩ : ByteArray)).getD k ByteArray.empty = old at hck
      generalize f.getD k ByteArray.empty = z at hc HS
      go_wp2_with fail
      go_roundw
      case rel =>
        refine ⟨k + 1, HK.out, by go_num, ?_, HB.out.setCell (p := ⟨w.heap.size, k, none⟩) (Nat.le_refl _) _⟩
        have := HR.out.set k z
        rw [HS.out] at this
        exact this
      case measure => have := HK.out; simp [intOf]; omega
    · have HE : Hid (f.take k ++ List.replicate (len - k) (⟨#[]⟩ : ByteArray) = f) := by
        show _ = _
        rw [List.take_of_length_le (by rw [HLn.out]; omega), show len - k = 0 from by omega]
        simp
      go_wp2_with fail
      go_ret
      refine ⟨rfl, ?_, HB.out⟩
      rw [← HE.out]
      exact HR.out

set_option maxHeartbeats 1000000 in
set_option maxRecDepth 100000 in
theorem eqStrs (g1 g2 n c1 c2 : Nat) (zs : List ByteArray) (w : World) (h1 : AtS w g1 zs) (h2 : AtS w g2 zs) (hn : n = zs.length) (hm : n ≤ 1073741824) :
    Calls Tryd.prog 13 #[.slice (some ⟨g1, 0, none⟩) n c1, .slice (some ⟨g2, 0, none⟩) n c2] w fun e w' => e = .returned (.bool true) ∧ Below w.heap.size w w' := by
  have HA : Hid (AtS w g1 zs ∧ AtS w g2 zs ∧ Below w.heap.size w w) := ⟨h1, h2, Below.refl _ w⟩
  have HN : Hid (n = zs.length) := hn
  clear h1 h2 hn
  go_enter Tryd.func13, Tryd.ntmps13
  go_wp2
  go_loopw [5] (fun i wr => ∃ k : Nat, k ≤ n ∧ i = .int .i64 (k : Int) ∧ Hid (AtS wr g1 zs ∧ AtS wr g2 zs ∧ Below w.heap.size w wr)) (fun i _ => n - (intOf i).toNat)
  case atStart => exact ⟨0, by omega, rfl, HA⟩
  case round =>
    clear HA
    obtain ⟨k, hk, rfl, HA⟩ := hrel
    by_cases hlt : k < n
    · have hkz : k < zs.length := by rw [← HN.out]; exact hlt
      have d1 := HA.out.1.2 k hkz
      have d2 := HA.out.2.1.2 k hkz
      have HK : Hid (k + 1 ≤ n) := hlt
      generalize zs.getD k ByteArray.empty = z at d1 d2
      have lk : (k : Int) < (n : Int) := by omega
      clear hkz
      go_wp2_with fail
      go_region
      go_wp2_with fail
      go_roundw
      case rel => exact ⟨k + 1, HK.out, by go_num, HA.out.1.drew, HA.out.2.1.drew, HA.out.2.2.drew⟩
      case measure => have := HK.out; simp [intOf]; omega
    · go_wp2_with fail
      go_ret
      exact ⟨rfl, HA.out.2.2⟩

def SzOk (zs : List ByteArray) (len : Nat) (e : Ending) : Prop := e = .returned (.int .i64 (-1)) ∨ ∃ r : Nat, e = .returned (.int .i64 (r : Int)) ∧ len ≤ 1048576 ∧ ∀ i, i < len → (zs.getD i ByteArray.empty).size ≤ 1048576
set_option maxHeartbeats 1000000 in
set_option maxRecDepth 100000 in
theorem szStrs (a : Option Addr) (len cap : Nat) (zs : List ByteArray) (w : World) (h0 : IsTexts w a len cap zs) :
    Calls Tryd.prog 9 #[.slice a len cap, .int .i64 1048576] w fun e w' => w = w' ∧ SzOk zs len e := by
  by_cases hl : (1048576 : Int) < (len : Int)
  · have hneg : (1048576 : Int) - (len : Int) < 0 := by omega
    have hlm : len ≤ 140737488355328 ∨ True := .inr trivial
    have hcap : len ≤ maxLen := by
      rcases h0 with ⟨_, hl0, _⟩ | ⟨x, _, hlc, hm, _⟩
      · omega
      · omega
    unfold maxLen at hcap
    clear h0 hlm
    go_enter Tryd.func9, Tryd.ntmps9
    go_wp2
    go_ret
    exact ⟨rfl, .inl rfl⟩
  · have hn : len ≤ 1048576 := by omega
    have HF : Hid (∀ k, k < len → ∃ x : Addr, a = some x ∧ w.cell? (x.add k) = some (.string (zs.getD k ByteArray.empty)) ∧ (zs.getD k ByteArray.empty).size ≤ maxLen) := by
      intro k hk
      rcases h0 with ⟨_, hl, _⟩ | ⟨x, hx, hlc, _, hzl, hcell, hsz⟩
      · omega
      · refine ⟨x, hx, hcell k (by omega), hsz _ ?_⟩
        have : k < zs.length := by omega
        simp [List.getElem?_eq_getElem this]
    have hneg : ¬ (1048576 : Int) - (len : Int) < 0 := by omega
    clear h0
    go_enter Tryd.func9, Tryd.ntmps9
    go_wp2
    go_loop [1, 5] (fun l i => ∃ k r : Nat, k ≤ len ∧ r ≤ 1048576 ∧ l = .int .i64 (r : Int) ∧ i = .int .i64 (k : Int) ∧ Hid (∀ j, j < k → (zs.getD j ByteArray.empty).size ≤ 1048576)) (fun _ i => len - (intOf i).toNat)
    case atStart => exact ⟨0, 1048576 - len, by omega, by omega, by go_num, rfl, fun j hj => by omega⟩
    case round =>
      obtain ⟨k, r, hk, hr, rfl, rfl, HA⟩ := hrel
      by_cases hlt : k < len
      · obtain ⟨x, rfl, hc, hz⟩ := HF.out k hlt
        have HK : Hid (k + 1 ≤ len) := hlt
        have HZ : Hid (∀ z : ByteArray, z = zs.getD k ByteArray.empty → z.size ≤ 1048576 → ∀ j, j < k + 1 → (zs.getD j ByteArray.empty).size ≤ 1048576) := by
          intro z hz1 hz2 j hj
          rcases Nat.lt_or_ge j k with h' | h'
          · exact HA.out j h'
          · obtain rfl : j = k := by omega
            rw [← hz1]; exact hz2
        obtain ⟨z, hze⟩ : ∃ z, z = zs.getD k ByteArray.empty := ⟨_, rfl⟩
        rw [← hze] at hc hz
        have HE : Hid (z = zs.getD k ByteArray.empty) := hze
        unfold maxLen at hz
        clear hze
        have lk : (k : Int) < (len : Int) := by omega
        by_cases hneg2 : (r : Int) - (z.size : Int) < 0
        · go_wp2_with fail
          go_ret
          exact ⟨rfl, .inl rfl⟩
        · have HS : Hid (z.size ≤ r) := by show _ ≤ _; omega
          go_wp2_with fail
          go_round
          case rel => exact ⟨k + 1, r - z.size, HK.out, by omega, by have := HS.out; show Value.int .i64 _ = Value.int .i64 _; congr 1; omega, by go_num, HZ.out z HE.out (by have := HS.out; omega)⟩
          case measure => have := HK.out; simp [intOf]; omega
      · go_wp2_with fail
        go_ret
        exact ⟨rfl, .inr ⟨r, rfl, hn, fun i hi => HA.out i (by omega)⟩⟩

end Go.Proofs.YtcaejndpmagfaaaDoor

set_option linter.unusedVariables false
namespace Go.Proofs.YtcaejndpmagfaaaDoor
open Go.RowKit

set_option maxHeartbeats 1000000 in
set_option maxRecDepth 100000 in
theorem walk_FnExactFilterAny (s k : ByteArray) (a0 : Option Addr) (len0 cap0 : Nat) (z0 : List ByteArray) (w : World) (hs : s.size ≤ maxLen) (hk : k.size ≤ maxLen) (h0 : IsTexts w a0 len0 cap0 z0) (hK : RowG w shaK) :
    Calls Tryd.prog 4 #[.string s, .string k, .slice a0 len0 cap0] w fun e w' => e = .returned (.bool true) ∧ Below w.heap.size w w' := by
  have H0 : Hid (IsTexts w a0 len0 cap0 z0) := h0
  have HK : Hid (RowG w shaK) := hK
  have HLn : Hid (len0 = (z0.take len0).length) := h0.len
  clear h0 hK
  by_cases hl0 : (1048576 : Int) < (s.size : Int)
  · go_enter Tryd.func4, Tryd.ntmps4
    go_wp2
    go_ret
    exact ⟨rfl, Below.refl _ _⟩
  by_cases hl1 : (1048576 : Int) < (k.size : Int)
  · go_enter Tryd.func4, Tryd.ntmps4
    go_wp2
    go_ret
    exact ⟨rfl, Below.refl _ _⟩
  go_enter Tryd.func4, Tryd.ntmps4
  go_wp2_with fail
  refine (szStrs a0 len0 cap0 z0 w H0.out).mono ?_
  rintro e w1 ⟨rfl, rfl | ⟨r, rfl, hl2, hsz⟩⟩
  · go_wp2_with fail
    go_ret
    exact ⟨rfl, Below.refl _ _⟩
  have HSZ : Hid (∀ i, i < (z0.take len0).length → ((z0.take len0).getD i ByteArray.empty).size ≤ maxLen) := by
    intro i hi
    have hil : i < len0 := by rw [HLn.out]; exact hi
    have := hsz i hil
    rw [List.getD_eq_getElem?_getD, List.getElem?_take_of_lt hil, ← List.getD_eq_getElem?_getD]
    unfold maxLen
    omega
  clear hsz
  have hl3 : len0 ≤ 1073741824 := by omega
  go_wp2_with fail
  refine (toStrs a0 len0 cap0 z0 _ w H0.out (Below.refl _ w) hl2).mono ?_
  rintro e w1 ⟨rfl, r1, b1⟩
  have hsp := specFilterAny w.heap.size len0 len0 (z0.take len0) s k w1 r1.at HLn.out hl3 HSZ.out (by omega) hk
  have HI : Hid (∀ g w', AtS w' g (z0.take len0) → RowG w' shaK → Calls Tryd.prog 12 #[.string s, .string k, .slice (some ⟨g, 0, none⟩) len0 len0] w' fun e w'' => e = .returned (.bool (filterAny s.data.toList k.data.toList (z0.take len0))) ∧ Below w'.heap.size w' w'') := fun g w' h1 h2 => implFilterAny g len0 len0 (z0.take len0) s k w' h1 HLn.out hs h2
  generalize filterAny s.data.toList k.data.toList (z0.take len0) = B at hsp HI
  go_wp2_with fail
  refine hsp.mono ?_
  rintro e w2 ⟨rfl, b2⟩
  have HB2 : Hid (Below w.heap.size w w2) := b1.trans (b2.mono b1.size)
  clear r1 b1 b2 hsp
  go_wp2_with fail
  refine (toStrs a0 len0 cap0 z0 _ w H0.out HB2.out hl2).mono ?_
  rintro e w3 ⟨rfl, r3, b3⟩
  have HR3 : Hid (RowS w3 w2.heap.size (z0.take len0)) := r3
  have HB3 : Hid (Below w.heap.size w w3) := HB2.out.trans (b3.mono HB2.out.size)
  clear r3 b3
  go_wp2_with fail
  refine (HI.out _ _ HR3.out.at (HK.out.below HB3.out HK.out.lt)).mono ?_
  rintro e w4 ⟨rfl, b4⟩
  have HR4 : Hid (RowS w4 w2.heap.size (z0.take len0)) := HR3.out.below b4 HR3.out.lt
  have HB4 : Hid (Below w.heap.size w w4) := HB3.out.trans (b4.mono HB3.out.size)
  clear b4
  go_wp2_with fail
  refine (toStrs a0 len0 cap0 z0 _ w H0.out HB4.out hl2).mono ?_
  rintro e w5 ⟨rfl, r5, b5⟩
  have HR5 : Hid (RowS w5 w4.heap.size (z0.take len0)) := r5
  have HR45 : Hid (RowS w5 w2.heap.size (z0.take len0)) := HR4.out.below b5 HR4.out.lt
  have HB5 : Hid (Below w.heap.size w w5) := HB4.out.trans (b5.mono HB4.out.size)
  clear r5 b5
  go_wp2_with fail
  refine (eqStrs w2.heap.size w4.heap.size len0 len0 len0 (z0.take len0) _ HR45.out.at HR5.out.at HLn.out hl3).mono ?_
  rintro e w6 ⟨rfl, b6⟩
  go_wp2_with fail
  go_ret
  exact ⟨rfl, HB5.out.trans (b6.mono HB5.out.size)⟩

end Go.Proofs.YtcaejndpmagfaaaDoor

namespace Go.Proofs.YtcaejndpmagfaaaDoor
open Go.ChangeShapes Go.WideShapes Go.ChangeAt Go.RowKit
open Go.ChangeMaps (open_string shut_string)
set_option linter.unusedVariables false

theorem own_fnExactFilterAny : ownKnob Tryd.prog.godebug = none := by kernel_rfl
theorem laid_fnExactFilterAny : laidOutB Tryd.prog = true := by kernel_rfl
theorem table_fnExactFilterAny {W : World} (h : laidMetH Tryd.prog Rows.fnExactFilterAnyRow.laid W) : RowG W shaK := rowG_of_laid h

theorem met_fnExactFilterAny (os : Os) : laidMet Tryd.prog Rows.fnExactFilterAnyRow.laid ((laidWorld os).forCall (fun _ _ => 0) ⟨#[], #[.string ByteArray.empty, .string ByteArray.empty, .slice none 0 0], []⟩).memory :=
  laidMet_of_run' 8 (by kernel_rfl) (by kernel_rfl)
theorem reads_fnExactFilterAny (os : Os) {H : Type} (enc : TypeId × Value → H) : ∃ places, DataW.whole enc Tryd.prog ((laidWorld os).forCall (fun _ _ => 0) ⟨#[], #[.string ByteArray.empty, .string ByteArray.empty, .slice none 0 0], []⟩).memory Tryd.f4.params.toList Rows.fnExactFilterAnySpec.vars false (#[.string ByteArray.empty, .string ByteArray.empty, .slice none 0 0] : Array Value).toList 8 = some ([.lit (.string []), .lit (.string []), .nil], [Rows.laid_loop_example_cordillera_impl_sumRounds], places) :=
  ⟨MemPlace.row ⟨0, 0, none⟩ 64, by kernel_rfl⟩

set_option maxRecDepth 100000 in
theorem lifted_fnExactFilterAny (os : Os) (started : os.Started) (H : Type) (enc : TypeId × Value → H) (F : Stop.Interp) :
    ReturnsInHanded {} Tryd.checked os 4 .any ((OpenSpec.ofChange Rows.fnExactFilterAnySpec).preRow enc Tryd.prog Tryd.f4 Rows.fnExactFilterAnyRow.domain false Rows.fnExactFilterAnyRow.laid) (((OpenSpec.ofChange Rows.fnExactFilterAnySpec).at F).post enc Tryd.prog Tryd.f4 false true false false) := by
  obtain ⟨places, hx⟩ := reads_fnExactFilterAny os enc
  refine returnsInHanded_of_row (C := Tryd.checked) (s := OpenSpec.ofChange Rows.fnExactFilterAnySpec) own_fnExactFilterAny started (by kernel_rfl) Tryd.func4
    (witness_row_at (enc := enc) (C := Tryd.checked) false (laidWorld os) #[.string ByteArray.empty, .string ByteArray.empty, .slice none 0 0] rfl (by kernel_rfl) (by kernel_rfl) (by kernel_rfl)
      (OpenSpec.preRow_of_cond 8 hx (by kernel_rfl) (fun k hk => by cases hk) (by kernel_rfl) (met_fnExactFilterAny os))) ?_
  intro W base args ds gs before hval0 hW _ _ _ hL _ _
  have hval : ∀ (j : Nat) t v, Tryd.f4.params[j]? = some t → args[j]? = some v → Value.okWide Tryd.prog W .any base t v := hval0
  have hW' := hW
  obtain ⟨p, q, hA0, hV, rfl, hfz, hnd⟩ := hW
  have hA : DataW.TrodAll enc Tryd.prog W 0 (fun _ => true) true Tryd.f4.params.toList args.toList ds p := hA0
  rw [Tryd.params4] at hA hval
  obtain ⟨v0, vs0, d0, ds0, p0, q0, hargs, rfl, rfl, h0, r0⟩ := trodAll_cons hA
  obtain ⟨v1, vs1, d1, ds1, p1, q1, rfl, rfl, rfl, h1, r1⟩ := trodAll_cons r0
  obtain ⟨v2, vs2, d2, ds2, p2, q2, rfl, rfl, rfl, h2, r2⟩ := trodAll_cons r1
  obtain ⟨rfl, rfl, rfl⟩ := trodAll_nil r2
  obtain rfl : args = #[v0, v1, v2] := by cases args; simp_all
  obtain ⟨gv, tv, cv, fv, dv, pv, rfl, hgv, htv, hvv, hdv, rfl⟩ := trodVars_one hV
  obtain ⟨a0, rfl, rfl, rfl, w0⟩ := open_string Tryd.underlying9 (hval 0 9 v0 rfl rfl) h0
  obtain ⟨a1, rfl, rfl, rfl, w1⟩ := open_string Tryd.underlying9 (hval 1 9 v1 rfl rfl) h1
  obtain ⟨a2, len2, cap2, rfl⟩ := okWide_slice Tryd.underlying23 (hval 2 23 v2 rfl rfl)
  have k2 := h2
  have lt2 : ∀ x ∈ p2, x.block < W.heap.size := by obtain ⟨m, hm⟩ := k2; exact DataW.trod_lt m _ _ _ hm
  obtain ⟨z2, w2⟩ : ∃ zs, IsTexts W a2 len2 cap2 zs := by
    obtain ⟨fuel, hf⟩ := h2
    rcases open_strings Tryd.underlying23 Tryd.underlying9 (by kernel_rfl) hf with ⟨hcs, _⟩ | ⟨x, l, c, zs, hcs, _, hl, hm, hz, _, hcell, hwz⟩
    · simp [Value.cells] at hcs
      obtain ⟨rfl, rfl, rfl⟩ := hcs
      exact ⟨[], .inl ⟨rfl, rfl, rfl, rfl⟩⟩
    · simp [Value.cells] at hcs
      obtain ⟨rfl, rfl, rfl⟩ := hcs
      exact ⟨zs, .inr ⟨_, rfl, hl, hm, by simpa using hz, hcell, hwz⟩⟩
  clear hA0 hval0
  refine (walk_FnExactFilterAny a0 a1 a2 len2 cap2 z2 W w0 w1 w2 (table_fnExactFilterAny hL)).mono fun e W' ⟨he, bel⟩ => ?_
  subst he
  obtain ⟨pv', hpv⟩ := varsBack laid_fnExactFilterAny hgv htv hvv hdv bel
  exact ⟨_, rfl, _, _, _, [], _, pv', hW', trodAll_mk1 (shut_bool Tryd.underlying4 _), (trodAll_cons_mk (shut_string Tryd.underlying9 w0) (trodAll_cons_mk (shut_string Tryd.underlying9 w1) (trodAll_cons_mk (Below.trod laid_fnExactFilterAny (by kernel_rfl) (of_decide_eq_true (by kernel_rfl)) k2 bel lt2) trodAll_mk0))), hpv, bel.frame _, fun h => by cases h⟩

theorem fnExactFilterAny_said : Rows.FnExactFilterAnySaid :=
  OpenClaim.holds_of_cond 4 Tryd.f4 rfl rfl rfl rfl rfl rfl rfl ⟨rfl, rfl, rfl, rfl, rfl⟩ rfl rfl rfl rfl rfl (by kernel_rfl) Tryd.func4 (by kernel_rfl)
    (of_decide_eq_true (by kernel_rfl)) (by unfold Func.isWrapper; first | (rw [if_pos (by decide +kernel)]; kernel_rfl) | (rw [if_neg (by decide +kernel)]; exact ⟨rfl, rfl⟩))
    (fun os started H enc _ F => by rw [OpenClaim.pre_eq_preRow]; exact lifted_fnExactFilterAny os started H enc F)
theorem plain_fnExactFilterAny (f : FuncId) (fn : Func) (hf : Tryd.pinned.checked.prog.funcNamed "loop.example/cordillera/laws.FnExactFilterAny" = some f) (hfn : Tryd.pinned.checked.prog.funcs[f]? = some fn) :
    false = Tryd.pinned.checked.prog.looks [] ∧ ∀ (j : Nat) t, fn.params[j]? = some t → Tryd.pinned.checked.prog.wantsStandIn t = false := by
  obtain rfl : f = 4 := Option.some.inj ((show Tryd.prog.funcNamed "loop.example/cordillera/laws.FnExactFilterAny" = some 4 by kernel_rfl).symm.trans hf) |>.symm
  obtain rfl : fn = Tryd.f4 := (Option.some.inj (Tryd.func4.symm.trans hfn)).symm
  refine ⟨by kernel_rfl, fun j t ht => ?_⟩
  rw [Tryd.params4] at ht
  have hall : ∀ t ∈ (#[9, 9, 23] : Array TypeId), Tryd.prog.wantsStandIn t = false := by
    intro t ht
    simp only [List.mem_toArray, List.mem_cons, List.not_mem_nil, or_false] at ht
    rcases ht with rfl | rfl | rfl <;> kernel_rfl
  exact hall t (Array.mem_of_getElem? ht)
theorem fnExactFilterAny_holds : Rows.FnExactFilterAnyCardSaid :=
  Claim7.holds_tied_plain_at .later [] _ _ _ _ fnExactFilterAny_said (fun _ h => by cases h) (by kernel_rfl) (fun _ h => by cases h) fnExactFilterAny_row_tie rfl ⟨rfl, rfl⟩ (by kernel_rfl) rfl plain_fnExactFilterAny (by kernel_rfl)
#print axioms fnExactFilterAny_holds
end Go.Proofs.YtcaejndpmagfaaaDoor

