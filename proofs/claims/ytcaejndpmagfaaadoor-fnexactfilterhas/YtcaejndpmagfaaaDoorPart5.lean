/-
  At every text, key and item the program's FilterHas answers what the specification answers; no condition.
-/
import Derived.Test.YtcaejndpmagfaaaDoorPart1
import Derived.Test.YtcaejndpmagfaaaDoorPart2
import Derived.Test.YtcaejndpmagfaaaDoorPart3
import Derived.Test.YtcaejndpmagfaaaDoorPart4
import Derived.Test.YtcaejndpmagfaaaDoorCards
import Derived.Test.YtcaejndpmagfaaaDoorTie
import Derived.WalkKit
import Derived.ProofKit
import Derived.OpenShut
import Derived.ShutString
import Derived.ChangeOld
import Derived.ChangeVars
import Derived.Below
import Derived.Carry
import Derived.Deep.DeepHandedRow
import Derived.Lib.LaidTab
set_option linter.unusedVariables false
namespace Go.Proofs.YtcaejndpmagfaaaDoor
open Go.RowKit

set_option maxHeartbeats 2000000 in
set_option maxRecDepth 100000 in
theorem specL2To (k it : ByteArray) (below : Int) (w : World) (h1 : isSum k.data.toList = true) (h2 : isItem it.data.toList = true) (h3 : 1 ≤ below ∧ below ≤ 60000) :
    Calls Tryd.prog 40 #[.string k, .string it, .int .i64 below] w fun e w' => e = .returned (.int .i64 (filterTo k.data.toList it.data.toList below)) ∧ Below w.heap.size w w' := by
  have hks : k.size = 16 := by have := isSum_len h1; simpa using this
  have his := isItem_size h2
  have hsz : (k ++ (⟨#[32]⟩ : ByteArray) ++ it).size ≤ 1073741824 := by
    simp only [ByteArray.size_append, hks]
    have : (⟨#[32]⟩ : ByteArray).size = 1 := rfl
    omega
  have HF : Hid (filterTo k.data.toList it.data.toList below = (headOf (k ++ (⟨#[32]⟩ : ByteArray) ++ it).data.toList : Int) * below / 2147483648) := by
    show _ = _
    rw [filterTo_yes h1 h2 (by omega), keyItem_bytes]
  clear h1 h2
  go_enter Tryd.func40, Tryd.ntmps40
  go_wp2_with fail
  refine (specSum _ _ hsz).mono ?_
  rintro e w1 ⟨rfl, b1⟩
  have HX : Hid (isSum (⟨(sumB (k ++ (⟨#[32]⟩ : ByteArray) ++ it).data.toList).toArray⟩ : ByteArray).data.toList = true) := isSum_sumB _
  have hlt := headOf_lt (k ++ (⟨#[32]⟩ : ByteArray) ++ it).data.toList
  generalize (k ++ (⟨#[32]⟩ : ByteArray) ++ it).data.toList = t at HF HX hlt ⊢
  have hpl := place_lt (headOf t) below hlt h3
  go_wp2_with fail
  refine (specHead _ _ HX).mono ?_
  rintro e w2 ⟨rfl, rfl⟩
  rw [show hexN ((⟨(sumB t).toArray⟩ : ByteArray).data.toList.take 8) / 2 = headOf t from rfl]
  generalize headOf t = h at HF hlt hpl ⊢
  go_wp2
  go_ret
  rw [HF.out]
  exact ⟨rfl, b1⟩

end Go.Proofs.YtcaejndpmagfaaaDoor

set_option linter.unusedVariables false
namespace Go.Proofs.YtcaejndpmagfaaaDoor
open Go.RowKit

noncomputable def filterHas (s k it : List UInt8) : Bool :=
  match filterGet s with
  | none => false
  | some l => decide (l ≠ []) && isSum k && isItem it && l.any fun p => decide ((p : Int) = filterTo k it ((l.length : Int) * 37))
theorem filterHas_none {s k it : List UInt8} (h : filterGet s = none) : filterHas s k it = false := by rw [filterHas, h]
theorem filterHas_nil {s k it : List UInt8} (h : filterGet s = some []) : filterHas s k it = false := by rw [filterHas, h]; simp
theorem filterHas_no1 {s k it : List UInt8} (h : isSum k = false) : filterHas s k it = false := by
  rw [filterHas]
  split
  · rfl
  · simp [h]
theorem filterHas_no2 {s k it : List UInt8} (h : isItem it = false) : filterHas s k it = false := by
  rw [filterHas]
  split
  · rfl
  · simp [h]
theorem filterHas_yes {s k it : List UInt8} {l : List Nat} (h : filterGet s = some l) (hl : l ≠ []) (h1 : isSum k = true) (h2 : isItem it = true) : filterHas s k it = l.any fun p => decide ((p : Int) = filterTo k it ((l.length : Int) * 37)) := by
  rw [filterHas, h]
  simp [h1, h2, hl]
theorem any_yes (l : List Nat) (z : Int) (k : Nat) (hk : k < l.length) (h : ((l.getD k 0 : Nat) : Int) = z) : (l.any fun p => decide ((p : Int) = z)) = true := by
  rw [List.any_eq_true]
  refine ⟨l.getD k 0, ?_, by simpa using h⟩
  simp [List.getElem?_eq_getElem hk]
theorem any_no (l : List Nat) (z : Int) (h : ∀ j, j < l.length → ((l.getD j 0 : Nat) : Int) ≠ z) : (l.any fun p => decide ((p : Int) = z)) = false := by
  rw [List.any_eq_false]
  intro x hx
  obtain ⟨i, hi, rfl⟩ := List.mem_iff_getElem.1 hx
  have := h i hi
  rw [List.getD_eq_getElem?_getD, List.getElem?_eq_getElem hi] at this
  simpa using this
theorem filterGet_len2 {o : List UInt8} {l : List Nat} (h : filterGet o = some l) : l.length ≤ 40 ∧ l.length = (varGet o).1 := by
  unfold filterGet at h
  split at h
  · cases h
  · split at h
    · cases h
    · rename_i gaps hr
      unfold placesOf at h
      split at h
      · have e : sumsF 0 gaps = l := by simpa using h
        rw [← e, sumsF_length]
        have := riceGet_some hr
        have h2 := this.1
        simp only [getOk, Bool.and_eq_true, decide_eq_true_eq] at h2
        have h3 := this.2.1
        omega
      · cases h
theorem manyOf2_some {o : List UInt8} {l : List Nat} (h : filterGet o = some l) : manyOf2 o = l.length := by
  rw [manyOf2, h, (filterGet_len2 h).2]
  rfl

set_option maxHeartbeats 1000000 in
set_option maxRecDepth 100000 in
theorem indexInts (g n cap : Nat) (l : List Nat) (z : Int) (w : World) (h : At w g (l.map fun n : Nat => (n : Int))) (hn : n = l.length) (hm : n ≤ 1000) :
    Calls Tryd.prog 42 #[.slice (some ⟨g, 0, none⟩) n cap, .int .i64 z] w fun e w' => ∃ r : Int, e = .returned (.int .i64 r) ∧ decide (0 ≤ r) = (l.any fun p => decide ((p : Int) = z)) ∧ w = w' := by
  have HA : Hid (At w g (l.map fun n : Nat => (n : Int))) := h
  have HN : Hid (n = l.length) := hn
  clear h hn
  go_enter Tryd.func42, Tryd.ntmps42
  go_wp2_with fail
  go_loop [8] (fun i => ∃ k : Nat, k ≤ n ∧ i = .int .i64 (k : Int) ∧ Hid (∀ j, j < k → ((l.getD j 0 : Nat) : Int) ≠ z)) (fun i => n - (intOf i).toNat)
  case atStart => exact ⟨0, by omega, rfl, fun j hj => by omega⟩
  case round =>
    obtain ⟨k, hk, rfl, HT⟩ := hrel
    by_cases hlt : k < n
    · have hkl : k < l.length := by rw [← HN.out]; exact hlt
      have hc := HA.out.2 k (by simpa using hkl)
      have ez : (l.map fun n : Nat => (n : Int)).getD k 0 = ((l.getD k 0 : Nat) : Int) := by
        rw [List.getD_eq_getElem?_getD, List.getElem?_map, List.getElem?_eq_getElem hkl, List.getD_eq_getElem?_getD, List.getElem?_eq_getElem hkl]
        rfl
      rw [ez] at hc
      have HK : Hid (k + 1 ≤ n) := hlt
      have lk : (k : Int) < (n : Int) := by omega
      have lk0 : (0 : Int) ≤ (k : Int) := by omega
      by_cases he : ((l.getD k 0 : Nat) : Int) = z
      · have HY : Hid ((l.any fun p => decide ((p : Int) = z)) = true) := any_yes l z k hkl he
        obtain ⟨x, hx⟩ : ∃ x : Int, x = ((l.getD k 0 : Nat) : Int) := ⟨_, rfl⟩
        rw [← hx] at hc he
        subst he
        clear hx ez hkl
        go_wp2_with fail
        go_ret
        rw [HY.out]
        exact ⟨_, rfl, by simp, rfl⟩
      · have HZ : Hid (((l.getD k 0 : Nat) : Int) ≠ z) := he
        have HT2 : Hid (∀ j, j < k + 1 → ((l.getD j 0 : Nat) : Int) ≠ z) := by
          intro j hj
          rcases Nat.lt_or_ge j k with h' | h'
          · exact HT.out j h'
          · obtain rfl : j = k := by omega
            exact he
        obtain ⟨x, hx⟩ : ∃ x : Int, x = ((l.getD k 0 : Nat) : Int) := ⟨_, rfl⟩
        rw [← hx] at hc he
        have hne : (z == x) = false := by simp; intro e; exact he e.symm
        clear hx he ez hkl
        go_wp2_with fail
        go_round
        case rel => exact ⟨k + 1, HK.out, by go_num, HT2⟩
        case measure => have := HK.out; simp [intOf]; omega
    · have HY : Hid ((l.any fun p => decide ((p : Int) = z)) = false) := any_no l z (fun j hj => HT.out j (by have := HN.out; omega))
      go_wp2_with fail
      go_ret
      rw [HY.out]
      exact ⟨-1, rfl, by decide, rfl⟩

set_option maxHeartbeats 1000000 in
set_option maxRecDepth 100000 in
theorem containsInts (g n cap : Nat) (l : List Nat) (z : Int) (w : World) (h : At w g (l.map fun n : Nat => (n : Int))) (hn : n = l.length) (hm : n ≤ 1000) :
    Calls Tryd.prog 23 #[.slice (some ⟨g, 0, none⟩) n cap, .int .i64 z] w fun e w' => e = .returned (.bool (l.any fun p => decide ((p : Int) = z))) ∧ w = w' := by
  have hix := indexInts g n cap l z w h hn hm
  generalize (l.any fun p => decide ((p : Int) = z)) = b at hix
  clear h hn
  go_enter Tryd.func23, Tryd.ntmps23
  go_wp2_with fail
  refine hix.mono ?_
  rintro e w1 ⟨r, rfl, hr, rfl⟩
  clear hix
  go_wp2_with fail
  go_ret
  exact ⟨by simp [← hr], rfl⟩

end Go.Proofs.YtcaejndpmagfaaaDoor

set_option linter.unusedVariables false
namespace Go.Proofs.YtcaejndpmagfaaaDoor
open Go.RowKit

set_option maxHeartbeats 1000000 in
set_option maxRecDepth 100000 in
theorem implFilterHas (s k it : ByteArray) (w : World) (hs : s.size ≤ maxLen) (hK : RowG w shaK) :
    Calls Tryd.prog 8 #[.string s, .string k, .string it] w fun e w' => e = .returned (.bool (filterHas s.data.toList k.data.toList it.data.toList)) ∧ Below w.heap.size w w' := by
  have hget := implFilterGet s w hs
  have HK : Hid (RowG w shaK) := hK
  clear hK
  cases hfg : filterGet s.data.toList with
  | none =>
    rw [filterHas_none hfg]
    rw [hfg] at hget
    dsimp only [Option.isSome] at hget
    clear hfg
    go_enter Tryd.func8, Tryd.ntmps8
    go_wp2_with (go_at_call 15; refine hget.mono ?_; rintro e w1 ⟨v, rfl, g1, b1⟩; obtain rfl : v = .slice none 0 0 := g1)
    go_ret
    exact ⟨rfl, b1⟩
  | some l =>
    rw [hfg] at hget
    dsimp only [Option.isSome] at hget
    have hlen := filterGet_len2 hfg
    have hl40 := hlen.1
    clear hlen
    have HFG : Hid (filterGet s.data.toList = some l) := hfg
    have hget2 : Calls Tryd.prog 15 #[.string s] w fun e w' => ∃ g c n, e = .returned (.tuple #[.slice (some ⟨g, 0, none⟩) n c, .bool true]) ∧ n = l.length ∧ At w' g (l.map fun n : Nat => (n : Int)) ∧ Below w.heap.size w w' := by
      refine hget.mono ?_
      rintro e w1 ⟨v, rfl, g1, b1⟩
      obtain ⟨g, c, rfl⟩ := g1.1
      exact ⟨g, c, l.length, rfl, rfl, outRow_at g1, b1⟩
    clear hget hfg
    by_cases hl0 : l = []
    · rw [filterHas_nil (by rw [HFG.out, hl0])]
      have HL0 : Hid (l.length = 0) := by rw [hl0]; rfl
      clear hl0
      go_enter Tryd.func8, Tryd.ntmps8
      go_wp2_with (go_at_call 15; refine hget2.mono ?_; rintro e w1 ⟨g, c, n, rfl, hn, hat, b1⟩; rw [HL0.out] at hn; subst hn)
      go_ret
      exact ⟨rfl, b1⟩
    · cases h1 : isSum k.data.toList with
      | false =>
        rw [filterHas_no1 h1]
        have HL0 : Hid (l.length ≠ 0) := fun e => hl0 (List.length_eq_zero_iff.1 e)
        clear hl0
        go_enter Tryd.func8, Tryd.ntmps8
        go_wp2_with first
          | (go_at_call 15; refine hget2.mono ?_; rintro e w1 ⟨g, c, n, rfl, hn, hat, b1⟩; have hne : ((n : Int) == 0) = false := (by have := HL0.out; simp; omega); clear hn)
          | (go_at_call 21; refine (implSumOk _ _).mono ?_; rintro e w2 ⟨rfl, rfl⟩)
        go_ret
        exact ⟨rfl, b1⟩
      | true =>
        cases h2 : isItem it.data.toList with
        | false =>
          rw [filterHas_no2 h2]
          have HL0 : Hid (l.length ≠ 0) := fun e => hl0 (List.length_eq_zero_iff.1 e)
          clear hl0
          go_enter Tryd.func8, Tryd.ntmps8
          go_wp2_with first
            | (go_at_call 15; refine hget2.mono ?_; rintro e w1 ⟨g, c, n, rfl, hn, hat, b1⟩; have hne : ((n : Int) == 0) = false := (by have := HL0.out; simp; omega); clear hn)
            | (go_at_call 21; refine (implSumOk _ _).mono ?_; rintro e w2 ⟨rfl, rfl⟩)
            | (go_at_call 22; refine (implItemOk _ _).mono ?_; rintro e w2 ⟨rfl, rfl⟩)
          go_ret
          exact ⟨rfl, b1⟩
        | true =>
          rw [filterHas_yes HFG.out hl0 h1 h2]
          have HL0 : Hid (l.length ≠ 0) := fun e => hl0 (List.length_eq_zero_iff.1 e)
          obtain ⟨ln, hln⟩ : ∃ ln, ln = l.length := ⟨_, rfl⟩
          rw [← hln] at hl40 HL0 ⊢
          have hto := fun w' h' => implFilterTo k it ((ln : Int) * 37) w' h'
          generalize filterTo k.data.toList it.data.toList ((ln : Int) * 37) = z at hto ⊢
          have hcon := fun g c n w' h' hn' => containsInts g n c l z w' h' hn'
          generalize (l.any fun p => decide ((p : Int) = z)) = b at hcon ⊢
          have HLN : Hid (ln = l.length) := hln
          have hne : ((ln : Int) == 0) = false := by have := HL0.out; simp; omega
          clear hl0 hln
          go_enter Tryd.func8, Tryd.ntmps8
          go_wp2_with first
            | (go_at_call 15; refine hget2.mono ?_; rintro e w1 ⟨g, c, n, rfl, hn, hat, b1⟩; rw [← HLN.out] at hn; subst hn)
            | (go_at_call 21; refine (implSumOk _ _).mono ?_; rintro e w2 ⟨rfl, rfl⟩)
            | (go_at_call 22; refine (implItemOk _ _).mono ?_; rintro e w2 ⟨rfl, rfl⟩)
          have HB1 : Hid (Below w.heap.size w w1) := b1
          have HAT : Hid (At w1 g (l.map fun n : Nat => (n : Int))) := hat
          clear b1 hat
          refine (hto _ (HK.out.below HB1.out HK.out.lt)).mono ?_
          rintro e w2 ⟨rfl, b2⟩
          have HB2 : Hid (Below w.heap.size w w2) := HB1.out.trans (b2.mono HB1.out.size)
          have HAT2 : Hid (At w2 g (l.map fun n : Nat => (n : Int))) := HAT.out.below b2 HAT.out.1
          clear b2 hto
          go_wp2_with fail
          refine (hcon g c n _ HAT2.out HLN.out (by omega)).mono ?_
          rintro e w3 ⟨rfl, rfl⟩
          clear hcon
          go_wp2_with fail
          go_ret
          exact ⟨rfl, HB2.out⟩

end Go.Proofs.YtcaejndpmagfaaaDoor

set_option linter.unusedVariables false
namespace Go.Proofs.YtcaejndpmagfaaaDoor
open Go.RowKit

set_option maxHeartbeats 1000000 in
set_option maxRecDepth 100000 in
theorem specHas (s k it : ByteArray) (w : World) (hs : s.size ≤ 1048576) (h1 : isSum k.data.toList = true) (h2 : isItem it.data.toList = true) :
    Calls Tryd.prog 20 #[.string s, .string k, .string it] w fun e w' => e = .returned (.bool (filterHas s.data.toList k.data.toList it.data.toList)) ∧ Below w.heap.size w w' := by
  have hget := specPlaces s w hs
  cases hfg : filterGet s.data.toList with
  | none =>
    rw [filterHas_none hfg]
    rw [hfg] at hget
    dsimp only [Option.isSome] at hget
    generalize manyOf2 s.data.toList = mo at hget
    clear hfg h1 h2
    go_enter Tryd.func20, Tryd.ntmps20
    go_wp2_with (go_at_call 39; refine hget.mono ?_; rintro e w1 ⟨v, rfl, g1, b1⟩; obtain rfl : v = .slice none 0 0 := g1)
    go_ret
    exact ⟨rfl, b1⟩
  | some l =>
    rw [hfg, manyOf2_some hfg] at hget
    dsimp only [Option.isSome] at hget
    have hl40 := (filterGet_len2 hfg).1
    have hget2 : Calls Tryd.prog 39 #[.string s] w fun e w' => ∃ g c, e = .returned (.tuple #[.slice (some ⟨g, 0, none⟩) l.length c, .int .i64 ((l.length : Nat) : Int), .bool true]) ∧ At w' g (l.map fun n : Nat => (n : Int)) ∧ Below w.heap.size w w' := by
      refine hget.mono ?_
      rintro e w1 ⟨v, rfl, g1, b1⟩
      obtain ⟨g, c, rfl⟩ := g1.1
      exact ⟨g, c, rfl, outRow_at g1, b1⟩
    obtain ⟨ln, hln⟩ : ∃ ln, ln = l.length := ⟨_, rfl⟩
    rw [← hln] at hl40 hget2
    have HLN : Hid (ln = l.length) := hln
    clear hget
    by_cases hl0 : l = []
    · rw [filterHas_nil (by rw [hfg, hl0])]
      have hz : ((ln : Int) == 0) = true := by rw [hln, hl0]; rfl
      clear hl0 hln hfg h1 h2
      go_enter Tryd.func20, Tryd.ntmps20
      go_wp2_with (go_at_call 39; refine hget2.mono ?_; rintro e w1 ⟨g, c, rfl, hat, b1⟩)
      go_ret
      exact ⟨rfl, b1⟩
    · have hz0 : ln ≠ 0 := by rw [hln]; intro e; exact hl0 (List.length_eq_zero_iff.1 e)
      have hz : ((ln : Int) == 0) = false := by simp; omega
      rw [filterHas_yes hfg hl0 h1 h2, ← hln]
      have hto := fun w' => specL2To k it ((ln : Int) * 37) w' h1 h2 (by omega)
      generalize filterTo k.data.toList it.data.toList ((ln : Int) * 37) = z at hto ⊢
      obtain ⟨B, hB⟩ : ∃ B, B = (l.any fun p => decide ((p : Int) = z)) := ⟨_, rfl⟩
      rw [← hB]
      have HBB : Hid (B = (l.any fun p => decide ((p : Int) = z))) := hB
      clear hl0 hln hfg h1 h2 hB
      go_enter Tryd.func20, Tryd.ntmps20
      go_wp2_with (go_at_call 39; refine hget2.mono ?_; rintro e w1 ⟨g, c, rfl, hat, b1⟩)
      have HB1 : Hid (Below w.heap.size w w1) := b1
      have HAT : Hid (At w1 g (l.map fun n : Nat => (n : Int))) := hat
      clear b1 hat hget2
      refine (hto _).mono ?_
      rintro e w2 ⟨rfl, b2⟩
      have HB2 : Hid (Below w.heap.size w w2) := HB1.out.trans (b2.mono HB1.out.size)
      have HAT2 : Hid (At w2 g (l.map fun n : Nat => (n : Int))) := HAT.out.below b2 HAT.out.1
      clear b2 hto
      go_wp2_with fail
      go_loop [11] (fun i => ∃ k : Nat, k ≤ ln ∧ i = .int .i64 (k : Int) ∧ Hid (∀ j, j < k → ((l.getD j 0 : Nat) : Int) ≠ z)) (fun i => ln - (intOf i).toNat)
      case atStart => exact ⟨0, by omega, rfl, fun j hj => by omega⟩
      case round =>
        obtain ⟨k, hk, rfl, HT⟩ := hrel
        by_cases hlt : k < ln
        · have hkl : k < l.length := by rw [← HLN.out]; exact hlt
          have hc := HAT2.out.2 k (by simpa using hkl)
          have ez : (l.map fun n : Nat => (n : Int)).getD k 0 = ((l.getD k 0 : Nat) : Int) := by
            rw [List.getD_eq_getElem?_getD, List.getElem?_map, List.getElem?_eq_getElem hkl, List.getD_eq_getElem?_getD, List.getElem?_eq_getElem hkl]
            rfl
          rw [ez] at hc
          have HK : Hid (k + 1 ≤ ln) := hlt
          have lk : (k : Int) < (ln : Int) := by omega
          have lk0 : (0 : Int) ≤ (k : Int) := by omega
          by_cases he : ((l.getD k 0 : Nat) : Int) = z
          · have HY : Hid (B = true) := by rw [HBB.out]; exact any_yes l z k hkl he
            obtain ⟨x, hx⟩ : ∃ x : Int, x = ((l.getD k 0 : Nat) : Int) := ⟨_, rfl⟩
            rw [← hx] at hc he
            subst he
            clear hx ez hkl
            go_wp2_with fail
            go_ret
            rw [HY.out]
            exact ⟨rfl, HB2.out⟩
          · have HT2 : Hid (∀ j, j < k + 1 → ((l.getD j 0 : Nat) : Int) ≠ z) := by
              intro j hj
              rcases Nat.lt_or_ge j k with h' | h'
              · exact HT.out j h'
              · obtain rfl : j = k := by omega
                exact he
            obtain ⟨x, hx⟩ : ∃ x : Int, x = ((l.getD k 0 : Nat) : Int) := ⟨_, rfl⟩
            rw [← hx] at hc he
            have hne : (x == z) = false := by simp; exact he
            clear hx he ez hkl
            go_wp2_with fail
            go_round
            case rel => exact ⟨k + 1, HK.out, by go_num, HT2⟩
            case measure => have := HK.out; simp [intOf]; omega
        · have HY : Hid (B = false) := by rw [HBB.out]; exact any_no l z (fun j hj => HT.out j (by have := HLN.out; omega))
          go_wp2_with fail
          go_ret
          rw [HY.out]
          exact ⟨rfl, HB2.out⟩

set_option maxHeartbeats 1000000 in
set_option maxRecDepth 100000 in
theorem specFilterHas (s k it : ByteArray) (w : World) (hs : s.size ≤ 1048576) (hk : k.size ≤ maxLen) (hi : it.size ≤ maxLen) :
    Calls Tryd.prog 7 #[.string s, .string k, .string it] w fun e w' => e = .returned (.bool (filterHas s.data.toList k.data.toList it.data.toList)) ∧ Below w.heap.size w w' := by
  cases h1 : isSum k.data.toList with
  | false =>
    rw [filterHas_no1 h1]
    go_enter Tryd.func7, Tryd.ntmps7
    go_wp2_with (go_at_call 18; refine (specIsSum _ _ hk).mono ?_; rintro e w1 ⟨rfl, rfl⟩)
    go_ret
    exact ⟨rfl, Below.refl _ _⟩
  | true =>
    cases h2 : isItem it.data.toList with
    | false =>
      rw [filterHas_no2 h2]
      go_enter Tryd.func7, Tryd.ntmps7
      go_wp2_with (first | (go_at_call 18; refine (specIsSum _ _ hk).mono ?_; rintro e w1 ⟨rfl, rfl⟩) | (go_at_call 19; refine (specItemOk _ _ hi).mono ?_; rintro e w1 ⟨rfl, rfl⟩))
      go_ret
      exact ⟨rfl, Below.refl _ _⟩
    | true =>
      have hh := fun w' => specHas s k it w' hs h1 h2
      generalize filterHas s.data.toList k.data.toList it.data.toList = B at hh ⊢
      go_enter Tryd.func7, Tryd.ntmps7
      go_wp2_with (first | (go_at_call 18; refine (specIsSum _ _ hk).mono ?_; rintro e w1 ⟨rfl, rfl⟩) | (go_at_call 19; refine (specItemOk _ _ hi).mono ?_; rintro e w1 ⟨rfl, rfl⟩) | (go_at_call 20; refine (hh _).mono ?_; rintro e w1 ⟨rfl, b1⟩))
      go_ret
      exact ⟨rfl, b1⟩

end Go.Proofs.YtcaejndpmagfaaaDoor

set_option linter.unusedVariables false
namespace Go.Proofs.YtcaejndpmagfaaaDoor
open Go.RowKit

set_option maxHeartbeats 1000000 in
set_option maxRecDepth 100000 in
theorem walk_FnExactFilterHas (s k it : ByteArray) (w : World) (hs : s.size ≤ maxLen) (hk : k.size ≤ maxLen) (hi : it.size ≤ maxLen) (hK : RowG w shaK) :
    Calls Tryd.prog 3 #[.string s, .string k, .string it] w fun e w' => e = .returned (.bool true) ∧ Below w.heap.size w w' := by
  have HK : Hid (RowG w shaK) := hK
  clear hK
  by_cases h0 : (1048576 : Int) < (s.size : Int)
  · go_enter Tryd.func3, Tryd.ntmps3
    go_wp2
    go_ret
    exact ⟨rfl, Below.refl _ _⟩
  by_cases h1 : (1048576 : Int) < (k.size : Int)
  · go_enter Tryd.func3, Tryd.ntmps3
    go_wp2
    go_ret
    exact ⟨rfl, Below.refl _ _⟩
  by_cases h2 : (1048576 : Int) < (it.size : Int)
  · go_enter Tryd.func3, Tryd.ntmps3
    go_wp2
    go_ret
    exact ⟨rfl, Below.refl _ _⟩
  have hsp := specFilterHas s k it w (by omega) hk hi
  have him := fun w' h' => implFilterHas s k it w' hs h'
  generalize filterHas s.data.toList k.data.toList it.data.toList = B at hsp him
  go_enter Tryd.func3, Tryd.ntmps3
  go_wp2_with fail
  refine hsp.mono ?_
  rintro e w1 ⟨rfl, b1⟩
  go_wp2_with fail
  refine (him _ (HK.out.below b1 HK.out.lt)).mono ?_
  rintro e w2 ⟨rfl, b2⟩
  go_wp2
  go_ret
  exact ⟨rfl, b1.trans (b2.mono b1.size)⟩

end Go.Proofs.YtcaejndpmagfaaaDoor

namespace Go.Proofs.YtcaejndpmagfaaaDoor
open Go.ChangeShapes Go.WideShapes Go.ChangeAt Go.RowKit
open Go.ChangeMaps (open_string shut_string)
set_option linter.unusedVariables false

theorem own_fnExactFilterHas : ownKnob Tryd.prog.godebug = none := by kernel_rfl
theorem laid_fnExactFilterHas : laidOutB Tryd.prog = true := by kernel_rfl
theorem table_fnExactFilterHas {W : World} (h : laidMetH Tryd.prog Rows.fnExactFilterHasRow.laid W) : RowG W shaK := rowG_of_laid h

theorem met_fnExactFilterHas (os : Os) : laidMet Tryd.prog Rows.fnExactFilterHasRow.laid ((laidWorld os).forCall (fun _ _ => 0) ⟨#[], #[.string ByteArray.empty, .string ByteArray.empty, .string ByteArray.empty], []⟩).memory :=
  laidMet_of_run' 8 (by kernel_rfl) (by kernel_rfl)
theorem reads_fnExactFilterHas (os : Os) {H : Type} (enc : TypeId × Value → H) : ∃ places, DataW.whole enc Tryd.prog ((laidWorld os).forCall (fun _ _ => 0) ⟨#[], #[.string ByteArray.empty, .string ByteArray.empty, .string ByteArray.empty], []⟩).memory Tryd.f3.params.toList Rows.fnExactFilterHasSpec.vars false (#[.string ByteArray.empty, .string ByteArray.empty, .string ByteArray.empty] : Array Value).toList 8 = some ([.lit (.string []), .lit (.string []), .lit (.string [])], [Rows.laid_loop_example_cordillera_impl_sumRounds], places) :=
  ⟨MemPlace.row ⟨0, 0, none⟩ 64, by kernel_rfl⟩

set_option maxRecDepth 100000 in
theorem lifted_fnExactFilterHas (os : Os) (started : os.Started) (H : Type) (enc : TypeId × Value → H) (F : Stop.Interp) :
    ReturnsInHanded {} Tryd.checked os 3 .any ((OpenSpec.ofChange Rows.fnExactFilterHasSpec).preRow enc Tryd.prog Tryd.f3 Rows.fnExactFilterHasRow.domain false Rows.fnExactFilterHasRow.laid) (((OpenSpec.ofChange Rows.fnExactFilterHasSpec).at F).post enc Tryd.prog Tryd.f3 false true false false) := by
  obtain ⟨places, hx⟩ := reads_fnExactFilterHas os enc
  refine returnsInHanded_of_row (C := Tryd.checked) (s := OpenSpec.ofChange Rows.fnExactFilterHasSpec) own_fnExactFilterHas started (by kernel_rfl) Tryd.func3
    (witness_row_at (enc := enc) (C := Tryd.checked) false (laidWorld os) #[.string ByteArray.empty, .string ByteArray.empty, .string ByteArray.empty] rfl (by kernel_rfl) (by kernel_rfl) (by kernel_rfl)
      (OpenSpec.preRow_of_cond 8 hx (by kernel_rfl) (fun k hk => by cases hk) (by kernel_rfl) (met_fnExactFilterHas os))) ?_
  intro W base args ds gs before hval0 hW _ _ _ hL _ _
  have hval : ∀ (j : Nat) t v, Tryd.f3.params[j]? = some t → args[j]? = some v → Value.okWide Tryd.prog W .any base t v := hval0
  have hW' := hW
  obtain ⟨p, q, hA0, hV, rfl, hfz, hnd⟩ := hW
  have hA : DataW.TrodAll enc Tryd.prog W 0 (fun _ => true) true Tryd.f3.params.toList args.toList ds p := hA0
  rw [Tryd.params3] at hA hval
  obtain ⟨v0, vs0, d0, ds0, p0, q0, hargs, rfl, rfl, h0, r0⟩ := trodAll_cons hA
  obtain ⟨v1, vs1, d1, ds1, p1, q1, rfl, rfl, rfl, h1, r1⟩ := trodAll_cons r0
  obtain ⟨v2, vs2, d2, ds2, p2, q2, rfl, rfl, rfl, h2, r2⟩ := trodAll_cons r1
  obtain ⟨rfl, rfl, rfl⟩ := trodAll_nil r2
  obtain rfl : args = #[v0, v1, v2] := by cases args; simp_all
  obtain ⟨gv, tv, cv, fv, dv, pv, rfl, hgv, htv, hvv, hdv, rfl⟩ := trodVars_one hV
  obtain ⟨a0, rfl, rfl, rfl, w0⟩ := open_string Tryd.underlying9 (hval 0 9 v0 rfl rfl) h0
  obtain ⟨a1, rfl, rfl, rfl, w1⟩ := open_string Tryd.underlying9 (hval 1 9 v1 rfl rfl) h1
  obtain ⟨a2, rfl, rfl, rfl, w2⟩ := open_string Tryd.underlying9 (hval 2 9 v2 rfl rfl) h2
  clear hA0 hval0
  refine (walk_FnExactFilterHas a0 a1 a2 W w0 w1 w2 (table_fnExactFilterHas hL)).mono fun e W' ⟨he, bel⟩ => ?_
  subst he
  obtain ⟨pv', hpv⟩ := varsBack laid_fnExactFilterHas hgv htv hvv hdv bel
  exact ⟨_, rfl, _, _, _, [], _, pv', hW', trodAll_mk1 (shut_bool Tryd.underlying4 _), (trodAll_cons_mk (shut_string Tryd.underlying9 w0) (trodAll_cons_mk (shut_string Tryd.underlying9 w1) (trodAll_cons_mk (shut_string Tryd.underlying9 w2) trodAll_mk0))), hpv, bel.frame _, fun h => by cases h⟩

theorem fnExactFilterHas_said : Rows.FnExactFilterHasSaid :=
  OpenClaim.holds_of_cond 3 Tryd.f3 rfl rfl rfl rfl rfl rfl rfl ⟨rfl, rfl, rfl, rfl, rfl⟩ rfl rfl rfl rfl rfl (by kernel_rfl) Tryd.func3 (by kernel_rfl)
    (of_decide_eq_true (by kernel_rfl)) (by unfold Func.isWrapper; first | (rw [if_pos (by decide +kernel)]; kernel_rfl) | (rw [if_neg (by decide +kernel)]; exact ⟨rfl, rfl⟩))
    (fun os started H enc _ F => by rw [OpenClaim.pre_eq_preRow]; exact lifted_fnExactFilterHas os started H enc F)
theorem plain_fnExactFilterHas (f : FuncId) (fn : Func) (hf : Tryd.pinned.checked.prog.funcNamed "loop.example/cordillera/laws.FnExactFilterHas" = some f) (hfn : Tryd.pinned.checked.prog.funcs[f]? = some fn) :
    false = Tryd.pinned.checked.prog.looks [] ∧ ∀ (j : Nat) t, fn.params[j]? = some t → Tryd.pinned.checked.prog.wantsStandIn t = false := by
  obtain rfl : f = 3 := Option.some.inj ((show Tryd.prog.funcNamed "loop.example/cordillera/laws.FnExactFilterHas" = some 3 by kernel_rfl).symm.trans hf) |>.symm
  obtain rfl : fn = Tryd.f3 := (Option.some.inj (Tryd.func3.symm.trans hfn)).symm
  refine ⟨by kernel_rfl, fun j t ht => ?_⟩
  rw [Tryd.params3] at ht
  have hall : ∀ t ∈ (#[9, 9, 9] : Array TypeId), Tryd.prog.wantsStandIn t = false := by
    intro t ht
    simp only [List.mem_toArray, List.mem_cons, List.not_mem_nil, or_false] at ht
    rcases ht with rfl | rfl | rfl <;> kernel_rfl
  exact hall t (Array.mem_of_getElem? ht)
theorem fnExactFilterHas_holds : Rows.FnExactFilterHasCardSaid :=
  Claim7.holds_tied_plain_at .later [] _ _ _ _ fnExactFilterHas_said (fun _ h => by cases h) (by kernel_rfl) (fun _ h => by cases h) fnExactFilterHas_row_tie rfl ⟨rfl, rfl⟩ (by kernel_rfl) rfl plain_fnExactFilterHas (by kernel_rfl)
#print axioms fnExactFilterHas_holds
end Go.Proofs.YtcaejndpmagfaaaDoor

