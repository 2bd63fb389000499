/-
  The program's FilterHas.
-/
import Derived.Test.YtcaejndpmagfaaaDoorFilterHasW
set_option linter.unusedVariables false
namespace Go.Proofs.YtcaejndpmagfaaaDoor
open Go.RowKit

set_option maxHeartbeats 1000000 in
set_option maxRecDepth 100000 in
theorem implFilterHas (s k it : ByteArray) (w : World) (hs : s.size ≤ maxLen) (hK : RowG w shaK) :
    Calls Tryd.prog 8 #[.string s, .string k, .string it] w fun e w' => e = .returned (.bool (filterHas s.data.toList k.data.toList it.data.toList)) ∧ Below w.heap.size w w' := by
  have hget := implFilterGet s w hs
  have HK : Hid (RowG w shaK) := hK
  clear hK
  cases hfg : filterGet s.data.toList with
  | none =>
    rw [filterHas_none hfg]
    rw [hfg] at hget
    dsimp only [Option.isSome] at hget
    clear hfg
    go_enter Tryd.func8, Tryd.ntmps8
    go_wp2_with (go_at_call 15; refine hget.mono ?_; rintro e w1 ⟨v, rfl, g1, b1⟩; obtain rfl : v = .slice none 0 0 := g1)
    go_ret
    exact ⟨rfl, b1⟩
  | some l =>
    rw [hfg] at hget
    dsimp only [Option.isSome] at hget
    have hlen := filterGet_len2 hfg
    have hl40 := hlen.1
    clear hlen
    have HFG : Hid (filterGet s.data.toList = some l) := hfg
    have hget2 : Calls Tryd.prog 15 #[.string s] w fun e w' => ∃ g c n, e = .returned (.tuple #[.slice (some ⟨g, 0, none⟩) n c, .bool true]) ∧ n = l.length ∧ At w' g (l.map fun n : Nat => (n : Int)) ∧ Below w.heap.size w w' := by
      refine hget.mono ?_
      rintro e w1 ⟨v, rfl, g1, b1⟩
      obtain ⟨g, c, rfl⟩ := g1.1
      exact ⟨g, c, l.length, rfl, rfl, outRow_at g1, b1⟩
    clear hget hfg
    by_cases hl0 : l = []
    · rw [filterHas_nil (by rw [HFG.out, hl0])]
      have HL0 : Hid (l.length = 0) := by rw [hl0]; rfl
      clear hl0
      go_enter Tryd.func8, Tryd.ntmps8
      go_wp2_with (go_at_call 15; refine hget2.mono ?_; rintro e w1 ⟨g, c, n, rfl, hn, hat, b1⟩; rw [HL0.out] at hn; subst hn)
      go_ret
      exact ⟨rfl, b1⟩
    · cases h1 : isSum k.data.toList with
      | false =>
        rw [filterHas_no1 h1]
        have HL0 : Hid (l.length ≠ 0) := fun e => hl0 (List.length_eq_zero_iff.1 e)
        clear hl0
        go_enter Tryd.func8, Tryd.ntmps8
        go_wp2_with first
          | (go_at_call 15; refine hget2.mono ?_; rintro e w1 ⟨g, c, n, rfl, hn, hat, b1⟩; have hne : ((n : Int) == 0) = false := (by have := HL0.out; simp; omega); clear hn)
          | (go_at_call 21; refine (implSumOk _ _).mono ?_; rintro e w2 ⟨rfl, rfl⟩)
        go_ret
        exact ⟨rfl, b1⟩
      | true =>
        cases h2 : isItem it.data.toList with
        | false =>
          rw [filterHas_no2 h2]
          have HL0 : Hid (l.length ≠ 0) := fun e => hl0 (List.length_eq_zero_iff.1 e)
          clear hl0
          go_enter Tryd.func8, Tryd.ntmps8
          go_wp2_with first
            | (go_at_call 15; refine hget2.mono ?_; rintro e w1 ⟨g, c, n, rfl, hn, hat, b1⟩; have hne : ((n : Int) == 0) = false := (by have := HL0.out; simp; omega); clear hn)
            | (go_at_call 21; refine (implSumOk _ _).mono ?_; rintro e w2 ⟨rfl, rfl⟩)
            | (go_at_call 22; refine (implItemOk _ _).mono ?_; rintro e w2 ⟨rfl, rfl⟩)
          go_ret
          exact ⟨rfl, b1⟩
        | true =>
          rw [filterHas_yes HFG.out hl0 h1 h2]
          have HL0 : Hid (l.length ≠ 0) := fun e => hl0 (List.length_eq_zero_iff.1 e)
          obtain ⟨ln, hln⟩ : ∃ ln, ln = l.length := ⟨_, rfl⟩
          rw [← hln] at hl40 HL0 ⊢
          have hto := fun w' h' => implFilterTo k it ((ln : Int) * 37) w' h'
          generalize filterTo k.data.toList it.data.toList ((ln : Int) * 37) = z at hto ⊢
          have hcon := fun g c n w' h' hn' => containsInts g n c l z w' h' hn'
          generalize (l.any fun p => decide ((p : Int) = z)) = b at hcon ⊢
          have HLN : Hid (ln = l.length) := hln
          have hne : ((ln : Int) == 0) = false := by have := HL0.out; simp; omega
          clear hl0 hln
          go_enter Tryd.func8, Tryd.ntmps8
          go_wp2_with first
            | (go_at_call 15; refine hget2.mono ?_; rintro e w1 ⟨g, c, n, rfl, hn, hat, b1⟩; rw [← HLN.out] at hn; subst hn)
            | (go_at_call 21; refine (implSumOk _ _).mono ?_; rintro e w2 ⟨rfl, rfl⟩)
            | (go_at_call 22; refine (implItemOk _ _).mono ?_; rintro e w2 ⟨rfl, rfl⟩)
          have HB1 : Hid (Below w.heap.size w w1) := b1
          have HAT : Hid (At w1 g (l.map fun n : Nat => (n : Int))) := hat
          clear b1 hat
          refine (hto _ (HK.out.below HB1.out HK.out.lt)).mono ?_
          rintro e w2 ⟨rfl, b2⟩
          have HB2 : Hid (Below w.heap.size w w2) := HB1.out.trans (b2.mono HB1.out.size)
          have HAT2 : Hid (At w2 g (l.map fun n : Nat => (n : Int))) := HAT.out.below b2 HAT.out.1
          clear b2 hto
          go_wp2_with fail
          refine (hcon g c n _ HAT2.out HLN.out (by omega)).mono ?_
          rintro e w3 ⟨rfl, rfl⟩
          clear hcon
          go_wp2_with fail
          go_ret
          exact ⟨rfl, HB2.out⟩

end Go.Proofs.YtcaejndpmagfaaaDoor
