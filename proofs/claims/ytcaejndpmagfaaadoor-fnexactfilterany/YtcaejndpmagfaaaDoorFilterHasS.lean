/-
  The specification's FilterHas.
-/
import Derived.Test.YtcaejndpmagfaaaDoorFilterHasW
set_option linter.unusedVariables false
namespace Go.Proofs.YtcaejndpmagfaaaDoor
open Go.RowKit

set_option maxHeartbeats 1000000 in
set_option maxRecDepth 100000 in
theorem specHas (s k it : ByteArray) (w : World) (hs : s.size ≤ 1048576) (h1 : isSum k.data.toList = true) (h2 : isItem it.data.toList = true) :
    Calls Tryd.prog 20 #[.string s, .string k, .string it] w fun e w' => e = .returned (.bool (filterHas s.data.toList k.data.toList it.data.toList)) ∧ Below w.heap.size w w' := by
  have hget := specPlaces s w hs
  cases hfg : filterGet s.data.toList with
  | none =>
    rw [filterHas_none hfg]
    rw [hfg] at hget
    dsimp only [Option.isSome] at hget
    generalize manyOf2 s.data.toList = mo at hget
    clear hfg h1 h2
    go_enter Tryd.func20, Tryd.ntmps20
    go_wp2_with (go_at_call 39; refine hget.mono ?_; rintro e w1 ⟨v, rfl, g1, b1⟩; obtain rfl : v = .slice none 0 0 := g1)
    go_ret
    exact ⟨rfl, b1⟩
  | some l =>
    rw [hfg, manyOf2_some hfg] at hget
    dsimp only [Option.isSome] at hget
    have hl40 := (filterGet_len2 hfg).1
    have hget2 : Calls Tryd.prog 39 #[.string s] w fun e w' => ∃ g c, e = .returned (.tuple #[.slice (some ⟨g, 0, none⟩) l.length c, .int .i64 ((l.length : Nat) : Int), .bool true]) ∧ At w' g (l.map fun n : Nat => (n : Int)) ∧ Below w.heap.size w w' := by
      refine hget.mono ?_
      rintro e w1 ⟨v, rfl, g1, b1⟩
      obtain ⟨g, c, rfl⟩ := g1.1
      exact ⟨g, c, rfl, outRow_at g1, b1⟩
    obtain ⟨ln, hln⟩ : ∃ ln, ln = l.length := ⟨_, rfl⟩
    rw [← hln] at hl40 hget2
    have HLN : Hid (ln = l.length) := hln
    clear hget
    by_cases hl0 : l = []
    · rw [filterHas_nil (by rw [hfg, hl0])]
      have hz : ((ln : Int) == 0) = true := by rw [hln, hl0]; rfl
      clear hl0 hln hfg h1 h2
      go_enter Tryd.func20, Tryd.ntmps20
      go_wp2_with (go_at_call 39; refine hget2.mono ?_; rintro e w1 ⟨g, c, rfl, hat, b1⟩)
      go_ret
      exact ⟨rfl, b1⟩
    · have hz0 : ln ≠ 0 := by rw [hln]; intro e; exact hl0 (List.length_eq_zero_iff.1 e)
      have hz : ((ln : Int) == 0) = false := by simp; omega
      rw [filterHas_yes hfg hl0 h1 h2, ← hln]
      have hto := fun w' => specL2To k it ((ln : Int) * 37) w' h1 h2 (by omega)
      generalize filterTo k.data.toList it.data.toList ((ln : Int) * 37) = z at hto ⊢
      obtain ⟨B, hB⟩ : ∃ B, B = (l.any fun p => decide ((p : Int) = z)) := ⟨_, rfl⟩
      rw [← hB]
      have HBB : Hid (B = (l.any fun p => decide ((p : Int) = z))) := hB
      clear hl0 hln hfg h1 h2 hB
      go_enter Tryd.func20, Tryd.ntmps20
      go_wp2_with (go_at_call 39; refine hget2.mono ?_; rintro e w1 ⟨g, c, rfl, hat, b1⟩)
      have HB1 : Hid (Below w.heap.size w w1) := b1
      have HAT : Hid (At w1 g (l.map fun n : Nat => (n : Int))) := hat
      clear b1 hat hget2
      refine (hto _).mono ?_
      rintro e w2 ⟨rfl, b2⟩
      have HB2 : Hid (Below w.heap.size w w2) := HB1.out.trans (b2.mono HB1.out.size)
      have HAT2 : Hid (At w2 g (l.map fun n : Nat => (n : Int))) := HAT.out.below b2 HAT.out.1
      clear b2 hto
      go_wp2_with fail
      go_loop [11] (fun i => ∃ k : Nat, k ≤ ln ∧ i = .int .i64 (k : Int) ∧ Hid (∀ j, j < k → ((l.getD j 0 : Nat) : Int) ≠ z)) (fun i => ln - (intOf i).toNat)
      case atStart => exact ⟨0, by omega, rfl, fun j hj => by omega⟩
      case round =>
        obtain ⟨k, hk, rfl, HT⟩ := hrel
        by_cases hlt : k < ln
        · have hkl : k < l.length := by rw [← HLN.out]; exact hlt
          have hc := HAT2.out.2 k (by simpa using hkl)
          have ez : (l.map fun n : Nat => (n : Int)).getD k 0 = ((l.getD k 0 : Nat) : Int) := by
            rw [List.getD_eq_getElem?_getD, List.getElem?_map, List.getElem?_eq_getElem hkl, List.getD_eq_getElem?_getD, List.getElem?_eq_getElem hkl]
            rfl
          rw [ez] at hc
          have HK : Hid (k + 1 ≤ ln) := hlt
          have lk : (k : Int) < (ln : Int) := by omega
          have lk0 : (0 : Int) ≤ (k : Int) := by omega
          by_cases he : ((l.getD k 0 : Nat) : Int) = z
          · have HY : Hid (B = true) := by rw [HBB.out]; exact any_yes l z k hkl he
            obtain ⟨x, hx⟩ : ∃ x : Int, x = ((l.getD k 0 : Nat) : Int) := ⟨_, rfl⟩
            rw [← hx] at hc he
            subst he
            clear hx ez hkl
            go_wp2_with fail
            go_ret
            rw [HY.out]
            exact ⟨rfl, HB2.out⟩
          · have HT2 : Hid (∀ j, j < k + 1 → ((l.getD j 0 : Nat) : Int) ≠ z) := by
              intro j hj
              rcases Nat.lt_or_ge j k with h' | h'
              · exact HT.out j h'
              · obtain rfl : j = k := by omega
                exact he
            obtain ⟨x, hx⟩ : ∃ x : Int, x = ((l.getD k 0 : Nat) : Int) := ⟨_, rfl⟩
            rw [← hx] at hc he
            have hne : (x == z) = false := by simp; exact he
            clear hx he ez hkl
            go_wp2_with fail
            go_round
            case rel => exact ⟨k + 1, HK.out, by go_num, HT2⟩
            case measure => have := HK.out; simp [intOf]; omega
        · have HY : Hid (B = false) := by rw [HBB.out]; exact any_no l z (fun j hj => HT.out j (by have := HLN.out; omega))
          go_wp2_with fail
          go_ret
          rw [HY.out]
          exact ⟨rfl, HB2.out⟩

set_option maxHeartbeats 1000000 in
set_option maxRecDepth 100000 in
theorem specFilterHas (s k it : ByteArray) (w : World) (hs : s.size ≤ 1048576) (hk : k.size ≤ maxLen) (hi : it.size ≤ maxLen) :
    Calls Tryd.prog 7 #[.string s, .string k, .string it] w fun e w' => e = .returned (.bool (filterHas s.data.toList k.data.toList it.data.toList)) ∧ Below w.heap.size w w' := by
  cases h1 : isSum k.data.toList with
  | false =>
    rw [filterHas_no1 h1]
    go_enter Tryd.func7, Tryd.ntmps7
    go_wp2_with (go_at_call 18; refine (specIsSum _ _ hk).mono ?_; rintro e w1 ⟨rfl, rfl⟩)
    go_ret
    exact ⟨rfl, Below.refl _ _⟩
  | true =>
    cases h2 : isItem it.data.toList with
    | false =>
      rw [filterHas_no2 h2]
      go_enter Tryd.func7, Tryd.ntmps7
      go_wp2_with (first | (go_at_call 18; refine (specIsSum _ _ hk).mono ?_; rintro e w1 ⟨rfl, rfl⟩) | (go_at_call 19; refine (specItemOk _ _ hi).mono ?_; rintro e w1 ⟨rfl, rfl⟩))
      go_ret
      exact ⟨rfl, Below.refl _ _⟩
    | true =>
      have hh := fun w' => specHas s k it w' hs h1 h2
      generalize filterHas s.data.toList k.data.toList it.data.toList = B at hh ⊢
      go_enter Tryd.func7, Tryd.ntmps7
      go_wp2_with (first | (go_at_call 18; refine (specIsSum _ _ hk).mono ?_; rintro e w1 ⟨rfl, rfl⟩) | (go_at_call 19; refine (specItemOk _ _ hi).mono ?_; rintro e w1 ⟨rfl, rfl⟩) | (go_at_call 20; refine (hh _).mono ?_; rintro e w1 ⟨rfl, b1⟩))
      go_ret
      exact ⟨rfl, b1⟩

end Go.Proofs.YtcaejndpmagfaaaDoor
