/-
  The law on what RiceGet reads: it is written just so.
-/
import Derived.Test.YteihpdnbehnnhaaDraw6
import Derived.Test.YteihpdnbehnnhaaRiceC
import Derived.Test.YteihpdnbehnnhaaRiceGI6
import Derived.Test.YteihpdnbehnnhaaRiceGS4
import Derived.Test.YteihpdnbehnnhaaOutRowM
set_option linter.unusedVariables false
namespace Go.Proofs.Yteihpdnbehnnhaa
open Go.RowKit

theorem writes_prefix {k many : Nat} {o x : List UInt8} {l l' : List Nat} (h : Writes k many o l) (h' : Writes k many (o ++ x) l') : x = [] := by
  have e1 := writes_one h'
  obtain ⟨z, _, hu⟩ := unpack_rice k l
  rw [unpack_append, ← h.2.2, hu, List.append_assoc, readT_all k many l [] _ (by simp [h.1])] at e1
  have e2 : l = l' := e1
  have h3 := h'.2.2
  rw [← e2, h.2.2] at h3
  have := congrArg List.length h3
  simp at this
  exact this
theorem riceGet_prefix {o x : List UInt8} {m k : Int} {l : List Nat} (h : riceGet o m k = some l) (hx : x ≠ []) : riceGet (o ++ x) m k = none := by
  cases hr : riceGet (o ++ x) m k with
  | none => rfl
  | some l' => exact absurd (writes_prefix (riceGet_some h).2 (riceGet_some hr).2) hx
theorem riceGet_less {o x : List UInt8} {m k : Int} {l : List Nat} (h : riceGet (o ++ x) m k = some l) (hx : x ≠ []) : riceGet o m k = none := by
  cases hr : riceGet o m k with
  | none => rfl
  | some l' => exact absurd (writes_prefix (riceGet_some hr).2 (riceGet_some h).2) hx
theorem riceGet_many {o : List UInt8} {m k : Int} {l : List Nat} (h : riceGet o m k = some l) : ((l.length : Nat) : Int) = m ∧ 0 ≤ m ∧ m ≤ 40 ∧ 0 ≤ k ∧ k ≤ 8 := by
  have h1 := riceGet_some h
  have h2 := h1.1
  simp only [getOk, Bool.and_eq_true, decide_eq_true_eq] at h2
  have h3 := h1.2.1
  omega
theorem riceGet_nil {m k : Int} {l : List Nat} (h : riceGet [] m k = some l) : m = 0 := by
  have h1 := riceGet_many h
  have h2 := (riceGet_some h).2.2.2
  obtain ⟨z, _, hu⟩ := unpack_rice k.toNat l
  rw [h2] at hu
  have h3 : bitsOf k.toNat l = [] := by
    have := congrArg List.length hu
    simp [unpack] at this
    exact List.length_eq_zero_iff.1 (by omega)
  cases l with
  | nil => simp at h1; omega
  | cons y r =>
    have := congrArg List.length h3
    simp [bitsOf, numB] at this
theorem riceGet_put {o : List UInt8} {m k : Int} {l : List Nat} (h : riceGet o m k = some l) : ricePut (l.map fun n : Nat => (n : Int)) k = o := by
  have h1 := riceGet_many h
  have h2 := (riceGet_some h).2
  obtain ⟨kn, rfl⟩ := Int.eq_ofNat_of_zero_le h1.2.2.2.1
  have h3 : Writes kn m.toNat o l := h2
  exact (put_writes (by omega) (by omega) h3.1 (writes_one h3)).2 h3

set_option maxHeartbeats 1000000 in
set_option maxRecDepth 100000 in
theorem walk_FnRiceGet (a : Option Addr) (len cap : Nat) (zs : List Int) (w : World) (h : IsRow .u8 w a len cap zs) :
    Calls Try.prog 6 #[.slice a len cap] w fun e w' => e = .returned (.bool true) ∧ Below w.heap.size w w' := by
  by_cases hl : (1048576 : Int) < (len : Int)
  · go_enter Try.func6, Try.ntmps6
    go_wp2
    go_ret
    exact ⟨rfl, Below.refl _ _⟩
  go_enter Try.func6, Try.ntmps6
  go_wp2_with fail
  refine (drawRiceGet a len cap zs _ h).mono ?_
  rintro e w1 ⟨s, m, k, rfl, hsz, b1⟩
  have HB1 : Hid (Below w.heap.size w w1) := b1
  clear h hl b1
  cases hr : riceGet s.data.toList m k with
  | none =>
    have hI := implRiceGet s m k w1
    rw [hr] at hI
    have HS : Hid (∀ w', Calls Try.prog 13 #[.string s, .int .i64 m, .int .i64 k] w' fun e w'' => e = .returned (.tuple #[.slice none 0 0, .bool false]) ∧ Below w'.heap.size w' w'') := by
      intro w'
      have := specRiceGet s m k w' (by omega)
      rw [hr] at this
      refine this.mono ?_
      rintro e w'' ⟨v, rfl, g, b⟩
      obtain rfl : v = .slice none 0 0 := g
      exact ⟨rfl, b⟩
    dsimp only [Option.isSome] at hI
    clear hr
    go_wp2_with fail
    refine hI.mono ?_
    rintro e w2 ⟨v2, rfl, g2, b2⟩
    obtain rfl : v2 = .slice none 0 0 := g2
    have HB2 : Hid (Below w.heap.size w w2) := HB1.out.trans (b2.mono HB1.out.size)
    clear b2 hI
    go_wp2_with fail
    refine (HS.out _).mono ?_
    rintro e w3 ⟨rfl, b3⟩
    have HB3 : Hid (Below w.heap.size w w3) := HB2.out.trans (b3.mono HB2.out.size)
    clear b3
    go_wp2_with (go_at_call 18; refine (coIntsNil _).mono ?_; rintro e w4 ⟨rfl, rfl⟩)
    go_ret
    exact ⟨rfl, HB3.out⟩
  | some l =>
    have hI := implRiceGet s m k w1
    rw [hr] at hI
    have hS := fun w' => specRiceGet s m k w' (by omega)
    rw [hr] at hS
    have hmany := riceGet_many hr
    obtain ⟨hm1, hm2, hm3, hm4, hm5⟩ := hmany
    have HLM : Hid (l.length ≤ 40) := by show _ ≤ _; omega
    have HPUT : Hid (ricePut (l.map fun n : Nat => (n : Int)) k = s.data.toList) := riceGet_put hr
    have HR : Hid (riceGet s.data.toList m k = some l) := hr
    dsimp only [Option.isSome] at hI hS
    clear hr hm4 hm5
    go_wp2_with fail
    refine hI.mono ?_
    rintro e w2 ⟨v2, rfl, g2, b2⟩
    obtain ⟨gg2, c2, rfl⟩ := g2.1
    have HB2 : Hid (Below w.heap.size w w2) := HB1.out.trans (b2.mono HB1.out.size)
    have HO2 : Hid (OutRow w1.heap.size (.slice (some ⟨gg2, 0, none⟩) l.length c2) l w2) := g2
    clear b2 hI g2
    go_wp2_with fail
    refine (hS _).mono ?_
    rintro e w3 ⟨v3, rfl, g3, b3⟩
    obtain ⟨gg3, c3, rfl⟩ := g3.1
    have HB3 : Hid (Below w.heap.size w w3) := HB2.out.trans (b3.mono HB2.out.size)
    have HA3 : Hid (At w3 gg3 (l.map fun n : Nat => (n : Int))) := outRow_at g3
    have HA23 : Hid (At w3 gg2 (l.map fun n : Nat => (n : Int))) := outRow_at (HO2.out.keep b3 HO2.out.lt.2)
    clear b3 g3 hS
    obtain ⟨ln, hln⟩ : ∃ ln, ln = l.length := ⟨_, rfl⟩
    rw [← hln] at hm1 HLM ⊢
    have HLN : Hid (ln = (l.map fun n : Nat => (n : Int)).length) := by show _ = _; rw [hln]; simp
    clear hln
    have hl40 := HLM.out
    cases he : s.toList.isEmpty with
    | true =>
      have hnil : s.data.toList = [] := by
        rw [← ByteArray.toList_eq]
        exact List.isEmpty_iff.1 he
      have hm0 : m = 0 := by
        have := HR.out
        rw [hnil] at this
        exact riceGet_nil this
      subst hm0
      clear hnil
      go_wp2_with (go_at_call 18; refine (coIntsYes gg2 gg3 ln c2 c3 _ _ HA23.out HA3.out HLN.out (by omega)).mono ?_; rintro e w4 ⟨rfl, b4⟩)
      go_ret
      exact ⟨rfl, HB3.out.trans (b4.mono HB3.out.size)⟩
    | false =>
      have hne : s.data.toList ≠ [] := by
        rw [← ByteArray.toList_eq]
        intro e
        rw [e] at he
        cases he
      have hs0 : 0 < s.size := by
        have := List.length_pos_iff.2 hne
        simpa using this
      have hs1 : 1 ≤ (s.size : Int) ∧ (s.size : Int) - 1 ≤ (s.size : Int) := by omega
      have HLESS : Hid (∀ w', Calls Try.prog 14 #[.string (s.extract 0 (s.size - 1)), .int .i64 m, .int .i64 k] w' fun e w'' => e = .returned (.tuple #[.slice none 0 0, .bool false]) ∧ Below w'.heap.size w' w'') := by
        intro w'
        have hg := implRiceGet (s.extract 0 (s.size - 1)) m k w'
        have hx : (s.extract 0 (s.size - 1)).data.toList = s.data.toList.take (s.size - 1) := by
          simp
          rw [List.dropLast_eq_take]
          simp
        have hn : riceGet (s.data.toList.take (s.size - 1)) m k = none := by
          refine riceGet_less (x := s.data.toList.drop (s.size - 1)) (l := l) ?_ ?_
          · rw [List.take_append_drop]; exact HR.out
          · intro e
            have := congrArg List.length e
            simp at this
            omega
        rw [hx, hn] at hg
        refine hg.mono ?_
        rintro e w'' ⟨v, rfl, g, b⟩
        obtain rfl : v = .slice none 0 0 := g
        exact ⟨rfl, b⟩
      have HMORE : Hid (∀ w', Calls Try.prog 14 #[.string (s ++ ⟨#[0]⟩), .int .i64 m, .int .i64 k] w' fun e w'' => e = .returned (.tuple #[.slice none 0 0, .bool false]) ∧ Below w'.heap.size w' w'') := by
        intro w'
        have hg := implRiceGet (s ++ ⟨#[0]⟩) m k w'
        have hx : (s ++ ⟨#[0]⟩ : ByteArray).data.toList = s.data.toList ++ [0] := by simp
        have hn : riceGet (s.data.toList ++ [0]) m k = none := riceGet_prefix HR.out (by simp)
        rw [hx, hn] at hg
        refine hg.mono ?_
        rintro e w'' ⟨v, rfl, g, b⟩
        obtain rfl : v = .slice none 0 0 := g
        exact ⟨rfl, b⟩
      clear hne
      go_wp2_with (go_at_call 18; refine (coIntsYes gg2 gg3 ln c2 c3 _ _ HA23.out HA3.out HLN.out (by omega)).mono ?_; rintro e w4 ⟨rfl, b4⟩)
      have HB4 : Hid (Below w.heap.size w w4) := HB3.out.trans (b4.mono HB3.out.size)
      have HA4 : Hid (At w4 gg2 (l.map fun n : Nat => (n : Int))) := HA23.out.below b4 HA23.out.1
      clear b4
      refine (HLESS.out _).mono ?_
      rintro e w5 ⟨rfl, b5⟩
      have HB5 : Hid (Below w.heap.size w w5) := HB4.out.trans (b5.mono HB4.out.size)
      have HA5 : Hid (At w5 gg2 (l.map fun n : Nat => (n : Int))) := HA4.out.below b5 HA4.out.1
      clear b5
      go_wp2_with fail
      refine (HMORE.out _).mono ?_
      rintro e w6 ⟨rfl, b6⟩
      have HB6 : Hid (Below w.heap.size w w6) := HB5.out.trans (b6.mono HB5.out.size)
      have HA6 : Hid (At w6 gg2 (l.map fun n : Nat => (n : Int))) := HA5.out.below b6 HA5.out.1
      clear b6
      have hput := fun w' h' => implRicePut gg2 ln c2 (l.map fun n : Nat => (n : Int)) k w' h' HLN.out
      rw [HPUT.out] at hput
      have hsl : (s.data.toList == s.toList) = true := by rw [ByteArray.toList_eq]; simp
      have hlm : ((ln : Int) == m) = true := by simp [hm1]
      clear hm1
      go_wp2_with (go_at_call 11; refine (hput _ HA6.out).mono ?_; rintro e w7 ⟨rfl, b7⟩)
      go_ret
      exact ⟨rfl, HB6.out.trans (b7.mono HB6.out.size)⟩

end Go.Proofs.Yteihpdnbehnnhaa
