/-
  The law on RiceGet: at every text, number and bits both answers are one; what came back is its own.
-/
import Derived.Test.YteihpdnbehnnhaaRiceGI6
import Derived.Test.YteihpdnbehnnhaaOutRowM
import Derived.Test.YteihpdnbehnnhaaRiceGS4
import Derived.Test.YteihpdnbehnnhaaRiceL
import Derived.Test.YteihpdnbehnnhaaRiceLM
import Derived.Test.YteihpdnbehnnhaaRiceLN
set_option linter.unusedVariables false
namespace Go.Proofs.Yteihpdnbehnnhaa
open Go.RowKit

theorem OutRow.room {B g n cap : Nat} {l : List Nat} {w : World} (h : OutRow B (.slice (some ⟨g, 0, none⟩) n cap) l w) : Room w g l.length := by
  obtain ⟨⟨g', cap', hv⟩, hrow⟩ := h
  simp only [Value.slice.injEq, Option.some.injEq, Addr.mk.injEq, and_true] at hv
  obtain ⟨rfl, rfl, rfl⟩ := hv
  obtain ⟨cur, hc, hlt⟩ := ownsRow_type hrow g rfl
  intro i hi
  exact ⟨⟨_, intCell_at hrow i hi⟩, Lib.frozen_of_heap hc i⟩
theorem Marks.below {w w' : World} {g n B : Nat} {k : Int} (h : Marks w g n k) (hb : Below B w w') (hg : g < B) : Marks w' g n k := fun i hi => (hb.cell (p := ⟨g, i, none⟩) hg).trans (h i hi)
set_option maxHeartbeats 1000000 in
set_option maxRecDepth 100000 in
theorem walk_FnExactRiceGet (s : ByteArray) (many k : Int) (w : World) (hs : s.size ≤ maxLen) (hm : (Lit.int .i64 many).wf = true) (hk : (Lit.int .i64 k).wf = true) :
    Calls Try.prog 4 #[.string s, .int .i64 many, .int .i64 k] w fun e w' => e = .returned (.bool true) ∧ Below w.heap.size w w' := by
  clear hm hk hs
  by_cases hl : (1048576 : Int) < (s.size : Int)
  · go_enter Try.func4, Try.ntmps4
    go_wp2
    go_ret
    exact ⟨rfl, Below.refl _ _⟩
  have hsm : s.size ≤ 1048576 := by omega
  go_enter Try.func4, Try.ntmps4
  go_wp2_with fail
  refine (specRiceGet s many k _ hsm).mono ?_
  rintro e w1 ⟨v1, rfl, g1, b1⟩
  have HB1 : Hid (Below w.heap.size w w1) := b1
  cases hr : riceGet s.data.toList many k with
  | none =>
    rw [hr] at g1
    obtain rfl : v1 = .slice none 0 0 := g1
    have HI : Hid (∀ w', Calls Try.prog 14 #[.string s, .int .i64 many, .int .i64 k] w' fun e w'' => e = .returned (.tuple #[.slice none 0 0, .bool false]) ∧ Below w'.heap.size w' w'') := by
      intro w'
      have := implRiceGet s many k w'
      rw [hr] at this
      refine this.mono ?_
      rintro e w'' ⟨v, rfl, g, b⟩
      obtain rfl : v = .slice none 0 0 := g
      exact ⟨rfl, b⟩
    clear b1 hr
    dsimp only [Option.isSome]
    go_wp2_with fail
    refine (HI.out _).mono ?_
    rintro e w2 ⟨rfl, b2⟩
    have HB2 : Hid (Below w.heap.size w w2) := HB1.out.trans (b2.mono HB1.out.size)
    clear b2
    go_wp2_with fail
    refine (eqIntsNil _).mono ?_
    rintro e w3 ⟨rfl, rfl⟩
    go_wp2_with fail
    refine (markIntsNil _ _).mono ?_
    rintro e w3 ⟨rfl, rfl⟩
    go_wp2_with fail
    refine (heldIntsNil _ _).mono ?_
    rintro e w3 ⟨rfl, rfl⟩
    go_wp2_with fail
    refine (HI.out _).mono ?_
    rintro e w3 ⟨rfl, b3⟩
    have HB3 : Hid (Below w.heap.size w w3) := HB2.out.trans (b3.mono HB2.out.size)
    clear b3
    go_wp2_with fail
    refine (eqIntsNil _).mono ?_
    rintro e w4 ⟨rfl, rfl⟩
    go_wp2_with fail
    refine (heldIntsNil _ _).mono ?_
    rintro e w4 ⟨rfl, rfl⟩
    go_wp2_with fail
    go_ret
    exact ⟨rfl, HB3.out⟩
  | some l =>
    rw [hr] at g1
    obtain ⟨gg1, c1, rfl⟩ := g1.1
    have HI : Hid (∀ w', Calls Try.prog 14 #[.string s, .int .i64 many, .int .i64 k] w' fun e w'' => ∃ g c, e = .returned (.tuple #[.slice (some ⟨g, 0, none⟩) l.length c, .bool true]) ∧ OutRow w'.heap.size (.slice (some ⟨g, 0, none⟩) l.length c) l w'' ∧ Below w'.heap.size w' w'') := by
      intro w'
      have := implRiceGet s many k w'
      rw [hr] at this
      refine this.mono ?_
      rintro e w'' ⟨v, rfl, g, b⟩
      obtain ⟨gg, c, rfl⟩ := g.1
      exact ⟨gg, c, rfl, g, b⟩
    have HLn : Hid (l.length ≤ 40) := by
      have := (riceGet_some hr)
      have h2 := this.1
      simp only [getOk, Bool.and_eq_true, decide_eq_true_eq] at h2
      have h3 := this.2.1
      show l.length ≤ 40
      omega
    have HO1 : Hid (OutRow w.heap.size (.slice (some ⟨gg1, 0, none⟩) l.length c1) l w1) := g1
    have hl40 := HLn.out
    have hlm : l.length ≤ 1073741824 := by omega
    have hlm2 : l.length ≤ 1000000000 := by omega
    have hle : ((l.length : Nat) : Int) ≤ 40 := by omega
    clear b1 hr g1
    dsimp only [Option.isSome]
    go_wp2_with fail
    refine (HI.out _).mono ?_
    rintro e w2 ⟨gg2, c2, rfl, o2, b2⟩
    have HB2 : Hid (Below w.heap.size w w2) := HB1.out.trans (b2.mono HB1.out.size)
    have HO12 : Hid (OutRow w.heap.size (.slice (some ⟨gg1, 0, none⟩) l.length c1) l w2) := HO1.out.keep b2 HO1.out.lt.2
    have HO2 : Hid (OutRow w1.heap.size (.slice (some ⟨gg2, 0, none⟩) l.length c2) l w2) := o2
    have HS2 : Hid (w1.heap.size ≤ gg2 ∧ gg1 < w1.heap.size ∧ w.heap.size ≤ w1.heap.size) := ⟨o2.lt.1, HO1.out.lt.2, HB1.out.size⟩
    clear b2 o2
    go_wp2_with fail
    refine (eqInts gg2 gg1 l.length c2 c1 (l.map fun n : Nat => (n : Int)) _ (outRow_at HO2.out) (outRow_at HO12.out) (by simp) hlm).mono ?_
    rintro e w3 ⟨rfl, b3⟩
    have HB3 : Hid (Below w.heap.size w w3) := HB2.out.trans (b3.mono HB2.out.size)
    have HO13 : Hid (OutRow w.heap.size (.slice (some ⟨gg1, 0, none⟩) l.length c1) l w3) := HO12.out.keep b3 HO12.out.lt.2
    have HO3 : Hid (OutRow w1.heap.size (.slice (some ⟨gg2, 0, none⟩) l.length c2) l w3) := HO2.out.keep b3 HO2.out.lt.2
    clear b3
    go_wp2_with fail
    refine (markInts gg2 l.length c2 1 _ HO3.out.room (by omega) (by omega) hlm2).mono ?_
    rintro e w4 ⟨rfl, r4, m4, on4⟩
    have HM4 : Hid (Marks w4 gg2 l.length 1) := m4
    have HB4 : Hid (Below w.heap.size w w4) := HB3.out.trans (on4.below (by have := HS2.out; omega))
    have HO14 : Hid (OutRow w.heap.size (.slice (some ⟨gg1, 0, none⟩) l.length c1) l w4) := HO13.out.keep (on4.below (B := w1.heap.size) HS2.out.1) HS2.out.2.1
    have HL4 : Hid (gg2 < w4.heap.size) := by show _ < _; rw [on4.size]; exact HO3.out.lt.2
    clear r4 m4 on4
    go_wp2_with fail
    refine (heldInts gg2 l.length c2 1 _ HM4.out (by omega) (by omega) hlm2).mono ?_
    rintro e w5 ⟨rfl, rfl⟩
    go_wp2_with fail
    refine (HI.out _).mono ?_
    rintro e w5 ⟨gg5, c5, rfl, o5, b5⟩
    have HB5 : Hid (Below w.heap.size w w5) := HB4.out.trans (b5.mono HB4.out.size)
    have HO15 : Hid (OutRow w.heap.size (.slice (some ⟨gg1, 0, none⟩) l.length c1) l w5) := HO14.out.keep b5 HO14.out.lt.2
    have HO5 : Hid (OutRow w4.heap.size (.slice (some ⟨gg5, 0, none⟩) l.length c5) l w5) := o5
    have HM5 : Hid (Marks w5 gg2 l.length 1) := HM4.out.below b5 HL4.out
    have HL5 : Hid (gg2 < w5.heap.size) := Nat.lt_of_lt_of_le HL4.out b5.size
    clear b5 o5
    go_wp2_with fail
    refine (eqInts gg5 gg1 l.length c5 c1 (l.map fun n : Nat => (n : Int)) _ (outRow_at HO5.out) (outRow_at HO15.out) (by simp) hlm).mono ?_
    rintro e w6 ⟨rfl, b6⟩
    have HB6 : Hid (Below w.heap.size w w6) := HB5.out.trans (b6.mono HB5.out.size)
    have HM6 : Hid (Marks w6 gg2 l.length 1) := HM5.out.below b6 HL5.out
    clear b6
    go_wp2_with fail
    refine (heldInts gg2 l.length c2 1 _ HM6.out (by omega) (by omega) hlm2).mono ?_
    rintro e w7 ⟨rfl, rfl⟩
    go_wp2_with fail
    go_ret
    exact ⟨rfl, HB6.out⟩

end Go.Proofs.Yteihpdnbehnnhaa
