/-
  The law on what RicePut writes: it is read back.
-/
import Derived.Test.YteihpdnbehnnhaaDraw4
import Derived.Test.YteihpdnbehnnhaaRiceC
import Derived.Test.YteihpdnbehnnhaaRiceGI6
import Derived.Test.YteihpdnbehnnhaaRiceS4
import Derived.Test.YteihpdnbehnnhaaOutRowM
set_option linter.unusedVariables false
namespace Go.Proofs.Yteihpdnbehnnhaa
open Go.RowKit

theorem ricePut_ok {ns : List Int} {k : Int} (h : ricePut ns k ≠ []) : riceOkB ns k = true := by
  cases hr : riceOkB ns k with
  | true => rfl
  | false => exact absurd (ricePut_no hr) h
theorem nat_list {ns : List Int} {k : Int} (h : riceOkB ns k = true) : ∃ l : List Nat, ns = l.map (fun n : Nat => (n : Int)) ∧ (∀ x ∈ l, x ≤ 60000) := by
  refine ⟨ns.map Int.toNat, ?_, ?_⟩
  · rw [List.map_map]
    conv => lhs; rw [← List.map_id ns]
    apply List.map_congr_left
    intro z hz
    obtain ⟨i, hi, rfl⟩ := List.mem_iff_getElem.1 hz
    have := riceOk_at h i hi
    rw [List.getD_eq_getElem?_getD, List.getElem?_eq_getElem hi] at this
    simp at this ⊢
    omega
  · intro x hx
    obtain ⟨z, hz, rfl⟩ := List.mem_map.1 hx
    obtain ⟨i, hi, rfl⟩ := List.mem_iff_getElem.1 hz
    have := riceOk_at h i hi
    rw [List.getD_eq_getElem?_getD, List.getElem?_eq_getElem hi] at this
    simp at this
    omega
theorem get_put {ns : List Int} {k : Int} (h : riceOkB ns k = true) (h6 : (ricePut ns k).length ≤ 600) : ∃ l : List Nat, ns = l.map (fun n : Nat => (n : Int)) ∧ riceGet (ricePut ns k) (ns.length : Int) k = some l := by
  obtain ⟨l, rfl, hl⟩ := nat_list h
  refine ⟨l, rfl, riceGet_yes ?_ ?_⟩
  · have hb := riceOk_bits h
    have hn := riceOk_len h
    have e1 : decide ((0 : Int) ≤ (((l.map fun n : Nat => (n : Int)).length : Nat) : Int) ∧ (((l.map fun n : Nat => (n : Int)).length : Nat) : Int) ≤ 40) = true := decide_eq_true (by omega)
    have e2 : decide (0 ≤ k ∧ k ≤ 8) = true := decide_eq_true hb
    have e3 : decide ((ricePut (l.map fun n : Nat => (n : Int)) k).length ≤ 600) = true := decide_eq_true h6
    simp only [getOk, e1, e2, e3, Bool.and_self]
  · refine ⟨by simp, hl, ?_⟩
    rw [ricePut_yes h, toNat_map]

set_option maxHeartbeats 1000000 in
set_option maxRecDepth 100000 in
theorem walk_FnRicePut (a : Option Addr) (len cap : Nat) (zs : List Int) (w : World) (h : IsRow .u8 w a len cap zs) :
    Calls Try.prog 5 #[.slice a len cap] w fun e w' => e = .returned (.bool true) ∧ Below w.heap.size w w' := by
  by_cases hl : (1048576 : Int) < (len : Int)
  · go_enter Try.func5, Try.ntmps5
    go_wp2
    go_ret
    exact ⟨rfl, Below.refl _ _⟩
  go_enter Try.func5, Try.ntmps5
  go_wp2_with fail
  refine (drawRicePut a len cap zs _ h).mono ?_
  rintro e w1 ⟨g, n, c, ns, k, rfl, hat, hn, hn21, b1⟩
  have HAT : Hid (At w1 g ns) := hat
  have HN : Hid (n = ns.length) := hn
  have HB1 : Hid (Below w.heap.size w w1) := b1
  clear hat hn b1 h hl
  obtain ⟨t, ht⟩ : ∃ t, ricePut ns k = t := ⟨_, rfl⟩
  have hI := implRicePut g n c ns k w1 HAT.out HN.out
  have HS : Hid (∀ w', At w' g ns → Calls Try.prog 9 #[.slice (some ⟨g, 0, none⟩) n c, .int .i64 k] w' fun e w'' => e = .returned (.string ⟨t.toArray⟩) ∧ Below w'.heap.size w' w'') := by
    intro w' hw'
    have := specRicePut g n c ns k w' hw' HN.out (by omega)
    rw [ht] at this
    exact this
  rw [ht] at hI
  have HT : Hid (ricePut ns k = t) := ht
  clear ht
  go_wp2_with fail
  refine hI.mono ?_
  rintro e w2 ⟨rfl, b2⟩
  have HAT2 : Hid (At w2 g ns) := HAT.out.below b2 HAT.out.1
  have HB2 : Hid (Below w.heap.size w w2) := HB1.out.trans (b2.mono HB1.out.size)
  clear b2 hI
  by_cases h0 : t = []
  · subst h0
    go_wp2_with (go_at_call 9; refine (HS.out _ HAT2.out).mono ?_; rintro e w3 ⟨rfl, b3⟩)
    have HAT3 : Hid (At w3 g ns) := HAT2.out.below b3 HAT2.out.1
    have HB3 : Hid (Below w.heap.size w w3) := HB2.out.trans (b3.mono HB2.out.size)
    clear b3
    refine (HS.out _ HAT3.out).mono ?_
    rintro e w4 ⟨rfl, b4⟩
    go_wp2_with fail
    go_ret
    exact ⟨rfl, HB3.out.trans (b4.mono HB3.out.size)⟩
  · have h0' : (t == []) = false := by simpa using h0
    by_cases h6 : (600 : Int) < (t.length : Int)
    · clear h0
      go_wp2_with (go_at_call 9; refine (HS.out _ HAT2.out).mono ?_; rintro e w3 ⟨rfl, b3⟩)
      have HAT3 : Hid (At w3 g ns) := HAT2.out.below b3 HAT2.out.1
      have HB3 : Hid (Below w.heap.size w w3) := HB2.out.trans (b3.mono HB2.out.size)
      clear b3
      refine (HS.out _ HAT3.out).mono ?_
      rintro e w4 ⟨rfl, b4⟩
      go_wp2_with fail
      go_ret
      exact ⟨rfl, HB3.out.trans (b4.mono HB3.out.size)⟩
    · obtain ⟨l, hnl, hget⟩ := get_put (ns := ns) (k := k) (ricePut_ok (by rw [HT.out]; exact h0)) (by rw [HT.out]; omega)
      have HNL : Hid (ns = l.map (fun n : Nat => (n : Int))) := hnl
      rw [HT.out, ← HN.out] at hget
      have HG : Hid (riceGet t (n : Int) k = some l) := hget
      clear hnl hget h0
      go_wp2_with (go_at_call 9; refine (HS.out _ HAT2.out).mono ?_; rintro e w3 ⟨rfl, b3⟩)
      have HAT3 : Hid (At w3 g ns) := HAT2.out.below b3 HAT2.out.1
      have HB3 : Hid (Below w.heap.size w w3) := HB2.out.trans (b3.mono HB2.out.size)
      clear b3
      have hrg := implRiceGet ⟨t.toArray⟩ (n : Int) k w3
      have e : (⟨t.toArray⟩ : ByteArray).data.toList = t := rfl
      rw [e, HG.out] at hrg
      clear e
      refine hrg.mono ?_
      rintro e w4 ⟨v, rfl, g4, b4⟩
      obtain ⟨gg, c4, rfl⟩ := g4.1
      have HB4 : Hid (Below w.heap.size w w4) := HB3.out.trans (b4.mono HB3.out.size)
      have HAT4 : Hid (At w4 g ns) := HAT3.out.below b4 HAT3.out.1
      have HL : Hid (n = l.length) := by show _ = _; rw [HN.out, HNL.out]; simp
      have HAG : Hid (At w4 gg ns) := by rw [HNL.out]; exact outRow_at g4
      rw [← HL.out]
      dsimp only [Option.isSome]
      clear hrg g4 b4
      go_wp2_with (go_at_call 18; refine (coIntsYes gg g n c4 c ns _ HAG.out HAT4.out HN.out (by omega)).mono ?_; rintro e w5 ⟨rfl, b5⟩)
      go_ret
      exact ⟨rfl, HB4.out.trans (b5.mono HB4.out.size)⟩

end Go.Proofs.Yteihpdnbehnnhaa
