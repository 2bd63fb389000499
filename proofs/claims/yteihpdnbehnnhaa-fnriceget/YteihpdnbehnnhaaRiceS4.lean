/-
  The specification's RicePut answers.
-/
import Derived.Test.YteihpdnbehnnhaaRiceS3
set_option linter.unusedVariables false
namespace Go.Proofs.Yteihpdnbehnnhaa
open Go.RowKit

set_option maxHeartbeats 1000000 in
set_option maxRecDepth 100000 in
theorem specRicePut (g n cap : Nat) (zs : List Int) (k : Int) (w : World) (h : At w g zs) (hn : n = zs.length) (hm : n ≤ 1073741824) :
    Calls Try.prog 9 #[.slice (some ⟨g, 0, none⟩) n cap, .int .i64 k] w fun e w' => e = .returned (.string ⟨(ricePut zs k).toArray⟩) ∧ Below w.heap.size w w' := by
  have HA : Hid (At w g zs) := h
  have HN : Hid (n = zs.length) := hn
  clear h hn
  cases h1 : (zs.all numOk && decide (zs.length ≤ 40)) with
  | false =>
    have HNO : Hid (riceOkB zs k = false) := by
      show _ = _
      cases hh : riceOkB zs k with
      | false => rfl
      | true =>
        simp only [riceOkB, Bool.and_eq_true] at hh
        rw [hh.2, hh.1.1] at h1
        cases h1
    rw [ricePut_no HNO.out]
    go_enter Try.func9, Try.ntmps9
    go_wp2_with (go_at_call 24; refine (specNumbers g n cap zs _ HA.out HN.out hm).mono ?_; rintro e w1 ⟨rfl, rfl⟩)
    go_ret
    exact ⟨rfl, Below.refl _ _⟩
  | true =>
    cases h2 : bitsOk k with
    | false =>
      have HNO : Hid (riceOkB zs k = false) := by show _ = _; simp [riceOkB, h2]
      have hin : inB k 0 8 = false := h2
      rw [ricePut_no HNO.out]
      go_enter Try.func9, Try.ntmps9
      go_wp2_with (first | (go_at_call 24; refine (specNumbers g n cap zs _ HA.out HN.out hm).mono ?_; rintro e w1 ⟨rfl, rfl⟩) | (go_at_call 25; refine (specIn _ _ _ _).mono ?_; rintro e w1 ⟨rfl, rfl⟩))
      go_ret
      exact ⟨rfl, Below.refl _ _⟩
    | true =>
      have hY : riceOkB zs k = true := by
        simp only [Bool.and_eq_true] at h1
        simp only [riceOkB, h1.1, h1.2, h2, Bool.and_self]
      have hin : inB k 0 8 = true := h2
      have hb := riceOk_bits hY
      obtain ⟨kn, rfl⟩ := Int.eq_ofNat_of_zero_le hb.1
      have HP : Hid (ricePut zs (kn : Int) = riceB kn (zs.map Int.toNat)) := by show _ = _; rw [ricePut_yes hY, Int.toNat_natCast]
      have hk8 : kn ≤ 8 := by omega
      have HL : Hid (zs.length ≤ 40 ∧ ∀ i, i < zs.length → 0 ≤ zs.getD i 0 ∧ zs.getD i 0 ≤ 60000) := ⟨riceOk_len hY, fun i hi => riceOk_at hY i hi⟩
      clear hY hb
      go_enter Try.func9, Try.ntmps9
      go_wp2_with (first | (go_at_call 24; refine (specNumbers g n cap zs _ HA.out HN.out hm).mono ?_; rintro e w1 ⟨rfl, rfl⟩) | (go_at_call 25; refine (specIn _ _ _ _).mono ?_; rintro e w1 ⟨rfl, rfl⟩))
      refine (specRice g n cap zs kn _ HA.out HN.out hk8 HL.out.1 HL.out.2).mono ?_
      rintro e w2 ⟨rfl, hb2⟩
      go_wp2_with fail
      go_ret
      rw [HP.out]
      exact ⟨rfl, hb2⟩

end Go.Proofs.Yteihpdnbehnnhaa
