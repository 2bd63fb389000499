/-
  The law on where an item falls.
-/
import Derived.Test.YtcoiafmjkkankaaDoorExactFilterToW
import Derived.Test.YtcoiafmjkkankaaDoorDraw2
set_option linter.unusedVariables false
namespace Go.Proofs.YtcoiafmjkkankaaDoor
open Go.RowKit

set_option maxHeartbeats 1000000 in
set_option maxRecDepth 100000 in
theorem walk_FnFilterTo (a0 : Option Addr) (len0 cap0 : Nat) (z0 : List Int) (w : World) (h0 : IsRow .u8 w a0 len0 cap0 z0) (hK : RowG w shaK) :
    Calls Tryd.prog 5 #[.slice a0 len0 cap0] w fun e w' => e = .returned (.bool true) ∧ Below w.heap.size w w' := by
  have HK : Hid (RowG w shaK) := hK
  clear hK
  by_cases hl0 : (1048576 : Int) < (len0 : Int)
  · go_enter Tryd.func5, Tryd.ntmps5
    go_wp2
    go_ret
    exact ⟨rfl, Below.refl _ _⟩
  go_enter Tryd.func5, Tryd.ntmps5
  go_wp2_with fail
  refine (drawFilterTo a0 len0 cap0 z0 _ h0).mono ?_
  rintro e w1 ⟨k, it, n, rfl, hk, hi, hn0, hn1, b1⟩
  clear h0
  have hkm : k.size ≤ maxLen := by unfold maxLen; omega
  have him : it.size ≤ maxLen := by unfold maxLen; omega
  have hW := HK.out.lt
  go_wp2_with fail
  refine (implFilterTo k it n _ (HK.out.below b1 hW)).mono ?_
  rintro e w2 ⟨rfl, b2⟩
  have b12 := b1.trans (b2.mono b1.size)
  clear b1 b2
  go_wp2_with fail
  refine (specFilterTo k it n _ hkm him).mono ?_
  rintro e w3 ⟨rfl, b3⟩
  have b13 := b12.trans (b3.mono b12.size)
  clear b12 b3
  by_cases hall : isSum k.data.toList = true ∧ isItem it.data.toList = true ∧ 1 ≤ n ∧ n ≤ 60000
  · obtain ⟨h1, h2, h3⟩ := hall
    have HF : ∀ b : Int, 1 ≤ b → b ≤ 60000 → filterTo k.data.toList it.data.toList b = (headOf (k.data.toList ++ 32 :: it.data.toList) : Int) * b / 2147483648 := fun b hb1 hb2 => filterTo_yes h1 h2 ⟨hb1, hb2⟩
    have hlt := headOf_lt (k.data.toList ++ 32 :: it.data.toList)
    generalize headOf (k.data.toList ++ 32 :: it.data.toList) = h at HF hlt
    have HFn := HF n h3.1 h3.2
    have HF1 : Hid (filterTo k.data.toList it.data.toList 1 = 0) := by
      show _ = _
      rw [HF 1 (by omega) (by omega)]
      omega
    have hpl := place_lt h n hlt h3
    have HF2 : Hid (n * 2 ≤ 60000 → filterTo k.data.toList it.data.toList (n * 2) = 2 * ((h : Int) * n / 2147483648) ∨ filterTo k.data.toList it.data.toList (n * 2) = 2 * ((h : Int) * n / 2147483648) + 1) := by
      intro h60
      rw [HF (n * 2) (by omega) h60, show (h : Int) * (n * 2) = ((h : Int) * n) * 2 from by rw [Int.mul_assoc]]
      generalize (h : Int) * n = x at hpl ⊢
      omega
    rw [HFn]
    generalize (h : Int) * n / 2147483648 = m at HF2 hpl
    clear HF HFn
    obtain ⟨_, _, hm0, hmn⟩ := hpl
    have hm0' : ¬ m < 0 := by omega
    go_wp2_with fail
    refine (implFilterTo k it (n * 2) _ (HK.out.below b13 hW)).mono ?_
    rintro e w4 ⟨rfl, b4⟩
    have b14 := b13.trans (b4.mono b13.size)
    clear b13 b4
    generalize filterTo k.data.toList it.data.toList (n * 2) = two at HF2 ⊢
    by_cases h60 : 60000 < n * 2
    · clear HF2
      go_wp2_with fail
      refine (implFilterTo k it 1 _ (HK.out.below b14 hW)).mono ?_
      rintro e w5 ⟨rfl, b5⟩
      rw [HF1.out]
      go_wp2
      go_ret
      exact ⟨rfl, b14.trans (b5.mono b14.size)⟩
    · rcases HF2.out (by omega) with h2m | h2m
      · have e1 : (two == 2 * m) = true := by simp [h2m]
        clear HF2 h2m
        go_wp2_with fail
        refine (implFilterTo k it 1 _ (HK.out.below b14 hW)).mono ?_
        rintro e w5 ⟨rfl, b5⟩
        rw [HF1.out]
        go_wp2
        go_ret
        exact ⟨rfl, b14.trans (b5.mono b14.size)⟩
      · have e0 : (two == 2 * m) = false := by simp [h2m]; omega
        have e1 : (two == 2 * m + 1) = true := by simp [h2m]
        clear HF2 h2m
        go_wp2_with fail
        refine (implFilterTo k it 1 _ (HK.out.below b14 hW)).mono ?_
        rintro e w5 ⟨rfl, b5⟩
        rw [HF1.out]
        go_wp2
        go_ret
        exact ⟨rfl, b14.trans (b5.mono b14.size)⟩
  · have hm1 : filterTo k.data.toList it.data.toList n = -1 := by
      cases h1 : isSum k.data.toList with
      | false => exact filterTo_no1 h1
      | true =>
        cases h2 : isItem it.data.toList with
        | false => exact filterTo_no2 h2
        | true => exact filterTo_no3 (fun h3 => hall ⟨h1, h2, h3⟩)
    have HM : Hid (filterTo k.data.toList it.data.toList n = -1) := hm1
    rw [hm1]
    clear hm1 hall
    go_wp2_with fail
    refine (specFilterTo k it n _ hkm him).mono ?_
    rintro e w4 ⟨rfl, b4⟩
    rw [HM.out]
    go_wp2
    go_ret
    exact ⟨rfl, b13.trans (b4.mono b13.size)⟩

end Go.Proofs.YtcoiafmjkkankaaDoor
