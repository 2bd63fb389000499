/-
  Where an item falls.
-/
import Derived.Test.YtjeldedjhlicmaaDoorItemM
import Derived.Test.YtjeldedjhlicmaaDoorHexM
import Derived.Test.YtjeldedjhlicmaaDoorShaS4
namespace Go.Proofs.YtjeldedjhlicmaaDoor
open Go.RowKit

theorem figs_hexF : ∀ d : Fin 16, hexB (figs.getD d.val 0) = true := by decide +kernel
theorem figs_hex (d : Nat) (h : d < 16) : hexB (figs.getD d 0) = true := figs_hexF ⟨d, h⟩
theorem hexOf_hex (x : Nat) : (hexOf x).all hexB = true := by
  simp only [hexOf, List.all_map, List.all_eq_true, Function.comp]
  intro i _
  exact figs_hex _ (Nat.mod_lt _ (by decide))
theorem isSum_sumB (t : List UInt8) : isSum (sumB t) = true := by
  simp only [isSum, sumB, List.all_append, hexOf_hex]
  simp [hexOf]
/-- The first half of a text's sum, as a number of 31 bits. -/
def headOf (t : List UInt8) : Nat := hexN ((sumB t).take 8) / 2
theorem headOf_lt (t : List UInt8) : headOf t < 2147483648 := by
  have h1 : ((sumB t).take 8).all hexB = true := by
    have := isSum_sumB t
    simp only [isSum, Bool.and_eq_true, List.all_eq_true] at this ⊢
    intro x hx
    exact this.2 x (List.mem_of_mem_take hx)
  have h2 := hexN_le _ h1
  have h3 : ((sumB t).take 8).length = 8 := by simp [sumB, hexOf]
  rw [h3] at h2
  unfold headOf
  omega
theorem sumHead_sumB (t : List UInt8) : sumHead (sumB t) = (headOf t : Int) := by
  simp [sumHead, isSum_sumB, headOf]
def filterTo (k it : List UInt8) (below : Int) : Int :=
  if (isSum k && isItem it && decide (1 ≤ below ∧ below ≤ 60000)) = true then (headOf (k ++ 32 :: it) : Int) * below / 2147483648 else -1
theorem filterTo_yes {k it : List UInt8} {below : Int} (h1 : isSum k = true) (h2 : isItem it = true) (h3 : 1 ≤ below ∧ below ≤ 60000) : filterTo k it below = (headOf (k ++ 32 :: it) : Int) * below / 2147483648 := by
  simp [filterTo, h1, h2, h3.1, h3.2]
theorem filterTo_no1 {k it : List UInt8} {below : Int} (h1 : isSum k = false) : filterTo k it below = -1 := by
  simp [filterTo, h1]
theorem filterTo_no2 {k it : List UInt8} {below : Int} (h1 : isItem it = false) : filterTo k it below = -1 := by
  simp [filterTo, h1]
theorem filterTo_no3 {k it : List UInt8} {below : Int} (h1 : ¬ (1 ≤ below ∧ below ≤ 60000)) : filterTo k it below = -1 := by
  have : decide (1 ≤ below ∧ below ≤ 60000) = false := decide_eq_false h1
  simp only [filterTo, this, Bool.and_false]
  rfl
theorem place_lt (h : Nat) (b : Int) (hh : h < 2147483648) (hb : 1 ≤ b ∧ b ≤ 60000) : 0 ≤ (h : Int) * b ∧ (h : Int) * b < 2147483648 * 60000 ∧ 0 ≤ (h : Int) * b / 2147483648 ∧ (h : Int) * b / 2147483648 < b := by
  have h1 : (0 : Int) ≤ (h : Int) * b := Int.mul_nonneg (by omega) (by omega)
  have h2 : (h : Int) * b < 2147483648 * b := Int.mul_lt_mul_of_pos_right (by omega) (by omega)
  refine ⟨h1, by omega, by omega, ?_⟩
  omega

theorem keyItem_bytes (k it : ByteArray) : (k ++ (⟨#[32]⟩ : ByteArray) ++ it).data.toList = k.data.toList ++ 32 :: it.data.toList := by
  simp

end Go.Proofs.YtjeldedjhlicmaaDoor
