/-
  Marks: both ways to reckon one.
-/
import Derived.Test.YtcoiafmjkkankaaDoorFilterToM
import Derived.Test.YtcoiafmjkkankaaDoorSumHeadI
import Derived.Test.YtcoiafmjkkankaaDoorSumHeadS
import Derived.Test.YtcoiafmjkkankaaDoorShaI6
import Derived.Test.YtcoiafmjkkankaaDoorShaS5
set_option linter.unusedVariables false
namespace Go.Proofs.YtcoiafmjkkankaaDoor
open Go.RowKit

/-- The text whose sum a mark is. -/
def markT (p f : List UInt8) : List UInt8 := [109, 97, 114, 107, 32] ++ p ++ [32] ++ sumB f
def markOf (p f : List UInt8) : List UInt8 := if isSum p = true ∧ f.length ≤ 600 then sumB (markT p f) else []
theorem sumB_len (t : List UInt8) : (sumB t).length = 16 := by simp [sumB, hexOf]

set_option maxHeartbeats 1000000 in
set_option maxRecDepth 100000 in
theorem implMarkOf (p f : ByteArray) (w : World) (hK : RowG w shaK) :
    Calls Tryd.prog 25 #[.string p, .string f] w fun e w' => e = .returned (.string ⟨(markOf p.data.toList f.data.toList).toArray⟩) ∧ Below w.heap.size w w' := by
  have HK : Hid (RowG w shaK) := hK
  clear hK
  cases h1 : isSum p.data.toList with
  | false =>
    rw [markOf, if_neg (by rw [h1]; simp)]
    go_enter Tryd.func25, Tryd.ntmps25
    go_wp2_with (go_at_call 35; refine (implSumOk _ _).mono ?_; rintro e w1 ⟨rfl, rfl⟩)
    go_ret
    exact ⟨rfl, Below.refl _ _⟩
  | true =>
    by_cases h6 : (600 : Int) < (f.size : Int)
    · rw [markOf, if_neg (by simp; omega)]
      go_enter Tryd.func25, Tryd.ntmps25
      go_wp2_with (go_at_call 35; refine (implSumOk _ _).mono ?_; rintro e w1 ⟨rfl, rfl⟩)
      go_ret
      exact ⟨rfl, Below.refl _ _⟩
    · rw [markOf, if_pos ⟨h1, by simp; omega⟩]
      have hps : p.size = 16 := by have := isSum_len h1; simpa using this
      have hsz : ((⟨#[109, 97, 114, 107, 32]⟩ : ByteArray) ++ p ++ (⟨#[32]⟩ : ByteArray) ++ ⟨(sumB f.data.toList).toArray⟩).size ≤ 1073741824 := by
        simp only [ByteArray.size_append, hps]
        have e1 : (⟨#[109, 97, 114, 107, 32]⟩ : ByteArray).size = 5 := rfl
        have e2 : (⟨#[32]⟩ : ByteArray).size = 1 := rfl
        have e3 : (⟨(sumB f.data.toList).toArray⟩ : ByteArray).size = 16 := by simp [ByteArray.size, sumB_len]
        omega
      have HT : Hid (((⟨#[109, 97, 114, 107, 32]⟩ : ByteArray) ++ p ++ (⟨#[32]⟩ : ByteArray) ++ ⟨(sumB f.data.toList).toArray⟩).data.toList = markT p.data.toList f.data.toList) := by
        show _ = _
        simp [markT]
      go_enter Tryd.func25, Tryd.ntmps25
      go_wp2_with (go_at_call 35; refine (implSumOk _ _).mono ?_; rintro e w1 ⟨rfl, rfl⟩)
      refine (implSum f _ (by omega) HK.out).mono ?_
      rintro e w1 ⟨rfl, b1⟩
      have hl := sumB_len f.data.toList
      generalize sumB f.data.toList = t at hsz HT hl ⊢
      go_wp2_with fail
      refine (implSum _ _ hsz (HK.out.below b1 HK.out.lt)).mono ?_
      rintro e w2 ⟨rfl, b2⟩
      rw [HT.out]
      go_wp2_with fail
      go_ret
      exact ⟨rfl, b1.trans (b2.mono b1.size)⟩

set_option maxHeartbeats 1000000 in
set_option maxRecDepth 100000 in
theorem specL3Mark (p f : ByteArray) (w : World) (hp : p.size ≤ 1000000) (hf : f.size ≤ 1073741824) :
    Calls Tryd.prog 53 #[.string p, .string f] w fun e w' => e = .returned (.string ⟨(sumB (markT p.data.toList f.data.toList)).toArray⟩) ∧ Below w.heap.size w w' := by
  have hsz : ((⟨#[109, 97, 114, 107, 32]⟩ : ByteArray) ++ p ++ (⟨#[32]⟩ : ByteArray) ++ ⟨(sumB f.data.toList).toArray⟩).size ≤ 1073741824 := by
    simp only [ByteArray.size_append]
    have e1 : (⟨#[109, 97, 114, 107, 32]⟩ : ByteArray).size = 5 := rfl
    have e2 : (⟨#[32]⟩ : ByteArray).size = 1 := rfl
    have e3 : (⟨(sumB f.data.toList).toArray⟩ : ByteArray).size = 16 := by simp [ByteArray.size, sumB_len]
    omega
  have HT : Hid (((⟨#[109, 97, 114, 107, 32]⟩ : ByteArray) ++ p ++ (⟨#[32]⟩ : ByteArray) ++ ⟨(sumB f.data.toList).toArray⟩).data.toList = markT p.data.toList f.data.toList) := by
    show _ = _
    simp [markT]
  go_enter Tryd.func53, Tryd.ntmps53
  go_wp2_with fail
  refine (specSum f _ hf).mono ?_
  rintro e w1 ⟨rfl, b1⟩
  have hl := sumB_len f.data.toList
  generalize sumB f.data.toList = t at hsz HT hl ⊢
  go_wp2_with fail
  refine (specSum _ _ hsz).mono ?_
  rintro e w2 ⟨rfl, b2⟩
  rw [HT.out]
  go_wp2_with fail
  go_ret
  exact ⟨rfl, b1.trans (b2.mono b1.size)⟩

set_option maxHeartbeats 1000000 in
set_option maxRecDepth 100000 in
theorem specMarkOf (p f : ByteArray) (w : World) (hp : p.size ≤ maxLen) (hf : f.size ≤ maxLen) :
    Calls Tryd.prog 24 #[.string p, .string f] w fun e w' => e = .returned (.string ⟨(markOf p.data.toList f.data.toList).toArray⟩) ∧ Below w.heap.size w w' := by
  cases h1 : isSum p.data.toList with
  | false =>
    rw [markOf, if_neg (by rw [h1]; simp)]
    go_enter Tryd.func24, Tryd.ntmps24
    go_wp2_with (go_at_call 31; refine (specIsSum _ _ hp).mono ?_; rintro e w1 ⟨rfl, rfl⟩)
    go_ret
    exact ⟨rfl, Below.refl _ _⟩
  | true =>
    by_cases h6 : (600 : Int) < (f.size : Int)
    · rw [markOf, if_neg (by simp; omega)]
      go_enter Tryd.func24, Tryd.ntmps24
      go_wp2_with (go_at_call 31; refine (specIsSum _ _ hp).mono ?_; rintro e w1 ⟨rfl, rfl⟩)
      go_ret
      exact ⟨rfl, Below.refl _ _⟩
    · rw [markOf, if_pos ⟨h1, by simp; omega⟩]
      have hps : p.size = 16 := by have := isSum_len h1; simpa using this
      go_enter Tryd.func24, Tryd.ntmps24
      go_wp2_with (go_at_call 31; refine (specIsSum _ _ hp).mono ?_; rintro e w1 ⟨rfl, rfl⟩)
      refine (specL3Mark p f _ (by omega) (by omega)).mono ?_
      rintro e w1 ⟨rfl, b1⟩
      go_wp2_with fail
      go_ret
      exact ⟨rfl, b1⟩

end Go.Proofs.YtcoiafmjkkankaaDoor
