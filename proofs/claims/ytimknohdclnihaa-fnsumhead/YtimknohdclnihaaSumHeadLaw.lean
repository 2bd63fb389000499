/-
  The law on the first bits of a sum.
-/
import Derived.Test.YtimknohdclnihaaExactSumHeadW
import Derived.Test.YtimknohdclnihaaDraw1
set_option linter.unusedVariables false
namespace Go.Proofs.Ytimknohdclnihaa
open Go.RowKit

theorem sumHead_range (l : List UInt8) : -1 ≤ sumHead l ∧ sumHead l ≤ 2147483647 := by
  unfold sumHead
  split
  · rename_i h
    have hall : (l.take 8).all hexB = true := by
      rw [List.all_eq_true]
      intro b hb
      simp only [isSum, Bool.and_eq_true, List.all_eq_true] at h
      exact h.2 b (List.mem_of_mem_take hb)
    have hle := hexN_le _ hall
    have hl : (l.take 8).length = 8 := by have := isSum_len h; simp; omega
    rw [hl] at hle
    omega
  · omega
def zeros : List UInt8 := [48, 48, 48, 48, 48, 48, 48, 48]
def effs : List UInt8 := [102, 102, 102, 102, 102, 102, 102, 102]
theorem sumHead_zeros (l : List UInt8) (h : isSum l = true) : sumHead (l.take 8 ++ zeros) = sumHead l := by
  have hl := isSum_len h
  have hs : isSum (l.take 8 ++ zeros) = true := by
    simp only [isSum, Bool.and_eq_true, List.all_eq_true] at h ⊢
    refine ⟨by simp [zeros]; omega, ?_⟩
    intro b hb
    rcases List.mem_append.1 hb with hb | hb
    · exact h.2 b (List.mem_of_mem_take hb)
    · have : ∀ b ∈ zeros, hexB b = true := by decide
      exact this b hb
  unfold sumHead
  rw [if_pos hs, if_pos h, List.take_append_of_le_length (by simp; omega), List.take_take]
  simp
theorem sumHead_effs (l : List UInt8) (h : isSum l = true) : sumHead (effs ++ l.drop 8) = 2147483647 := by
  have hl := isSum_len h
  have hs : isSum (effs ++ l.drop 8) = true := by
    simp only [isSum, Bool.and_eq_true, List.all_eq_true] at h ⊢
    refine ⟨by simp [effs]; omega, ?_⟩
    intro b hb
    rcases List.mem_append.1 hb with hb | hb
    · have : ∀ b ∈ effs, hexB b = true := by decide
      exact this b hb
    · exact h.2 b (List.mem_of_mem_drop hb)
  unfold sumHead
  rw [if_pos hs, List.take_append_of_le_length (by simp [effs])]
  decide

set_option maxHeartbeats 1000000 in
set_option maxRecDepth 100000 in
theorem walk_FnSumHead (a0 : Option Addr) (len0 cap0 : Nat) (z0 : List Int) (w : World) (h0 : IsRow .u8 w a0 len0 cap0 z0) :
    Calls Try.prog 8 #[.slice a0 len0 cap0] w fun e w' => e = .returned (.bool true) ∧ Below w.heap.size w w' := by
  by_cases hl0 : (1048576 : Int) < (len0 : Int)
  · go_enter Try.func8, Try.ntmps8
    go_wp2
    go_ret
    exact ⟨rfl, Below.refl _ _⟩
  go_enter Try.func8, Try.ntmps8
  go_wp2_with fail
  refine (drawSumHead a0 len0 cap0 z0 _ h0).mono ?_
  rintro e w1 ⟨s, rfl, hs, b1⟩
  go_wp2_with fail
  refine (implSumHead s _).mono ?_
  rintro e w2 ⟨rfl, rfl⟩
  go_wp2_with fail
  refine (specSumHead s _ (by unfold maxLen; omega)).mono ?_
  rintro e w2 ⟨rfl, rfl⟩
  have hrg := sumHead_range s.data.toList
  cases hx : isSum s.data.toList with
  | false =>
    have hv : sumHead s.data.toList = -1 := by simp [sumHead, hx]
    rw [hv]
    clear hv hrg
    go_wp2_with fail
    refine (specSumHead s _ (by unfold maxLen; omega)).mono ?_
    rintro e w2 ⟨rfl, rfl⟩
    have hv : sumHead s.data.toList = -1 := by simp [sumHead, hx]
    rw [hv]
    clear hv
    go_wp2
    go_ret
    exact ⟨rfl, b1⟩
  | true =>
    have hsz : s.size = 16 := by simpa using isSum_len hx
    have HZ : Hid (sumHead (s.data.toList.take 8 ++ zeros) = sumHead s.data.toList) := sumHead_zeros _ hx
    have HE : Hid (sumHead (effs ++ s.data.toList.drop 8) = 2147483647) := sumHead_effs _ hx
    have hn0 : ¬ sumHead s.data.toList < 0 := by simp only [sumHead, hx, if_true]; omega
    generalize hn : sumHead s.data.toList = n at hrg hn0 HZ ⊢
    clear hx hn
    obtain ⟨_, hrg⟩ := hrg
    have e1 : (s.extract 0 8 ++ (⟨#[48, 48, 48, 48, 48, 48, 48, 48]⟩ : ByteArray)).data.toList = s.data.toList.take 8 ++ zeros := by
      rw [ByteArray.data_append, Array.toList_append, Lib.extract_data]; simp [zeros]
    have e2 : ((⟨#[102, 102, 102, 102, 102, 102, 102, 102]⟩ : ByteArray) ++ s.extract 8 s.size).data.toList = effs ++ s.data.toList.drop 8 := by
      rw [ByteArray.data_append, Array.toList_append, Lib.extract_data]; simp [effs, List.take_of_length_le]
    have E1 : Hid _ := e1
    have E2 : Hid _ := e2
    clear e1 e2
    go_wp2_with fail
    refine (implSumHead _ _).mono ?_
    rintro e w2 ⟨rfl, rfl⟩
    rw [E1.out, HZ.out]
    go_wp2_with fail
    refine (implSumHead _ _).mono ?_
    rintro e w2 ⟨rfl, rfl⟩
    rw [hsz] at E2
    rw [E2.out, HE.out]
    go_wp2
    go_ret
    exact ⟨rfl, b1⟩

end Go.Proofs.Ytimknohdclnihaa
