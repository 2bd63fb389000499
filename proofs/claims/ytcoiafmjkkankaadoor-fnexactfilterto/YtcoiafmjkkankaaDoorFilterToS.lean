/-
  The specification's FilterTo.
-/
import Derived.Test.YtcoiafmjkkankaaDoorFilterToM
import Derived.Test.YtcoiafmjkkankaaDoorItemS
import Derived.Test.YtcoiafmjkkankaaDoorShaS5
set_option linter.unusedVariables false
namespace Go.Proofs.YtcoiafmjkkankaaDoor
open Go.RowKit

set_option maxHeartbeats 2000000 in
set_option maxRecDepth 100000 in
theorem specL2To (k it : ByteArray) (below : Int) (w : World) (h1 : isSum k.data.toList = true) (h2 : isItem it.data.toList = true) (h3 : 1 ≤ below ∧ below ≤ 60000) :
    Calls Tryd.prog 34 #[.string k, .string it, .int .i64 below] w fun e w' => e = .returned (.int .i64 (filterTo k.data.toList it.data.toList below)) ∧ Below w.heap.size w w' := by
  have hks : k.size = 16 := by have := isSum_len h1; simpa using this
  have his := isItem_size h2
  have hsz : (k ++ (⟨#[32]⟩ : ByteArray) ++ it).size ≤ 1073741824 := by
    simp only [ByteArray.size_append, hks]
    have : (⟨#[32]⟩ : ByteArray).size = 1 := rfl
    omega
  have HF : Hid (filterTo k.data.toList it.data.toList below = (headOf (k ++ (⟨#[32]⟩ : ByteArray) ++ it).data.toList : Int) * below / 2147483648) := by
    show _ = _
    rw [filterTo_yes h1 h2 (by omega), keyItem_bytes]
  clear h1 h2
  go_enter Tryd.func34, Tryd.ntmps34
  go_wp2_with fail
  refine (specSum _ _ hsz).mono ?_
  rintro e w1 ⟨rfl, b1⟩
  have HX : Hid (isSum (⟨(sumB (k ++ (⟨#[32]⟩ : ByteArray) ++ it).data.toList).toArray⟩ : ByteArray).data.toList = true) := isSum_sumB _
  have hlt := headOf_lt (k ++ (⟨#[32]⟩ : ByteArray) ++ it).data.toList
  generalize (k ++ (⟨#[32]⟩ : ByteArray) ++ it).data.toList = t at HF HX hlt ⊢
  have hpl := place_lt (headOf t) below hlt h3
  go_wp2_with fail
  refine (specHead _ _ HX).mono ?_
  rintro e w2 ⟨rfl, rfl⟩
  rw [show hexN ((⟨(sumB t).toArray⟩ : ByteArray).data.toList.take 8) / 2 = headOf t from rfl]
  generalize headOf t = h at HF hlt hpl ⊢
  go_wp2
  go_ret
  rw [HF.out]
  exact ⟨rfl, b1⟩

set_option maxHeartbeats 2000000 in
set_option maxRecDepth 100000 in
theorem specFilterTo (k it : ByteArray) (below : Int) (w : World) (hk : k.size ≤ maxLen) (hi : it.size ≤ maxLen) :
    Calls Tryd.prog 11 #[.string k, .string it, .int .i64 below] w fun e w' => e = .returned (.int .i64 (filterTo k.data.toList it.data.toList below)) ∧ Below w.heap.size w w' := by
  cases h1 : isSum k.data.toList with
  | false =>
    rw [filterTo_no1 h1]
    go_enter Tryd.func11, Tryd.ntmps11
    go_wp2_with (go_at_call 31; refine (specIsSum _ _ hk).mono ?_; rintro e w1 ⟨rfl, rfl⟩)
    go_ret
    exact ⟨rfl, Below.refl _ _⟩
  | true =>
    cases h2 : isItem it.data.toList with
    | false =>
      rw [filterTo_no2 h2]
      go_enter Tryd.func11, Tryd.ntmps11
      go_wp2_with (first | (go_at_call 31; refine (specIsSum _ _ hk).mono ?_; rintro e w1 ⟨rfl, rfl⟩) | (go_at_call 32; refine (specItemOk _ _ hi).mono ?_; rintro e w1 ⟨rfl, rfl⟩))
      go_ret
      exact ⟨rfl, Below.refl _ _⟩
    | true =>
      by_cases h3 : 1 ≤ below ∧ below ≤ 60000
      · have hin := inB_yes h3
        have H1 : Hid (isSum k.data.toList = true) := h1
        have H2 : Hid (isItem it.data.toList = true) := h2
        go_enter Tryd.func11, Tryd.ntmps11
        go_wp2_with (first | (go_at_call 31; refine (specIsSum _ _ hk).mono ?_; rintro e w1 ⟨rfl, rfl⟩) | (go_at_call 32; refine (specItemOk _ _ hi).mono ?_; rintro e w1 ⟨rfl, rfl⟩) | (go_at_call 33; refine (specIn _ _ _ _).mono ?_; rintro e w1 ⟨rfl, rfl⟩))
        refine (specL2To k it below _ H1.out H2.out h3).mono ?_
        rintro e w1 ⟨rfl, b1⟩
        go_wp2
        go_ret
        exact ⟨rfl, b1⟩
      · have hin := inB_no h3
        rw [filterTo_no3 h3]
        go_enter Tryd.func11, Tryd.ntmps11
        go_wp2_with (first | (go_at_call 31; refine (specIsSum _ _ hk).mono ?_; rintro e w1 ⟨rfl, rfl⟩) | (go_at_call 32; refine (specItemOk _ _ hi).mono ?_; rintro e w1 ⟨rfl, rfl⟩) | (go_at_call 33; refine (specIn _ _ _ _).mono ?_; rintro e w1 ⟨rfl, rfl⟩))
        go_ret
        exact ⟨rfl, Below.refl _ _⟩

end Go.Proofs.YtcoiafmjkkankaaDoor
