/-
  strings.Join of some texts, at this program's numbers.
-/
import Derived.Test.YtjeldedjhlicmabJoinB
import Derived.Test.YtjeldedjhlicmabStrM
set_option linter.unusedVariables false
namespace Go.Proofs.Ytjeldedjhlicmab
open Go.Shelf Go.RowKit

/-- The first, and of each of the next so many the sep and it. -/
def joinTo (xs : List ByteArray) (sep : List UInt8) (k : Nat) : List UInt8 := (xs.getD 0 ByteArray.empty).data.toList ++ ((xs.drop 1).take k).flatMap fun x => sep ++ x.data.toList
theorem joinTo_succ (xs : List ByteArray) (sep : List UInt8) (k : Nat) (h : k + 1 < xs.length) : joinTo xs sep (k + 1) = joinTo xs sep k ++ sep ++ (xs.getD (k + 1) ByteArray.empty).data.toList := by
  have e : (xs.drop 1).take (k + 1) = (xs.drop 1).take k ++ [xs.getD (k + 1) ByteArray.empty] := by
    rw [List.take_add_one, List.getElem?_drop, Nat.add_comm 1 k, List.getElem?_eq_getElem h, List.getD_eq_getElem?_getD, List.getElem?_eq_getElem h]
    rfl
  rw [joinTo, joinTo, e, List.flatMap_append, ← List.append_assoc]
  simp

theorem joinTo_zero (xs : List ByteArray) (sep : List UInt8) : joinTo xs sep 0 = (xs.getD 0 ByteArray.empty).data.toList := by simp [joinTo]
theorem joinTo_len (xs : List ByteArray) (h : ∀ i, i < xs.length → (xs.getD i ByteArray.empty).size ≤ 1000) : ∀ k, k < xs.length → (joinTo xs [32] k).length ≤ 1000 + 1001 * k
  | 0, hk => by
    rw [joinTo_zero]
    have := h 0 hk
    have e : (xs.getD 0 ByteArray.empty).data.toList.length = (xs.getD 0 ByteArray.empty).size := by simp
    omega
  | k + 1, hk => by
    rw [joinTo_succ xs [32] k hk]
    have h1 := joinTo_len xs h k (by omega)
    have h2 := h (k + 1) hk
    have e : (xs.getD (k + 1) ByteArray.empty).data.toList.length = (xs.getD (k + 1) ByteArray.empty).size := by simp
    simp only [List.length_append, List.length_cons, List.length_nil]
    omega

end Go.Proofs.Ytjeldedjhlicmab
