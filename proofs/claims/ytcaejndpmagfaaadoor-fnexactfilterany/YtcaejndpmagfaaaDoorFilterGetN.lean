/-
  Sums of the first numbers of a list.
-/
import Derived.Test.YtcaejndpmagfaaaDoorFilterGetM
namespace Go.Proofs.YtcaejndpmagfaaaDoor
open Go.RowKit

theorem take_sums (l : List Nat) (i : Nat) (h : i < l.length) : sumsF 0 (l.take (i + 1)) = sumsF 0 (l.take i) ++ [total 0 (l.take i) + l.getD i 0] ∧ total 0 (l.take (i + 1)) = total 0 (l.take i) + l.getD i 0 := by
  have e : l.take (i + 1) = l.take i ++ [l.getD i 0] := by
    rw [List.take_add_one, List.getElem?_eq_getElem h, List.getD_eq_getElem?_getD, List.getElem?_eq_getElem h]
    rfl
  rw [e, sumsF_snoc, total_snoc]
  exact ⟨rfl, rfl⟩
theorem total_take_le (l : List Nat) (i : Nat) : total 0 (l.take i) ≤ total 0 l := by
  have e : total 0 l = total (total 0 (l.take i)) (l.drop i) := by
    rw [total, total, total, ← List.foldl_append, List.take_append_drop]
  rw [e]
  exact le_total _ _

end Go.Proofs.YtcaejndpmagfaaaDoor
