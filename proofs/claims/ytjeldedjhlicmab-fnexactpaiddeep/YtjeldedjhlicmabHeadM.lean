/-
  Heads: the model, and how both programs tell whether one is ok.
-/
import Derived.Test.YtjeldedjhlicmabJoinM
import Derived.Test.YtjeldedjhlicmabSpecIn
import Derived.Test.YtjeldedjhlicmabSumHeadI
import Derived.Test.YtjeldedjhlicmabSumHeadS
import Derived.Test.YtjeldedjhlicmabDecM
import Derived.Test.YtjeldedjhlicmabShaM
import Derived.Deep.RegionWith
set_option linter.unusedVariables false
namespace Go.Proofs.Ytjeldedjhlicmab
open Go.RowKit

structure HeadV where
  prev : ByteArray
  root : ByteArray
  time : Int
  diff : Int
  nonce : Int
instance : Inhabited HeadV := ⟨⟨⟨#[]⟩, ⟨#[]⟩, 0, 0, 0⟩⟩
def headOkB (h : HeadV) : Bool := isSum h.prev.data.toList && (isSum h.root.data.toList && (decide (0 ≤ h.time ∧ h.time ≤ 99999) && (decide (1 ≤ h.diff ∧ h.diff ≤ 8) && decide (0 ≤ h.nonce ∧ h.nonce ≤ 400))))
/-- The five texts of a head. -/
def headL (h : HeadV) : List ByteArray := [h.prev, h.root, ⟨(Lib.decDigits h.time.toNat).toArray⟩, ⟨(Lib.decDigits h.diff.toNat).toArray⟩, ⟨(Lib.decDigits h.nonce.toNat).toArray⟩]
def headT (h : HeadV) : List UInt8 := joinTo (headL h) [32] 4
def headPut (h : HeadV) : List UInt8 := if headOkB h = true then headT h else []
theorem headOk_in {h : HeadV} (hh : headOkB h = true) : isSum h.prev.data.toList = true ∧ isSum h.root.data.toList = true ∧ (0 ≤ h.time ∧ h.time ≤ 99999) ∧ (1 ≤ h.diff ∧ h.diff ≤ 8) ∧ 0 ≤ h.nonce ∧ h.nonce ≤ 400 := by
  simp only [headOkB, Bool.and_eq_true, decide_eq_true_eq] at hh
  exact hh

end Go.Proofs.Ytjeldedjhlicmab
