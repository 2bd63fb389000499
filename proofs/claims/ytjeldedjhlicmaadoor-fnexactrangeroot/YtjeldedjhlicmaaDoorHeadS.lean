/-
  A head's sum, and whether it is small enough: the model, the program, the specification.
-/
import Derived.Test.YtjeldedjhlicmaaDoorHeadP
import Derived.Test.YtjeldedjhlicmaaDoorHeadW
import Derived.Test.YtjeldedjhlicmaaDoorFilterToM
import Derived.Test.YtjeldedjhlicmaaDoorShaI6
import Derived.Test.YtjeldedjhlicmaaDoorShaS5
set_option linter.unusedVariables false
namespace Go.Proofs.YtjeldedjhlicmaaDoor
open Go.RowKit

theorem headT_len {h : HeadV} (hok : headOkB h = true) : (headT h).length ≤ 200 := by
  obtain ⟨h1, h2, h3, h4, h5⟩ := headOk_in hok
  have hps := sum_size h1
  have hrs := sum_size h2
  have htl : (Lib.decDigits h.time.toNat).length ≤ 19 := decLen (by omega)
  have hdl : (Lib.decDigits h.diff.toNat).length ≤ 19 := decLen (by omega)
  have hnl : (Lib.decDigits h.nonce.toNat).length ≤ 19 := decLen (by omega)
  have e1 : h.prev.data.toList.length = 16 := by simpa using hps
  have e2 : h.root.data.toList.length = 16 := by simpa using hrs
  have e1' : h.prev.data.size = 16 := by simpa using hps
  have e2' : h.root.data.size = 16 := by simpa using hrs
  simp [headT, joinTo, headL, e1', e2']
  omega
/-- The text of which a head's sum is the sum. -/
def headX (h : HeadV) : List UInt8 := [104, 101, 97, 100, 32] ++ headT h
def headSum (h : HeadV) : List UInt8 := if headOkB h = true then sumB (headX h) else []
def headMeets (h : HeadV) : Bool := headOkB h && decide ((headOf (headX h) : Int) / 65536 * h.diff < 32768)
theorem headSum_no {h : HeadV} (hok : headOkB h = false) : headSum h = [] := by rw [headSum, hok]; rfl
theorem headSum_yes {h : HeadV} (hok : headOkB h = true) : headSum h = sumB (headX h) := by rw [headSum, if_pos hok]
theorem headXs (h : HeadV) : ((⟨#[104, 101, 97, 100, 32]⟩ : ByteArray) ++ ⟨(headT h).toArray⟩).data.toList = headX h := by simp [headX]
theorem headXz {h : HeadV} (hok : headOkB h = true) : ((⟨#[104, 101, 97, 100, 32]⟩ : ByteArray) ++ ⟨(headT h).toArray⟩).size ≤ 1073741824 := by
  have := headT_len hok
  have e1 : (⟨#[104, 101, 97, 100, 32]⟩ : ByteArray).size = 5 := rfl
  have e3 : (⟨(headT h).toArray⟩ : ByteArray).size = (headT h).length := by simp [ByteArray.size]
  rw [ByteArray.size_append, e1, e3]
  omega

end Go.Proofs.YtjeldedjhlicmaaDoor
