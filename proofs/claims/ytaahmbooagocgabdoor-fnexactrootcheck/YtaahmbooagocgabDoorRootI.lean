/-
  The program's row above a row, and what a row comes to.
-/
import Derived.Test.YtaahmbooagocgabDoorRootS2
import Derived.Test.YtaahmbooagocgabDoorShaI6
set_option linter.unusedVariables false
namespace Go.Proofs.YtaahmbooagocgabDoor
open Go.RowKit

set_option maxHeartbeats 1000000 in
set_option maxRecDepth 100000 in
theorem implRootItem (z : ByteArray) (w : World) (hz : z.size ≤ 1048576) (hK : RowG w shaK) :
    Calls Tryd.prog 41 #[.string z] w fun e w' => e = .returned (.string (rootItemB z)) ∧ Below w.heap.size w w' := by
  have hsum := implSum ((⟨#[105, 116, 101, 109, 32]⟩ : ByteArray) ++ z) w (by
    simp only [ByteArray.size_append]
    have e1 : (⟨#[105, 116, 101, 109, 32]⟩ : ByteArray).size = 5 := rfl
    omega) hK
  have et : ((⟨#[105, 116, 101, 109, 32]⟩ : ByteArray) ++ z).data.toList = [105, 116, 101, 109, 32] ++ z.data.toList := by simp
  rw [et] at hsum
  have er : (⟨(sumB ([105, 116, 101, 109, 32] ++ z.data.toList)).toArray⟩ : ByteArray) = rootItemB z := rfl
  rw [er] at hsum
  generalize rootItemB z = rz at hsum
  clear et er hK
  go_enter Tryd.func41, Tryd.ntmps41
  go_wp2_with fail
  refine hsum.mono ?_
  rintro e w1 ⟨rfl, b1⟩
  go_wp2_with fail
  go_ret
  exact ⟨rfl, b1⟩

set_option maxHeartbeats 1000000 in
set_option maxRecDepth 100000 in
theorem implRootBoth (a b : ByteArray) (w : World) (ha : a.size = 16) (hb : b.size = 16) (hK : RowG w shaK) :
    Calls Tryd.prog 70 #[.string a, .string b] w fun e w' => e = .returned (.string (bothB a b)) ∧ Below w.heap.size w w' := by
  have hsum := implSum ((⟨#[98, 111, 116, 104, 32]⟩ : ByteArray) ++ a ++ (⟨#[32]⟩ : ByteArray) ++ b) w (by
    simp only [ByteArray.size_append]
    have e1 : (⟨#[98, 111, 116, 104, 32]⟩ : ByteArray).size = 5 := rfl
    have e2 : (⟨#[32]⟩ : ByteArray).size = 1 := rfl
    omega) hK
  have et : ((⟨#[98, 111, 116, 104, 32]⟩ : ByteArray) ++ a ++ (⟨#[32]⟩ : ByteArray) ++ b).data.toList = [98, 111, 116, 104, 32] ++ a.data.toList ++ [32] ++ b.data.toList := by simp
  rw [et] at hsum
  have er : (⟨(sumB ([98, 111, 116, 104, 32] ++ a.data.toList ++ [32] ++ b.data.toList)).toArray⟩ : ByteArray) = bothB a b := rfl
  rw [er] at hsum
  generalize bothB a b = rz at hsum
  clear et er hK
  go_enter Tryd.func70, Tryd.ntmps70
  go_wp2_with fail
  refine hsum.mono ?_
  rintro e w1 ⟨rfl, b1⟩
  go_wp2_with fail
  go_ret
  exact ⟨rfl, b1⟩

theorem drop_news {w : World} {g : Nat} {ss : List ByteArray} (h : AtS w g ss) (k r off : Nat) (hk : k + r = ss.length) (ho : 0 < r → off = k) : ∀ j u, ((ss.drop k).map Value.string)[j]? = some u → w.cell? ((⟨g, off, none⟩ : Addr).add j) = some u := by
  intro j u hu
  have hj : j < r := by
    have := (List.getElem?_eq_some_iff.1 hu).1
    simp at this
    omega
  have e := ho (by omega)
  subst e
  have hc := h.2 (off + j) (by omega)
  have e2 : ((ss.drop off).map Value.string)[j]? = some (.string (ss.getD (off + j) ByteArray.empty)) := by
    rw [List.getElem?_map, List.getElem?_drop, List.getElem?_eq_getElem (by omega)]
    simp [List.getElem?_eq_getElem (show off + j < ss.length by omega)]
  rw [e2] at hu
  rw [← hu, ← hc]
  rcases j with _ | j
  · simp [Addr.add]
  · simp [Addr.add]

end Go.Proofs.YtaahmbooagocgabDoor
