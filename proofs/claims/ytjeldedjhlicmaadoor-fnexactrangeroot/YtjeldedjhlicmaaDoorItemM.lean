/-
  What an item is.
-/
import Derived.WalkKit
import Derived.WalkSpells
namespace Go.Proofs.YtjeldedjhlicmaaDoor
open Go.RowKit

def itemC (b : UInt8) : Bool := decide (48 ≤ b.toNat ∧ b.toNat ≤ 57 ∨ 97 ≤ b.toNat ∧ b.toNat ≤ 122)
def isItem (l : List UInt8) : Bool := decide (1 ≤ l.length ∧ l.length ≤ 8) && l.all itemC
theorem isItem_no {s : ByteArray} (k : Nat) (hk : k < s.size) (h : itemC s[k] = false) : isItem s.data.toList = false := by
  have hm : s[k] ∈ s.data.toList := by
    have : s[k] = s.data[k]'hk := rfl
    rw [this]; simp
  have ha : s.data.toList.all itemC = false := by
    rw [← Bool.not_eq_true, List.all_eq_true]
    intro hh
    have := hh _ hm
    rw [h] at this
    cases this
  simp [isItem, ha]
theorem isItem_len_no {s : ByteArray} (h : ¬ (1 ≤ s.size ∧ s.size ≤ 8)) : isItem s.data.toList = false := by
  have : decide (1 ≤ s.data.toList.length ∧ s.data.toList.length ≤ 8) = false := decide_eq_false (by simpa using h)
  simp only [isItem, this, Bool.false_and]
theorem isItem_yes {s : ByteArray} (hl : 1 ≤ s.size ∧ s.size ≤ 8) (h : ∀ k (hk : k < s.size), itemC s[k] = true) : isItem s.data.toList = true := by
  have h1 : decide (1 ≤ s.data.toList.length ∧ s.data.toList.length ≤ 8) = true := decide_eq_true (by simpa using hl)
  simp only [isItem, h1, Bool.true_and, List.all_eq_true]
  intro x hx
  obtain ⟨i, hi, rfl⟩ := List.getElem_of_mem hx
  have := h i (by simpa using hi)
  rw [Array.getElem_toList]
  exact this
theorem isItem_size {s : ByteArray} (h : isItem s.data.toList = true) : 1 ≤ s.size ∧ s.size ≤ 8 := by
  simp only [isItem, Bool.and_eq_true] at h
  simpa using of_decide_eq_true h.1

end Go.Proofs.YtjeldedjhlicmaaDoor
