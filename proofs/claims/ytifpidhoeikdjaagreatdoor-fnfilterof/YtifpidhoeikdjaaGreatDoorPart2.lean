/-
  Texts that the last part needs, joined.
-/
import Derived.Test.YtifpidhoeikdjaaGreatDoorPart1
import Derived.WalkKit
import Derived.WalkSpells
import Derived.Below
import Derived.Deep.OwnRows
import Derived.Lib.Builder
import Derived.Test.YtifpidhoeikdjaaGreatDoorProg
import Derived.Shelf.Strings.Builder1
import Derived.Shelf.Small.Strs
import Derived.Shelf.Strings.BuilderF
import Derived.Shelf.Strings.BuilderK
import Derived.Shelf.Strings.Search1
import Derived.Lib.UnsafeStr
import Derived.Lib.FrozenHead2
import Derived.Deep.MidRow
import Derived.BigRegion
import Derived.Deep.RegionWith
import Derived.Maps.AppendAt
namespace Go.Proofs.YtifpidhoeikdjaaGreatDoor

theorem span_at {β : Type} (p : β → Bool) (d : β) : ∀ (l : List β) (k : Nat), k ≤ l.length → (∀ j, j < k → p (l.getD j d) = true) → (k < l.length → p (l.getD k d) = false) → l.takeWhile p = l.take k ∧ l.dropWhile p = l.drop k
  | [], k, hk, _, _ => by
    have : k = 0 := by simpa using hk
    subst this
    simp
  | a :: r, 0, _, _, h2 => by
    have := h2 (by simp)
    have ha : p a = false := by simpa using this
    simp [ha]
  | a :: r, k + 1, hk, h1, h2 => by
    have ha : p a = true := by simpa using h1 0 (by omega)
    have ih := span_at p d r k (by simpa using hk) (fun j hj => by simpa using h1 (j + 1) (by omega)) (fun hj => by simpa using h2 (by simpa using hj))
    simp [ha, ih.1, ih.2]
/-- One more, behind those that are not greater. -/
def sortIns (o : List Int) (z : Int) : List Int := o.takeWhile (fun y => decide (y ≤ z)) ++ z :: o.dropWhile (fun y => decide (y ≤ z))
def sortL (l : List Int) : List Int := l.foldl sortIns []
theorem sortL_snoc (l : List Int) (z : Int) : sortL (l ++ [z]) = sortIns (sortL l) z := by simp [sortL]
theorem sortIns_length (o : List Int) (z : Int) : (sortIns o z).length = o.length + 1 := by
  have := congrArg List.length (List.takeWhile_append_dropWhile (p := fun y => decide (y ≤ z)) (l := o))
  rw [List.length_append] at this
  simp [sortIns]
  omega
theorem sortIns_mem {o : List Int} {z x : Int} : x ∈ sortIns o z ↔ x = z ∨ x ∈ o := by
  have e := List.takeWhile_append_dropWhile (p := fun y => decide (y ≤ z)) (l := o)
  constructor
  · intro h
    rcases List.mem_append.1 h with h | h
    · right; rw [← e]; exact List.mem_append_left _ h
    · rcases List.mem_cons.1 h with h | h
      · exact .inl h
      · right; rw [← e]; exact List.mem_append_right _ h
  · rintro (rfl | h)
    · exact List.mem_append_right _ (by simp)
    · rw [← e] at h
      rcases List.mem_append.1 h with h | h
      · exact List.mem_append_left _ h
      · exact List.mem_append_right _ (by simp [h])
theorem sortL_take (l : List Int) (k : Nat) (hk : k < l.length) : sortL (l.take (k + 1)) = sortIns (sortL (l.take k)) (l.getD k 0) := by
  have e : l.take (k + 1) = l.take k ++ [l.getD k 0] := by
    rw [List.take_add_one, List.getElem?_eq_getElem hk, List.getD_eq_getElem?_getD, List.getElem?_eq_getElem hk]
    rfl
  rw [e, sortL_snoc]
theorem sortL_length : ∀ l : List Int, (sortL l).length = l.length := by
  have : ∀ (l o : List Int), (l.foldl sortIns o).length = o.length + l.length := by
    intro l
    induction l with
    | nil => intro o; rfl
    | cons a r ih => intro o; rw [List.foldl_cons, ih, sortIns_length, List.length_cons]; omega
  intro l
  have h := this l []
  simpa [sortL] using h
theorem sortL_mem : ∀ (l : List Int) (x : Int), x ∈ sortL l ↔ x ∈ l := by
  have : ∀ (l o : List Int) (x : Int), x ∈ l.foldl sortIns o ↔ x ∈ o ∨ x ∈ l := by
    intro l
    induction l with
    | nil => intro o x; simp
    | cons a r ih =>
      intro o x
      rw [List.foldl_cons, ih, sortIns_mem, List.mem_cons]
      constructor
      · rintro ((h | h) | h) <;> simp [h]
      · rintro (h | h | h) <;> simp [h]
  intro l x
  have h := this l [] x
  simpa [sortL] using h

end Go.Proofs.YtifpidhoeikdjaaGreatDoor

namespace Go.Proofs.YtifpidhoeikdjaaGreatDoor

def ltB (a b : ByteArray) : Bool := Op.bytesLess a.toList b.toList
/-- One more, behind those that are less, if it is not there. -/
def setIns (o : List ByteArray) (z : ByteArray) : List ByteArray :=
  if (o.dropWhile (fun y => ltB y z)).head? = some z then o else o.takeWhile (fun y => ltB y z) ++ z :: o.dropWhile (fun y => ltB y z)
def setL (l : List ByteArray) : List ByteArray := l.foldl setIns []
theorem setL_snoc (l : List ByteArray) (z : ByteArray) : setL (l ++ [z]) = setIns (setL l) z := by simp [setL]
theorem setIns_length (o : List ByteArray) (z : ByteArray) : (setIns o z).length = o.length ∨ (setIns o z).length = o.length + 1 := by
  have := congrArg List.length (List.takeWhile_append_dropWhile (p := fun y => ltB y z) (l := o))
  rw [List.length_append] at this
  unfold setIns
  split
  · exact .inl rfl
  · right
    rw [List.length_append, List.length_cons]
    omega
theorem setIns_mem {o : List ByteArray} {z x : ByteArray} : x ∈ setIns o z ↔ x = z ∨ x ∈ o := by
  have e := List.takeWhile_append_dropWhile (p := fun y => ltB y z) (l := o)
  unfold setIns
  split
  · rename_i hh
    constructor
    · exact fun h => .inr h
    · rintro (rfl | h)
      · rw [← e]
        refine List.mem_append_right _ ?_
        cases hd : o.dropWhile (fun y => ltB y x) with
        | nil => rw [hd] at hh; cases hh
        | cons a r => rw [hd] at hh; simp at hh; simp [hh]
      · exact h
  · constructor
    · intro h
      rcases List.mem_append.1 h with h | h
      · right; rw [← e]; exact List.mem_append_left _ h
      · rcases List.mem_cons.1 h with h | h
        · exact .inl h
        · right; rw [← e]; exact List.mem_append_right _ h
    · rintro (rfl | h)
      · exact List.mem_append_right _ (by simp)
      · rw [← e] at h
        rcases List.mem_append.1 h with h | h
        · exact List.mem_append_left _ h
        · exact List.mem_append_right _ (by simp [h])
theorem setL_take (l : List ByteArray) (k : Nat) (hk : k < l.length) : setL (l.take (k + 1)) = setIns (setL (l.take k)) (l.getD k ByteArray.empty) := by
  have e : l.take (k + 1) = l.take k ++ [l.getD k ByteArray.empty] := by
    rw [List.take_add_one, List.getElem?_eq_getElem hk, List.getD_eq_getElem?_getD, List.getElem?_eq_getElem hk]
    rfl
  rw [e, setL_snoc]
theorem setL_length : ∀ l : List ByteArray, (setL l).length ≤ l.length := by
  have : ∀ (l o : List ByteArray), (l.foldl setIns o).length ≤ o.length + l.length := by
    intro l
    induction l with
    | nil => intro o; exact Nat.le_refl _
    | cons a r ih =>
      intro o
      rw [List.foldl_cons, List.length_cons]
      have h1 := ih (setIns o a)
      rcases setIns_length o a with h2 | h2 <;> omega
  intro l
  have h := this l []
  simpa [setL] using h
theorem setL_mem : ∀ (l : List ByteArray) (x : ByteArray), x ∈ setL l ↔ x ∈ l := by
  have : ∀ (l o : List ByteArray) (x : ByteArray), x ∈ l.foldl setIns o ↔ x ∈ o ∨ x ∈ l := by
    intro l
    induction l with
    | nil => intro o x; simp
    | cons a r ih =>
      intro o x
      rw [List.foldl_cons, ih, setIns_mem, List.mem_cons]
      constructor
      · rintro ((h | h) | h) <;> simp [h]
      · rintro (h | h | h) <;> simp [h]
  intro l x
  have h := this l [] x
  simpa [setL] using h
theorem setL_ne {l : List ByteArray} (h : l ≠ []) : setL l ≠ [] := by
  intro e
  cases l with
  | nil => exact h rfl
  | cons a r =>
    have := (setL_mem (a :: r) a).2 (by simp)
    rw [e] at this
    cases this
theorem toList_inj {a b : ByteArray} (h : a.toList = b.toList) : a = b := by
  rw [ByteArray.toList_eq, ByteArray.toList_eq] at h
  cases a
  cases b
  simp at h
  rw [h]

end Go.Proofs.YtifpidhoeikdjaaGreatDoor

namespace Go.Proofs.YtifpidhoeikdjaaGreatDoor
open Go.RowKit

def itemC (b : UInt8) : Bool := decide (48 ≤ b.toNat ∧ b.toNat ≤ 57 ∨ 97 ≤ b.toNat ∧ b.toNat ≤ 122)
def isItem (l : List UInt8) : Bool := decide (1 ≤ l.length ∧ l.length ≤ 8) && l.all itemC
theorem isItem_no {s : ByteArray} (k : Nat) (hk : k < s.size) (h : itemC s[k] = false) : isItem s.data.toList = false := by
  have hm : s[k] ∈ s.data.toList := by
    have : s[k] = s.data[k]'hk := rfl
    rw [this]; simp
  have ha : s.data.toList.all itemC = false := by
    rw [← Bool.not_eq_true, List.all_eq_true]
    intro hh
    have := hh _ hm
    rw [h] at this
    cases this
  simp [isItem, ha]
theorem isItem_len_no {s : ByteArray} (h : ¬ (1 ≤ s.size ∧ s.size ≤ 8)) : isItem s.data.toList = false := by
  have : decide (1 ≤ s.data.toList.length ∧ s.data.toList.length ≤ 8) = false := decide_eq_false (by simpa using h)
  simp only [isItem, this, Bool.false_and]
theorem isItem_yes {s : ByteArray} (hl : 1 ≤ s.size ∧ s.size ≤ 8) (h : ∀ k (hk : k < s.size), itemC s[k] = true) : isItem s.data.toList = true := by
  have h1 : decide (1 ≤ s.data.toList.length ∧ s.data.toList.length ≤ 8) = true := decide_eq_true (by simpa using hl)
  simp only [isItem, h1, Bool.true_and, List.all_eq_true]
  intro x hx
  obtain ⟨i, hi, rfl⟩ := List.getElem_of_mem hx
  have := h i (by simpa using hi)
  rw [Array.getElem_toList]
  exact this
theorem isItem_size {s : ByteArray} (h : isItem s.data.toList = true) : 1 ≤ s.size ∧ s.size ≤ 8 := by
  simp only [isItem, Bool.and_eq_true] at h
  simpa using of_decide_eq_true h.1

end Go.Proofs.YtifpidhoeikdjaaGreatDoor

namespace Go.Proofs.YtifpidhoeikdjaaGreatDoor
open Go.RowKit

theorem figs_hexF : ∀ d : Fin 16, hexB (figs.getD d.val 0) = true := by decide +kernel
theorem figs_hex (d : Nat) (h : d < 16) : hexB (figs.getD d 0) = true := figs_hexF ⟨d, h⟩
theorem hexOf_hex (x : Nat) : (hexOf x).all hexB = true := by
  simp only [hexOf, List.all_map, List.all_eq_true, Function.comp]
  intro i _
  exact figs_hex _ (Nat.mod_lt _ (by decide))
theorem isSum_sumB (t : List UInt8) : isSum (sumB t) = true := by
  simp only [isSum, sumB, List.all_append, hexOf_hex]
  simp [hexOf]
/-- The first half of a text's sum, as a number of 31 bits. -/
def headOf (t : List UInt8) : Nat := hexN ((sumB t).take 8) / 2
theorem headOf_lt (t : List UInt8) : headOf t < 2147483648 := by
  have h1 : ((sumB t).take 8).all hexB = true := by
    have := isSum_sumB t
    simp only [isSum, Bool.and_eq_true, List.all_eq_true] at this ⊢
    intro x hx
    exact this.2 x (List.mem_of_mem_take hx)
  have h2 := hexN_le _ h1
  have h3 : ((sumB t).take 8).length = 8 := by simp [sumB, hexOf]
  rw [h3] at h2
  unfold headOf
  omega
theorem sumHead_sumB (t : List UInt8) : sumHead (sumB t) = (headOf t : Int) := by
  simp [sumHead, isSum_sumB, headOf]
def filterTo (k it : List UInt8) (below : Int) : Int :=
  if (isSum k && isItem it && decide (1 ≤ below ∧ below ≤ 60000)) = true then (headOf (k ++ 32 :: it) : Int) * below / 2147483648 else -1
theorem filterTo_yes {k it : List UInt8} {below : Int} (h1 : isSum k = true) (h2 : isItem it = true) (h3 : 1 ≤ below ∧ below ≤ 60000) : filterTo k it below = (headOf (k ++ 32 :: it) : Int) * below / 2147483648 := by
  simp [filterTo, h1, h2, h3.1, h3.2]
theorem filterTo_no1 {k it : List UInt8} {below : Int} (h1 : isSum k = false) : filterTo k it below = -1 := by
  simp [filterTo, h1]
theorem filterTo_no2 {k it : List UInt8} {below : Int} (h1 : isItem it = false) : filterTo k it below = -1 := by
  simp [filterTo, h1]
theorem filterTo_no3 {k it : List UInt8} {below : Int} (h1 : ¬ (1 ≤ below ∧ below ≤ 60000)) : filterTo k it below = -1 := by
  have : decide (1 ≤ below ∧ below ≤ 60000) = false := decide_eq_false h1
  simp only [filterTo, this, Bool.and_false]
  rfl
theorem place_lt (h : Nat) (b : Int) (hh : h < 2147483648) (hb : 1 ≤ b ∧ b ≤ 60000) : 0 ≤ (h : Int) * b ∧ (h : Int) * b < 2147483648 * 60000 ∧ 0 ≤ (h : Int) * b / 2147483648 ∧ (h : Int) * b / 2147483648 < b := by
  have h1 : (0 : Int) ≤ (h : Int) * b := Int.mul_nonneg (by omega) (by omega)
  have h2 : (h : Int) * b < 2147483648 * b := Int.mul_lt_mul_of_pos_right (by omega) (by omega)
  refine ⟨h1, by omega, by omega, ?_⟩
  omega

theorem keyItem_bytes (k it : ByteArray) : (k ++ (⟨#[32]⟩ : ByteArray) ++ it).data.toList = k.data.toList ++ 32 :: it.data.toList := by
  simp

end Go.Proofs.YtifpidhoeikdjaaGreatDoor

namespace Go.Proofs.YtifpidhoeikdjaaGreatDoor
open Go.RowKit

def valB (l : List Nat) : Nat := l.foldl (fun n b => n * 2 + b) 0
theorem valB_snoc (l : List Nat) (b : Nat) : valB (l ++ [b]) = valB l * 2 + b := by simp [valB]
theorem valB_lt (l : List Nat) (h : ∀ x ∈ l, x ≤ 1) : valB l + 1 ≤ 2 ^ l.length := by
  suffices ∀ (l : List Nat) (a : Nat), (∀ x ∈ l, x ≤ 1) → l.foldl (fun n b => n * 2 + b) a + 1 ≤ (a + 1) * 2 ^ l.length by
    have := this l 0 h
    simpa [valB] using this
  intro l
  induction l with
  | nil => intro a _; simp
  | cons x r ih =>
    intro a hx
    have h1 := hx x (by simp)
    have h2 := ih (a * 2 + x) (fun y hy => hx y (by simp [hy]))
    simp only [List.foldl_cons, List.length_cons, Nat.pow_succ]
    have h3 : (a * 2 + x + 1) * 2 ^ r.length ≤ (a + 1) * 2 * 2 ^ r.length := Nat.mul_le_mul_right _ (by omega)
    have h4 : (a + 1) * 2 * 2 ^ r.length = (a + 1) * (2 ^ r.length * 2) := by rw [Nat.mul_assoc, Nat.mul_comm 2]
    omega
/-- One bit more: the full bytes, and the bits that wait. -/
def stepB (s : List UInt8 × List Nat) (b : Nat) : List UInt8 × List Nat :=
  if s.2.length = 7 then (s.1 ++ [UInt8.ofNat (valB (s.2 ++ [b]))], []) else (s.1, s.2 ++ [b])
def runB (s : List UInt8 × List Nat) (bs : List Nat) : List UInt8 × List Nat := bs.foldl stepB s
def okB (s : List UInt8 × List Nat) : Prop := s.2.length < 8 ∧ ∀ x ∈ s.2, x ≤ 1
theorem stepB_ok {s : List UInt8 × List Nat} {b : Nat} (h : okB s) (hb : b ≤ 1) : okB (stepB s b) := by
  unfold stepB
  split
  · exact ⟨by simp, by simp⟩
  · refine ⟨by have := h.1; simp; omega, ?_⟩
    intro x hx
    rcases List.mem_append.1 hx with hx | hx
    · exact h.2 x hx
    · simp at hx; omega
theorem stepB_len (s : List UInt8 × List Nat) (b : Nat) : (stepB s b).1.length ≤ s.1.length + 1 := by
  unfold stepB
  split <;> simp
theorem runB_snoc (s : List UInt8 × List Nat) (bs : List Nat) (b : Nat) : runB s (bs ++ [b]) = stepB (runB s bs) b := by simp [runB]
theorem runB_append (s : List UInt8 × List Nat) (xs ys : List Nat) : runB s (xs ++ ys) = runB (runB s xs) ys := by simp [runB]
theorem runB_ok {s : List UInt8 × List Nat} {bs : List Nat} (h : okB s) (hb : ∀ b ∈ bs, b ≤ 1) : okB (runB s bs) := by
  induction bs generalizing s with
  | nil => exact h
  | cons b r ih => exact ih (stepB_ok h (hb b (by simp))) (fun x hx => hb x (by simp [hx]))
theorem runB_len (s : List UInt8 × List Nat) (bs : List Nat) : (runB s bs).1.length ≤ s.1.length + bs.length := by
  induction bs generalizing s with
  | nil => simp [runB]
  | cons b r ih =>
    have h1 := ih (stepB s b)
    have h2 := stepB_len s b
    simp only [runB, List.foldl_cons, List.length_cons] at h1 ⊢
    omega
/-- The lowest bits of a number, the highest of them first. -/
def lowB (n : Nat) : Nat → List Nat
  | 0 => []
  | k + 1 => (n / 2 ^ k % 2) :: lowB n k
theorem lowB_ok (n k : Nat) : ∀ b ∈ lowB n k, b ≤ 1 := by
  induction k with
  | zero => simp [lowB]
  | succ k ih =>
    intro b hb
    rcases List.mem_cons.1 hb with rfl | hb
    · omega
    · exact ih b hb
theorem lowB_length (n k : Nat) : (lowB n k).length = k := by
  induction k with
  | zero => rfl
  | succ k ih => simp [lowB, ih]
theorem lowB_mod (n k m : Nat) (h : k ≤ m) : lowB (n % 2 ^ m) k = lowB n k := by
  induction k with
  | zero => rfl
  | succ k ih =>
    rw [lowB, lowB, ih (by omega)]
    congr 1
    have : 2 ^ m = 2 ^ k * (2 * 2 ^ (m - k - 1)) := by
      rw [← Nat.mul_assoc, ← Nat.pow_succ, ← Nat.pow_add]
      congr 1
      omega
    rw [this, Nat.mod_mul_right_div_self, Nat.mod_mul_right_mod]
def numB (k n : Nat) : List Nat := List.replicate (n / 2 ^ k) 1 ++ 0 :: lowB n k
theorem numB_ok (k n : Nat) : ∀ b ∈ numB k n, b ≤ 1 := by
  intro b hb
  rcases List.mem_append.1 hb with hb | hb
  · simp at hb; omega
  · rcases List.mem_cons.1 hb with rfl | hb
    · omega
    · exact lowB_ok n k b hb
theorem numB_length (k n : Nat) : (numB k n).length = n / 2 ^ k + 1 + k := by
  simp [numB, lowB_length]; omega
def bitsOf (k : Nat) (l : List Nat) : List Nat := l.flatMap (numB k)
theorem bitsOf_snoc (k : Nat) (l : List Nat) (n : Nat) : bitsOf k (l ++ [n]) = bitsOf k l ++ numB k n := by simp [bitsOf]
theorem bitsOf_ok (k : Nat) (l : List Nat) : ∀ b ∈ bitsOf k l, b ≤ 1 := by
  intro b hb
  obtain ⟨n, _, hb⟩ := List.mem_flatMap.1 hb
  exact numB_ok k n b hb
theorem bitsOf_length (k : Nat) (l : List Nat) (hk : k ≤ 8) (h : ∀ x ∈ l, x ≤ 60000) : (bitsOf k l).length ≤ l.length * 60009 := by
  induction l with
  | nil => simp [bitsOf]
  | cons n r ih =>
    have h1 := ih (fun x hx => h x (by simp [hx]))
    have h2 := h n (by simp)
    have h3 : n / 2 ^ k ≤ n := Nat.div_le_self _ _
    simp only [bitsOf, List.flatMap_cons, List.length_append, numB_length, List.length_cons] at h1 ⊢
    omega
/-- The state once the last byte is full. -/
def fillB (s : List UInt8 × List Nat) : List UInt8 := (runB s (List.replicate (if s.2 = [] then 0 else 8 - s.2.length) 0)).1
def riceB (k : Nat) (l : List Nat) : List UInt8 := fillB (runB ([], []) (bitsOf k l))
/-- Noughts one by one: the bytes are those of the full state as soon as nothing waits. -/
theorem fillB_step {s : List UInt8 × List Nat} (h : s.2.length < 8) (h0 : s.2 ≠ []) : fillB (stepB s 0) = fillB s := by
  have hne : s.2.length ≠ 0 := fun e => h0 (List.length_eq_zero_iff.1 e)
  have e8 : 8 - s.2.length = (8 - s.2.length - 1) + 1 := by omega
  have hr : fillB s = (runB (stepB s 0) (List.replicate (8 - s.2.length - 1) 0)).1 := by
    rw [fillB, if_neg h0, e8, List.replicate_succ]
    rfl
  rw [hr]
  unfold fillB
  by_cases h7 : s.2.length = 7
  · have : (stepB s 0).2 = [] := by simp [stepB, h7]
    rw [if_pos this, h7]
  · have h2 : (stepB s 0).2 = s.2 ++ [0] := by simp [stepB, h7]
    have h3 : (stepB s 0).2 ≠ [] := by rw [h2]; simp
    rw [if_neg h3, h2]
    simp only [List.length_append, List.length_cons, List.length_nil]
    rw [show 8 - (s.2.length + (0 + 1)) = 8 - s.2.length - 1 from by omega]
theorem fillB_end {s : List UInt8 × List Nat} (h0 : s.2 = []) : fillB s = s.1 := by
  rw [fillB, if_pos h0]
  rfl

end Go.Proofs.YtifpidhoeikdjaaGreatDoor

namespace Go.Proofs.YtifpidhoeikdjaaGreatDoor
open Go.RowKit

def numOk (z : Int) : Bool := decide (0 ≤ z ∧ z ≤ 60000)
def bitsOk (k : Int) : Bool := decide (0 ≤ k ∧ k ≤ 8)
def riceOkB (zs : List Int) (k : Int) : Bool := decide (zs.length ≤ 40) && bitsOk k && zs.all numOk
def ricePut (zs : List Int) (k : Int) : List UInt8 := if riceOkB zs k = true then riceB k.toNat (zs.map Int.toNat) else []
/-- The numbers lie there. -/
def At (w : World) (g : Nat) (zs : List Int) : Prop := g < w.heap.size ∧ ∀ i, i < zs.length → w.cell? ⟨g, i, none⟩ = some (.int .i64 (zs.getD i 0))
theorem At.below {w w' : World} {g B : Nat} {zs : List Int} (h : At w g zs) (hb : Below B w w') (hg : g < B) : At w' g zs :=
  ⟨Nat.lt_of_lt_of_le h.1 hb.size, fun i hi => by rw [hb.cell (p := ⟨g, i, none⟩) hg]; exact h.2 i hi⟩
theorem At.drew {w : World} {g : Nat} {zs : List Int} (h : At w g zs) : At w.drew g zs := h
theorem riceOk_len {zs : List Int} {k : Int} (h : riceOkB zs k = true) : zs.length ≤ 40 := by
  simp only [riceOkB, Bool.and_eq_true] at h
  exact of_decide_eq_true h.1.1
theorem riceOk_bits {zs : List Int} {k : Int} (h : riceOkB zs k = true) : 0 ≤ k ∧ k ≤ 8 := by
  simp only [riceOkB, Bool.and_eq_true] at h
  exact of_decide_eq_true h.1.2
theorem riceOk_at {zs : List Int} {k : Int} (h : riceOkB zs k = true) (i : Nat) (hi : i < zs.length) : 0 ≤ zs.getD i 0 ∧ zs.getD i 0 ≤ 60000 := by
  simp only [riceOkB, Bool.and_eq_true, List.all_eq_true] at h
  have := h.2 (zs.getD i 0) (by simp [List.getElem?_eq_getElem hi])
  exact of_decide_eq_true this
theorem riceOk_no {zs : List Int} {k : Int} (i : Nat) (hi : i < zs.length) (h : ¬ (0 ≤ zs.getD i 0 ∧ zs.getD i 0 ≤ 60000)) : riceOkB zs k = false := by
  cases hh : riceOkB zs k with
  | false => rfl
  | true => exact absurd (riceOk_at hh i hi) h
theorem riceOk_yes {zs : List Int} {k : Int} (h1 : zs.length ≤ 40) (h2 : 0 ≤ k ∧ k ≤ 8) (h3 : ∀ i, i < zs.length → 0 ≤ zs.getD i 0 ∧ zs.getD i 0 ≤ 60000) : riceOkB zs k = true := by
  have e1 : decide (zs.length ≤ 40) = true := decide_eq_true h1
  have e2 : bitsOk k = true := decide_eq_true h2
  simp only [riceOkB, e1, e2, Bool.true_and, List.all_eq_true]
  intro z hz
  obtain ⟨i, hi, rfl⟩ := List.mem_iff_getElem.1 hz
  have := h3 i hi
  rw [List.getD_eq_getElem?_getD, List.getElem?_eq_getElem hi] at this
  exact decide_eq_true this
theorem ricePut_yes {zs : List Int} {k : Int} (h : riceOkB zs k = true) : ricePut zs k = riceB k.toNat (zs.map Int.toNat) := by
  rw [ricePut, if_pos h]
theorem ricePut_no {zs : List Int} {k : Int} (h : riceOkB zs k = false) : ricePut zs k = [] := by
  rw [ricePut, if_neg (by rw [h]; decide)]
/-- The first so many numbers written. -/
def upTo (k : Nat) (zs : List Int) (i : Nat) : List UInt8 × List Nat := runB ([], []) (bitsOf k ((zs.map Int.toNat).take i))
theorem upTo_zero (k : Nat) (zs : List Int) : upTo k zs 0 = ([], []) := by simp [upTo, bitsOf, runB]
theorem upTo_succ (k : Nat) (zs : List Int) (i : Nat) (hi : i < zs.length) : upTo k zs (i + 1) = runB (upTo k zs i) (numB k (zs.getD i 0).toNat) := by
  have h : (zs.map Int.toNat).take (i + 1) = (zs.map Int.toNat).take i ++ [(zs.getD i 0).toNat] := by
    rw [List.take_add_one, List.getElem?_map, List.getElem?_eq_getElem hi]
    simp [List.getElem?_eq_getElem hi]
  rw [upTo, h, bitsOf_snoc, runB_append]
  rfl
theorem upTo_ok (k : Nat) (zs : List Int) (i : Nat) : okB (upTo k zs i) := runB_ok ⟨by simp, by simp⟩ (bitsOf_ok _ _)
theorem upTo_len {k : Nat} {zs : List Int} (hk : k ≤ 8) (hl : zs.length ≤ 40) (h : ∀ i, i < zs.length → 0 ≤ zs.getD i 0 ∧ zs.getD i 0 ≤ 60000) (i : Nat) : (upTo k zs i).1.length ≤ 10000000 := by
  have h1 := runB_len ([], []) (bitsOf k ((zs.map Int.toNat).take i))
  have h2 := bitsOf_length k ((zs.map Int.toNat).take i) hk (by
    intro x hx
    have hx' := List.mem_of_mem_take hx
    obtain ⟨z, hz, rfl⟩ := List.mem_map.1 hx'
    obtain ⟨j, hj, rfl⟩ := List.mem_iff_getElem.1 hz
    have := h j hj
    rw [List.getD_eq_getElem?_getD, List.getElem?_eq_getElem hj] at this
    simp at this
    omega)
  have h3 : ((zs.map Int.toNat).take i).length ≤ 40 := by simp; omega
  have h4 : ((zs.map Int.toNat).take i).length * 60009 ≤ 40 * 60009 := Nat.mul_le_mul_right _ h3
  simp only [List.length_nil] at h1
  show (runB ([], []) (bitsOf k ((zs.map Int.toNat).take i))).1.length ≤ _
  omega
theorem upTo_end (k : Nat) (zs : List Int) : fillB (upTo k zs zs.length) = riceB k (zs.map Int.toNat) := by
  rw [upTo, riceB, List.take_of_length_le (by simp)]

end Go.Proofs.YtifpidhoeikdjaaGreatDoor

set_option linter.unusedVariables false
namespace Go.Proofs.YtifpidhoeikdjaaGreatDoor
open Go.RowKit

/-- A slice of texts that came in. -/
def IsTexts (w : World) (a : Option Addr) (len cap : Nat) (ss : List ByteArray) : Prop :=
  (a = none ∧ len = 0 ∧ cap = 0 ∧ ss = []) ∨
  ∃ x, a = some x ∧ len ≤ cap ∧ cap ≤ maxLen ∧ ss.length = cap ∧ (∀ i, i < ss.length → w.cell? (x.add i) = some (.string (ss.getD i ByteArray.empty))) ∧ ∀ s ∈ ss, s.size ≤ maxLen
theorem IsTexts.len {w : World} {a : Option Addr} {len cap : Nat} {ss : List ByteArray} (h : IsTexts w a len cap ss) : len = (ss.take len).length := by
  rcases h with ⟨_, hl, _, hz⟩ | ⟨x, hx, hlc, _, hzl, _⟩
  · rw [hl, hz]; rfl
  · simp; omega
/-- The texts lie there. -/
def AtS (w : World) (g : Nat) (ss : List ByteArray) : Prop := g < w.heap.size ∧ ∀ i, i < ss.length → w.cell? ⟨g, i, none⟩ = some (.string (ss.getD i ByteArray.empty))
theorem AtS.below {w w' : World} {g B : Nat} {ss : List ByteArray} (h : AtS w g ss) (hb : Below B w w') (hg : g < B) : AtS w' g ss :=
  ⟨Nat.lt_of_lt_of_le h.1 hb.size, fun i hi => by rw [hb.cell (p := ⟨g, i, none⟩) hg]; exact h.2 i hi⟩
theorem AtS.drew {w : World} {g : Nat} {ss : List ByteArray} (h : AtS w g ss) : AtS w.drew g ss := h
def sCells (l : List ByteArray) : Array Value := (l.map Value.string).toArray
def RowS (w : World) (g : Nat) (l : List ByteArray) : Prop := w.heap[g]? = some (.cells (sCells l) 9 (0, 0))
theorem infoStr : (Tryz.prog.info? 9).map (fun i => (i.zero, i.size, i.bytes)) = some (some (.string ⟨#[]⟩), 1, 16) := by kernel_rfl
theorem madeCells_S (n : Nat) : madeCells #[.string ⟨#[]⟩] n = sCells (List.replicate n ⟨#[]⟩) := by
  unfold madeCells sCells
  apply Array.ext
  · simp
  · intro i h1 h2
    simp [Nat.mod_one]
theorem makeS (n : Nat) (hn : n ≤ 1099511627776) (w : World) : (Instr.makeSlice 22 (.int .i64 (n : Int)) (.int .i64 (n : Int))).run Tryz.prog w = .ok (.slice (some ⟨w.heap.size, 0, none⟩) n n) (w.alloc (.cells (sCells (List.replicate n ⟨#[]⟩)) 9)) := by
  rw [← madeCells_S]
  exact run_make_row' 22 9 (.string ⟨#[]⟩) 16 Tryz.underlying22 infoStr rfl .i64 .i64 n (by omega) (by omega) w
theorem makeCapS (n : Nat) (hn : n ≤ 1099511627776) (w : World) : (Instr.makeSlice 22 (.int .i64 0) (.int .i64 (n : Int))).run Tryz.prog w = .ok (.slice (some ⟨w.heap.size, 0, none⟩) 0 n) (w.alloc (.cells (sCells (List.replicate n ⟨#[]⟩)) 9)) := by
  obtain ⟨i, hi, hz, hs, hb⟩ := info_parts infoStr
  have hb' : (i.bytes : Int) * (n : Int) ≤ 281474976710656 := by rw [hb]; omega
  have hr := run_make (P := Tryz.prog) w 22 9 i (.string ⟨#[]⟩) Tryz.underlying22 hi hz .i64 .i64 0 (n : Int) (by omega) (by omega) hb' (by omega)
  simp only [Int.toNat_natCast, hs, Nat.mul_one, Value.cells, Int.toNat_zero] at hr
  rw [← madeCells_S]
  exact hr
theorem RowS.lt {w : World} {g : Nat} {l : List ByteArray} (h : RowS w g l) : g < w.heap.size := by
  rcases Nat.lt_or_ge g w.heap.size with h' | h'
  · exact h'
  · simp [RowS, Array.getElem?_eq_none h'] at h
theorem RowS.cell {w : World} {g : Nat} {l : List ByteArray} (h : RowS w g l) (i : Nat) (hi : i < l.length) : w.cell? ⟨g, i, none⟩ = some (.string (l.getD i ByteArray.empty)) := by
  rw [Lib.cell_of_heap h]
  simp [sCells, List.getElem?_eq_getElem hi]
theorem RowS.at {w : World} {g : Nat} {l : List ByteArray} (h : RowS w g l) : AtS w g l := ⟨h.lt, h.cell⟩
theorem RowS.frozen {w : World} {g : Nat} {l : List ByteArray} (h : RowS w g l) (i : Nat) : w.frozen? ⟨g, i, none⟩ = false := Lib.frozen_of_heap h i
theorem RowS.set {w : World} {g : Nat} {l : List ByteArray} (h : RowS w g l) (i : Nat) (v : ByteArray) : RowS (w.setCell ⟨g, i, none⟩ (.string v)) g (l.set i v) := by
  unfold RowS at h ⊢
  simp only [World.setCell, Array.getElem?_modify, h]
  simp [sCells, List.map_set]
theorem RowS.below {w w' : World} {g B : Nat} {l : List ByteArray} (h : RowS w g l) (hb : Below B w w') (hg : g < B) : RowS w' g l := by
  unfold RowS at h ⊢; rw [hb.block g hg]; exact h
theorem set_nextS (f : List ByteArray) (n k : Nat) (hk : k < f.length) (hn : k < n) : (f.take k ++ List.replicate (n - k) (⟨#[]⟩ : ByteArray)).set k (f.getD k ByteArray.empty) = f.take (k + 1) ++ List.replicate (n - (k + 1)) (⟨#[]⟩ : ByteArray) := by
  have hl : (f.take k).length = k := by simp; omega
  rw [List.set_append_right _ _ (by omega), hl, Nat.sub_self, show n - k = (n - (k + 1)) + 1 from by omega, List.replicate_succ, List.set_cons_zero]
  have e1 : f.take (k + 1) = f.take k ++ [f[k]] := by rw [List.take_add_one, List.getElem?_eq_getElem hk]; rfl
  have e2 : f.getD k ByteArray.empty = f[k] := by rw [List.getD_eq_getElem?_getD, List.getElem?_eq_getElem hk]; rfl
  rw [e1, e2, List.append_assoc]
  rfl

/-- A row of texts of the call's own. -/
def SRow (B : Nat) (v : Value) (ss : List ByteArray) (w : World) : Prop := (∃ g cap, v = .slice (some ⟨g, 0, none⟩) ss.length cap) ∧ w.ownsRow B 9 1 v ss.length (ss.map Value.string)
theorem srow_new (w : World) : SRow w.heap.size (.slice (some ⟨w.heap.size, 0, none⟩) 0 0) [] (w.alloc (.cells #[] 9)) :=
  ⟨⟨_, _, rfl⟩, rfl, .inr ⟨_, _, #[], rfl, Nat.le_refl _, heap_alloc_new w _, Nat.le_refl _, by unfold maxLen; omega, rfl, rfl⟩⟩
theorem srow_cap (w : World) (n : Nat) (hn : n ≤ 1000000000) : SRow w.heap.size (.slice (some ⟨w.heap.size, 0, none⟩) 0 n) [] (w.alloc (.cells (sCells (List.replicate n ⟨#[]⟩)) 9)) :=
  ⟨⟨_, _, rfl⟩, rfl, .inr ⟨_, _, _, rfl, Nat.le_refl _, heap_alloc_new w _, Nat.zero_le _, by unfold maxLen; omega, by simp [sCells], rfl⟩⟩
theorem SRow.block {B : Nat} {v : Value} {ss : List ByteArray} {w : World} (h : SRow B v ss w) : ∃ g cap cur, v = .slice (some ⟨g, 0, none⟩) ss.length cap ∧ B ≤ g ∧ g < w.heap.size ∧ w.heap[g]? = some (.cells cur 9 (0, 0)) ∧ cur.toList.take ss.length = ss.map Value.string := by
  obtain ⟨⟨g, cap, rfl⟩, hl, h2⟩ := h
  rcases h2 with ⟨h2, _⟩ | ⟨g', cap', cur, hv, h3, h4, h5, h6, h7, h8⟩
  · cases h2
  · simp only [Value.slice.injEq, Option.some.injEq, Addr.mk.injEq, and_true] at hv
    obtain ⟨rfl, _, rfl⟩ := hv
    exact ⟨g, cap, cur, rfl, h3, (Array.getElem?_eq_some_iff.1 h4).1, h4, by simpa using h8⟩
theorem SRow.at {B g n cap : Nat} {ss : List ByteArray} {w : World} (h : SRow B (.slice (some ⟨g, 0, none⟩) n cap) ss w) : AtS w g ss ∧ n = ss.length ∧ B ≤ g := by
  obtain ⟨g', cap', cur, hv, h1, h2, h3, h4⟩ := h.block
  simp only [Value.slice.injEq, Option.some.injEq, Addr.mk.injEq, and_true] at hv
  obtain ⟨rfl, rfl, rfl⟩ := hv
  refine ⟨⟨h2, fun i hi => ?_⟩, rfl, h1⟩
  rw [Lib.cell_of_heap h3]
  have : cur.toList[i]? = (ss.map Value.string)[i]? := by rw [← h4, List.getElem?_take]; simp [hi]
  rw [← Array.getElem?_toList, this]
  simp [List.getElem?_eq_getElem hi]
theorem SRow.keep {B : Nat} {v : Value} {ss : List ByteArray} {w w' : World} (h : SRow B v ss w) (hk : ∀ g, B ≤ g → g < w.heap.size → w'.heap[g]? = w.heap[g]?) : SRow B v ss w' := by
  obtain ⟨g, cap, cur, rfl, h1, h2, h3, h4⟩ := h.block
  refine ⟨⟨g, cap, rfl⟩, h.2.1, ?_⟩
  rcases h.2.2 with h5 | ⟨g', cap', cur', hv, h6, h7, h8⟩
  · exact .inl h5
  · refine .inr ⟨g', cap', cur', hv, h6, ?_, h8⟩
    rw [hk g' h6 (Array.getElem?_eq_some_iff.1 h7).1]
    exact h7
theorem SRow.below {B C : Nat} {v : Value} {ss : List ByteArray} {w w' : World} (h : SRow B v ss w) (hb : Below w.heap.size w w') : SRow B v ss w' := h.keep (fun g _ hg => hb.block g hg)
theorem SRow.mono {B C : Nat} {v : Value} {ss : List ByteArray} {w : World} (h : SRow B v ss w) (hC : C ≤ B) : SRow C v ss w := by
  refine ⟨h.1, h.2.1, ?_⟩
  rcases h.2.2 with h5 | ⟨g', cap', cur', hv, h6, h7⟩
  · exact .inl h5
  · exact .inr ⟨g', cap', cur', hv, by omega, h7⟩

end Go.Proofs.YtifpidhoeikdjaaGreatDoor

set_option linter.unusedVariables false
namespace Go.Proofs.YtifpidhoeikdjaaGreatDoor
open Go.RowKit

set_option maxHeartbeats 2000000 in
set_option maxRecDepth 100000 in
theorem implItemOk (s : ByteArray) (w : World) :
    Calls Tryz.prog 32 #[.string s] w fun e w' => e = .returned (.bool (isItem s.data.toList)) ∧ w = w' := by
  by_cases h0 : s.size = 0
  · have hno := isItem_len_no (s := s) (by omega)
    obtain rfl : s = ⟨#[]⟩ := by
      apply ByteArray.ext
      exact Array.size_eq_zero_iff.1 h0
    rw [hno]
    go_enter Tryz.func32, Tryz.ntmps32
    go_wp2
    go_ret
    exact ⟨rfl, rfl⟩
  · have hne : ¬ s = ⟨#[]⟩ := by rintro rfl; exact h0 rfl
    have hn1 : ¬ s.toList = [] := by
      rw [ByteArray.toList_eq]
      intro h
      exact h0 (by have := congrArg List.length h; simpa using this)
    have hn2 : s.toList.isEmpty = false := by
      cases hl : s.toList with
      | nil => exact absurd hl hn1
      | cons a l => rfl
    by_cases h8 : (8 : Int) < (s.size : Int)
    · have hno := isItem_len_no (s := s) (by omega)
      rw [hno]
      go_enter Tryz.func32, Tryz.ntmps32
      go_wp2
      go_ret
      exact ⟨rfl, rfl⟩
    · have hl : 1 ≤ s.size ∧ s.size ≤ 8 := by omega
      go_enter Tryz.func32, Tryz.ntmps32
      go_wp2
      go_loop [15] (fun i => ∃ k : Nat, k ≤ s.size ∧ i = .int .i64 k ∧ Hid (∀ j (hj : j < s.size), j < k → itemC s[j] = true)) (fun i => s.size - (intOf i).toNat)
      case atStart => exact ⟨0, by omega, rfl, fun j hj h => by omega⟩
      case round =>
        obtain ⟨k, hk, rfl, hall⟩ := hrel
        by_cases hlt : k < s.size
        · cases hx : itemC s[k] with
          | true =>
            have hxx := of_decide_eq_true hx
            have HX : Hid (itemC s[k] = true) := hx
            by_cases h97 : (97 : Int) ≤ (s[k].toNat : Int)
            · have h122 : (s[k].toNat : Int) ≤ 122 := by omega
              have h48 : (48 : Int) ≤ (s[k].toNat : Int) := by omega
              have h57 : decide ((s[k].toNat : Int) ≤ 57) = false := decide_eq_false (by omega)
              clear hx hxx
              go_wp2
              go_round
              case rel =>
                refine ⟨k + 1, by omega, by go_num, ?_⟩
                intro j hj hjk
                rcases Nat.lt_or_ge j k with h | h
                · exact hall.out j hj h
                · obtain rfl : j = k := by omega
                  exact HX.out
              case measure => simp [intOf]; omega
            · have h97' : decide ((97 : Int) ≤ (s[k].toNat : Int)) = false := decide_eq_false h97
              have h48 : (48 : Int) ≤ (s[k].toNat : Int) := by omega
              have h57 : (s[k].toNat : Int) ≤ 57 := by omega
              clear hx hxx
              go_wp2
              go_round
              case rel =>
                refine ⟨k + 1, by omega, by go_num, ?_⟩
                intro j hj hjk
                rcases Nat.lt_or_ge j k with h | h
                · exact hall.out j hj h
                · obtain rfl : j = k := by omega
                  exact HX.out
              case measure => simp [intOf]; omega
          | false =>
            have hxx := of_decide_eq_false hx
            have HNO : Hid (isItem s.data.toList = false) := isItem_no k hlt hx
            clear hx
            by_cases h97 : (97 : Int) ≤ (s[k].toNat : Int)
            · have h122 : decide ((s[k].toNat : Int) ≤ 122) = false := decide_eq_false (by omega)
              have h48 : (48 : Int) ≤ (s[k].toNat : Int) := by omega
              have h57 : decide ((s[k].toNat : Int) ≤ 57) = false := decide_eq_false (by omega)
              go_wp2
              go_ret
              rw [HNO.out]
              exact ⟨rfl, rfl⟩
            · have h97' : decide ((97 : Int) ≤ (s[k].toNat : Int)) = false := decide_eq_false h97
              by_cases h48 : (48 : Int) ≤ (s[k].toNat : Int)
              · have h57 : decide ((s[k].toNat : Int) ≤ 57) = false := decide_eq_false (by omega)
                go_wp2
                go_ret
                rw [HNO.out]
                exact ⟨rfl, rfl⟩
              · have h48' : decide ((48 : Int) ≤ (s[k].toNat : Int)) = false := decide_eq_false h48
                go_wp2
                go_ret
                rw [HNO.out]
                exact ⟨rfl, rfl⟩
        · have HY : Hid (isItem s.data.toList = true) := isItem_yes hl (fun j hj => hall.out j hj (by omega))
          go_wp2
          go_ret
          rw [HY.out]
          exact ⟨rfl, rfl⟩

end Go.Proofs.YtifpidhoeikdjaaGreatDoor

set_option linter.unusedVariables false
namespace Go.Proofs.YtifpidhoeikdjaaGreatDoor
open Go.RowKit
def inB (n lo hi : Int) : Bool := decide (lo ≤ n ∧ n ≤ hi)
theorem inB_yes {n lo hi : Int} (h : lo ≤ n ∧ n ≤ hi) : inB n lo hi = true := decide_eq_true h
theorem inB_no {n lo hi : Int} (h : ¬ (lo ≤ n ∧ n ≤ hi)) : inB n lo hi = false := decide_eq_false h

theorem specIn (n lo hi : Int) (w : World) :
    Calls Tryz.prog 58 #[.int .i64 n, .int .i64 lo, .int .i64 hi] w fun e w' => e = .returned (.bool (inB n lo hi)) ∧ w = w' := by
  by_cases h1 : lo ≤ n
  · by_cases h2 : n ≤ hi
    · have h3 : decide (n ≤ hi) = true := decide_eq_true h2
      rw [inB_yes ⟨h1, h2⟩]
      go_enter Tryz.func58, Tryz.ntmps58
      go_wp2
      go_ret
      exact ⟨rfl, rfl⟩
    · have h3 : decide (n ≤ hi) = false := decide_eq_false h2
      rw [inB_no (fun h => h2 h.2)]
      go_enter Tryz.func58, Tryz.ntmps58
      go_wp2
      go_ret
      exact ⟨rfl, rfl⟩
  · have h3 : decide (lo ≤ n) = false := decide_eq_false h1
    rw [inB_no (fun h => h1 h.1)]
    go_enter Tryz.func58, Tryz.ntmps58
    go_wp2
    go_ret
    exact ⟨rfl, rfl⟩

end Go.Proofs.YtifpidhoeikdjaaGreatDoor

set_option linter.unusedVariables false
namespace Go.Proofs.YtifpidhoeikdjaaGreatDoor
open Go.RowKit

def figB (b : UInt8) : Bool := decide (48 ≤ b.toNat ∧ b.toNat ≤ 57)
theorem specFigure (b : UInt8) (w : World) :
    Calls Tryz.prog 34 #[.int .u8 b.toNat] w fun e w' => e = .returned (.bool (figB b)) ∧ w = w' := by
  by_cases h1 : (48 : Int) ≤ (b.toNat : Int)
  · by_cases h2 : (b.toNat : Int) ≤ 57
    · have h3 : figB b = true := decide_eq_true (by omega)
      rw [h3]
      go_enter Tryz.func34, Tryz.ntmps34
      go_wp2
      go_ret
      exact ⟨rfl, rfl⟩
    · have h3 : figB b = false := decide_eq_false (by omega)
      have h4 : decide ((b.toNat : Int) ≤ 57) = false := decide_eq_false h2
      rw [h3]
      go_enter Tryz.func34, Tryz.ntmps34
      go_wp2
      go_ret
      exact ⟨rfl, rfl⟩
  · have h3 : figB b = false := decide_eq_false (by omega)
    have h4 : decide ((48 : Int) ≤ (b.toNat : Int)) = false := decide_eq_false h1
    rw [h3]
    go_enter Tryz.func34, Tryz.ntmps34
    go_wp2
    go_ret
    exact ⟨rfl, rfl⟩

set_option maxHeartbeats 2000000 in
set_option maxRecDepth 100000 in
theorem specIsSum (s : ByteArray) (w : World) (hs : s.size ≤ maxLen) :
    Calls Tryz.prog 12 #[.string s] w fun e w' => e = .returned (.bool (isSum s.data.toList)) ∧ w = w' := by
  unfold maxLen at hs
  go_enter Tryz.func12, Tryz.ntmps12
  go_wp2
  go_loop [3] (fun i => ∃ k : Nat, k ≤ s.size ∧ i = .int .i64 k ∧ Hid (∀ j (hj : j < s.size), j < k → hexB s[j] = true)) (fun i => s.size - (intOf i).toNat)
  case atStart => exact ⟨0, by omega, rfl, fun j hj h => by omega⟩
  case round =>
    obtain ⟨k, hk, rfl, hall⟩ := hrel
    by_cases hlt : k < s.size
    · cases hx : hexB s[k] with
      | true =>
        have hxx := of_decide_eq_true hx
        have HX : Hid (hexB s[k] = true) := hx
        by_cases hfg : figB s[k] = true
        · clear hx
          go_wp2_with (go_at_call 34; refine (specFigure _ _).mono ?_; rintro e w1 ⟨rfl, rfl⟩)
          go_round
          case rel =>
            refine ⟨k + 1, by omega, by go_num, ?_⟩
            intro j hj hjk
            rcases Nat.lt_or_ge j k with h | h
            · exact hall.out j hj h
            · obtain rfl : j = k := by omega
              exact HX.out
          case measure => simp [intOf]; omega
        · have hff : figB s[k] = false := by simpa using hfg
          have h97 : ¬ (s[k].toNat : Int) < 97 := by
            have : ¬ (48 ≤ s[k].toNat ∧ s[k].toNat ≤ 57) := of_decide_eq_false hff
            omega
          have h102 : ¬ (102 : Int) < (s[k].toNat : Int) := by omega
          clear hx hxx hfg
          go_wp2_with (go_at_call 34; refine (specFigure _ _).mono ?_; rintro e w1 ⟨rfl, rfl⟩)
          go_round
          case rel =>
            refine ⟨k + 1, by omega, by go_num, ?_⟩
            intro j hj hjk
            rcases Nat.lt_or_ge j k with h | h
            · exact hall.out j hj h
            · obtain rfl : j = k := by omega
              exact HX.out
          case measure => simp [intOf]; omega
      | false =>
        have hno := isSum_no k hlt hx
        have hxx := of_decide_eq_false hx
        have hff : figB s[k] = false := decide_eq_false (by omega)
        have HNO : Hid (isSum s.data.toList = false) := hno
        clear hx hno
        by_cases h97 : (s[k].toNat : Int) < 97
        · go_wp2_with (go_at_call 34; refine (specFigure _ _).mono ?_; rintro e w1 ⟨rfl, rfl⟩)
          go_ret
          rw [HNO.out]
          exact ⟨rfl, rfl⟩
        · have h102 : (102 : Int) < (s[k].toNat : Int) := by omega
          go_wp2_with (go_at_call 34; refine (specFigure _ _).mono ?_; rintro e w1 ⟨rfl, rfl⟩)
          go_ret
          rw [HNO.out]
          exact ⟨rfl, rfl⟩
    · by_cases hl : s.size = 16
      · have hyes := isSum_yes hl (fun j hj => hall.out j hj (by omega))
        have hl' : ((s.size : Int) == 16) = true := by simp [hl]
        have HY : Hid (isSum s.data.toList = true) := hyes
        clear hyes hl
        go_wp2
        go_ret
        rw [HY.out]
        exact ⟨rfl, rfl⟩
      · have hl' : ((s.size : Int) == 16) = false := by simp; omega
        have hno : isSum s.data.toList = false := by
          cases hh : isSum s.data.toList with
          | false => rfl
          | true => exact absurd (by simpa using isSum_len hh) hl
        have HNO : Hid (isSum s.data.toList = false) := hno
        clear hno
        go_wp2
        go_ret
        rw [HNO.out]
        exact ⟨rfl, rfl⟩

set_option maxHeartbeats 2000000 in
set_option maxRecDepth 100000 in
theorem specHead (s : ByteArray) (w : World) (HX : Hid (isSum s.data.toList = true)) :
    Calls Tryz.prog 59 #[.string s] w fun e w' => e = .returned (.int .i64 ((hexN (s.data.toList.take 8) / 2 : Nat) : Int)) ∧ w = w' := by
  have hsz : s.size = 16 := by simpa using isSum_len HX.out
  go_enter Tryz.func59, Tryz.ntmps59
  go_wp2
  go_loop [3, 4] (fun h i => ∃ k n : Nat, k ≤ 8 ∧ i = .int .i64 k ∧ h = .int .i64 n ∧ Hid (n = hexN (s.data.toList.take k))) (fun _ i => 8 - (intOf i).toNat)
  case atStart => exact ⟨0, 0, by omega, rfl, rfl, rfl⟩
  case round =>
    obtain ⟨k, n, hk, rfl, rfl, hn⟩ := hrel
    have hall : (s.data.toList.take k).all hexB = true := by
      rw [List.all_eq_true]
      intro b hb
      have := HX.out
      simp only [isSum, Bool.and_eq_true, List.all_eq_true] at this
      exact this.2 b (List.mem_of_mem_take hb)
    have hle := hexN_le _ hall
    rw [take_len s k (by omega), ← hn.out] at hle
    have h8 : 16 ^ k ≤ 16 ^ 8 := Nat.pow_le_pow_right (by decide) (by omega)
    have hn8 : n < 4294967296 := by omega
    clear hall hle h8
    by_cases hlt : k < 8
    · have hks : k < s.size := by omega
      have hxk := isSum_at HX.out k hks
      have hxx := of_decide_eq_true hxk
      have HN : Hid (n * 16 + hexV s[k] = hexN (s.data.toList.take (k + 1))) := by
        have := hexN_snoc (s.data.toList.take k) s[k]
        rw [← take_snoc s k hks, ← hn.out] at this
        exact this.symm
      by_cases h97 : (97 : Int) ≤ (s[k].toNat : Int)
      · have hv : hexV s[k] = s[k].toNat - 87 := by unfold hexV; rw [if_neg (by omega)]
        rw [hv] at HN
        clear hxk hv
        go_wp2
        go_round
        case rel => exact ⟨k + 1, n * 16 + (s[k].toNat - 87), by omega, by go_num, by go_num, HN⟩
        case measure => simp [intOf]; omega
      · have hv : hexV s[k] = s[k].toNat - 48 := by unfold hexV; rw [if_pos (by omega)]
        rw [hv] at HN
        have h48 : (48 : Int) ≤ (s[k].toNat : Int) := by omega
        clear hxk hv
        go_wp2
        go_round
        case rel => exact ⟨k + 1, n * 16 + (s[k].toNat - 48), by omega, by go_num, by go_num, HN⟩
        case measure => simp [intOf]; omega
    · obtain rfl : k = 8 := by omega
      go_wp2
      go_ret
      rw [← hn.out]
      exact ⟨by simp, rfl⟩

end Go.Proofs.YtifpidhoeikdjaaGreatDoor

set_option linter.unusedVariables false
namespace Go.Proofs.YtifpidhoeikdjaaGreatDoor
open Go.RowKit

set_option maxHeartbeats 2000000 in
set_option maxRecDepth 100000 in
theorem specItemOk (s : ByteArray) (w : World) (hs : s.size ≤ maxLen) :
    Calls Tryz.prog 35 #[.string s] w fun e w' => e = .returned (.bool (isItem s.data.toList)) ∧ w = w' := by
  unfold maxLen at hs
  go_enter Tryz.func35, Tryz.ntmps35
  go_wp2
  go_loop [3] (fun i => ∃ k : Nat, k ≤ s.size ∧ i = .int .i64 k ∧ Hid (∀ j (hj : j < s.size), j < k → itemC s[j] = true)) (fun i => s.size - (intOf i).toNat)
  case atStart => exact ⟨0, by omega, rfl, fun j hj h => by omega⟩
  case round =>
    obtain ⟨k, hk, rfl, hall⟩ := hrel
    by_cases hlt : k < s.size
    · cases hx : itemC s[k] with
      | true =>
        have hxx := of_decide_eq_true hx
        have HX : Hid (itemC s[k] = true) := hx
        by_cases hfg : figB s[k] = true
        · have h97 : (s[k].toNat : Int) < 97 := by
            have : 48 ≤ s[k].toNat ∧ s[k].toNat ≤ 57 := of_decide_eq_true hfg
            omega
          clear hx hxx
          go_wp2_with (go_at_call 34; refine (specFigure _ _).mono ?_; rintro e w1 ⟨rfl, rfl⟩)
          go_round
          case rel =>
            refine ⟨k + 1, by omega, by go_num, ?_⟩
            intro j hj hjk
            rcases Nat.lt_or_ge j k with h | h
            · exact hall.out j hj h
            · obtain rfl : j = k := by omega
              exact HX.out
          case measure => simp [intOf]; omega
        · have hff : figB s[k] = false := by simpa using hfg
          have h97 : ¬ (s[k].toNat : Int) < 97 := by
            have : ¬ (48 ≤ s[k].toNat ∧ s[k].toNat ≤ 57) := of_decide_eq_false hff
            omega
          have h122 : ¬ (122 : Int) < (s[k].toNat : Int) := by omega
          clear hx hxx hfg
          go_wp2_with (go_at_call 34; refine (specFigure _ _).mono ?_; rintro e w1 ⟨rfl, rfl⟩)
          go_round
          case rel =>
            refine ⟨k + 1, by omega, by go_num, ?_⟩
            intro j hj hjk
            rcases Nat.lt_or_ge j k with h | h
            · exact hall.out j hj h
            · obtain rfl : j = k := by omega
              exact HX.out
          case measure => simp [intOf]; omega
      | false =>
        have hxx := of_decide_eq_false hx
        have hff : figB s[k] = false := decide_eq_false (by omega)
        have HNO : Hid (isItem s.data.toList = false) := isItem_no k hlt hx
        clear hx
        by_cases h97 : (s[k].toNat : Int) < 97
        · go_wp2_with (go_at_call 34; refine (specFigure _ _).mono ?_; rintro e w1 ⟨rfl, rfl⟩)
          go_ret
          rw [HNO.out]
          exact ⟨rfl, rfl⟩
        · have h122 : (122 : Int) < (s[k].toNat : Int) := by omega
          go_wp2_with (go_at_call 34; refine (specFigure _ _).mono ?_; rintro e w1 ⟨rfl, rfl⟩)
          go_ret
          rw [HNO.out]
          exact ⟨rfl, rfl⟩
    · have HE : Hid (inB (s.size : Int) 1 8 = isItem s.data.toList) := by
        show _ = _
        by_cases hl : 1 ≤ s.size ∧ s.size ≤ 8
        · rw [isItem_yes hl (fun j hj => hall.out j hj (by omega)), inB_yes (by omega)]
        · rw [isItem_len_no hl, inB_no (by omega)]
      go_wp2_with (go_at_call 58; refine (specIn _ _ _ _).mono ?_; rintro e w1 ⟨rfl, rfl⟩)
      go_ret
      rw [HE.out]
      exact ⟨rfl, rfl⟩

end Go.Proofs.YtifpidhoeikdjaaGreatDoor

set_option linter.unusedVariables false
namespace Go.Proofs.YtifpidhoeikdjaaGreatDoor
open Go.RowKit

def itemsOkB (ss : List ByteArray) : Bool := decide (ss.length ≤ 40) && ss.all fun s => isItem s.data.toList
theorem itemsOk_len {ss : List ByteArray} (h : itemsOkB ss = true) : ss.length ≤ 40 := by
  simp only [itemsOkB, Bool.and_eq_true, decide_eq_true_eq] at h
  exact h.1
theorem itemsOk_at {ss : List ByteArray} (h : itemsOkB ss = true) (i : Nat) (hi : i < ss.length) : isItem (ss.getD i ByteArray.empty).data.toList = true := by
  simp only [itemsOkB, Bool.and_eq_true, List.all_eq_true] at h
  refine h.2 _ ?_
  simp [List.getElem?_eq_getElem hi]
theorem itemsOk_no {ss : List ByteArray} (i : Nat) (hi : i < ss.length) (h : isItem (ss.getD i ByteArray.empty).data.toList = false) : itemsOkB ss = false := by
  cases hh : itemsOkB ss with
  | false => rfl
  | true => rw [itemsOk_at hh i hi] at h; cases h
theorem itemsOk_yes {ss : List ByteArray} (h1 : ss.length ≤ 40) (h2 : ∀ i, i < ss.length → isItem (ss.getD i ByteArray.empty).data.toList = true) : itemsOkB ss = true := by
  simp only [itemsOkB, Bool.and_eq_true, List.all_eq_true, decide_eq_true_eq]
  refine ⟨h1, fun s hs => ?_⟩
  obtain ⟨i, hi, rfl⟩ := List.mem_iff_getElem.1 hs
  have := h2 i hi
  rw [List.getD_eq_getElem?_getD, List.getElem?_eq_getElem hi] at this
  exact this

set_option maxHeartbeats 1000000 in
set_option maxRecDepth 100000 in
theorem implItemsOk (g n cap : Nat) (ss : List ByteArray) (w : World) (h : AtS w g ss) (hn : n = ss.length) :
    Calls Tryz.prog 16 #[.slice (some ⟨g, 0, none⟩) n cap] w fun e w' => e = .returned (.bool (itemsOkB ss)) ∧ w = w' := by
  have HA : Hid (AtS w g ss) := h
  have HN : Hid (n = ss.length) := hn
  clear h hn
  by_cases h40 : (40 : Int) < (n : Int)
  · have HNO : Hid (itemsOkB ss = false) := by
      show _ = _
      cases hh : itemsOkB ss with
      | false => rfl
      | true => have := itemsOk_len hh; have := HN.out; omega
    rw [HNO.out]
    go_enter Tryz.func16, Tryz.ntmps16
    go_wp2_with fail
    go_ret
    exact ⟨rfl, rfl⟩
  · have hn40 : n ≤ 40 := by omega
    go_enter Tryz.func16, Tryz.ntmps16
    go_wp2_with fail
    go_loop [10] (fun i => ∃ k : Nat, k ≤ n ∧ i = .int .i64 (k : Int) ∧ Hid (∀ j, j < k → isItem (ss.getD j ByteArray.empty).data.toList = true)) (fun i => n - (intOf i).toNat)
    case atStart => exact ⟨0, by omega, rfl, fun j hj => by omega⟩
    case round =>
      obtain ⟨k, hk, rfl, HT⟩ := hrel
      by_cases hlt : k < n
      · have HK : Hid (k + 1 ≤ n) := hlt
        have hc := HA.out.2 k (by rw [← HN.out]; exact hlt)
        have lk : (k : Int) < (n : Int) := by omega
        obtain ⟨z, hz⟩ : ∃ z, z = ss.getD k ByteArray.empty := ⟨_, rfl⟩
        rw [← hz] at hc
        have HZ : Hid (z = ss.getD k ByteArray.empty) := hz
        clear hz
        cases hit : isItem z.data.toList with
        | true =>
          have HIT : Hid (isItem z.data.toList = true) := hit
          go_wp2_with (go_at_call 32; refine (implItemOk _ _).mono ?_; rintro e w1 ⟨rfl, rfl⟩)
          go_round
          case rel =>
            refine ⟨k + 1, HK.out, by go_num, fun j hj => ?_⟩
            rcases Nat.lt_or_ge j k with h' | h'
            · exact HT.out j h'
            · obtain rfl : j = k := by omega
              rw [← HZ.out]; exact HIT.out
          case measure => have := HK.out; simp [intOf]; omega
        | false =>
          have HNO : Hid (itemsOkB ss = false) := itemsOk_no k (by rw [← HN.out]; exact hlt) (by rw [← HZ.out]; exact hit)
          go_wp2_with (go_at_call 32; refine (implItemOk _ _).mono ?_; rintro e w1 ⟨rfl, rfl⟩)
          go_ret
          rw [HNO.out]
          exact ⟨rfl, rfl⟩
      · have HY : Hid (itemsOkB ss = true) := itemsOk_yes (by rw [← HN.out]; exact hn40) (fun i hi => HT.out i (by have := HN.out; omega))
        go_wp2_with fail
        go_ret
        rw [HY.out]
        exact ⟨rfl, rfl⟩

set_option maxHeartbeats 1000000 in
set_option maxRecDepth 100000 in
theorem specItems (g n cap : Nat) (ss : List ByteArray) (w : World) (h : AtS w g ss) (hn : n = ss.length) (hm : n ≤ 1073741824) (hs : ∀ i, i < ss.length → (ss.getD i ByteArray.empty).size ≤ maxLen) :
    Calls Tryz.prog 13 #[.slice (some ⟨g, 0, none⟩) n cap] w fun e w' => e = .returned (.bool (itemsOkB ss)) ∧ w = w' := by
  have HA : Hid (AtS w g ss) := h
  have HN : Hid (n = ss.length) := hn
  have HS : Hid (∀ i, i < ss.length → (ss.getD i ByteArray.empty).size ≤ maxLen) := hs
  clear h hn hs
  go_enter Tryz.func13, Tryz.ntmps13
  go_wp2_with fail
  go_loop [3] (fun i => ∃ k : Nat, k ≤ n ∧ i = .int .i64 (k : Int) ∧ Hid (∀ j, j < k → isItem (ss.getD j ByteArray.empty).data.toList = true)) (fun i => n - (intOf i).toNat)
  case atStart => exact ⟨0, by omega, rfl, fun j hj => by omega⟩
  case round =>
    obtain ⟨k, hk, rfl, HT⟩ := hrel
    by_cases hlt : k < n
    · have HK : Hid (k + 1 ≤ n) := hlt
      have hc := HA.out.2 k (by rw [← HN.out]; exact hlt)
      have hsz := HS.out k (by rw [← HN.out]; exact hlt)
      have lk : (k : Int) < (n : Int) := by omega
      obtain ⟨z, hz⟩ : ∃ z, z = ss.getD k ByteArray.empty := ⟨_, rfl⟩
      rw [← hz] at hc hsz
      have HZ : Hid (z = ss.getD k ByteArray.empty) := hz
      clear hz
      cases hit : isItem z.data.toList with
      | true =>
        have HIT : Hid (isItem z.data.toList = true) := hit
        go_wp2_with (go_at_call 35; refine (specItemOk _ _ hsz).mono ?_; rintro e w1 ⟨rfl, rfl⟩)
        go_round
        case rel =>
          refine ⟨k + 1, HK.out, by go_num, fun j hj => ?_⟩
          rcases Nat.lt_or_ge j k with h' | h'
          · exact HT.out j h'
          · obtain rfl : j = k := by omega
            rw [← HZ.out]; exact HIT.out
        case measure => have := HK.out; simp [intOf]; omega
      | false =>
        have HNO : Hid (itemsOkB ss = false) := itemsOk_no k (by rw [← HN.out]; exact hlt) (by rw [← HZ.out]; exact hit)
        go_wp2_with (go_at_call 35; refine (specItemOk _ _ hsz).mono ?_; rintro e w1 ⟨rfl, rfl⟩)
        go_ret
        rw [HNO.out]
        exact ⟨rfl, rfl⟩
    · have HY : Hid (itemsOkB ss = decide (n ≤ 40)) := by
        show _ = _
        by_cases h4 : n ≤ 40
        · rw [itemsOk_yes (by rw [← HN.out]; exact h4) (fun i hi => HT.out i (by have := HN.out; omega))]
          simp [h4]
        · cases hh : itemsOkB ss with
          | false => simp [h4]
          | true => have := itemsOk_len hh; have := HN.out; omega
      go_wp2_with fail
      go_ret
      rw [HY.out]
      exact ⟨by simp; omega, rfl⟩

end Go.Proofs.YtifpidhoeikdjaaGreatDoor

set_option linter.unusedVariables false
namespace Go.Proofs.YtifpidhoeikdjaaGreatDoor
open Go.RowKit

def gapsZ : Int → List Int → List Int
  | _, [] => []
  | a, x :: r => (x - a) :: gapsZ x r
theorem gapsZ_length (l : List Int) : ∀ a, (gapsZ a l).length = l.length := by
  induction l with
  | nil => intro a; rfl
  | cons x r ih => intro a; simp [gapsZ, ih]
def lastZ : Int → List Int → Int
  | a, [] => a
  | _, x :: r => lastZ x r
theorem gapsZ_snoc (l : List Int) (x : Int) : ∀ a, gapsZ a (l ++ [x]) = gapsZ a l ++ [x - lastZ a l] := by
  induction l with
  | nil => intro a; rfl
  | cons y r ih =>
    intro a
    simp [gapsZ, ih, lastZ]
theorem lastZ_snoc (x : Int) (l : List Int) : ∀ a, lastZ a (l ++ [x]) = x := by
  induction l with
  | nil => intro a; rfl
  | cons y r ih => intro a; exact ih y
/-- In order. -/
def Asc : Int → List Int → Prop
  | _, [] => True
  | a, x :: r => a ≤ x ∧ Asc x r
theorem asc_mono {a b : Int} {l : List Int} (h : Asc b l) (hab : a ≤ b) : Asc a l := by
  cases l with
  | nil => trivial
  | cons x r => exact ⟨by have := h.1; omega, h.2⟩
theorem asc_ins (z : Int) : ∀ (l : List Int) (a : Int), a ≤ z → Asc a l → Asc a (sortIns l z) := by
  intro l
  induction l with
  | nil => intro a ha _; exact ⟨ha, trivial⟩
  | cons x r ih =>
    intro a ha h
    by_cases hx : x ≤ z
    · have e : sortIns (x :: r) z = x :: sortIns r z := by simp [sortIns, hx]
      rw [e]
      exact ⟨h.1, ih x hx h.2⟩
    · have e : sortIns (x :: r) z = z :: x :: r := by simp [sortIns, hx]
      rw [e]
      exact ⟨ha, by omega, h.2⟩
theorem asc_sort (l : List Int) (h : ∀ x ∈ l, 0 ≤ x) : Asc 0 (sortL l) := by
  have : ∀ (l o : List Int), (∀ x ∈ l, 0 ≤ x) → Asc 0 o → Asc 0 (l.foldl sortIns o) := by
    intro l
    induction l with
    | nil => intro o _ ho; exact ho
    | cons a r ih =>
      intro o hl ho
      exact ih _ (fun x hx => hl x (by simp [hx])) (asc_ins a o 0 (hl a (by simp)) ho)
  exact this l [] h trivial
theorem gaps_in (M : Int) : ∀ (l : List Int) (a : Int), 0 ≤ a → Asc a l → (∀ x ∈ l, x ≤ M) → ∀ y ∈ gapsZ a l, 0 ≤ y ∧ y ≤ M := by
  intro l
  induction l with
  | nil => intro a _ _ _ y hy; cases hy
  | cons x r ih =>
    intro a ha h hM y hy
    have h1 := h.1
    have h2 := hM x (by simp)
    rcases List.mem_cons.1 hy with rfl | hy
    · omega
    · exact ih x (by omega) h.2 (fun z hz => hM z (by simp [hz])) y hy

/-- Where the different ones fall, in order. -/
def placesL (k : List UInt8) (ss : List ByteArray) : List Int := (setL ss).map fun it => filterTo k it.data.toList (((setL ss).length : Int) * 37)
def gapsL (k : List UInt8) (ss : List ByteArray) : List Int := gapsZ 0 (sortL (placesL k ss))
def filterB (k : List UInt8) (ss : List ByteArray) : List UInt8 := varB 4 (setL ss).length ++ riceB 5 ((gapsL k ss).map Int.toNat)
def filterOf (k : List UInt8) (ss : List ByteArray) : List UInt8 := if (isSum k && itemsOkB ss) = true then filterB k ss else []
theorem filterOf_yes {k : List UInt8} {ss : List ByteArray} (h1 : isSum k = true) (h2 : itemsOkB ss = true) : filterOf k ss = filterB k ss := by rw [filterOf, h1, h2]; rfl
theorem filterOf_no1 {k : List UInt8} {ss : List ByteArray} (h1 : isSum k = false) : filterOf k ss = [] := by rw [filterOf, h1]; rfl
theorem filterOf_no2 {k : List UInt8} {ss : List ByteArray} (h2 : itemsOkB ss = false) : filterOf k ss = [] := by rw [filterOf, h2]; simp
theorem set_items {ss : List ByteArray} (h : itemsOkB ss = true) : ∀ it ∈ setL ss, isItem it.data.toList = true := by
  intro it hit
  have h1 := (setL_mem ss it).1 hit
  simp only [itemsOkB, Bool.and_eq_true, List.all_eq_true] at h
  exact h.2 it h1
theorem places_in {k : List UInt8} {ss : List ByteArray} (h1 : isSum k = true) (h2 : itemsOkB ss = true) : ∀ z ∈ placesL k ss, 0 ≤ z ∧ z ≤ 1480 := by
  intro z hz
  obtain ⟨it, hit, rfl⟩ := List.mem_map.1 hz
  have hi := set_items h2 it hit
  have hn : 1 ≤ (setL ss).length := by
    cases hs : setL ss with
    | nil => rw [hs] at hit; cases hit
    | cons a r => simp
  have hn4 : (setL ss).length ≤ 40 := Nat.le_trans (setL_length ss) (itemsOk_len h2)
  have hb : 1 ≤ ((setL ss).length : Int) * 37 ∧ ((setL ss).length : Int) * 37 ≤ 60000 := by omega
  rw [filterTo_yes h1 hi hb]
  have := place_lt (headOf (k ++ 32 :: it.data.toList)) (((setL ss).length : Int) * 37) (headOf_lt _) hb
  omega
theorem gaps_ok {k : List UInt8} {ss : List ByteArray} (h1 : isSum k = true) (h2 : itemsOkB ss = true) : (gapsL k ss).length ≤ 40 ∧ ∀ i, i < (gapsL k ss).length → 0 ≤ (gapsL k ss).getD i 0 ∧ (gapsL k ss).getD i 0 ≤ 60000 := by
  have hl : (gapsL k ss).length = (setL ss).length := by rw [gapsL, gapsZ_length, sortL_length, placesL, List.length_map]
  refine ⟨by rw [hl]; exact Nat.le_trans (setL_length ss) (itemsOk_len h2), fun i hi => ?_⟩
  have hp := places_in h1 h2
  have hmem : (gapsL k ss).getD i 0 ∈ gapsL k ss := by simp [List.getElem?_eq_getElem hi]
  have := gaps_in 1480 (sortL (placesL k ss)) 0 (Int.le_refl _) (asc_sort _ (fun x hx => (hp x hx).1)) (fun x hx => (hp x ((sortL_mem _ x).1 hx)).2) _ hmem
  omega

end Go.Proofs.YtifpidhoeikdjaaGreatDoor

namespace Go.Proofs
open Go.Shelf
def Tryz.lays169_ren : Go.Shelf.Ren := ⟨fun | 169 => 48 | n => n, fun | 70 => 59 | 9 => 9 | 0 => 0 | 72 => 61 | 37 => 28 | 127 => 106 | 3 => 3 | 5 => 5 | n => n, fun | n => n⟩
theorem Tryz.lays169 : Go.Proofs.Lays.n169 Tryz.prog Tryz.lays169_ren := {
  mixed := by kernel_rfl
  f169 := Tryz.func48.trans (congrArg some (by kernel_rfl))
  t0 := Tryz.underlying0
  a0 := Tryz.isAgg0
  z0 := Tryz.sizeOf0
  v0 := Tryz.zeroValue0
  t3 := Tryz.underlying3
  a3 := Tryz.isAgg3
  z3 := Tryz.sizeOf3
  v3 := Tryz.zeroValue3
  t9 := Tryz.underlying9
  a9 := Tryz.isAgg9
  z9 := Tryz.sizeOf9
  v9 := Tryz.zeroValue9
  t37 := Tryz.underlying28
  a37 := Tryz.isAgg28
  z37 := Tryz.sizeOf28
  v37 := Tryz.zeroValue28
  t70 := Tryz.underlying59
  a70 := Tryz.isAgg59
  z70 := Tryz.sizeOf59
  v70 := Tryz.zeroValue59
  t72 := Tryz.underlying61
  a72 := Tryz.isAgg61
  z72 := Tryz.sizeOf61
  v72 := Tryz.zeroValue61
  t127 := Tryz.underlying106
  a127 := Tryz.isAgg106
  z127 := Tryz.sizeOf106
  v127 := Tryz.zeroValue106 }
theorem Tryz.Builder_Extra_169 : Builder.Extra Tryz.prog Tryz.lays169_ren := {
  sizeBuilder := by kernel_rfl
  liesBuilder := by kernel_rfl
  t5 := Tryz.underlying5
  a5 := Tryz.isAgg5
  z5 := Tryz.sizeOf5
  v5 := Tryz.zeroValue5
  infoByte := by kernel_rfl
  cellsByte := by kernel_rfl
  sizeByte := by kernel_rfl
  neB5 := by decide }
open Go.RowKit in
theorem Tryz.Builder_String (B b : Nat) (l : List UInt8) (w : World) (h : Lib.IsBuilder 61 5 B b (Lib.byteCells l) w) (h0 : l ≠ []) :
    Calls Tryz.prog 48 #[.pointer (some ⟨b, 0, none⟩)] w fun e w' => e = .returned (.string ⟨l.toArray⟩) ∧ Below B w w' := Any.Builder_String Tryz.lays169 Tryz.Builder_Extra_169 B b l w h h0
open Go.RowKit in
theorem Tryz.Builder_String_empty (B b : Nat) (w : World) (h : Lib.IsBuilder 61 5 B b [] w) (hBw : B ≤ w.heap.size) :
    Calls Tryz.prog 48 #[.pointer (some ⟨b, 0, none⟩)] w fun e w' => e = .returned (.string ⟨#[]⟩) ∧ Below B w w' := Any.Builder_String_empty Tryz.lays169 Tryz.Builder_Extra_169 B b w h hBw
open Go.RowKit in
theorem Tryz.Builder_String_any (B b : Nat) (l : List UInt8) (w : World) (h : Lib.IsBuilder 61 5 B b (Lib.byteCells l) w) (hBw : B ≤ w.heap.size) :
    Calls Tryz.prog 48 #[.pointer (some ⟨b, 0, none⟩)] w fun e w' => e = .returned (.string ⟨l.toArray⟩) ∧ Below B w w' := Any.Builder_String_any Tryz.lays169 Tryz.Builder_Extra_169 B b l w h hBw
def Tryz.lays137_ren : Go.Shelf.Ren := ⟨fun | 137 => 41 | 217 => 63 | 266 => 94 | n => n, fun | 9 => 9 | 5 => 5 | 3 => 3 | n => n, fun | n => n⟩
theorem Tryz.lays137 : Go.Proofs.Lays.n137 Tryz.prog Tryz.lays137_ren := {
  mixed := by kernel_rfl
  f137 := Tryz.func41.trans (congrArg some (by kernel_rfl))
  f217 := Tryz.func63.trans (congrArg some (by kernel_rfl))
  f266 := Tryz.func94.trans (congrArg some (by kernel_rfl))
  t3 := Tryz.underlying3
  a3 := Tryz.isAgg3
  z3 := Tryz.sizeOf3
  v3 := Tryz.zeroValue3
  t5 := Tryz.underlying5
  a5 := Tryz.isAgg5
  z5 := Tryz.sizeOf5
  v5 := Tryz.zeroValue5
  t9 := Tryz.underlying9
  a9 := Tryz.isAgg9
  z9 := Tryz.sizeOf9
  v9 := Tryz.zeroValue9 }
open Go.RowKit in
theorem Tryz.strings_IndexByte (s : ByteArray) (c : Int) (w : World) :
    Calls Tryz.prog 41 #[.string s, .int .u8 c] w fun e w' => e = .returned (.int .i64 (Lib.indexByte s.data.toList c.toNat.toUInt8)) ∧ w' = w := Any.strings_IndexByte Tryz.lays137 s c w
open Go.RowKit in
theorem Tryz.Builder_String_f (B b : Nat) (l : List UInt8) (w : World) (h : Lib.IsBuilderF 61 5 B b (Lib.byteCells l) w) (h0 : l ≠ []) :
    Calls Tryz.prog 48 #[.pointer (some ⟨b, 0, none⟩)] w fun e w' => e = .returned (.string ⟨l.toArray⟩) ∧ (Lib.IsBuilderF 61 5 B b (Lib.byteCells l) w' ∧ Below B w w') := Any.Builder_String_f Tryz.lays169 Tryz.Builder_Extra_169 B b l w h h0
open Go.RowKit in
theorem Tryz.Builder_String_empty_f (B b : Nat) (w : World) (h : Lib.IsBuilderF 61 5 B b [] w) (hBw : B ≤ w.heap.size) :
    Calls Tryz.prog 48 #[.pointer (some ⟨b, 0, none⟩)] w fun e w' => e = .returned (.string ⟨#[]⟩) ∧ (Lib.IsBuilderF 61 5 B b [] w' ∧ Below B w w') := Any.Builder_String_empty_f Tryz.lays169 Tryz.Builder_Extra_169 B b w h hBw
open Go.RowKit in
theorem Tryz.Builder_String_any_f (B b : Nat) (l : List UInt8) (w : World) (h : Lib.IsBuilderF 61 5 B b (Lib.byteCells l) w) (hBw : B ≤ w.heap.size) :
    Calls Tryz.prog 48 #[.pointer (some ⟨b, 0, none⟩)] w fun e w' => e = .returned (.string ⟨l.toArray⟩) ∧ (Lib.IsBuilderF 61 5 B b (Lib.byteCells l) w' ∧ Below B w w') := Any.Builder_String_any_f Tryz.lays169 Tryz.Builder_Extra_169 B b l w h hBw
open Go.RowKit in
theorem Tryz.Builder_String_k (B b : Nat) (l : List UInt8) (w : World) (h : Lib.IsBuilderF 61 5 B b (Lib.byteCells l) w) (h0 : l ≠ []) :
    Calls Tryz.prog 48 #[.pointer (some ⟨b, 0, none⟩)] w fun e w' => e = .returned (.string ⟨l.toArray⟩) ∧ (Lib.IsBuilderF 61 5 B b (Lib.byteCells l) w' ∧ Below B w w' ∧ Lib.OthersKept 5 (some b) w w') := Any.Builder_String_k Tryz.lays169 Tryz.Builder_Extra_169 B b l w h h0
open Go.RowKit in
theorem Tryz.Builder_String_empty_k (B b : Nat) (w : World) (h : Lib.IsBuilderF 61 5 B b [] w) (hBw : B ≤ w.heap.size) :
    Calls Tryz.prog 48 #[.pointer (some ⟨b, 0, none⟩)] w fun e w' => e = .returned (.string ⟨#[]⟩) ∧ (Lib.IsBuilderF 61 5 B b [] w' ∧ Below B w w' ∧ Lib.OthersKept 5 (some b) w w') := Any.Builder_String_empty_k Tryz.lays169 Tryz.Builder_Extra_169 B b w h hBw
open Go.RowKit in
theorem Tryz.Builder_String_any_k (B b : Nat) (l : List UInt8) (w : World) (h : Lib.IsBuilderF 61 5 B b (Lib.byteCells l) w) (hBw : B ≤ w.heap.size) :
    Calls Tryz.prog 48 #[.pointer (some ⟨b, 0, none⟩)] w fun e w' => e = .returned (.string ⟨l.toArray⟩) ∧ (Lib.IsBuilderF 61 5 B b (Lib.byteCells l) w' ∧ Below B w w' ∧ Lib.OthersKept 5 (some b) w w') := Any.Builder_String_any_k Tryz.lays169 Tryz.Builder_Extra_169 B b l w h hBw
def Tryz.lays217_ren : Go.Shelf.Ren := ⟨fun | 217 => 63 | 266 => 94 | n => n, fun | 9 => 9 | 5 => 5 | 3 => 3 | n => n, fun | n => n⟩
theorem Tryz.lays217 : Go.Proofs.Lays.n217 Tryz.prog Tryz.lays217_ren := {
  mixed := by kernel_rfl
  f217 := Tryz.func63.trans (congrArg some (by kernel_rfl))
  f266 := Tryz.func94.trans (congrArg some (by kernel_rfl))
  t3 := Tryz.underlying3
  a3 := Tryz.isAgg3
  z3 := Tryz.sizeOf3
  v3 := Tryz.zeroValue3
  t5 := Tryz.underlying5
  a5 := Tryz.isAgg5
  z5 := Tryz.sizeOf5
  v5 := Tryz.zeroValue5
  t9 := Tryz.underlying9
  a9 := Tryz.isAgg9
  z9 := Tryz.sizeOf9
  v9 := Tryz.zeroValue9 }
open Go.RowKit Go.Lib in
theorem Tryz.stringslite_IndexByte (s : ByteArray) (c : Int) (w : World) :
    Calls Tryz.prog 63 #[.string s, .int .u8 c] w fun e w' => e = .returned (.int .i64 (Lib.indexByte s.data.toList c.toNat.toUInt8)) ∧ w' = w := Any.stringslite_IndexByte Tryz.lays217 s c w
end Go.Proofs

set_option linter.unusedVariables false
namespace Go.Proofs.YtifpidhoeikdjaaGreatDoor
open Go.Shelf Go.RowKit

theorem infoIntB : (Tryz.prog.info? 3).map (fun i => (i.zero, i.size, i.bytes)) = some (some (.int .i64 0), 1, 8) := by kernel_rfl
theorem infoByteB : (Tryz.prog.info? 5).map (fun i => (i.zero, i.size, i.bytes)) = some (some (.int .u8 0), 1, 1) := by kernel_rfl
def intCells (l : List Nat) : List Value := l.map fun n : Nat => Value.int .i64 (n : Int)
def SAt (b : Nat) (v u : Value) (w : World) : Prop := w.heap[b]? = some (.cells #[v, u] 79 (0, 0))
theorem SAt.c0 {b : Nat} {v u : Value} {w : World} (h : SAt b v u w) : w.cell? ⟨b, 0, none⟩ = some v := by rw [Lib.cell_of_heap h]; rfl
theorem SAt.c1 {b : Nat} {v u : Value} {w : World} (h : SAt b v u w) : w.cell? ⟨b, 1, none⟩ = some u := by rw [Lib.cell_of_heap h]; rfl
theorem SAt.fz {b : Nat} {v u : Value} {w : World} (h : SAt b v u w) (i : Nat) : w.frozen? ⟨b, i, none⟩ = false := Lib.frozen_of_heap h i
theorem SAt.lt {b : Nat} {v u : Value} {w : World} (h : SAt b v u w) : b < w.heap.size := by
  rcases Nat.lt_or_ge b w.heap.size with h' | h'
  · exact h'
  · simp [SAt, Array.getElem?_eq_none h'] at h
theorem SAt.set0 {b : Nat} {v u : Value} {w : World} (h : SAt b v u w) (x : Value) : SAt b x u (w.setCell ⟨b, 0, none⟩ x) := by
  unfold SAt at h ⊢
  simp only [World.setCell, Array.getElem?_modify, h]
  simp
theorem SAt.set1 {b : Nat} {v u : Value} {w : World} (h : SAt b v u w) (x : Value) : SAt b v x (w.setCell ⟨b, 1, none⟩ x) := by
  unfold SAt at h ⊢
  simp only [World.setCell, Array.getElem?_modify, h]
  simp
/-- A row that the call has made stands if its block stands. -/
theorem ownsRow_keep {base : Nat} {e : TypeId} {v : Value} {n : Nat} {xs : List Value} {w w' : World} (h : w.ownsRow base e 1 v n xs) (hk : ∀ g, v.ownBlock = some g → w'.heap[g]? = w.heap[g]?) : w'.ownsRow base e 1 v n xs := by
  refine ⟨h.1, ?_⟩
  rcases h.2 with h2 | ⟨g, cap, cur, hv, h2⟩
  · exact .inl h2
  · refine .inr ⟨g, cap, cur, hv, h2.1, ?_, h2.2.2⟩
    rw [hk g (by rw [hv]; rfl)]
    exact h2.2.1
theorem ownsRow_type {base : Nat} {e : TypeId} {v : Value} {n : Nat} {xs : List Value} {w : World} (h : w.ownsRow base e 1 v n xs) (g : Nat) (hg : v.ownBlock = some g) : ∃ cur, w.heap[g]? = some (.cells cur e (0, 0)) ∧ g < w.heap.size := by
  rcases h.2 with ⟨h2, _⟩ | ⟨g', cap, cur, hv, h2⟩
  · rw [h2] at hg; cases hg
  · rw [hv] at hg
    obtain rfl : g' = g := by simpa [Value.ownBlock] using hg
    refine ⟨cur, h2.2.1, ?_⟩
    rcases Nat.lt_or_ge g' w.heap.size with h' | h'
    · exact h'
    · have := h2.2.1
      simp [Array.getElem?_eq_none h'] at this
theorem intCell_at {base : Nat} {e : TypeId} {g n cap : Nat} {m : List Nat} {w : World} (h : w.ownsRow base e 1 (.slice (some ⟨g, 0, none⟩) n cap) n (intCells m)) (i : Nat) (hi : i < m.length) : w.cell? ⟨g, i, none⟩ = some (.int .i64 ((m.getD i 0 : Nat) : Int)) := by
  have hl : m.length = n := by have := h.1; simpa [intCells] using this
  rcases h.2 with ⟨h2, _⟩ | ⟨g', cap', cur, hv, _, hc, _, _, _, ht⟩
  · cases h2
  · simp only [Value.slice.injEq, Option.some.injEq, Addr.mk.injEq, and_true, true_and] at hv
    obtain ⟨rfl, rfl⟩ := hv
    rw [Lib.cell_of_heap hc, ← Array.getElem?_toList]
    have h3 : cur.toList[i]? = (intCells m)[i]? := by rw [← ht, List.getElem?_take]; simp [← hl, hi]
    rw [h3]
    simp [intCells, List.getElem?_eq_getElem hi]
theorem take_valB (m : List Nat) (j : Nat) (hj : j < m.length) : valB (m.take (j + 1)) = valB (m.take j) * 2 + m.getD j 0 := by
  have : m.take (j + 1) = m.take j ++ [m.getD j 0] := by
    rw [List.take_add_one, List.getElem?_eq_getElem hj]
    simp [List.getElem?_eq_getElem hj]
  rw [this, valB_snoc]
/-- The writer: its full bytes, and the bits that wait. -/
def SB (B b : Nat) (s : List UInt8 × List Nat) (w : World) : Prop :=
  B ≤ b ∧ ∃ v u, SAt b v u w ∧ w.ownsRow B 5 1 v s.1.length (Lib.byteCells s.1) ∧ w.ownsRow B 3 1 u s.2.length (intCells s.2)

set_option maxHeartbeats 1000000 in
set_option maxRecDepth 100000 in
theorem putS (B b : Nat) (s : List UInt8 × List Nat) (bit : Nat) (w : World) (h : SB B b s w) (hok : okB s) (hb : bit ≤ 1) (hlen : s.1.length + 1 ≤ 1000000000) :
    Calls Tryz.prog 60 #[.pointer (some ⟨b, 0, none⟩), .int .i64 (bit : Int)] w fun e w' => e = .returned (.tuple #[]) ∧ SB B b (stepB s bit) w' ∧ Below B w w' := by
  obtain ⟨o, l⟩ := s
  obtain ⟨i1, hi1, hz1, hz2, hz3⟩ := info_parts infoIntB
  obtain ⟨i0, hi0, hy1, hy2, hy3⟩ := info_parts infoByteB
  obtain ⟨hB, v, u, hs, ho, hl⟩ := h
  have c0 := hs.c0
  have c1 := hs.c1
  have HSS : Hid (SAt b v u w) := hs
  have hlt := hs.lt
  have HO : Hid (w.ownsRow B 5 1 v o.length (Lib.byteCells o)) := ho
  clear hs ho
  go_enter Tryz.func60, Tryz.ntmps60
  go_wp2_with (at_builtin; refine wp_app1 rfl _ _ 36 rfl B 3 i1 (.int .i64 0) 8 Tryz.underlying36 hi1 hz1 hz2 hz3 rfl _ l.length (intCells l) rfl hl (.int .i64 (bit : Int)) rfl rfl ?c3 ?c4 ?c5 ?_)
  case c3 => have := hok.1; unfold maxLen; dsimp only at this; omega
  case c4 => have := hok.1; dsimp only at this; omega
  case c5 => omega
  intro g cap w2 hown hb2 hoth
  have hub : u.ownBlock ≠ some b := by
    intro he
    obtain ⟨cur, hc, _⟩ := ownsRow_type hl b he
    rw [HSS.out] at hc
    simp only [Option.some.injEq, Obj.cells.injEq] at hc
    exact absurd hc.2.1 (by decide)
  have hs2 : SAt b v u w2 := by
    unfold SAt
    rw [hoth b hlt hub]
    exact HSS.out
  have HO2 : Hid (w2.ownsRow B 5 1 v o.length (Lib.byteCells o)) := by
    refine ownsRow_keep HO.out (fun g' hg' => ?_)
    obtain ⟨cur, hc, hlt'⟩ := ownsRow_type HO.out g' hg'
    refine hoth g' hlt' (fun he => ?_)
    obtain ⟨cur2, hc2, _⟩ := ownsRow_type hl g' he
    rw [hc] at hc2
    simp only [Option.some.injEq, Obj.cells.injEq] at hc2
    exact absurd hc2.2.1 (by decide)
  have hgb : g ≠ b := by
    intro he
    obtain ⟨cur, hc, _⟩ := ownsRow_type hown g rfl
    rw [he, hs2] at hc
    simp only [Option.some.injEq, Obj.cells.injEq] at hc
    exact absurd hc.2.1 (by decide)
  have hvb : v.ownBlock ≠ some b := by
    intro he
    obtain ⟨cur, hc, _⟩ := ownsRow_type HO2.out b he
    rw [hs2] at hc
    simp only [Option.some.injEq, Obj.cells.injEq] at hc
    exact absurd hc.2.1 (by decide)
  have d0 := hs2.c0
  have d1 := hs2.c1
  have f0 := hs2.fz 0
  have f1 := hs2.fz 1
  obtain ⟨w3, hw3⟩ : ∃ w3, w3 = w2.setCell ⟨b, 1, none⟩ (.slice (some ⟨g, 0, none⟩) (l.length + 1) cap) := ⟨_, rfl⟩
  have HW3 : Hid (w3 = w2.setCell ⟨b, 1, none⟩ (.slice (some ⟨g, 0, none⟩) (l.length + 1) cap)) := hw3
  have HS3 : Hid (SAt b v (.slice (some ⟨g, 0, none⟩) (l.length + 1) cap) w3) := by rw [hw3]; exact hs2.set1 _
  have HO3 : Hid (w3.ownsRow B 5 1 v o.length (Lib.byteCells o)) := by
    rw [hw3]
    exact ownsRow_keep HO2.out (fun g' hg' => Below.heap_setCell w2 ⟨b, 1, none⟩ _ g' (fun e => hvb (by rw [hg', e])))
  have HL3 : Hid (w3.ownsRow B 3 1 (.slice (some ⟨g, 0, none⟩) (l.length + 1) cap) (l.length + 1) (intCells (l ++ [bit]))) := by
    rw [hw3]
    have : intCells (l ++ [bit]) = intCells l ++ [.int .i64 (bit : Int)] := by simp [intCells]
    rw [this]
    exact ownsRow_keep hown (fun g' hg' => Below.heap_setCell w2 ⟨b, 1, none⟩ _ g' (fun e => hgb (by simpa [Value.ownBlock, e] using hg')))
  have HB3 : Hid (Below B w w3) := by rw [hw3]; exact hb2.setCell (p := ⟨b, 1, none⟩) hB _
  clear hw3 hl hown hoth hb2 hs2 HO HO2 HSS c0 c1
  by_cases h7 : l.length = 7
  · have HS : Hid (stepB (o, l) bit = (o ++ [UInt8.ofNat (valB (l ++ [bit]))], [])) := by
      show _ = _
      simp [stepB, h7]
    rw [h7] at HS3 HL3 HW3
    have HW8 : Hid (w2.setCell ⟨b, 1, none⟩ (.slice (some ⟨g, 0, none⟩) 8 cap) = w3) := by show _ = _; rw [HW3.out]
    have h8 : ((l.length + 1 : Nat) : Int) = 8 := by omega
    have hbl : ∀ x ∈ l ++ [bit], x ≤ 1 := by
      intro x hx
      rcases List.mem_append.1 hx with hx | hx
      · exact hok.2 x hx
      · simp at hx; omega
    have hml : (l ++ [bit]).length = 8 := by simp [h7]
    go_wp2_with fail
    rw [HW8.out]
    have c1 : w3.cell? ⟨b, 1, none⟩ = some (.slice (some ⟨g, 0, none⟩) 8 cap) := HS3.out.c1
    have HBL : Hid (∀ x ∈ l ++ [bit], x ≤ 1) := hbl
    have HML : Hid ((l ++ [bit]).length = 8) := hml
    obtain ⟨m, hm⟩ : ∃ m, m = l ++ [bit] := ⟨_, rfl⟩
    rw [← hm] at HL3 HS HBL HML
    have g0 := HS3.out.fz 0
    have g1 := HS3.out.fz 1
    have c0 := HS3.out.c0
    have hlt3 := HS3.out.lt
    clear hm hbl hml d0 d1 f0 f1 HW8 HW3 h8 h7
    go_loop [4, 5] (fun n i => ∃ j x : Nat, j ≤ 8 ∧ i = .int .i64 (j : Int) ∧ n = .int .i64 (x : Int) ∧ x < 256 ∧ Hid (x = valB (m.take j))) (fun _ i => 8 - (intOf i).toNat)
    case atStart => exact ⟨0, 0, by omega, rfl, rfl, by omega, rfl⟩
    case round =>
      obtain ⟨j, x, hj, rfl, rfl, hx, HX⟩ := hrel
      by_cases hj8 : j < 8
      · have hjm : j < m.length := by rw [HML.out]; exact hj8
        have cj := intCell_at HL3.out j hjm
        have HX2 : Hid (x * 2 + m.getD j 0 = valB (m.take (j + 1))) := by show _ = _; rw [take_valB m j hjm, ← HX.out]
        have hy : m.getD j 0 ≤ 1 := by
          rw [List.getD_eq_getElem?_getD, List.getElem?_eq_getElem hjm]
          exact HBL.out _ (List.getElem_mem hjm)
        have hxx : x * 2 + m.getD j 0 < 256 := by
          have h1 := valB_lt (m.take (j + 1)) (fun y hy => HBL.out y (List.mem_of_mem_take hy))
          have h2 : (m.take (j + 1)).length ≤ 8 := by simp [HML.out]; omega
          have h3 : 2 ^ (m.take (j + 1)).length ≤ 2 ^ 8 := Nat.pow_le_pow_right (by decide) h2
          rw [HX2.out]
          omega
        generalize m.getD j 0 = y at cj HX2 hy hxx
        have lj : (j : Int) < 8 := by omega
        have HJ : Hid (j + 1 ≤ 8) := hj8
        clear hjm HX
        go_wp2_with fail
        go_round
        case rel => exact ⟨j + 1, x * 2 + y, HJ.out, by go_num, by go_num, hxx, HX2⟩
        case measure => simp [intOf]; omega
      · have HX2 : Hid (x = valB m) := by
          show _ = _
          rw [HX.out, List.take_of_length_le (by rw [HML.out]; omega)]
        have rx : (x : Int) % 256 = (x : Int) := by omega
        go_wp2_with (at_builtin; refine wp_app1 rfl _ _ 28 rfl B 5 i0 (.int .u8 0) 1 Tryz.underlying28 hi0 hy1 hy2 hy3 rfl _ o.length (Lib.byteCells o) rfl HO3.out (.int .u8 (x : Int)) rfl rfl ?c3 ?c4 ?c5 ?_)
        case c3 => unfold maxLen; omega
        case c4 => omega
        case c5 => omega
        intro g4 cap4 w4 hown4 hb4 hoth4
        have hs4 : SAt b v (.slice (some ⟨g, 0, none⟩) (7 + 1) cap) w4 := by
          unfold SAt
          rw [hoth4 b hlt3 hvb]
          exact HS3.out
        have e0 := hs4.fz 0
        have e1 := hs4.fz 1
        have k0 := hs4.c0
        have k1 := hs4.c1
        have HS4 : Hid (SAt b v (.slice (some ⟨g, 0, none⟩) (7 + 1) cap) w4) := hs4
        have HO4 : Hid (w4.ownsRow B 5 1 (.slice (some ⟨g4, 0, none⟩) (o.length + 1) cap4) (o.length + 1) (Lib.byteCells o ++ [.int .u8 (x : Int)])) := hown4
        have HB4 : Hid (Below B w3 w4) := hb4
        have hg4 : g4 ≠ b := by
          intro he
          obtain ⟨cur, hc, _⟩ := ownsRow_type hown4 g4 rfl
          rw [he, hs4] at hc
          simp only [Option.some.injEq, Obj.cells.injEq] at hc
          exact absurd hc.2.1 (by decide)
        clear hs4 hown4 hb4 hoth4 c0 c1 g0 g1
        go_wp2_with fail
        go_end0
        rw [HS.out]
        refine ⟨rfl, ⟨hB, _, _, (HS4.out.set0 _).set1 _, ?_, ⟨rfl, .inl ⟨rfl, rfl⟩⟩⟩, ((HB3.out.trans HB4.out).setCell (p := ⟨b, 0, none⟩) hB _).setCell (p := ⟨b, 1, none⟩) hB _⟩
        have hbc : Lib.byteCells (o ++ [UInt8.ofNat (valB m)]) = Lib.byteCells o ++ [.int .u8 (x : Int)] := by
          rw [← HX2.out]
          have : ((UInt8.ofNat x).toNat : Int) = (x : Int) := by simp; omega
          simp only [Lib.byteCells, List.map_append, List.map_cons, List.map_nil, this]
        show World.ownsRow _ _ _ _ _ (o ++ [UInt8.ofNat (valB m)]).length _
        rw [hbc, List.length_append]
        exact ownsRow_keep HO4.out (fun g' hg' => by
          have : g' ≠ b := by
            intro e
            exact hg4 (by simpa [Value.ownBlock, e] using hg')
          rw [Below.heap_setCell _ ⟨b, 1, none⟩ _ g' this, Below.heap_setCell _ ⟨b, 0, none⟩ _ g' this])
  · have HS : Hid (stepB (o, l) bit = (o, l ++ [bit])) := by
      show _ = _
      simp [stepB, h7]
    have h8 : ((l.length : Int) + 1 == 8) = false := by simp; omega
    have HL1 : Hid (l.length + 1 = (l ++ [bit]).length) := by show _ = _; simp
    go_wp2_with fail
    go_end0
    rw [HS.out, ← HW3.out]
    refine ⟨rfl, ⟨hB, v, _, HS3.out, HO3.out, ?_⟩, HB3.out⟩
    have := HL3.out
    rw [HL1.out] at this ⊢
    exact this

end Go.Proofs.YtifpidhoeikdjaaGreatDoor

set_option linter.unusedVariables false
namespace Go.Proofs.YtifpidhoeikdjaaGreatDoor
open Go.RowKit

/-- A row of integers of the call's own. -/
def ZRow (B : Nat) (v : Value) (zs : List Int) (w : World) : Prop := (∃ g cap, v = .slice (some ⟨g, 0, none⟩) zs.length cap) ∧ w.ownsRow B 3 1 v zs.length (zs.map (Value.int .i64))
theorem zrow_new (w : World) : ZRow w.heap.size (.slice (some ⟨w.heap.size, 0, none⟩) 0 0) [] (w.alloc (.cells #[] 3)) :=
  ⟨⟨_, _, rfl⟩, rfl, .inr ⟨_, _, #[], rfl, Nat.le_refl _, heap_alloc_new w _, Nat.le_refl _, by unfold maxLen; omega, rfl, rfl⟩⟩
theorem ZRow.block {B : Nat} {v : Value} {zs : List Int} {w : World} (h : ZRow B v zs w) : ∃ g cap cur, v = .slice (some ⟨g, 0, none⟩) zs.length cap ∧ B ≤ g ∧ g < w.heap.size ∧ w.heap[g]? = some (.cells cur 3 (0, 0)) ∧ cur.toList.take zs.length = zs.map (Value.int .i64) := by
  obtain ⟨⟨g, cap, rfl⟩, hl, h2⟩ := h
  rcases h2 with ⟨h2, _⟩ | ⟨g', cap', cur, hv, h3, h4, h5, h6, h7, h8⟩
  · cases h2
  · simp only [Value.slice.injEq, Option.some.injEq, Addr.mk.injEq, and_true] at hv
    obtain ⟨rfl, _, rfl⟩ := hv
    refine ⟨g, cap, cur, rfl, h3, ?_, h4, by simpa using h8⟩
    exact (Array.getElem?_eq_some_iff.1 h4).1
theorem ZRow.keep {B C : Nat} {v : Value} {zs : List Int} {w w' : World} (h : ZRow B v zs w) (hk : ∀ g, B ≤ g → g < w.heap.size → w'.heap[g]? = w.heap[g]?) : ZRow B v zs w' := by
  have hb := h.block
  refine ⟨h.1, ownsRow_keep h.2 (fun g hg => ?_)⟩
  obtain ⟨g', cap, cur, rfl, h1, h2, _⟩ := hb
  obtain rfl : g' = g := by simpa [Value.ownBlock] using hg
  exact hk g' h1 h2
theorem ZRow.only {B b : Nat} {v : Value} {zs : List Int} {w w' : World} (h : ZRow B v zs w) (ho : Only b w w') (hb : b < B) : ZRow B v zs w' := h.keep (C := B) (fun g hg _ => ho.block g (by omega))
theorem ZRow.at {B g n cap : Nat} {zs : List Int} {w : World} (h : ZRow B (.slice (some ⟨g, 0, none⟩) n cap) zs w) : At w g zs ∧ n = zs.length := by
  obtain ⟨g', cap', cur, hv, h1, h2, h3, h4⟩ := h.block
  simp only [Value.slice.injEq, Option.some.injEq, Addr.mk.injEq, and_true] at hv
  obtain ⟨rfl, rfl, rfl⟩ := hv
  refine ⟨⟨h2, fun i hi => ?_⟩, rfl⟩
  rw [Lib.cell_of_heap h3]
  have : cur.toList[i]? = (zs.map (Value.int .i64))[i]? := by rw [← h4, List.getElem?_take]; simp [hi]
  rw [← Array.getElem?_toList, this]
  simp [List.getElem?_eq_getElem hi]

def nums5 : List Int := [0, 1, 3, 8, 20]
def nums7 : List Int := [0, 1, 5, 31, 32, 100, 700]
def nums3 : List Int := [-1, 60000, 60001]
theorem nums5_in : ∀ i : Fin 5, 0 ≤ nums5.getD i.val 0 ∧ nums5.getD i.val 0 ≤ 20 := by decide

end Go.Proofs.YtifpidhoeikdjaaGreatDoor

set_option linter.unusedVariables false
namespace Go.Proofs.YtifpidhoeikdjaaGreatDoor
open Go.RowKit

theorem at_news {w : World} {g : Nat} {zs : List Int} (h : At w g zs) (a m off : Nat) (hk : a + m ≤ zs.length) (ho : 0 < m → off = a) : ∀ j u, (((zs.drop a).take m).map (Value.int .i64))[j]? = some u → w.cell? ((⟨g, off, none⟩ : Addr).add j) = some u := by
  intro j u hu
  have hj : j < m := by
    have := (List.getElem?_eq_some_iff.1 hu).1
    simp at this
    omega
  have e := ho (by omega)
  subst e
  have hc := h.2 (off + j) (by omega)
  have e2 : (((zs.drop off).take m).map (Value.int .i64))[j]? = some (.int .i64 (zs.getD (off + j) 0)) := by
    rw [List.getElem?_map, List.getElem?_take_of_lt hj, List.getElem?_drop, List.getElem?_eq_getElem (by omega)]
    simp [List.getElem?_eq_getElem (show off + j < zs.length by omega)]
  rw [e2] at hu
  rw [← hu, ← hc]
  rcases j with _ | j
  · simp [Addr.add]
  · simp [Addr.add]
theorem ints_one (l : List Int) : ∀ u ∈ l.map (Value.int .i64), u.oneCell' = true := by
  intro u hu
  obtain ⟨x, _, rfl⟩ := List.mem_map.1 hu
  rfl
theorem At.far {w w' : World} {g : Nat} {zs : List Int} (h : At w g zs) (hk : w'.heap[g]? = w.heap[g]?) (hs : w.heap.size ≤ w'.heap.size) : At w' g zs :=
  ⟨Nat.lt_of_lt_of_le h.1 hs, fun i hi => (World.cell?_of_block (a := ⟨g, i, none⟩) hk).trans (h.2 i hi)⟩
theorem ZRow.of {B n g cap : Nat} {zs : List Int} {w : World} (h : w.ownsRow B 3 1 (.slice (some ⟨g, 0, none⟩) n cap) n (zs.map (Value.int .i64))) (hn : n = zs.length) : ZRow B (.slice (some ⟨g, 0, none⟩) n cap) zs w := by
  subst hn
  exact ⟨⟨g, cap, rfl⟩, h⟩

theorem own_form {B n : Nat} {e : TypeId} {v : Value} {xs : List Value} {w : World} (h : w.ownsRow B e 1 v n xs) (hv : v ≠ .slice none 0 0) : ∃ g c, v = .slice (some ⟨g, 0, none⟩) n c := by
  rcases h.2 with ⟨h2, _⟩ | ⟨g, c, cur, h2, _⟩
  · exact absurd h2 hv
  · exact ⟨g, c, h2⟩
theorem own_cap {B n m g c : Nat} {e : TypeId} {xs : List Value} {w : World} (h : w.ownsRow B e 1 (.slice (some ⟨g, 0, none⟩) n c) m xs) : n ≤ c ∧ B ≤ g ∧ g < w.heap.size := by
  rcases h.2 with ⟨h2, _⟩ | ⟨g', c', cur, h2, h3, h4, h5, _⟩
  · cases h2
  · simp only [Value.slice.injEq, Option.some.injEq, Addr.mk.injEq, and_true] at h2
    obtain ⟨rfl, rfl, rfl⟩ := h2
    exact ⟨h5, h3, (Array.getElem?_eq_some_iff.1 h4).1⟩
theorem grown_far {W w1 : World} {row : Option Nat} {b : Nat} {o : Obj} (hg : (W.alloc o).grownBy w1 row) (hb : b < W.heap.size) (hne : some b ≠ row) : w1.heap[b]? = W.heap[b]? :=
  (hg.block b (by simp; omega) hne).trans (Below.heap_alloc _ _ _ hb)
theorem grown_far2 {W w1 : World} {row : Option Nat} {b : Nat} {o : Obj} (hg : (W.alloc o).drew.grownBy w1 row) (hb : b < W.heap.size) (hne : some b ≠ row) : w1.heap[b]? = W.heap[b]? :=
  (hg.block b (by show b < (W.alloc o).heap.size; simp; omega) hne).trans (Below.heap_alloc _ _ _ hb)
theorem grown_size2 {W w1 : World} {row : Option Nat} {o : Obj} (hg : (W.alloc o).drew.grownBy w1 row) : W.heap.size + 1 ≤ w1.heap.size := by
  have := hg.size
  have e : (W.alloc o).drew.heap.size = W.heap.size + 1 := by show (W.alloc o).heap.size = _; simp
  omega
theorem grown_size {W w1 : World} {row : Option Nat} {o : Obj} (hg : (W.alloc o).grownBy w1 row) : W.heap.size + 1 ≤ w1.heap.size := by
  have := hg.size
  simpa using this

set_option maxHeartbeats 4000000 in
set_option maxRecDepth 100000 in
theorem specSort (g n cap : Nat) (zs : List Int) (w : World) (h : At w g zs) (hn : n = zs.length) (hm : n ≤ 1000) :
    Calls Tryz.prog 38 #[.slice (some ⟨g, 0, none⟩) n cap] w fun e w' => ∃ v, e = .returned v ∧ ZRow w.heap.size v (sortL zs) w' ∧ Below w.heap.size w w' := by
  obtain ⟨i0, hi, hz0, hz1, hz2⟩ := info_parts infoIntB
  have HA : Hid (At w g zs) := h
  have HN : Hid (n = zs.length) := hn
  clear h hn
  go_enter Tryz.func38, Tryz.ntmps38
  go_wp2_with fail
  have HW0 : Hid (ZRow w.heap.size (.slice (some ⟨w.heap.size, 0, none⟩) 0 0) (sortL (zs.take 0)) (w.alloc (.cells #[] 3))) := zrow_new w
  have HB0 : Hid (Below w.heap.size w (w.alloc (.cells #[] 3))) := (Below.refl _ w).alloc (Nat.le_refl _) _
  go_loopw [3, 4] (fun v i wr => ∃ (q g3 c3 : Nat), q ≤ n ∧ i = .int .i64 (q : Int) ∧ v = .slice (some ⟨g3, 0, none⟩) q c3 ∧ Hid (ZRow w.heap.size v (sortL (zs.take q)) wr) ∧ Hid (Below w.heap.size w wr)) (fun _ i _ => n - (intOf i).toNat)
  case atStart => exact ⟨0, w.heap.size, 0, by omega, rfl, rfl, HW0, HB0⟩
  case round =>
    clear HW0 HB0
    obtain ⟨q, g3, c3, hq, rfl, rfl, HR, HB⟩ := hrel
    have hszr := HB.out.size
    by_cases hlt : q < n
    · have hql : q < zs.length := by rw [← HN.out]; exact hlt
      have hgw : g < wr.heap.size := Nat.lt_of_lt_of_le HA.out.1 hszr
      have hc : wr.cell? ⟨g, q, none⟩ = some (.int .i64 (zs.getD q 0)) := by
        rw [HB.out.cell (p := ⟨g, q, none⟩) HA.out.1]
        exact HA.out.2 q hql
      have HE : Hid (sortL (zs.take (q + 1)) = sortIns (sortL (zs.take q)) (zs.getD q 0)) := sortL_take zs q hql
      have HOL : Hid ((sortL (zs.take q)).length = q) := by
        show _ = _
        rw [sortL_length]
        simp
        omega
      generalize zs.getD q 0 = z at hc HE
      generalize sortL (zs.take q) = o at HR HE HOL
      have HAO : Hid (At wr g3 o) := HR.out.at.1
      have HG3 : Hid (w.heap.size ≤ g3 ∧ g3 < wr.heap.size) := by
        obtain ⟨g', _, _, hv, h1, h2, _⟩ := HR.out.block
        cases hv
        exact ⟨h1, h2⟩
      have HQ : Hid (q + 1 ≤ n) := hlt
      have HCP : Hid (q ≤ c3) := (own_cap HR.out.2).1
      have lq : (q : Int) < (n : Int) := by omega
      have lq0 : (0 : Int) ≤ (q : Int) := by omega
      clear hql
      go_wp2_with fail
      have HC : Hid (wr.cell? ⟨g, q, none⟩ = some (.int .i64 z)) := hc
      clear hc hszr hgw
      go_loopw [5] (fun i wx => ∃ k : Nat, k ≤ q ∧ i = .int .i64 (k : Int) ∧ Hid (∀ j, j < k → o.getD j 0 ≤ z) ∧ Hid (At wx g3 o ∧ wx.cell? ⟨g, q, none⟩ = some (.int .i64 z) ∧ w.heap.size ≤ g3) ∧ Hid (Below w.heap.size w wx)) (fun i _ => q - (intOf i).toNat)
      case atStart => exact ⟨0, by omega, rfl, fun j hj => by omega, ⟨HAO.out, HC.out, HG3.out.1⟩, HB⟩
      case round =>
        clear HR HB HAO HG3 HC
        obtain ⟨k, hk, rfl, HT, HX, HB⟩ := hrel
        have hcz := HX.out.2.1
        have hszr := HB.out.size
        have fin : (k = q ∨ ¬ o.getD k 0 ≤ z) → Hid (o.takeWhile (fun y => decide (y ≤ z)) = (o.drop 0).take k ∧ o.dropWhile (fun y => decide (y ≤ z)) = (o.drop k).take (q - k)) := by
          intro hor
          have := span_at (fun y => decide (y ≤ z)) 0 o k (by rw [HOL.out]; exact hk) (fun j hj => decide_eq_true (HT.out j hj)) (fun hj => by
            rcases hor with h' | h'
            · rw [HOL.out] at hj; omega
            · exact decide_eq_false h')
          refine ⟨by rw [List.drop_zero]; exact this.1, ?_⟩
          rw [this.2, List.take_of_length_le (by simp [HOL.out])]
        by_cases hkq : k < q
        · have hco := HX.out.1.2 k (by rw [HOL.out]; exact hkq)
          have lk : (k : Int) < (q : Int) := by omega
          have lk0 : (0 : Int) ≤ (k : Int) := by omega
          by_cases hle : o.getD k 0 ≤ z
          · have HT2 : Hid (∀ j, j < k + 1 → o.getD j 0 ≤ z) := by
              intro j hj
              rcases Nat.lt_or_ge j k with h' | h'
              · exact HT.out j h'
              · obtain rfl : j = k := by omega
                exact hle
            have HK : Hid (k + 1 ≤ q) := hkq
            generalize o.getD k 0 = y at hco hle
            clear fin
            go_wp2_with fail
            go_region
            go_wp2_with fail
            go_roundw
            case rel => exact ⟨k + 1, HK.out, by go_num, HT2, HX.out, HB.out.drew⟩
            case measure => have := HK.out; simp [intOf]; omega
          · have HF := fin (.inr hle)
            generalize o.getD k 0 = y at hco hle
            clear fin HT
            have hkc : (k : Int) ≤ (c3 : Int) := by have := HCP.out; omega
            go_wp2_with fail
            go_region
            have hne0 : g3 ≠ wr.heap.size := by have := HX.out.1.1; omega
            have hgl : g < w.heap.size := HA.out.1
            have HOW : Hid ((wr.alloc (.cells #[] 3)).drew.ownsRow w.heap.size 3 1 (.slice (some ⟨wr.heap.size, 0, none⟩) 0 0) 0 []) :=
              ⟨rfl, .inr ⟨_, _, #[], rfl, hszr, heap_alloc_new wr _, Nat.le_refl _, by unfold maxLen; omega, rfl, rfl⟩⟩
            have HO0 : Hid (At (wr.alloc (.cells #[] 3)).drew g3 o) := (HX.out.1.far (w' := wr.alloc (.cells #[] 3)) (Below.heap_alloc _ _ _ HX.out.1.1) (by simp)).drew
            have hl1 : (((o.drop 0).take k).map (Value.int .i64)).length = k * 1 := by simp [HOL.out] <;> omega
            have hn1 := at_news HO0.out 0 k 0 (by rw [HOL.out]; omega) (fun _ => rfl)
            have hx1 : 0 + k ≤ maxLen := by unfold maxLen; omega
            have hx2 : (0 + k) * 8 ≤ 140737488355328 := by omega
            have hx3 : k + 1 ≤ maxLen := by unfold maxLen; omega
            have hx4 : (k + 1) * 8 ≤ 140737488355328 := by omega
            have hx5 : k + 1 + (q - k) ≤ maxLen := by unfold maxLen; omega
            have hx6 : (k + 1 + (q - k)) * 8 ≤ 140737488355328 := by omega
            have hbs : w.heap.size ≤ (wr.alloc (.cells #[] 3)).drew.heap.size := by show _ ≤ (wr.alloc (.cells #[] 3)).heap.size; simp; omega
            have hl3 : (((o.drop k).take (q - k)).map (Value.int .i64)).length = (q - k) * 1 := by simp [HOL.out]
            have HRES : Hid (sortL (zs.take (q + 1)) = (o.drop 0).take k ++ [z] ++ (o.drop k).take (q - k) ∧ (sortL (zs.take (q + 1))).length = q + 1) := by
              have e : sortL (zs.take (q + 1)) = (o.drop 0).take k ++ [z] ++ (o.drop k).take (q - k) := by rw [HE.out, sortIns, HF.out.1, HF.out.2]; simp
              refine ⟨e, ?_⟩
              rw [HE.out, sortIns_length, HOL.out]
            have hck' : ¬ (c3 : Int) = (k : Int) := by have := HCP.out; omega
            have hck : ¬ c3 = k := by have := HCP.out; omega
            have HP : Hid (0 < q - k → k = k) := fun _ => rfl
            go_wp2_with first
              | (at_builtin; refine wpList_append_own_at _ rfl _ _ 36 rfl w.heap.size 3 i0 (.int .i64 0) 1 8 Tryz.underlying36 hi hz0 hz1 hz2 rfl (by decide) (.slice (some ⟨wr.heap.size, 0, none⟩) 0 0) 0 [] rfl HOW.out ⟨g3, 0, none⟩ k c3 (((o.drop 0).take k).map (Value.int .i64)) rfl hl1 hn1 (ints_one _) hx1 hx2 hbs ?_; intro v1 w1 hown1 hgrow1 hnil1 hat1; rw [Nat.zero_add, List.nil_append] at hown1; obtain ⟨g5, c5, rfl⟩ := own_form hown1 (fun e => by have := (hnil1.1 e).1; cases this); have hc1 : w1.cell? ⟨g, q, none⟩ = some (.int .i64 z) := (World.cell?_of_block (a := ⟨g, q, none⟩) (grown_far2 (b := g) hgrow1 (by omega) (by simp [Value.ownBlock]; omega))).trans HX.out.2.1; have HO1 : Hid (At w1 g3 o) := HX.out.1.far (grown_far2 hgrow1 HX.out.1.1 (by simpa [Value.ownBlock] using hne0)) (by have := grown_size2 hgrow1; omega); have hne1 : g3 ≠ g5 := (by have h9 := HX.out.1.1; simp [Value.ownBlock] at hat1; omega); have HB1 : Hid (Below w.heap.size w w1) := ((HB.out.alloc (by omega) _).drew).grown hgrow1 hbs (fun j hj => by have h8 : wr.heap.size = j := (by simpa [Value.ownBlock] using hj); omega); have HOW1 : Hid (w1.ownsRow w.heap.size 3 1 (.slice (some ⟨g5, 0, none⟩) k c5) k (((o.drop 0).take k).map (Value.int .i64))) := hown1; have hs1 : w.heap.size ≤ w1.heap.size := HB1.out.size; have hbs1 : w.heap.size ≤ (w1.alloc (.cells #[.int .i64 z] 3)).heap.size := (by simp; omega); clear hown1 hgrow1 hnil1 hat1)
              | (at_builtin; refine wpList_append_own_at _ rfl _ _ 36 rfl w.heap.size 3 i0 (.int .i64 0) 1 8 Tryz.underlying36 hi hz0 hz1 hz2 rfl (by decide) (.slice (some ⟨g5, 0, none⟩) k c5) k _ rfl (HOW1.out.alloc _) ⟨w1.heap.size, 0, none⟩ 1 1 [.int .i64 z] rfl rfl (cell_one_new _ _ _) (by simp [Value.oneCell']) hx3 hx4 hbs1 ?_; intro v2 w2 hown2 hgrow2 hnil2 hat2; obtain ⟨g6, c6, rfl⟩ := own_form hown2 (fun e => by have := (hnil2.1 e).1; cases this); have HO2 : Hid (At w2 g3 o) := HO1.out.far (grown_far hgrow2 HO1.out.1 (by simpa [Value.ownBlock] using hne1)) (by have := grown_size hgrow2; omega); have HB2 : Hid (Below w.heap.size w w2) := (HB1.out.alloc hs1 _).grown hgrow2 hbs1 (fun j hj => (HOW1.out.lt j hj).1); have HOW2 : Hid (w2.ownsRow w.heap.size 3 1 (.slice (some ⟨g6, 0, none⟩) (k + 1) c6) (k + 1) (((o.drop 0).take k).map (Value.int .i64) ++ [.int .i64 z])) := hown2; have hs2 : w.heap.size ≤ w2.heap.size := HB2.out.size; have hn3 := at_news HO2.out k (q - k) k (by rw [HOL.out]; omega) HP.out; clear hown2 hgrow2 hnil2 hat2)
              | (at_builtin; refine wpList_append_own_at _ rfl _ _ 36 rfl w.heap.size 3 i0 (.int .i64 0) 1 8 Tryz.underlying36 hi hz0 hz1 hz2 rfl (by decide) (.slice (some ⟨g6, 0, none⟩) (k + 1) c6) (k + 1) _ rfl HOW2.out ⟨g3, k, none⟩ (q - k) (c3 - k) (((o.drop k).take (q - k)).map (Value.int .i64)) rfl hl3 hn3 (ints_one _) hx5 hx6 hs2 ?_; intro v3 w3 hown3 hgrow3 hnil3 hat3; obtain ⟨g7, c7, rfl⟩ := own_form hown3 (fun e => by have := (hnil3.1 e).1; cases this); have HB3 : Hid (Below w.heap.size w w3) := HB2.out.grown hgrow3 hs2 (fun j hj => (HOW2.out.lt j hj).1); have HOW3 : Hid (w3.ownsRow w.heap.size 3 1 (.slice (some ⟨g7, 0, none⟩) (k + 1 + (q - k)) c7) (k + 1 + (q - k)) (((o.drop 0).take k).map (Value.int .i64) ++ [.int .i64 z] ++ ((o.drop k).take (q - k)).map (Value.int .i64))) := hown3; clear hown3 hgrow3 hnil3 hat3)
            go_roundw
            case rel =>
              have eq1 : k + 1 + (q - k) = q + 1 := by omega
              refine ⟨q + 1, g7, c7, HQ.out, by go_num, by rw [eq1], ?_, HB3⟩
              have h5 := HOW3.out
              rw [eq1] at h5 ⊢
              refine ZRow.of ?_ HRES.out.2.symm
              rw [HRES.out.1]
              simpa using h5
            case measure => have := HQ.out; simp [intOf]; omega
        · have hkq2 : k = q := by omega
          have HF := fin (.inl hkq2)
          subst hkq2
          clear fin HT
          have lk : ¬ (k : Int) < (k : Int) := by omega
          have hkc : (k : Int) ≤ (c3 : Int) := by have := HCP.out; omega
          go_wp2_with fail
          go_region
          have hne0 : g3 ≠ wr.heap.size := by have := HX.out.1.1; omega
          have hgl : g < w.heap.size := HA.out.1
          have HOW : Hid ((wr.alloc (.cells #[] 3)).drew.ownsRow w.heap.size 3 1 (.slice (some ⟨wr.heap.size, 0, none⟩) 0 0) 0 []) :=
            ⟨rfl, .inr ⟨_, _, #[], rfl, hszr, heap_alloc_new wr _, Nat.le_refl _, by unfold maxLen; omega, rfl, rfl⟩⟩
          have HO0 : Hid (At (wr.alloc (.cells #[] 3)).drew g3 o) := (HX.out.1.far (w' := wr.alloc (.cells #[] 3)) (Below.heap_alloc _ _ _ HX.out.1.1) (by simp)).drew
          have hl1 : (((o.drop 0).take k).map (Value.int .i64)).length = k * 1 := by simp [HOL.out] <;> omega
          have hn1 := at_news HO0.out 0 k 0 (by rw [HOL.out]; omega) (fun _ => rfl)
          have hx1 : 0 + k ≤ maxLen := by unfold maxLen; omega
          have hx2 : (0 + k) * 8 ≤ 140737488355328 := by omega
          have hx3 : k + 1 ≤ maxLen := by unfold maxLen; omega
          have hx4 : (k + 1) * 8 ≤ 140737488355328 := by omega
          have hx5 : k + 1 + 0 ≤ maxLen := by unfold maxLen; omega
          have hx6 : (k + 1 + 0) * 8 ≤ 140737488355328 := by omega
          have hbs : w.heap.size ≤ (wr.alloc (.cells #[] 3)).drew.heap.size := by show _ ≤ (wr.alloc (.cells #[] 3)).heap.size; simp; omega
          have HRES : Hid (sortL (zs.take (k + 1)) = (o.drop 0).take k ++ [z] ++ (o.drop k).take 0 ∧ (sortL (zs.take (k + 1))).length = k + 1) := by
            have e : sortL (zs.take (k + 1)) = (o.drop 0).take k ++ [z] ++ (o.drop k).take 0 := by rw [HE.out, sortIns, HF.out.1, HF.out.2]; simp
            refine ⟨e, ?_⟩
            rw [HE.out, sortIns_length, HOL.out]
          by_cases hck : c3 = k
          · obtain rfl : k = c3 := hck.symm
            go_wp2_with first
              | (at_builtin; refine wpList_append_own_at _ rfl _ _ 36 rfl w.heap.size 3 i0 (.int .i64 0) 1 8 Tryz.underlying36 hi hz0 hz1 hz2 rfl (by decide) (.slice (some ⟨wr.heap.size, 0, none⟩) 0 0) 0 [] rfl HOW.out ⟨g3, 0, none⟩ k k (((o.drop 0).take k).map (Value.int .i64)) rfl hl1 hn1 (ints_one _) hx1 hx2 hbs ?_; intro v1 w1 hown1 hgrow1 hnil1 hat1; rw [Nat.zero_add, List.nil_append] at hown1; obtain ⟨g5, c5, rfl⟩ := own_form hown1 (fun e => by have := (hnil1.1 e).1; cases this); have hc1 : w1.cell? ⟨g, k, none⟩ = some (.int .i64 z) := (World.cell?_of_block (a := ⟨g, k, none⟩) (grown_far2 (b := g) hgrow1 (by omega) (by simp [Value.ownBlock]; omega))).trans HX.out.2.1; have HO1 : Hid (At w1 g3 o) := HX.out.1.far (grown_far2 hgrow1 HX.out.1.1 (by simpa [Value.ownBlock] using hne0)) (by have := grown_size2 hgrow1; omega); have hne1 : g3 ≠ g5 := (by have h9 := HX.out.1.1; simp [Value.ownBlock] at hat1; omega); have HB1 : Hid (Below w.heap.size w w1) := ((HB.out.alloc (by omega) _).drew).grown hgrow1 hbs (fun j hj => by have h8 : wr.heap.size = j := (by simpa [Value.ownBlock] using hj); omega); have HOW1 : Hid (w1.ownsRow w.heap.size 3 1 (.slice (some ⟨g5, 0, none⟩) k c5) k (((o.drop 0).take k).map (Value.int .i64))) := hown1; have hs1 : w.heap.size ≤ w1.heap.size := HB1.out.size; have hbs1 : w.heap.size ≤ (w1.alloc (.cells #[.int .i64 z] 3)).heap.size := (by simp; omega); clear hown1 hgrow1 hnil1 hat1)
              | (at_builtin; refine wpList_append_own_at _ rfl _ _ 36 rfl w.heap.size 3 i0 (.int .i64 0) 1 8 Tryz.underlying36 hi hz0 hz1 hz2 rfl (by decide) (.slice (some ⟨g5, 0, none⟩) k c5) k _ rfl (HOW1.out.alloc _) ⟨w1.heap.size, 0, none⟩ 1 1 [.int .i64 z] rfl rfl (cell_one_new _ _ _) (by simp [Value.oneCell']) hx3 hx4 hbs1 ?_; intro v2 w2 hown2 hgrow2 hnil2 hat2; obtain ⟨g6, c6, rfl⟩ := own_form hown2 (fun e => by have := (hnil2.1 e).1; cases this); have HO2 : Hid (At w2 g3 o) := HO1.out.far (grown_far hgrow2 HO1.out.1 (by simpa [Value.ownBlock] using hne1)) (by have := grown_size hgrow2; omega); have HB2 : Hid (Below w.heap.size w w2) := (HB1.out.alloc hs1 _).grown hgrow2 hbs1 (fun j hj => (HOW1.out.lt j hj).1); have HOW2 : Hid (w2.ownsRow w.heap.size 3 1 (.slice (some ⟨g6, 0, none⟩) (k + 1) c6) (k + 1) (((o.drop 0).take k).map (Value.int .i64) ++ [.int .i64 z])) := hown2; have hs2 : w.heap.size ≤ w2.heap.size := HB2.out.size; clear hown2 hgrow2 hnil2 hat2)
              | (at_builtin; refine wpList_append_own_at _ rfl _ _ 36 rfl w.heap.size 3 i0 (.int .i64 0) 1 8 Tryz.underlying36 hi hz0 hz1 hz2 rfl (by decide) (.slice (some ⟨g6, 0, none⟩) (k + 1) c6) (k + 1) _ rfl HOW2.out ⟨g3, _, none⟩ 0 _ [] rfl rfl (fun j u h => by simp at h) (fun u h => by cases h) hx5 hx6 hs2 ?_; intro v3 w3 hown3 hgrow3 hnil3 hat3; obtain ⟨g7, c7, rfl⟩ := own_form hown3 (fun e => by have := (hnil3.1 e).1; cases this); have HB3 : Hid (Below w.heap.size w w3) := HB2.out.grown hgrow3 hs2 (fun j hj => (HOW2.out.lt j hj).1); have HOW3 : Hid (w3.ownsRow w.heap.size 3 1 (.slice (some ⟨g7, 0, none⟩) (k + 1 + 0) c7) (k + 1 + 0) (((o.drop 0).take k).map (Value.int .i64) ++ [.int .i64 z]  ++ [])) := hown3; clear hown3 hgrow3 hnil3 hat3)
            go_roundw
            case rel =>
              have eq1 : k + 1 + 0 = k + 1 := by omega
              refine ⟨k + 1, g7, c7, HQ.out, by go_num, by rw [eq1], ?_, HB3⟩
              have h5 := HOW3.out
              rw [eq1] at h5 ⊢
              refine ZRow.of ?_ HRES.out.2.symm
              rw [HRES.out.1]
              simpa using h5
            case measure => have := HQ.out; simp [intOf]; omega
          · have hck' : ¬ (c3 : Int) = (k : Int) := by omega
            go_wp2_with first
              | (at_builtin; refine wpList_append_own_at _ rfl _ _ 36 rfl w.heap.size 3 i0 (.int .i64 0) 1 8 Tryz.underlying36 hi hz0 hz1 hz2 rfl (by decide) (.slice (some ⟨wr.heap.size, 0, none⟩) 0 0) 0 [] rfl HOW.out ⟨g3, 0, none⟩ k c3 (((o.drop 0).take k).map (Value.int .i64)) rfl hl1 hn1 (ints_one _) hx1 hx2 hbs ?_; intro v1 w1 hown1 hgrow1 hnil1 hat1; rw [Nat.zero_add, List.nil_append] at hown1; obtain ⟨g5, c5, rfl⟩ := own_form hown1 (fun e => by have := (hnil1.1 e).1; cases this); have hc1 : w1.cell? ⟨g, k, none⟩ = some (.int .i64 z) := (World.cell?_of_block (a := ⟨g, k, none⟩) (grown_far2 (b := g) hgrow1 (by omega) (by simp [Value.ownBlock]; omega))).trans HX.out.2.1; have HO1 : Hid (At w1 g3 o) := HX.out.1.far (grown_far2 hgrow1 HX.out.1.1 (by simpa [Value.ownBlock] using hne0)) (by have := grown_size2 hgrow1; omega); have hne1 : g3 ≠ g5 := (by have h9 := HX.out.1.1; simp [Value.ownBlock] at hat1; omega); have HB1 : Hid (Below w.heap.size w w1) := ((HB.out.alloc (by omega) _).drew).grown hgrow1 hbs (fun j hj => by have h8 : wr.heap.size = j := (by simpa [Value.ownBlock] using hj); omega); have HOW1 : Hid (w1.ownsRow w.heap.size 3 1 (.slice (some ⟨g5, 0, none⟩) k c5) k (((o.drop 0).take k).map (Value.int .i64))) := hown1; have hs1 : w.heap.size ≤ w1.heap.size := HB1.out.size; have hbs1 : w.heap.size ≤ (w1.alloc (.cells #[.int .i64 z] 3)).heap.size := (by simp; omega); clear hown1 hgrow1 hnil1 hat1)
              | (at_builtin; refine wpList_append_own_at _ rfl _ _ 36 rfl w.heap.size 3 i0 (.int .i64 0) 1 8 Tryz.underlying36 hi hz0 hz1 hz2 rfl (by decide) (.slice (some ⟨g5, 0, none⟩) k c5) k _ rfl (HOW1.out.alloc _) ⟨w1.heap.size, 0, none⟩ 1 1 [.int .i64 z] rfl rfl (cell_one_new _ _ _) (by simp [Value.oneCell']) hx3 hx4 hbs1 ?_; intro v2 w2 hown2 hgrow2 hnil2 hat2; obtain ⟨g6, c6, rfl⟩ := own_form hown2 (fun e => by have := (hnil2.1 e).1; cases this); have HO2 : Hid (At w2 g3 o) := HO1.out.far (grown_far hgrow2 HO1.out.1 (by simpa [Value.ownBlock] using hne1)) (by have := grown_size hgrow2; omega); have HB2 : Hid (Below w.heap.size w w2) := (HB1.out.alloc hs1 _).grown hgrow2 hbs1 (fun j hj => (HOW1.out.lt j hj).1); have HOW2 : Hid (w2.ownsRow w.heap.size 3 1 (.slice (some ⟨g6, 0, none⟩) (k + 1) c6) (k + 1) (((o.drop 0).take k).map (Value.int .i64) ++ [.int .i64 z])) := hown2; have hs2 : w.heap.size ≤ w2.heap.size := HB2.out.size; clear hown2 hgrow2 hnil2 hat2)
              | (at_builtin; refine wpList_append_own_at _ rfl _ _ 36 rfl w.heap.size 3 i0 (.int .i64 0) 1 8 Tryz.underlying36 hi hz0 hz1 hz2 rfl (by decide) (.slice (some ⟨g6, 0, none⟩) (k + 1) c6) (k + 1) _ rfl HOW2.out ⟨g3, k, none⟩ 0 (c3 - k) [] rfl rfl (fun j u h => by simp at h) (fun u h => by cases h) hx5 hx6 hs2 ?_; intro v3 w3 hown3 hgrow3 hnil3 hat3; obtain ⟨g7, c7, rfl⟩ := own_form hown3 (fun e => by have := (hnil3.1 e).1; cases this); have HB3 : Hid (Below w.heap.size w w3) := HB2.out.grown hgrow3 hs2 (fun j hj => (HOW2.out.lt j hj).1); have HOW3 : Hid (w3.ownsRow w.heap.size 3 1 (.slice (some ⟨g7, 0, none⟩) (k + 1 + 0) c7) (k + 1 + 0) (((o.drop 0).take k).map (Value.int .i64) ++ [.int .i64 z]  ++ [])) := hown3; clear hown3 hgrow3 hnil3 hat3)
            go_roundw
            case rel =>
              have eq1 : k + 1 + 0 = k + 1 := by omega
              refine ⟨k + 1, g7, c7, HQ.out, by go_num, by rw [eq1], ?_, HB3⟩
              have h5 := HOW3.out
              rw [eq1] at h5 ⊢
              refine ZRow.of ?_ HRES.out.2.symm
              rw [HRES.out.1]
              simpa using h5
            case measure => have := HQ.out; simp [intOf]; omega
    · have HE : Hid (sortL (zs.take q) = sortL zs) := by
        show _ = _
        rw [List.take_of_length_le (by rw [← HN.out]; omega)]
      go_wp2_with fail
      go_ret
      refine ⟨_, rfl, ?_, HB.out⟩
      have := HR.out
      rw [HE.out] at this
      exact this

end Go.Proofs.YtifpidhoeikdjaaGreatDoor

