/-
  PaidOf answers as the specification does, and neither shares memory with what it was given.
-/
import Derived.Test.YtoifgpmbeicmnaaGreatDoorPart1
import Derived.Test.YtoifgpmbeicmnaaGreatDoorPart2
import Derived.Test.YtoifgpmbeicmnaaGreatDoorPart3
import Derived.Test.YtoifgpmbeicmnaaGreatDoorPart4
import Derived.Test.YtoifgpmbeicmnaaGreatDoorPart5
import Derived.Test.YtoifgpmbeicmnaaGreatDoorPart6
import Derived.Test.YtoifgpmbeicmnaaGreatDoorPart7
import Derived.Test.YtoifgpmbeicmnaaGreatDoorPart8
import Derived.Test.YtoifgpmbeicmnaaGreatDoorPart9
import Derived.Test.YtoifgpmbeicmnaaGreatDoorPart10
import Derived.Test.YtoifgpmbeicmnaaGreatDoorPart11
import Derived.Test.YtoifgpmbeicmnaaGreatDoorPart12
import Derived.Test.YtoifgpmbeicmnaaGreatDoorPart13
import Derived.Test.YtoifgpmbeicmnaaGreatDoorPart14
import Derived.WalkKit
import Derived.WalkSpells
import Derived.Below
import Derived.Lib.UnsafeStr
import Derived.Lib.FrozenHead2
import Derived.Lib.Builder
import Derived.Deep.MidRow
import Derived.BigRegion
import Derived.Deep.RegionWith
import Derived.Maps.AppendAt
import Derived.Test.YtoifgpmbeicmnaaGreatDoorProg
import Derived.Lib.BufferRead
import Derived.OwnWalk
import Derived.Lib.AppendIntMem
import Derived.Deep.Cut
import Derived.Test.YtoifgpmbeicmnaaGreatDoorCards
import Derived.Test.YtoifgpmbeicmnaaGreatDoorTie
import Derived.ProofKit
import Derived.OpenShut
import Derived.ShutString
import Derived.ChangeOld
import Derived.ChangeVars
import Derived.Carry
import Derived.Deep.DeepHandedRow
import Derived.Lib.LaidTab
namespace Go.Proofs.YtoifgpmbeicmnaaGreatDoor

def ltB (a b : ByteArray) : Bool := Op.bytesLess a.toList b.toList
/-- One more, behind those that are less, if it is not there. -/
def setIns (o : List ByteArray) (z : ByteArray) : List ByteArray :=
  if (o.dropWhile (fun y => ltB y z)).head? = some z then o else o.takeWhile (fun y => ltB y z) ++ z :: o.dropWhile (fun y => ltB y z)
def setL (l : List ByteArray) : List ByteArray := l.foldl setIns []
theorem setL_snoc (l : List ByteArray) (z : ByteArray) : setL (l ++ [z]) = setIns (setL l) z := by simp [setL]
theorem setIns_length (o : List ByteArray) (z : ByteArray) : (setIns o z).length = o.length ∨ (setIns o z).length = o.length + 1 := by
  have := congrArg List.length (List.takeWhile_append_dropWhile (p := fun y => ltB y z) (l := o))
  rw [List.length_append] at this
  unfold setIns
  split
  · exact .inl rfl
  · right
    rw [List.length_append, List.length_cons]
    omega
theorem setIns_mem {o : List ByteArray} {z x : ByteArray} : x ∈ setIns o z ↔ x = z ∨ x ∈ o := by
  have e := List.takeWhile_append_dropWhile (p := fun y => ltB y z) (l := o)
  unfold setIns
  split
  · rename_i hh
    constructor
    · exact fun h => .inr h
    · rintro (rfl | h)
      · rw [← e]
        refine List.mem_append_right _ ?_
        cases hd : o.dropWhile (fun y => ltB y x) with
        | nil => rw [hd] at hh; cases hh
        | cons a r => rw [hd] at hh; simp at hh; simp [hh]
      · exact h
  · constructor
    · intro h
      rcases List.mem_append.1 h with h | h
      · right; rw [← e]; exact List.mem_append_left _ h
      · rcases List.mem_cons.1 h with h | h
        · exact .inl h
        · right; rw [← e]; exact List.mem_append_right _ h
    · rintro (rfl | h)
      · exact List.mem_append_right _ (by simp)
      · rw [← e] at h
        rcases List.mem_append.1 h with h | h
        · exact List.mem_append_left _ h
        · exact List.mem_append_right _ (by simp [h])
theorem setL_take (l : List ByteArray) (k : Nat) (hk : k < l.length) : setL (l.take (k + 1)) = setIns (setL (l.take k)) (l.getD k ByteArray.empty) := by
  have e : l.take (k + 1) = l.take k ++ [l.getD k ByteArray.empty] := by
    rw [List.take_add_one, List.getElem?_eq_getElem hk, List.getD_eq_getElem?_getD, List.getElem?_eq_getElem hk]
    rfl
  rw [e, setL_snoc]
theorem setL_length : ∀ l : List ByteArray, (setL l).length ≤ l.length := by
  have : ∀ (l o : List ByteArray), (l.foldl setIns o).length ≤ o.length + l.length := by
    intro l
    induction l with
    | nil => intro o; exact Nat.le_refl _
    | cons a r ih =>
      intro o
      rw [List.foldl_cons, List.length_cons]
      have h1 := ih (setIns o a)
      rcases setIns_length o a with h2 | h2 <;> omega
  intro l
  have h := this l []
  simpa [setL] using h
theorem setL_mem : ∀ (l : List ByteArray) (x : ByteArray), x ∈ setL l ↔ x ∈ l := by
  have : ∀ (l o : List ByteArray) (x : ByteArray), x ∈ l.foldl setIns o ↔ x ∈ o ∨ x ∈ l := by
    intro l
    induction l with
    | nil => intro o x; simp
    | cons a r ih =>
      intro o x
      rw [List.foldl_cons, ih, setIns_mem, List.mem_cons]
      constructor
      · rintro ((h | h) | h) <;> simp [h]
      · rintro (h | h | h) <;> simp [h]
  intro l x
  have h := this l [] x
  simpa [setL] using h
theorem setL_ne {l : List ByteArray} (h : l ≠ []) : setL l ≠ [] := by
  intro e
  cases l with
  | nil => exact h rfl
  | cons a r =>
    have := (setL_mem (a :: r) a).2 (by simp)
    rw [e] at this
    cases this
theorem toList_inj {a b : ByteArray} (h : a.toList = b.toList) : a = b := by
  rw [ByteArray.toList_eq, ByteArray.toList_eq] at h
  cases a
  cases b
  simp at h
  rw [h]

end Go.Proofs.YtoifgpmbeicmnaaGreatDoor

namespace Go.Proofs.YtoifgpmbeicmnaaGreatDoor
open Go.RowKit

def valB (l : List Nat) : Nat := l.foldl (fun n b => n * 2 + b) 0
theorem valB_snoc (l : List Nat) (b : Nat) : valB (l ++ [b]) = valB l * 2 + b := by simp [valB]
theorem valB_lt (l : List Nat) (h : ∀ x ∈ l, x ≤ 1) : valB l + 1 ≤ 2 ^ l.length := by
  suffices ∀ (l : List Nat) (a : Nat), (∀ x ∈ l, x ≤ 1) → l.foldl (fun n b => n * 2 + b) a + 1 ≤ (a + 1) * 2 ^ l.length by
    have := this l 0 h
    simpa [valB] using this
  intro l
  induction l with
  | nil => intro a _; simp
  | cons x r ih =>
    intro a hx
    have h1 := hx x (by simp)
    have h2 := ih (a * 2 + x) (fun y hy => hx y (by simp [hy]))
    simp only [List.foldl_cons, List.length_cons, Nat.pow_succ]
    have h3 : (a * 2 + x + 1) * 2 ^ r.length ≤ (a + 1) * 2 * 2 ^ r.length := Nat.mul_le_mul_right _ (by omega)
    have h4 : (a + 1) * 2 * 2 ^ r.length = (a + 1) * (2 ^ r.length * 2) := by rw [Nat.mul_assoc, Nat.mul_comm 2]
    omega
/-- One bit more: the full bytes, and the bits that wait. -/
def stepB (s : List UInt8 × List Nat) (b : Nat) : List UInt8 × List Nat :=
  if s.2.length = 7 then (s.1 ++ [UInt8.ofNat (valB (s.2 ++ [b]))], []) else (s.1, s.2 ++ [b])
def runB (s : List UInt8 × List Nat) (bs : List Nat) : List UInt8 × List Nat := bs.foldl stepB s
def okB (s : List UInt8 × List Nat) : Prop := s.2.length < 8 ∧ ∀ x ∈ s.2, x ≤ 1
theorem stepB_ok {s : List UInt8 × List Nat} {b : Nat} (h : okB s) (hb : b ≤ 1) : okB (stepB s b) := by
  unfold stepB
  split
  · exact ⟨by simp, by simp⟩
  · refine ⟨by have := h.1; simp; omega, ?_⟩
    intro x hx
    rcases List.mem_append.1 hx with hx | hx
    · exact h.2 x hx
    · simp at hx; omega
theorem stepB_len (s : List UInt8 × List Nat) (b : Nat) : (stepB s b).1.length ≤ s.1.length + 1 := by
  unfold stepB
  split <;> simp
theorem runB_snoc (s : List UInt8 × List Nat) (bs : List Nat) (b : Nat) : runB s (bs ++ [b]) = stepB (runB s bs) b := by simp [runB]
theorem runB_append (s : List UInt8 × List Nat) (xs ys : List Nat) : runB s (xs ++ ys) = runB (runB s xs) ys := by simp [runB]
theorem runB_ok {s : List UInt8 × List Nat} {bs : List Nat} (h : okB s) (hb : ∀ b ∈ bs, b ≤ 1) : okB (runB s bs) := by
  induction bs generalizing s with
  | nil => exact h
  | cons b r ih => exact ih (stepB_ok h (hb b (by simp))) (fun x hx => hb x (by simp [hx]))
theorem runB_len (s : List UInt8 × List Nat) (bs : List Nat) : (runB s bs).1.length ≤ s.1.length + bs.length := by
  induction bs generalizing s with
  | nil => simp [runB]
  | cons b r ih =>
    have h1 := ih (stepB s b)
    have h2 := stepB_len s b
    simp only [runB, List.foldl_cons, List.length_cons] at h1 ⊢
    omega
/-- The lowest bits of a number, the highest of them first. -/
def lowB (n : Nat) : Nat → List Nat
  | 0 => []
  | k + 1 => (n / 2 ^ k % 2) :: lowB n k
theorem lowB_ok (n k : Nat) : ∀ b ∈ lowB n k, b ≤ 1 := by
  induction k with
  | zero => simp [lowB]
  | succ k ih =>
    intro b hb
    rcases List.mem_cons.1 hb with rfl | hb
    · omega
    · exact ih b hb
theorem lowB_length (n k : Nat) : (lowB n k).length = k := by
  induction k with
  | zero => rfl
  | succ k ih => simp [lowB, ih]
theorem lowB_mod (n k m : Nat) (h : k ≤ m) : lowB (n % 2 ^ m) k = lowB n k := by
  induction k with
  | zero => rfl
  | succ k ih =>
    rw [lowB, lowB, ih (by omega)]
    congr 1
    have : 2 ^ m = 2 ^ k * (2 * 2 ^ (m - k - 1)) := by
      rw [← Nat.mul_assoc, ← Nat.pow_succ, ← Nat.pow_add]
      congr 1
      omega
    rw [this, Nat.mod_mul_right_div_self, Nat.mod_mul_right_mod]
def numB (k n : Nat) : List Nat := List.replicate (n / 2 ^ k) 1 ++ 0 :: lowB n k
theorem numB_ok (k n : Nat) : ∀ b ∈ numB k n, b ≤ 1 := by
  intro b hb
  rcases List.mem_append.1 hb with hb | hb
  · simp at hb; omega
  · rcases List.mem_cons.1 hb with rfl | hb
    · omega
    · exact lowB_ok n k b hb
theorem numB_length (k n : Nat) : (numB k n).length = n / 2 ^ k + 1 + k := by
  simp [numB, lowB_length]; omega
def bitsOf (k : Nat) (l : List Nat) : List Nat := l.flatMap (numB k)
theorem bitsOf_snoc (k : Nat) (l : List Nat) (n : Nat) : bitsOf k (l ++ [n]) = bitsOf k l ++ numB k n := by simp [bitsOf]
theorem bitsOf_ok (k : Nat) (l : List Nat) : ∀ b ∈ bitsOf k l, b ≤ 1 := by
  intro b hb
  obtain ⟨n, _, hb⟩ := List.mem_flatMap.1 hb
  exact numB_ok k n b hb
theorem bitsOf_length (k : Nat) (l : List Nat) (hk : k ≤ 8) (h : ∀ x ∈ l, x ≤ 60000) : (bitsOf k l).length ≤ l.length * 60009 := by
  induction l with
  | nil => simp [bitsOf]
  | cons n r ih =>
    have h1 := ih (fun x hx => h x (by simp [hx]))
    have h2 := h n (by simp)
    have h3 : n / 2 ^ k ≤ n := Nat.div_le_self _ _
    simp only [bitsOf, List.flatMap_cons, List.length_append, numB_length, List.length_cons] at h1 ⊢
    omega
/-- The state once the last byte is full. -/
def fillB (s : List UInt8 × List Nat) : List UInt8 := (runB s (List.replicate (if s.2 = [] then 0 else 8 - s.2.length) 0)).1
def riceB (k : Nat) (l : List Nat) : List UInt8 := fillB (runB ([], []) (bitsOf k l))
/-- Noughts one by one: the bytes are those of the full state as soon as nothing waits. -/
theorem fillB_step {s : List UInt8 × List Nat} (h : s.2.length < 8) (h0 : s.2 ≠ []) : fillB (stepB s 0) = fillB s := by
  have hne : s.2.length ≠ 0 := fun e => h0 (List.length_eq_zero_iff.1 e)
  have e8 : 8 - s.2.length = (8 - s.2.length - 1) + 1 := by omega
  have hr : fillB s = (runB (stepB s 0) (List.replicate (8 - s.2.length - 1) 0)).1 := by
    rw [fillB, if_neg h0, e8, List.replicate_succ]
    rfl
  rw [hr]
  unfold fillB
  by_cases h7 : s.2.length = 7
  · have : (stepB s 0).2 = [] := by simp [stepB, h7]
    rw [if_pos this, h7]
  · have h2 : (stepB s 0).2 = s.2 ++ [0] := by simp [stepB, h7]
    have h3 : (stepB s 0).2 ≠ [] := by rw [h2]; simp
    rw [if_neg h3, h2]
    simp only [List.length_append, List.length_cons, List.length_nil]
    rw [show 8 - (s.2.length + (0 + 1)) = 8 - s.2.length - 1 from by omega]
theorem fillB_end {s : List UInt8 × List Nat} (h0 : s.2 = []) : fillB s = s.1 := by
  rw [fillB, if_pos h0]
  rfl

end Go.Proofs.YtoifgpmbeicmnaaGreatDoor

namespace Go.Proofs.YtoifgpmbeicmnaaGreatDoor
open Go.RowKit

def numOk (z : Int) : Bool := decide (0 ≤ z ∧ z ≤ 60000)
def bitsOk (k : Int) : Bool := decide (0 ≤ k ∧ k ≤ 8)
def riceOkB (zs : List Int) (k : Int) : Bool := decide (zs.length ≤ 40) && bitsOk k && zs.all numOk
def ricePut (zs : List Int) (k : Int) : List UInt8 := if riceOkB zs k = true then riceB k.toNat (zs.map Int.toNat) else []
/-- The numbers lie there. -/
def At (w : World) (g : Nat) (zs : List Int) : Prop := g < w.heap.size ∧ ∀ i, i < zs.length → w.cell? ⟨g, i, none⟩ = some (.int .i64 (zs.getD i 0))
theorem At.below {w w' : World} {g B : Nat} {zs : List Int} (h : At w g zs) (hb : Below B w w') (hg : g < B) : At w' g zs :=
  ⟨Nat.lt_of_lt_of_le h.1 hb.size, fun i hi => by rw [hb.cell (p := ⟨g, i, none⟩) hg]; exact h.2 i hi⟩
theorem At.drew {w : World} {g : Nat} {zs : List Int} (h : At w g zs) : At w.drew g zs := h
theorem riceOk_len {zs : List Int} {k : Int} (h : riceOkB zs k = true) : zs.length ≤ 40 := by
  simp only [riceOkB, Bool.and_eq_true] at h
  exact of_decide_eq_true h.1.1
theorem riceOk_bits {zs : List Int} {k : Int} (h : riceOkB zs k = true) : 0 ≤ k ∧ k ≤ 8 := by
  simp only [riceOkB, Bool.and_eq_true] at h
  exact of_decide_eq_true h.1.2
theorem riceOk_at {zs : List Int} {k : Int} (h : riceOkB zs k = true) (i : Nat) (hi : i < zs.length) : 0 ≤ zs.getD i 0 ∧ zs.getD i 0 ≤ 60000 := by
  simp only [riceOkB, Bool.and_eq_true, List.all_eq_true] at h
  have := h.2 (zs.getD i 0) (by simp [List.getElem?_eq_getElem hi])
  exact of_decide_eq_true this
theorem riceOk_no {zs : List Int} {k : Int} (i : Nat) (hi : i < zs.length) (h : ¬ (0 ≤ zs.getD i 0 ∧ zs.getD i 0 ≤ 60000)) : riceOkB zs k = false := by
  cases hh : riceOkB zs k with
  | false => rfl
  | true => exact absurd (riceOk_at hh i hi) h
theorem riceOk_yes {zs : List Int} {k : Int} (h1 : zs.length ≤ 40) (h2 : 0 ≤ k ∧ k ≤ 8) (h3 : ∀ i, i < zs.length → 0 ≤ zs.getD i 0 ∧ zs.getD i 0 ≤ 60000) : riceOkB zs k = true := by
  have e1 : decide (zs.length ≤ 40) = true := decide_eq_true h1
  have e2 : bitsOk k = true := decide_eq_true h2
  simp only [riceOkB, e1, e2, Bool.true_and, List.all_eq_true]
  intro z hz
  obtain ⟨i, hi, rfl⟩ := List.mem_iff_getElem.1 hz
  have := h3 i hi
  rw [List.getD_eq_getElem?_getD, List.getElem?_eq_getElem hi] at this
  exact decide_eq_true this
theorem ricePut_yes {zs : List Int} {k : Int} (h : riceOkB zs k = true) : ricePut zs k = riceB k.toNat (zs.map Int.toNat) := by
  rw [ricePut, if_pos h]
theorem ricePut_no {zs : List Int} {k : Int} (h : riceOkB zs k = false) : ricePut zs k = [] := by
  rw [ricePut, if_neg (by rw [h]; decide)]
/-- The first so many numbers written. -/
def upTo (k : Nat) (zs : List Int) (i : Nat) : List UInt8 × List Nat := runB ([], []) (bitsOf k ((zs.map Int.toNat).take i))
theorem upTo_zero (k : Nat) (zs : List Int) : upTo k zs 0 = ([], []) := by simp [upTo, bitsOf, runB]
theorem upTo_succ (k : Nat) (zs : List Int) (i : Nat) (hi : i < zs.length) : upTo k zs (i + 1) = runB (upTo k zs i) (numB k (zs.getD i 0).toNat) := by
  have h : (zs.map Int.toNat).take (i + 1) = (zs.map Int.toNat).take i ++ [(zs.getD i 0).toNat] := by
    rw [List.take_add_one, List.getElem?_map, List.getElem?_eq_getElem hi]
    simp [List.getElem?_eq_getElem hi]
  rw [upTo, h, bitsOf_snoc, runB_append]
  rfl
theorem upTo_ok (k : Nat) (zs : List Int) (i : Nat) : okB (upTo k zs i) := runB_ok ⟨by simp, by simp⟩ (bitsOf_ok _ _)
theorem upTo_len {k : Nat} {zs : List Int} (hk : k ≤ 8) (hl : zs.length ≤ 40) (h : ∀ i, i < zs.length → 0 ≤ zs.getD i 0 ∧ zs.getD i 0 ≤ 60000) (i : Nat) : (upTo k zs i).1.length ≤ 10000000 := by
  have h1 := runB_len ([], []) (bitsOf k ((zs.map Int.toNat).take i))
  have h2 := bitsOf_length k ((zs.map Int.toNat).take i) hk (by
    intro x hx
    have hx' := List.mem_of_mem_take hx
    obtain ⟨z, hz, rfl⟩ := List.mem_map.1 hx'
    obtain ⟨j, hj, rfl⟩ := List.mem_iff_getElem.1 hz
    have := h j hj
    rw [List.getD_eq_getElem?_getD, List.getElem?_eq_getElem hj] at this
    simp at this
    omega)
  have h3 : ((zs.map Int.toNat).take i).length ≤ 40 := by simp; omega
  have h4 : ((zs.map Int.toNat).take i).length * 60009 ≤ 40 * 60009 := Nat.mul_le_mul_right _ h3
  simp only [List.length_nil] at h1
  show (runB ([], []) (bitsOf k ((zs.map Int.toNat).take i))).1.length ≤ _
  omega
theorem upTo_end (k : Nat) (zs : List Int) : fillB (upTo k zs zs.length) = riceB k (zs.map Int.toNat) := by
  rw [upTo, riceB, List.take_of_length_le (by simp)]

end Go.Proofs.YtoifgpmbeicmnaaGreatDoor

set_option linter.unusedVariables false
namespace Go.Proofs.YtoifgpmbeicmnaaGreatDoor
open Go.RowKit

def gapsZ : Int → List Int → List Int
  | _, [] => []
  | a, x :: r => (x - a) :: gapsZ x r
theorem gapsZ_length (l : List Int) : ∀ a, (gapsZ a l).length = l.length := by
  induction l with
  | nil => intro a; rfl
  | cons x r ih => intro a; simp [gapsZ, ih]
def lastZ : Int → List Int → Int
  | a, [] => a
  | _, x :: r => lastZ x r
theorem gapsZ_snoc (l : List Int) (x : Int) : ∀ a, gapsZ a (l ++ [x]) = gapsZ a l ++ [x - lastZ a l] := by
  induction l with
  | nil => intro a; rfl
  | cons y r ih =>
    intro a
    simp [gapsZ, ih, lastZ]
theorem lastZ_snoc (x : Int) (l : List Int) : ∀ a, lastZ a (l ++ [x]) = x := by
  induction l with
  | nil => intro a; rfl
  | cons y r ih => intro a; exact ih y
/-- In order. -/
def Asc : Int → List Int → Prop
  | _, [] => True
  | a, x :: r => a ≤ x ∧ Asc x r
theorem asc_mono {a b : Int} {l : List Int} (h : Asc b l) (hab : a ≤ b) : Asc a l := by
  cases l with
  | nil => trivial
  | cons x r => exact ⟨by have := h.1; omega, h.2⟩
theorem asc_ins (z : Int) : ∀ (l : List Int) (a : Int), a ≤ z → Asc a l → Asc a (sortIns l z) := by
  intro l
  induction l with
  | nil => intro a ha _; exact ⟨ha, trivial⟩
  | cons x r ih =>
    intro a ha h
    by_cases hx : x ≤ z
    · have e : sortIns (x :: r) z = x :: sortIns r z := by simp [sortIns, hx]
      rw [e]
      exact ⟨h.1, ih x hx h.2⟩
    · have e : sortIns (x :: r) z = z :: x :: r := by simp [sortIns, hx]
      rw [e]
      exact ⟨ha, by omega, h.2⟩
theorem asc_sort (l : List Int) (h : ∀ x ∈ l, 0 ≤ x) : Asc 0 (sortL l) := by
  have : ∀ (l o : List Int), (∀ x ∈ l, 0 ≤ x) → Asc 0 o → Asc 0 (l.foldl sortIns o) := by
    intro l
    induction l with
    | nil => intro o _ ho; exact ho
    | cons a r ih =>
      intro o hl ho
      exact ih _ (fun x hx => hl x (by simp [hx])) (asc_ins a o 0 (hl a (by simp)) ho)
  exact this l [] h trivial
theorem gaps_in (M : Int) : ∀ (l : List Int) (a : Int), 0 ≤ a → Asc a l → (∀ x ∈ l, x ≤ M) → ∀ y ∈ gapsZ a l, 0 ≤ y ∧ y ≤ M := by
  intro l
  induction l with
  | nil => intro a _ _ _ y hy; cases hy
  | cons x r ih =>
    intro a ha h hM y hy
    have h1 := h.1
    have h2 := hM x (by simp)
    rcases List.mem_cons.1 hy with rfl | hy
    · omega
    · exact ih x (by omega) h.2 (fun z hz => hM z (by simp [hz])) y hy

/-- Where the different ones fall, in order. -/
def placesL (k : List UInt8) (ss : List ByteArray) : List Int := (setL ss).map fun it => filterTo k it.data.toList (((setL ss).length : Int) * 37)
def gapsL (k : List UInt8) (ss : List ByteArray) : List Int := gapsZ 0 (sortL (placesL k ss))
def filterB (k : List UInt8) (ss : List ByteArray) : List UInt8 := varB 4 (setL ss).length ++ riceB 5 ((gapsL k ss).map Int.toNat)
def filterOf (k : List UInt8) (ss : List ByteArray) : List UInt8 := if (isSum k && itemsOkB ss) = true then filterB k ss else []
theorem filterOf_yes {k : List UInt8} {ss : List ByteArray} (h1 : isSum k = true) (h2 : itemsOkB ss = true) : filterOf k ss = filterB k ss := by rw [filterOf, h1, h2]; rfl
theorem filterOf_no1 {k : List UInt8} {ss : List ByteArray} (h1 : isSum k = false) : filterOf k ss = [] := by rw [filterOf, h1]; rfl
theorem filterOf_no2 {k : List UInt8} {ss : List ByteArray} (h2 : itemsOkB ss = false) : filterOf k ss = [] := by rw [filterOf, h2]; simp
theorem set_items {ss : List ByteArray} (h : itemsOkB ss = true) : ∀ it ∈ setL ss, isItem it.data.toList = true := by
  intro it hit
  have h1 := (setL_mem ss it).1 hit
  simp only [itemsOkB, Bool.and_eq_true, List.all_eq_true] at h
  exact h.2 it h1
theorem places_in {k : List UInt8} {ss : List ByteArray} (h1 : isSum k = true) (h2 : itemsOkB ss = true) : ∀ z ∈ placesL k ss, 0 ≤ z ∧ z ≤ 1480 := by
  intro z hz
  obtain ⟨it, hit, rfl⟩ := List.mem_map.1 hz
  have hi := set_items h2 it hit
  have hn : 1 ≤ (setL ss).length := by
    cases hs : setL ss with
    | nil => rw [hs] at hit; cases hit
    | cons a r => simp
  have hn4 : (setL ss).length ≤ 40 := Nat.le_trans (setL_length ss) (itemsOk_len h2)
  have hb : 1 ≤ ((setL ss).length : Int) * 37 ∧ ((setL ss).length : Int) * 37 ≤ 60000 := by omega
  rw [filterTo_yes h1 hi hb]
  have := place_lt (headOf (k ++ 32 :: it.data.toList)) (((setL ss).length : Int) * 37) (headOf_lt _) hb
  omega
theorem gaps_ok {k : List UInt8} {ss : List ByteArray} (h1 : isSum k = true) (h2 : itemsOkB ss = true) : (gapsL k ss).length ≤ 40 ∧ ∀ i, i < (gapsL k ss).length → 0 ≤ (gapsL k ss).getD i 0 ∧ (gapsL k ss).getD i 0 ≤ 60000 := by
  have hl : (gapsL k ss).length = (setL ss).length := by rw [gapsL, gapsZ_length, sortL_length, placesL, List.length_map]
  refine ⟨by rw [hl]; exact Nat.le_trans (setL_length ss) (itemsOk_len h2), fun i hi => ?_⟩
  have hp := places_in h1 h2
  have hmem : (gapsL k ss).getD i 0 ∈ gapsL k ss := by simp [List.getElem?_eq_getElem hi]
  have := gaps_in 1480 (sortL (placesL k ss)) 0 (Int.le_refl _) (asc_sort _ (fun x hx => (hp x hx).1)) (fun x hx => (hp x ((sortL_mem _ x).1 hx)).2) _ hmem
  omega

end Go.Proofs.YtoifgpmbeicmnaaGreatDoor

set_option linter.unusedVariables false
namespace Go.Proofs.YtoifgpmbeicmnaaGreatDoor
open Go.Shelf Go.RowKit

theorem infoIntB : (Tryz.prog.info? 3).map (fun i => (i.zero, i.size, i.bytes)) = some (some (.int .i64 0), 1, 8) := by kernel_rfl
theorem infoByteB : (Tryz.prog.info? 5).map (fun i => (i.zero, i.size, i.bytes)) = some (some (.int .u8 0), 1, 1) := by kernel_rfl
def intCells (l : List Nat) : List Value := l.map fun n : Nat => Value.int .i64 (n : Int)
/-- A row that the call has made stands if its block stands. -/
theorem ownsRow_keep {base : Nat} {e : TypeId} {v : Value} {n : Nat} {xs : List Value} {w w' : World} (h : w.ownsRow base e 1 v n xs) (hk : ∀ g, v.ownBlock = some g → w'.heap[g]? = w.heap[g]?) : w'.ownsRow base e 1 v n xs := by
  refine ⟨h.1, ?_⟩
  rcases h.2 with h2 | ⟨g, cap, cur, hv, h2⟩
  · exact .inl h2
  · refine .inr ⟨g, cap, cur, hv, h2.1, ?_, h2.2.2⟩
    rw [hk g (by rw [hv]; rfl)]
    exact h2.2.1
theorem ownsRow_type {base : Nat} {e : TypeId} {v : Value} {n : Nat} {xs : List Value} {w : World} (h : w.ownsRow base e 1 v n xs) (g : Nat) (hg : v.ownBlock = some g) : ∃ cur, w.heap[g]? = some (.cells cur e (0, 0)) ∧ g < w.heap.size := by
  rcases h.2 with ⟨h2, _⟩ | ⟨g', cap, cur, hv, h2⟩
  · rw [h2] at hg; cases hg
  · rw [hv] at hg
    obtain rfl : g' = g := by simpa [Value.ownBlock] using hg
    refine ⟨cur, h2.2.1, ?_⟩
    rcases Nat.lt_or_ge g' w.heap.size with h' | h'
    · exact h'
    · have := h2.2.1
      simp [Array.getElem?_eq_none h'] at this
theorem intCell_at {base : Nat} {e : TypeId} {g n cap : Nat} {m : List Nat} {w : World} (h : w.ownsRow base e 1 (.slice (some ⟨g, 0, none⟩) n cap) n (intCells m)) (i : Nat) (hi : i < m.length) : w.cell? ⟨g, i, none⟩ = some (.int .i64 ((m.getD i 0 : Nat) : Int)) := by
  have hl : m.length = n := by have := h.1; simpa [intCells] using this
  rcases h.2 with ⟨h2, _⟩ | ⟨g', cap', cur, hv, _, hc, _, _, _, ht⟩
  · cases h2
  · simp only [Value.slice.injEq, Option.some.injEq, Addr.mk.injEq, and_true, true_and] at hv
    obtain ⟨rfl, rfl⟩ := hv
    rw [Lib.cell_of_heap hc, ← Array.getElem?_toList]
    have h3 : cur.toList[i]? = (intCells m)[i]? := by rw [← ht, List.getElem?_take]; simp [← hl, hi]
    rw [h3]
    simp [intCells, List.getElem?_eq_getElem hi]
theorem take_valB (m : List Nat) (j : Nat) (hj : j < m.length) : valB (m.take (j + 1)) = valB (m.take j) * 2 + m.getD j 0 := by
  have : m.take (j + 1) = m.take j ++ [m.getD j 0] := by
    rw [List.take_add_one, List.getElem?_eq_getElem hj]
    simp [List.getElem?_eq_getElem hj]
  rw [this, valB_snoc]
end Go.Proofs.YtoifgpmbeicmnaaGreatDoor

set_option linter.unusedVariables false
namespace Go.Proofs.YtoifgpmbeicmnaaGreatDoor
open Go.RowKit

/-- A row of integers of the call's own. -/
def ZRow (B : Nat) (v : Value) (zs : List Int) (w : World) : Prop := (∃ g cap, v = .slice (some ⟨g, 0, none⟩) zs.length cap) ∧ w.ownsRow B 3 1 v zs.length (zs.map (Value.int .i64))
theorem zrow_new (w : World) : ZRow w.heap.size (.slice (some ⟨w.heap.size, 0, none⟩) 0 0) [] (w.alloc (.cells #[] 3)) :=
  ⟨⟨_, _, rfl⟩, rfl, .inr ⟨_, _, #[], rfl, Nat.le_refl _, heap_alloc_new w _, Nat.le_refl _, by unfold maxLen; omega, rfl, rfl⟩⟩
theorem ZRow.block {B : Nat} {v : Value} {zs : List Int} {w : World} (h : ZRow B v zs w) : ∃ g cap cur, v = .slice (some ⟨g, 0, none⟩) zs.length cap ∧ B ≤ g ∧ g < w.heap.size ∧ w.heap[g]? = some (.cells cur 3 (0, 0)) ∧ cur.toList.take zs.length = zs.map (Value.int .i64) := by
  obtain ⟨⟨g, cap, rfl⟩, hl, h2⟩ := h
  rcases h2 with ⟨h2, _⟩ | ⟨g', cap', cur, hv, h3, h4, h5, h6, h7, h8⟩
  · cases h2
  · simp only [Value.slice.injEq, Option.some.injEq, Addr.mk.injEq, and_true] at hv
    obtain ⟨rfl, _, rfl⟩ := hv
    refine ⟨g, cap, cur, rfl, h3, ?_, h4, by simpa using h8⟩
    exact (Array.getElem?_eq_some_iff.1 h4).1
theorem ZRow.keep {B C : Nat} {v : Value} {zs : List Int} {w w' : World} (h : ZRow B v zs w) (hk : ∀ g, B ≤ g → g < w.heap.size → w'.heap[g]? = w.heap[g]?) : ZRow B v zs w' := by
  have hb := h.block
  refine ⟨h.1, ownsRow_keep h.2 (fun g hg => ?_)⟩
  obtain ⟨g', cap, cur, rfl, h1, h2, _⟩ := hb
  obtain rfl : g' = g := by simpa [Value.ownBlock] using hg
  exact hk g' h1 h2
theorem ZRow.only {B b : Nat} {v : Value} {zs : List Int} {w w' : World} (h : ZRow B v zs w) (ho : Only b w w') (hb : b < B) : ZRow B v zs w' := h.keep (C := B) (fun g hg _ => ho.block g (by omega))
theorem ZRow.at {B g n cap : Nat} {zs : List Int} {w : World} (h : ZRow B (.slice (some ⟨g, 0, none⟩) n cap) zs w) : At w g zs ∧ n = zs.length := by
  obtain ⟨g', cap', cur, hv, h1, h2, h3, h4⟩ := h.block
  simp only [Value.slice.injEq, Option.some.injEq, Addr.mk.injEq, and_true] at hv
  obtain ⟨rfl, rfl, rfl⟩ := hv
  refine ⟨⟨h2, fun i hi => ?_⟩, rfl⟩
  rw [Lib.cell_of_heap h3]
  have : cur.toList[i]? = (zs.map (Value.int .i64))[i]? := by rw [← h4, List.getElem?_take]; simp [hi]
  rw [← Array.getElem?_toList, this]
  simp [List.getElem?_eq_getElem hi]

def nums5 : List Int := [0, 1, 3, 8, 20]
def nums7 : List Int := [0, 1, 5, 31, 32, 100, 700]
def nums3 : List Int := [-1, 60000, 60001]
theorem nums5_in : ∀ i : Fin 5, 0 ≤ nums5.getD i.val 0 ∧ nums5.getD i.val 0 ≤ 20 := by decide

end Go.Proofs.YtoifgpmbeicmnaaGreatDoor

set_option linter.unusedVariables false
namespace Go.Proofs.YtoifgpmbeicmnaaGreatDoor
open Go.RowKit

theorem at_news {w : World} {g : Nat} {zs : List Int} (h : At w g zs) (a m off : Nat) (hk : a + m ≤ zs.length) (ho : 0 < m → off = a) : ∀ j u, (((zs.drop a).take m).map (Value.int .i64))[j]? = some u → w.cell? ((⟨g, off, none⟩ : Addr).add j) = some u := by
  intro j u hu
  have hj : j < m := by
    have := (List.getElem?_eq_some_iff.1 hu).1
    simp at this
    omega
  have e := ho (by omega)
  subst e
  have hc := h.2 (off + j) (by omega)
  have e2 : (((zs.drop off).take m).map (Value.int .i64))[j]? = some (.int .i64 (zs.getD (off + j) 0)) := by
    rw [List.getElem?_map, List.getElem?_take_of_lt hj, List.getElem?_drop, List.getElem?_eq_getElem (by omega)]
    simp [List.getElem?_eq_getElem (show off + j < zs.length by omega)]
  rw [e2] at hu
  rw [← hu, ← hc]
  rcases j with _ | j
  · simp [Addr.add]
  · simp [Addr.add]
theorem ints_one (l : List Int) : ∀ u ∈ l.map (Value.int .i64), u.oneCell' = true := by
  intro u hu
  obtain ⟨x, _, rfl⟩ := List.mem_map.1 hu
  rfl
theorem At.far {w w' : World} {g : Nat} {zs : List Int} (h : At w g zs) (hk : w'.heap[g]? = w.heap[g]?) (hs : w.heap.size ≤ w'.heap.size) : At w' g zs :=
  ⟨Nat.lt_of_lt_of_le h.1 hs, fun i hi => (World.cell?_of_block (a := ⟨g, i, none⟩) hk).trans (h.2 i hi)⟩
theorem ZRow.of {B n g cap : Nat} {zs : List Int} {w : World} (h : w.ownsRow B 3 1 (.slice (some ⟨g, 0, none⟩) n cap) n (zs.map (Value.int .i64))) (hn : n = zs.length) : ZRow B (.slice (some ⟨g, 0, none⟩) n cap) zs w := by
  subst hn
  exact ⟨⟨g, cap, rfl⟩, h⟩

theorem own_form {B n : Nat} {e : TypeId} {v : Value} {xs : List Value} {w : World} (h : w.ownsRow B e 1 v n xs) (hv : v ≠ .slice none 0 0) : ∃ g c, v = .slice (some ⟨g, 0, none⟩) n c := by
  rcases h.2 with ⟨h2, _⟩ | ⟨g, c, cur, h2, _⟩
  · exact absurd h2 hv
  · exact ⟨g, c, h2⟩
theorem own_cap {B n m g c : Nat} {e : TypeId} {xs : List Value} {w : World} (h : w.ownsRow B e 1 (.slice (some ⟨g, 0, none⟩) n c) m xs) : n ≤ c ∧ B ≤ g ∧ g < w.heap.size := by
  rcases h.2 with ⟨h2, _⟩ | ⟨g', c', cur, h2, h3, h4, h5, _⟩
  · cases h2
  · simp only [Value.slice.injEq, Option.some.injEq, Addr.mk.injEq, and_true] at h2
    obtain ⟨rfl, rfl, rfl⟩ := h2
    exact ⟨h5, h3, (Array.getElem?_eq_some_iff.1 h4).1⟩
theorem grown_far {W w1 : World} {row : Option Nat} {b : Nat} {o : Obj} (hg : (W.alloc o).grownBy w1 row) (hb : b < W.heap.size) (hne : some b ≠ row) : w1.heap[b]? = W.heap[b]? :=
  (hg.block b (by simp; omega) hne).trans (Below.heap_alloc _ _ _ hb)
theorem grown_far2 {W w1 : World} {row : Option Nat} {b : Nat} {o : Obj} (hg : (W.alloc o).drew.grownBy w1 row) (hb : b < W.heap.size) (hne : some b ≠ row) : w1.heap[b]? = W.heap[b]? :=
  (hg.block b (by show b < (W.alloc o).heap.size; simp; omega) hne).trans (Below.heap_alloc _ _ _ hb)
theorem grown_size2 {W w1 : World} {row : Option Nat} {o : Obj} (hg : (W.alloc o).drew.grownBy w1 row) : W.heap.size + 1 ≤ w1.heap.size := by
  have := hg.size
  have e : (W.alloc o).drew.heap.size = W.heap.size + 1 := by show (W.alloc o).heap.size = _; simp
  omega
theorem grown_size {W w1 : World} {row : Option Nat} {o : Obj} (hg : (W.alloc o).grownBy w1 row) : W.heap.size + 1 ≤ w1.heap.size := by
  have := hg.size
  simpa using this

end Go.Proofs.YtoifgpmbeicmnaaGreatDoor

set_option linter.unusedVariables false
namespace Go.Proofs.YtoifgpmbeicmnaaGreatDoor
open Go.RowKit

theorem at_newsS {w : World} {g : Nat} {zs : List ByteArray} (h : AtS w g zs) (a m off : Nat) (hk : a + m ≤ zs.length) (ho : 0 < m → off = a) : ∀ j u, (((zs.drop a).take m).map Value.string)[j]? = some u → w.cell? ((⟨g, off, none⟩ : Addr).add j) = some u := by
  intro j u hu
  have hj : j < m := by
    have := (List.getElem?_eq_some_iff.1 hu).1
    simp at this
    omega
  have e := ho (by omega)
  subst e
  have hc := h.2 (off + j) (by omega)
  have e2 : (((zs.drop off).take m).map Value.string)[j]? = some (.string (zs.getD (off + j) ByteArray.empty)) := by
    rw [List.getElem?_map, List.getElem?_take_of_lt hj, List.getElem?_drop, List.getElem?_eq_getElem (by omega)]
    simp [List.getElem?_eq_getElem (show off + j < zs.length by omega)]
  rw [e2] at hu
  rw [← hu, ← hc]
  rcases j with _ | j
  · simp [Addr.add]
  · simp [Addr.add]
theorem strs_one (l : List ByteArray) : ∀ u ∈ l.map Value.string, u.oneCell' = true := by
  intro u hu
  obtain ⟨x, _, rfl⟩ := List.mem_map.1 hu
  rfl
theorem AtS.far {w w' : World} {g : Nat} {zs : List ByteArray} (h : AtS w g zs) (hk : w'.heap[g]? = w.heap[g]?) (hs : w.heap.size ≤ w'.heap.size) : AtS w' g zs :=
  ⟨Nat.lt_of_lt_of_le h.1 hs, fun i hi => (World.cell?_of_block (a := ⟨g, i, none⟩) hk).trans (h.2 i hi)⟩
theorem SRow.of {B n g cap : Nat} {zs : List ByteArray} {w : World} (h : w.ownsRow B 9 1 (.slice (some ⟨g, 0, none⟩) n cap) n (zs.map Value.string)) (hn : n = zs.length) : SRow B (.slice (some ⟨g, 0, none⟩) n cap) zs w := by
  subst hn
  exact ⟨⟨g, cap, rfl⟩, h⟩

end Go.Proofs.YtoifgpmbeicmnaaGreatDoor

set_option linter.unusedVariables false
namespace Go.Proofs.YtoifgpmbeicmnaaGreatDoor
open Go.RowKit

end Go.Proofs.YtoifgpmbeicmnaaGreatDoor

set_option linter.unusedVariables false
namespace Go.Proofs.YtoifgpmbeicmnaaGreatDoor
open Go.RowKit
theorem infoU8 : (Tryz.prog.info? 5).map (fun i => (i.zero, i.size, i.bytes)) = some (some (.int .u8 0), 1, 1) := by kernel_rfl

end Go.Proofs.YtoifgpmbeicmnaaGreatDoor

set_option linter.unusedVariables false
namespace Go.Proofs.YtoifgpmbeicmnaaGreatDoor
open Go.RowKit

theorem convBack {B : Nat} {v : Value} {l : List UInt8} {w : World} (h : w.ownsRow B 5 1 v l.length (Lib.byteCells l)) : (convert 95 9 v).run Tryz.prog w = .ok (.string ⟨l.toArray⟩) w := by
  rcases h.2 with ⟨h1, h2⟩ | ⟨g, cap, cur, hv, _, hc, _, _, _, ht⟩
  · obtain rfl : l = [] := List.length_eq_zero_iff.1 h2
    rw [h1]
    exact Lib.run_convert_nil_bytes w 95 9 5 0 Tryz.underlying95 Tryz.underlying5 Tryz.underlying9
  · rw [hv]
    refine run_convert_bytes_back (P := Tryz.prog) w 95 9 5 ⟨g, 0, none⟩ cap l Tryz.underlying95 Tryz.underlying5 Tryz.underlying9 ?_
    intro j hj
    rw [Addr.add_mid, Nat.zero_add, Lib.cell_of_heap hc, ← Array.getElem?_toList]
    have h3 : cur.toList[j]? = (Lib.byteCells l)[j]? := by rw [← ht, List.getElem?_take]; simp [hj]
    rw [h3]
    simp [Lib.byteCells, List.getElem?_eq_getElem hj]
/-- How many bits wait, out of the block. -/
def waits (b : Nat) (w : World) : Nat := match w.cell? ⟨b, 1, none⟩ with
  | some (.slice _ n _) => if n = 0 then 0 else 8 - n
  | _ => 0
end Go.Proofs.YtoifgpmbeicmnaaGreatDoor

set_option linter.unusedVariables false
namespace Go.Proofs.YtoifgpmbeicmnaaGreatDoor
open Go.RowKit

end Go.Proofs.YtoifgpmbeicmnaaGreatDoor

set_option linter.unusedVariables false
namespace Go.Proofs.YtoifgpmbeicmnaaGreatDoor
open Go.RowKit

end Go.Proofs.YtoifgpmbeicmnaaGreatDoor

set_option linter.unusedVariables false
namespace Go.Proofs.YtoifgpmbeicmnaaGreatDoor
open Go.RowKit

def bent8 : List ByteArray := [⟨#[48]⟩, ⟨#[97]⟩, ⟨#[32]⟩, ⟨#[0]⟩, ⟨#[255]⟩, ⟨#[128]⟩, ⟨#[102]⟩, ⟨#[10]⟩]
theorem bent8_size : ∀ i : Fin 8, (bent8.getD i.val ByteArray.empty).size ≤ 1 := by decide
def bent4 : List ByteArray := [⟨#[48]⟩, ⟨#[32]⟩, ⟨#[0]⟩, ⟨#[255]⟩]
theorem bent4_size : ∀ i : Fin 4, (bent4.getD i.val ByteArray.empty).size ≤ 1 := by decide

end Go.Proofs.YtoifgpmbeicmnaaGreatDoor

namespace Go.Proofs.YtoifgpmbeicmnaaGreatDoor
open Go.RowKit

/-! ### The bits of a text -/
def byteBits (c : UInt8) : List Nat := [c.toNat / 128 % 2, c.toNat / 64 % 2, c.toNat / 32 % 2, c.toNat / 16 % 2, c.toNat / 8 % 2, c.toNat / 4 % 2, c.toNat / 2 % 2, c.toNat % 2]
def unpack (o : List UInt8) : List Nat := o.flatMap byteBits
theorem unpack_append (a b : List UInt8) : unpack (a ++ b) = unpack a ++ unpack b := by simp [unpack]
theorem unpack_length (o : List UInt8) : (unpack o).length = 8 * o.length := by
  induction o with
  | nil => rfl
  | cons c r ih =>
    have : unpack (c :: r) = byteBits c ++ unpack r := rfl
    rw [this, List.length_append, ih]
    simp [byteBits]
    omega
theorem byteBits_val (l : List Nat) (h8 : l.length = 8) (h : ∀ x ∈ l, x ≤ 1) : byteBits (UInt8.ofNat (valB l)) = l := by
  match l, h8 with
  | [a, b, c, d, e, f, g, i], _ =>
    have ha := h a (by simp)
    have hb := h b (by simp)
    have hc := h c (by simp)
    have hd := h d (by simp)
    have he := h e (by simp)
    have hf := h f (by simp)
    have hg := h g (by simp)
    have hi := h i (by simp)
    have hv : valB [a, b, c, d, e, f, g, i] = a * 128 + b * 64 + c * 32 + d * 16 + e * 8 + f * 4 + g * 2 + i := by
      simp only [valB, List.foldl_cons, List.foldl_nil]
      omega
    have hn : (UInt8.ofNat (valB [a, b, c, d, e, f, g, i])).toNat = a * 128 + b * 64 + c * 32 + d * 16 + e * 8 + f * 4 + g * 2 + i := by
      rw [hv]
      simp
      omega
    simp only [byteBits, hn, List.cons.injEq, and_true]
    refine ⟨?_, ?_, ?_, ?_, ?_, ?_, ?_, ?_⟩ <;> omega
theorem unpack_step {s : List UInt8 × List Nat} {b : Nat} (h : okB s) (hb : b ≤ 1) : unpack (stepB s b).1 ++ (stepB s b).2 = unpack s.1 ++ s.2 ++ [b] := by
  unfold stepB
  split
  · rename_i h7
    have hall : ∀ x ∈ s.2 ++ [b], x ≤ 1 := by
      intro x hx
      rcases List.mem_append.1 hx with hx | hx
      · exact h.2 x hx
      · simp at hx; omega
    have e : unpack [UInt8.ofNat (valB (s.2 ++ [b]))] = s.2 ++ [b] := by
      have : unpack [UInt8.ofNat (valB (s.2 ++ [b]))] = byteBits (UInt8.ofNat (valB (s.2 ++ [b]))) := by simp [unpack]
      rw [this, byteBits_val _ (by simp [h7]) hall]
    rw [unpack_append, e]
    simp
  · simp
theorem unpack_run (bs : List Nat) : ∀ (s : List UInt8 × List Nat), okB s → (∀ b ∈ bs, b ≤ 1) → unpack (runB s bs).1 ++ (runB s bs).2 = unpack s.1 ++ s.2 ++ bs := by
  induction bs with
  | nil => intro s _ _; simp [runB]
  | cons b r ih =>
    intro s h hb
    have h1 := hb b (by simp)
    have := ih (stepB s b) (stepB_ok h h1) (fun x hx => hb x (by simp [hx]))
    have e : runB s (b :: r) = runB (stepB s b) r := rfl
    rw [e, this, unpack_step h h1]
    simp
theorem run_zeros (m : Nat) : ∀ (s : List UInt8 × List Nat), okB s → s.2.length + m = 8 → m ≠ 0 → (runB s (List.replicate m 0)).2 = [] := by
  induction m with
  | zero => intro s _ _ h; exact absurd rfl h
  | succ m ih =>
    intro s h hl _
    have e : runB s (List.replicate (m + 1) 0) = runB (stepB s 0) (List.replicate m 0) := rfl
    rw [e]
    by_cases h7 : s.2.length = 7
    · have hm : m = 0 := by omega
      subst hm
      simp [runB, stepB, h7]
    · have h2 : (stepB s 0).2 = s.2 ++ [0] := by simp [stepB, h7]
      refine ih _ (stepB_ok h (by omega)) (by rw [h2]; simp; omega) (by omega)
theorem unpack_fill {s : List UInt8 × List Nat} (h : okB s) : ∃ z, z < 8 ∧ unpack (fillB s) = unpack s.1 ++ s.2 ++ List.replicate z 0 := by
  by_cases h0 : s.2 = []
  · exact ⟨0, by omega, by rw [fillB_end h0, h0]; simp⟩
  · have hne : s.2.length ≠ 0 := fun e => h0 (List.length_eq_zero_iff.1 e)
    refine ⟨8 - s.2.length, by omega, ?_⟩
    have h8 := h.1
    have hu := unpack_run (List.replicate (8 - s.2.length) 0) s h (by intro b hb; simp at hb; omega)
    have hz := run_zeros (8 - s.2.length) s h (by omega) (by omega)
    rw [hz, List.append_nil] at hu
    rw [fillB, if_neg h0]
    exact hu
theorem unpack_rice (k : Nat) (l : List Nat) : ∃ z, z < 8 ∧ unpack (riceB k l) = bitsOf k l ++ List.replicate z 0 := by
  have hk : okB (runB ([], []) (bitsOf k l)) := runB_ok ⟨by simp, by simp⟩ (bitsOf_ok k l)
  obtain ⟨z, hz, h⟩ := unpack_fill hk
  refine ⟨z, hz, ?_⟩
  rw [riceB, h, unpack_run (bitsOf k l) ([], []) ⟨by simp, by simp⟩ (bitsOf_ok k l)]
  simp [unpack]

/-! ### The program's reader -/
def takeM (k : Nat) : Nat × Bool × Nat → Nat → (Nat × Bool × Nat) × Option Nat
  | (n, true, left), b => if 1 < left then ((n * 2 + b, true, left - 1), none) else ((0, false, 0), some (n * 2 + b))
  | (n, false, left), b => if b = 1 then ((n + 1, false, left), none) else if 0 < k then ((n, true, k), none) else ((0, false, 0), some n)
def readT (k many : Nat) : List Nat → Nat × Bool × Nat → List Nat → List Nat
  | [], _, out => out
  | b :: r, st, out => if out.length = many then out else readT k many r (takeM k st b).1 (out ++ (takeM k st b).2.toList)
theorem readT_ones (k many m : Nat) (rest : List Nat) : ∀ (n : Nat) (out : List Nat), out.length ≠ many → readT k many (List.replicate m 1 ++ rest) (n, false, 0) out = readT k many rest (n + m, false, 0) out := by
  induction m with
  | zero => intro n out _; simp
  | succ m ih =>
    intro n out h
    rw [List.replicate_succ, List.cons_append, readT, if_neg h]
    simp only [takeM, if_true, Option.toList, List.append_nil]
    rw [ih (n + 1) out h, show n + 1 + m = n + (m + 1) from by omega]
theorem readT_low (k many x : Nat) (rest : List Nat) : ∀ (j n : Nat) (out : List Nat), out.length ≠ many → n = x / 2 ^ (j + 1) → readT k many (lowB x (j + 1) ++ rest) (n, true, j + 1) out = readT k many rest (0, false, 0) (out ++ [x]) := by
  intro j
  induction j with
  | zero =>
    intro n out h hn
    rw [show lowB x (0 + 1) = [x / 2 ^ 0 % 2] from rfl, List.cons_append, readT, if_neg h]
    have : n * 2 + x / 2 ^ 0 % 2 = x := by rw [hn]; simp; omega
    simp only [takeM, List.nil_append, show ¬ (1 < 0 + 1) from by omega, if_false, Option.toList, this]
  | succ j ih =>
    intro n out h hn
    rw [show lowB x (j + 1 + 1) = (x / 2 ^ (j + 1) % 2) :: lowB x (j + 1) from rfl, List.cons_append, readT, if_neg h]
    simp only [takeM, show 1 < j + 1 + 1 from by omega, if_true, Option.toList, List.append_nil, show j + 1 + 1 - 1 = j + 1 from by omega]
    refine ih _ out h ?_
    rw [hn, Nat.pow_succ 2 (j + 1), ← Nat.div_div_eq_div_mul]
    omega
theorem readT_num (k many x : Nat) (rest : List Nat) (out : List Nat) (h : out.length ≠ many) : readT k many (numB k x ++ rest) (0, false, 0) out = readT k many rest (0, false, 0) (out ++ [x]) := by
  rw [numB, List.append_assoc, readT_ones k many _ _ 0 out h, List.cons_append, readT, if_neg h, Nat.zero_add]
  cases k with
  | zero => simp [takeM, lowB]
  | succ j =>
    simp only [takeM, show ¬ (0 = 1) from by omega, if_false, show 0 < j + 1 from by omega, if_true, Option.toList, List.append_nil]
    exact readT_low (j + 1) many x rest j _ out h rfl
theorem readT_all (k many : Nat) (l : List Nat) : ∀ (out rest : List Nat), out.length + l.length = many → readT k many (bitsOf k l ++ rest) (0, false, 0) out = out ++ l := by
  induction l with
  | nil =>
    intro out rest h
    have ho : out.length = many := by simpa using h
    cases rest with
    | nil => simp [bitsOf, readT]
    | cons b r => simp [bitsOf, readT, ho]
  | cons x l ih =>
    intro out rest h
    have : bitsOf k (x :: l) = numB k x ++ bitsOf k l := by simp [bitsOf]
    rw [this, List.append_assoc, readT_num k many x _ out (by simp at h; omega), ih (out ++ [x]) rest (by simp at h ⊢; omega)]
    simp
/-- What was written is read. -/
theorem readT_rice (k : Nat) (l : List Nat) : readT k l.length (unpack (riceB k l)) (0, false, 0) [] = l := by
  obtain ⟨z, _, h⟩ := unpack_rice k l
  rw [h, readT_all k l.length l [] _ (by simp)]
  rfl

end Go.Proofs.YtoifgpmbeicmnaaGreatDoor

set_option linter.unusedVariables false
namespace Go.Proofs.YtoifgpmbeicmnaaGreatDoor
open Go.RowKit

theorem lowB_len (x : Nat) : ∀ k, (lowB x k).length = k := by
  intro k
  induction k with
  | zero => rfl
  | succ k ih => simp [lowB, ih]
theorem bitsOf_len (k : Nat) (hk : k ≤ 8) (l : List Nat) (h : ∀ x ∈ l, x ≤ 60000) : (bitsOf k l).length ≤ 60009 * l.length := by
  induction l with
  | nil => simp [bitsOf]
  | cons x r ih =>
    have e : bitsOf k (x :: r) = numB k x ++ bitsOf k r := by simp [bitsOf]
    have h1 := h x (by simp)
    have h2 := ih (fun y hy => h y (by simp [hy]))
    have h3 : x / 2 ^ k ≤ x := Nat.div_le_self _ _
    rw [e, List.length_append, List.length_cons]
    have h4 : (numB k x).length ≤ 60009 := by
      simp [numB, lowB_len]
      omega
    omega
theorem ricePut_len (ns : List Int) (k : Int) : (ricePut ns k).length ≤ 300100 := by
  cases hr : riceOkB ns k with
  | false => rw [ricePut_no hr]; simp
  | true =>
    rw [ricePut_yes hr]
    have hb := riceOk_bits hr
    have hn := riceOk_len hr
    obtain ⟨z, hz, hu⟩ := unpack_rice k.toNat (ns.map Int.toNat)
    have h1 := unpack_length (riceB k.toNat (ns.map Int.toNat))
    rw [hu, List.length_append, List.length_replicate] at h1
    have h2 := bitsOf_len k.toNat (by omega) (ns.map Int.toNat) (by
      intro x hx
      obtain ⟨y, hy, rfl⟩ := List.mem_map.1 hx
      obtain ⟨i, hi, rfl⟩ := List.mem_iff_getElem.1 hy
      have := riceOk_at hr i hi
      rw [List.getD_eq_getElem?_getD, List.getElem?_eq_getElem hi] at this
      simp at this
      omega)
    simp at h2
    omega

def bits4 : List Int := [0, 2, 5, 8]
def more6 : List Int := [0, 0, 0, 0, 1, -1]
theorem more6_in : ∀ i : Fin 6, -1 ≤ more6.getD i.val 0 ∧ more6.getD i.val 0 ≤ 1 := by decide
end Go.Proofs.YtoifgpmbeicmnaaGreatDoor

set_option linter.unusedVariables false
namespace Go.Proofs.YtoifgpmbeicmnaaGreatDoor
open Go.RowKit

end Go.Proofs.YtoifgpmbeicmnaaGreatDoor

set_option linter.unusedVariables false
namespace Go.Proofs.YtoifgpmbeicmnaaGreatDoor
open Go.RowKit

/-- Of what lay there block b alone may have turned. -/
def But (b : Nat) (w w' : World) : Prop := w.heap.size ≤ w'.heap.size ∧ ∀ c, c < w.heap.size → c ≠ b → w'.heap[c]? = w.heap[c]?
theorem But.refl (b : Nat) (w : World) : But b w w := ⟨Nat.le_refl _, fun _ _ _ => rfl⟩
theorem But.trans {b : Nat} {u v w : World} (h : But b u v) (k : But b v w) : But b u w :=
  ⟨Nat.le_trans h.1 k.1, fun c hc hb => (k.2 c (Nat.lt_of_lt_of_le hc h.1) hb).trans (h.2 c hc hb)⟩
theorem Only.but {b : Nat} {w w' : World} (h : Only b w w') : But b w w' := ⟨by rw [h.size]; exact Nat.le_refl _, fun c _ hb => h.block c hb⟩
theorem Below.but {b : Nat} {w w' : World} (h : Below w.heap.size w w') : But b w w' := ⟨h.size, fun c hc _ => h.block c hc⟩
theorem But.alloc (b : Nat) (w : World) (o : Obj) : But b w (w.alloc o) := ⟨by simp, fun c hc _ => Below.heap_alloc _ _ _ hc⟩
theorem SRow.but {B b : Nat} {v : Value} {ss : List ByteArray} {w w' : World} (h : SRow B v ss w) (hk : But b w w') (hb : b < B) : SRow B v ss w' := h.keep (fun g hg hl => hk.2 g hl (by omega))

theorem items12_item : ∀ i : Fin 12, isItem (items12.getD i.val ByteArray.empty).data.toList = true := by decide
theorem filterOf_len (k : List UInt8) (ss : List ByteArray) : (filterOf k ss).length ≤ 300200 := by
  cases h1 : isSum k with
  | false => rw [filterOf_no1 h1]; simp
  | true =>
    cases h2 : itemsOkB ss with
    | false => rw [filterOf_no2 h2]; simp
    | true =>
      rw [filterOf_yes h1 h2, filterB, List.length_append]
      have h3 := (varB_length 4 (setL ss).length).2
      have h4 := ricePut_len (gapsL k ss) 5
      have h5 := gaps_ok h1 h2
      rw [ricePut_yes (riceOk_yes h5.1 (by omega) h5.2)] at h4
      have e : (5 : Int).toNat = 5 := rfl
      rw [e] at h4
      omega

end Go.Proofs.YtoifgpmbeicmnaaGreatDoor

set_option linter.unusedVariables false
namespace Go.Proofs.YtoifgpmbeicmnaaGreatDoor
open Go.RowKit Go.Deep

/-- A block of texts that may be written. -/
def SBk (w : World) (g n : Nat) : Prop := ∃ cur : Array Value, w.heap[g]? = some (.cells cur 9 (0, 0)) ∧ n ≤ cur.size ∧ ∀ i, i < n → ∃ s, cur[i]? = some (.string s)
theorem SBk.lt {w : World} {g n : Nat} (h : SBk w g n) : g < w.heap.size := by
  obtain ⟨cur, h1, _⟩ := h
  rcases Nat.lt_or_ge g w.heap.size with h' | h'
  · exact h'
  · simp [Array.getElem?_eq_none h'] at h1
theorem SBk.keep {w w' : World} {g n : Nat} (h : SBk w g n) (hk : w'.heap[g]? = w.heap[g]?) : SBk w' g n := by
  obtain ⟨cur, h1, h2⟩ := h
  exact ⟨cur, hk.trans h1, h2⟩
theorem SBk.below {w w' : World} {g n B : Nat} (h : SBk w g n) (hb : Below B w w') (hg : g < B) : SBk w' g n := h.keep (hb.block g hg)
theorem SBk.cell {w : World} {g n : Nat} (h : SBk w g n) (i : Nat) (hi : i < n) : (∃ s, w.cell? ⟨g, i, none⟩ = some (.string s)) ∧ w.frozen? ⟨g, i, none⟩ = false := by
  obtain ⟨cur, h1, h2, h3⟩ := h
  exact ⟨by rw [Lib.cell_of_heap h1]; exact h3 i hi, Lib.frozen_of_heap h1 i⟩
theorem SBk.set {w : World} {g n : Nat} (h : SBk w g n) (i : Nat) (s : ByteArray) : SBk (w.setCell ⟨g, i, none⟩ (.string s)) g n := by
  obtain ⟨cur, h1, h2, h3⟩ := h
  refine ⟨cur.setIfInBounds i (.string s), ?_, by simpa using h2, fun j hj => ?_⟩
  · simp [World.setCell, Array.getElem?_modify, h1]
  · rw [Array.getElem?_setIfInBounds]
    split
    · split
      · exact ⟨s, rfl⟩
      · omega
    · exact h3 j hj
theorem SBk.of {w : World} {g : Nat} {l : List ByteArray} (h : RowS w g l) : SBk w g l.length :=
  ⟨_, h, by simp [sCells], fun i hi => ⟨l[i], by simp [sCells, hi]⟩⟩
theorem cell_set_other {w : World} {g i j : Nat} {v : Value} (h : i ≠ j) : (w.setCell ⟨g, i, none⟩ v).cell? ⟨g, j, none⟩ = w.cell? ⟨g, j, none⟩ := by
  simp [World.setCell, World.cell?, Array.getElem?_modify]
  cases hh : w.heap[g]? with
  | none => simp
  | some o => cases o <;> simp [h]

/-- What writing marks into a list of texts leaves. -/
def MSPost (g n k : Nat) (w : World) (e : Ending) (w' : World) : Prop := e = .returned (.int .i64 ((k + n : Nat) : Int)) ∧ SBk w' g n ∧ (∀ i, i < n → w'.cell? ⟨g, i, none⟩ = some (.string (mkS (k + i)))) ∧ But g w w' ∧ (∀ m, SBk w g m → SBk w' g m) ∧ Below 0 w w'
set_option maxHeartbeats 1000000 in
set_option maxRecDepth 100000 in
theorem markStrs (g n cap k : Nat) (w : World) (h : SBk w g n) (hn : n ≤ 1000000000000) (hk : k ≤ 100000000000000000) :
    Calls Tryz.prog 28 #[.slice (some ⟨g, 0, none⟩) n cap, .int .i64 (k : Int)] w fun e w' => MSPost g n k w e w' := by
  have H0 : Hid (SBk w g n) := h
  clear h
  have HQ : Hid (∀ e w', e = .returned (.int .i64 ((k + n : Nat) : Int)) → SBk w' g n → (∀ i, i < n → w'.cell? ⟨g, i, none⟩ = some (.string (mkS (k + i)))) → But g w w' → (∀ m, SBk w g m → SBk w' g m) → Below 0 w w' → MSPost g n k w e w') := fun e w' h1 h2 h3 h4 h5 h6 => ⟨h1, h2, h3, h4, h5, h6⟩
  generalize MSPost g n k w = Q at HQ ⊢
  go_enter Tryz.func28, Tryz.ntmps28
  go_wp2_with fail
  go_loopw [1, 5] (fun m i wr => ∃ j : Nat, j ≤ n ∧ i = .int .i64 (j : Int) ∧ m = .int .i64 ((k + j : Nat) : Int) ∧ Hid (SBk wr g n ∧ (∀ i, i < j → wr.cell? ⟨g, i, none⟩ = some (.string (mkS (k + i)))) ∧ But g w wr ∧ (∀ m, SBk w g m → SBk wr g m) ∧ Below 0 w wr)) (fun _ i _ => n - (intOf i).toNat)
  case atStart => exact ⟨0, by omega, rfl, rfl, H0.out, fun i hi => by omega, But.refl _ _, fun m h => h, Below.refl _ _⟩
  case round =>
    clear H0
    obtain ⟨j, hj, rfl, rfl, HS⟩ := hrel
    by_cases hlt : j < n
    · have hmk := markText (k + j) (by omega) wr
      have lj : (j : Int) < (n : Int) := by omega
      have lj0 : (0 : Int) ≤ (j : Int) := by omega
      have HK1 : Hid (j + 1 ≤ n) := hlt
      have hgl := HS.out.1.lt
      obtain ⟨m, hm⟩ : ∃ m, m = k + j := ⟨_, rfl⟩
      have HM : Hid (m = k + j) := hm
      have HM1 : Hid (((m : Int) + 1) = ((k + (j + 1) : Nat) : Int)) := by show _ = _; omega
      rw [← hm] at hmk ⊢
      have wk : IntKind.i64.wrap ((m : Int) + 1) = (m : Int) + 1 := by rw [IntKind.wrap_i64]; omega
      have wj : IntKind.i64.wrap ((j : Int) + 1) = (j : Int) + 1 := by rw [IntKind.wrap_i64]; omega
      clear hm
      go_wp2_with fail
      refine hmk.mono ?_
      rintro e w1 ⟨rfl, b1⟩
      have HS1 : Hid (SBk w1 g n) := HS.out.1.below b1 hgl
      obtain ⟨⟨so, q0⟩, z0⟩ := HS1.out.cell j hlt
      have HC1 : Hid (∀ i, i < j → w1.cell? ⟨g, i, none⟩ = some (.string (mkS (k + i)))) := fun i hi => (b1.cell (p := ⟨g, i, none⟩) hgl).trans (HS.out.2.1 i hi)
      have HU1 : Hid (But g w w1) := HS.out.2.2.1.trans (Below.but b1)
      have HW1 : Hid (∀ m, SBk w g m → SBk w1 g m) := fun m h => (HS.out.2.2.2.1 m h).below b1 hgl
      have HX1 : Hid (Below 0 w w1) := HS.out.2.2.2.2.trans (b1.mono (Nat.zero_le _))
      have HN : Hid (SBk (w1.setCell ⟨g, j, none⟩ (.string (mkS m))) g n ∧ (∀ i, i < j + 1 → (w1.setCell ⟨g, j, none⟩ (.string (mkS m))).cell? ⟨g, i, none⟩ = some (.string (mkS (k + i)))) ∧ But g w (w1.setCell ⟨g, j, none⟩ (.string (mkS m))) ∧ (∀ q, SBk w g q → SBk (w1.setCell ⟨g, j, none⟩ (.string (mkS m))) g q) ∧ Below 0 w (w1.setCell ⟨g, j, none⟩ (.string (mkS m)))) := by
        refine ⟨HS1.out.set j _, fun i hi => ?_, ?_, fun q hq => (HW1.out q hq).set j _, HX1.out.setCell (p := ⟨g, j, none⟩) (Nat.zero_le _) _⟩
        · rcases Nat.lt_or_ge i j with h' | h'
          · rw [cell_set_other (by omega)]
            exact HC1.out i h'
          · obtain rfl : i = j := by omega
            obtain ⟨cur, h1, h2, _⟩ := HS1.out
            have : (w1.setCell ⟨g, i, none⟩ (.string (mkS m))).heap[g]? = some (.cells (cur.setIfInBounds i (.string (mkS m))) 9 (0, 0)) := by simp [World.setCell, Array.getElem?_modify, h1]
            rw [Lib.cell_of_heap this, HM.out]
            simp [show i < cur.size by omega]
        · refine ⟨Nat.le_trans HU1.out.1 ((Below.refl 0 w1).setCell (p := ⟨g, j, none⟩) (Nat.zero_le _) _).size, fun c hc hne => ?_⟩
          rw [← HU1.out.2 c hc hne]
          simp [World.setCell, Array.getElem?_modify, Ne.symm hne]
      clear hmk HS HS1 HC1 HU1 HW1 HX1 b1
      generalize mkS m = ms at HN ⊢
      go_wp2_with fail
      go_roundw
      case rel => exact ⟨j + 1, HK1.out, by go_num, by show Value.int .i64 _ = Value.int .i64 _; rw [HM1.out], HN⟩
      case measure => have := HK1.out; simp [intOf]; omega
    · obtain rfl : j = n := by omega
      go_wp2_with fail
      exact HQ.out _ _ rfl HS.out.1 HS.out.2.1 HS.out.2.2.1 HS.out.2.2.2.1 HS.out.2.2.2.2

end Go.Proofs.YtoifgpmbeicmnaaGreatDoor

set_option linter.unusedVariables false
namespace Go.Proofs.YtoifgpmbeicmnaaGreatDoor
open Go.RowKit Go.Deep

theorem flat_setV {α : Type} [Inhabited α] (k : Nat) (enc : α → List Value) (hk : ∀ a, (enc a).length = k) : ∀ (l : List α) (i j : Nat) (v : Value) (a : α), i < l.length → j < k → enc a = (enc (l.getD i default)).set j v → (l.flatMap enc).set (i * k + j) v = (l.set i a).flatMap enc
  | [], i, j, v, a, hi, _, _ => by cases hi
  | x :: r, 0, j, v, a, _, hj, he => by
    have he' : enc a = (enc x).set j v := he
    rw [List.flatMap_cons, Nat.zero_mul, Nat.zero_add, List.set_append_left _ _ (by rw [hk]; exact hj), List.set_cons_zero, List.flatMap_cons, he']
  | x :: r, i + 1, j, v, a, hi, hj, he => by
    have e : (i + 1) * k + j = k + (i * k + j) := by rw [Nat.add_mul]; omega
    rw [List.flatMap_cons, List.set_append_right _ _ (by rw [hk, e]; omega), hk, e, Nat.add_sub_cancel_left, flat_setV k enc hk r i j v a (by simpa using hi) hj (by simpa using he), List.set_cons_succ, List.flatMap_cons]
abbrev RowB (w : World) (g : Nat) (l : List BlkV) : Prop := RowF enBlk 48 w g l
theorem RowB.set {w : World} {g : Nat} {l : List BlkV} (h : RowB w g l) (i j : Nat) (v : Value) (b : BlkV) (hi : i < l.length) (hj : j < 6) (he : enBlk b = (enBlk (l.getD i default)).set j v) : RowB (w.setCell ⟨g, i * 6 + j, none⟩ v) g (l.set i b) := by
  unfold RowB RowF at h ⊢
  rw [← flat_setV 6 enBlk enBlk_len l i j v b hi hj he]
  simp [World.setCell, Array.getElem?_modify, h]
def shB (c : BlkV) : Nat × Nat × Nat := (c.g, c.n, c.cap)
theorem sh_set {l : List BlkV} {i : Nat} {b : BlkV} (hi : i < l.length) (h : shB b = shB (l.getD i default)) : (l.set i b).map shB = l.map shB := by
  rw [List.map_set, h]
  rw [List.getD_eq_getElem?_getD, List.getElem?_eq_getElem hi]
  apply List.ext_getElem?
  intro n
  rw [List.getElem?_set]
  split
  · rename_i hin
    subst hin
    simp [hi]
  · rfl
theorem sh_at {l bs : List BlkV} (h : l.map shB = bs.map shB) {i : Nat} (hi : i < bs.length) : shB (l.getD i default) = shB (bs.getD i default) := by
  have hl : i < l.length := by
    have := congrArg List.length h
    rw [List.length_map, List.length_map] at this
    omega
  have e := congrArg (fun q => q[i]?) h
  simp only [List.getElem?_map, List.getElem?_eq_getElem hl, List.getElem?_eq_getElem hi, Option.map_some, Option.some.injEq] at e
  rw [List.getD_eq_getElem?_getD, List.getElem?_eq_getElem hl, List.getD_eq_getElem?_getD, List.getElem?_eq_getElem hi]
  exact e
/-- A list of blocks that may be written, and all else that stands. -/
structure MkB (w0 : World) (g : Nat) (bs cs : List BlkV) (w : World) : Prop where
  row : RowB w g cs
  sh : cs.map shB = bs.map shB
  its : ∀ c ∈ bs, SBk w c.g c.n ∧ c.g ≠ g
  size : w0.heap.size ≤ w.heap.size
  far : ∀ b, b < w0.heap.size → b ≠ g → (∀ c ∈ bs, b ≠ c.g) → w.heap[b]? = w0.heap[b]?
  fr : Below 0 w0 w
theorem MkB.call {w0 w w' : World} {g : Nat} {bs cs : List BlkV} (h : MkB w0 g bs cs w) (hb : Below w.heap.size w w') : MkB w0 g bs cs w' :=
  ⟨h.row.below hb h.row.lt, h.sh, fun c hc => ⟨(h.its c hc).1.below hb (h.its c hc).1.lt, (h.its c hc).2⟩, Nat.le_trans h.size hb.size, fun b h1 h2 h3 => (hb.block b (Nat.lt_of_lt_of_le h1 h.size)).trans (h.far b h1 h2 h3), h.fr.trans (hb.mono (Nat.zero_le _))⟩
theorem MkB.put {w0 w : World} {g : Nat} {bs cs : List BlkV} (h : MkB w0 g bs cs w) (i j : Nat) (v : Value) (b : BlkV) (hi : i < cs.length) (hj : j < 6) (he : enBlk b = (enBlk (cs.getD i default)).set j v) (hs : shB b = shB (cs.getD i default)) : MkB w0 g bs (cs.set i b) (w.setCell ⟨g, i * 6 + j, none⟩ v) := by
  have hsz : (w.setCell ⟨g, i * 6 + j, none⟩ v).heap.size = w.heap.size := by simp [World.setCell]
  refine ⟨h.row.set i j v b hi hj he, (sh_set hi hs).trans h.sh, fun c hc => ⟨(h.its c hc).1.keep ?_, (h.its c hc).2⟩, by rw [hsz]; exact h.size, fun c h1 h2 h3 => ?_, h.fr.setCell (p := ⟨g, i * 6 + j, none⟩) (Nat.zero_le _) _⟩
  · simp [World.setCell, Array.getElem?_modify, Ne.symm (h.its c hc).2]
  · rw [← h.far c h1 h2 h3]
    simp [World.setCell, Array.getElem?_modify, Ne.symm h2]
theorem MkB.items {w0 w w' : World} {g x n k : Nat} {bs cs : List BlkV} {e : Ending} (h : MkB w0 g bs cs w) (hp : MSPost x n k w e w') (hx : ∃ c ∈ bs, c.g = x) (hg : x ≠ g) : MkB w0 g bs cs w' := by
  obtain ⟨_, hs, _, hu, hw, hfr⟩ := hp
  obtain ⟨c0, hc0, hcx⟩ := hx
  refine ⟨?_, h.sh, fun c hc => ⟨?_, (h.its c hc).2⟩, Nat.le_trans h.size hu.1, fun b h1 h2 h3 => (hu.2 b (Nat.lt_of_lt_of_le h1 h.size) (by rw [← hcx]; exact h3 c0 hc0)).trans (h.far b h1 h2 h3), h.fr.trans hfr⟩
  · have := h.row
    unfold RowB RowF at this ⊢
    rw [hu.2 g h.row.lt (Ne.symm hg)]
    exact this
  · by_cases he : c.g = x
    · have := (h.its c hc).1
      rw [he] at this ⊢
      exact hw _ this
    · exact (h.its c hc).1.keep (hu.2 c.g (h.its c hc).1.lt he)
def MkPost (w : World) (g : Nat) (bs : List BlkV) (e : Ending) (w' : World) : Prop := ∃ (k : Nat) (cs : List BlkV), e = .returned (.int .i64 (k : Int)) ∧ MkB w g bs cs w'
theorem MkB.len {w0 w : World} {g : Nat} {bs cs : List BlkV} (h : MkB w0 g bs cs w) : cs.length = bs.length := by
  have := congrArg List.length h.sh
  rwa [List.length_map, List.length_map] at this
theorem set_self {l : List BlkV} {i : Nat} (hi : i < l.length) (b : BlkV) : (l.set i b).getD i default = b := by simp [hi]

set_option maxHeartbeats 4000000 in
set_option maxRecDepth 100000 in
theorem markBlks (g n cap : Nat) (bs : List BlkV) (w : World) (h : MkB w g bs bs w) (hn : n = bs.length) (hm : n ≤ 1048576) (hf : ∀ c ∈ bs, c.n ≤ 1048576) :
    Calls Tryz.prog 10 #[.slice (some ⟨g, 0, none⟩) n cap, .int .i64 1] w fun e w' => MkPost w g bs e w' := by
  have H0 : Hid (MkB w g bs bs w) := h
  have HN : Hid (n = bs.length) := hn
  have HF : Hid (∀ c ∈ bs, c.n ≤ 1048576) := hf
  have HQ : Hid (∀ e w' (k : Nat) cs, e = .returned (.int .i64 (k : Int)) → MkB w g bs cs w' → MkPost w g bs e w') := fun e w' k cs h1 h2 => ⟨k, cs, h1, h2⟩
  generalize MkPost w g bs = Q at HQ ⊢
  clear h hn hf
  go_enter Tryz.func10, Tryz.ntmps10
  go_wp2_with fail
  go_loopw [1, 5] (fun m i wr => ∃ (j k : Nat) (cs : List BlkV), j ≤ n ∧ i = .int .i64 (j : Int) ∧ m = .int .i64 (k : Int) ∧ k ≤ 1 + j * 1048581 ∧ Hid (MkB w g bs cs wr)) (fun _ i _ => n - (intOf i).toNat)
  case atStart => exact ⟨0, 1, bs, by omega, rfl, rfl, by omega, H0⟩
  case round =>
    clear H0
    obtain ⟨j, m, cs, hj, rfl, rfl, hk, HM⟩ := hrel
    by_cases hlt : j < n
    · have HJL : Hid (j < cs.length) := by show _ < _; rw [HM.out.len, ← HN.out]; exact hlt
      have hjb : j < bs.length := by rw [← HN.out]; exact hlt
      have hshj := sh_at HM.out.sh hjb
      have hmem : bs.getD j default ∈ bs := by rw [List.getD_eq_getElem?_getD, List.getElem?_eq_getElem hjb]; exact List.getElem_mem hjb
      have HIT : Hid (∀ c0 : BlkV, shB c0 = shB (cs.getD j default) → (∃ c ∈ bs, c.g = c0.g) ∧ c0.g ≠ g ∧ c0.n ≤ 1048576 ∧ ∀ w' ds, MkB w g bs ds w' → SBk w' c0.g c0.n) := by
        intro c0 hc0
        have e := hc0.trans hshj
        simp only [shB, Prod.mk.injEq] at e
        refine ⟨⟨_, hmem, e.1.symm⟩, ?_, ?_, fun w' ds hd => ?_⟩
        · rw [e.1]; exact (HM.out.its _ hmem).2
        · rw [e.2.1]; exact HF.out _ hmem
        · rw [e.1, e.2.1]; exact (hd.its _ hmem).1
      have hmk0 := fun w' => markText m (by omega) w'
      have hmk1 := fun w' => markText (m + 1) (by omega) w'
      have lj : (j : Int) < (n : Int) := by omega
      have lj0 : (0 : Int) ≤ (j : Int) := by omega
      have wj : IntKind.i64.wrap ((j : Int) + 1) = (j : Int) + 1 := by rw [IntKind.wrap_i64]; omega
      have HK1 : Hid (j + 1 ≤ n) := hlt
      have HKB : Hid (m + 5 ≤ 1 + j * 1048581 + 5) := by show _ ≤ _; omega
      obtain ⟨m1, hm1⟩ : ∃ m1, m1 = m + 1 := ⟨_, rfl⟩
      obtain ⟨m2, hm2⟩ : ∃ m2, m2 = m + 2 := ⟨_, rfl⟩
      obtain ⟨m3, hm3⟩ : ∃ m3, m3 = m + 3 := ⟨_, rfl⟩
      obtain ⟨m4, hm4⟩ : ∃ m4, m4 = m + 4 := ⟨_, rfl⟩
      obtain ⟨m5, hm5⟩ : ∃ m5, m5 = m + 5 := ⟨_, rfl⟩
      rw [← hm1] at hmk1
      rw [← hm5] at HKB
      have v1 : IntKind.i64.wrap ((m : Int) + 1) = (m1 : Int) := by rw [IntKind.wrap_i64]; omega
      have v2 : IntKind.i64.wrap ((m1 : Int) + 1) = (m2 : Int) := by rw [IntKind.wrap_i64]; omega
      have v3 : IntKind.i64.wrap ((m2 : Int) + 1) = (m3 : Int) := by rw [IntKind.wrap_i64]; omega
      have v4 : IntKind.i64.wrap ((m3 : Int) + 1) = (m4 : Int) := by rw [IntKind.wrap_i64]; omega
      have v5 : IntKind.i64.wrap ((m4 : Int) + 1) = (m5 : Int) := by rw [IntKind.wrap_i64]; omega
      have hm5l : m5 ≤ 100000000000000000 := by omega
      clear hm1 hm2 hm3 hm4 hm5 hshj hmem hjb
      generalize mkS m = s0 at hmk0
      generalize mkS m1 = s1 at hmk1
      go_wp2_with fail
      refine (hmk0 _).mono ?_
      rintro e w1 ⟨rfl, b1⟩
      have HM1 : Hid (MkB w g bs cs w1) := HM.out.call b1
      have d0 := AtBlk.c0 (HM1.out.row.at 6 enBlk_len) j HJL.out
      have d1 := AtBlk.c1 (HM1.out.row.at 6 enBlk_len) j HJL.out
      have d2 := AtBlk.c2 (HM1.out.row.at 6 enBlk_len) j HJL.out
      have d3 := AtBlk.c3 (HM1.out.row.at 6 enBlk_len) j HJL.out
      have d4 := AtBlk.c4 (HM1.out.row.at 6 enBlk_len) j HJL.out
      have d5 := AtBlk.c5 (HM1.out.row.at 6 enBlk_len) j HJL.out
      have f0 := HM1.out.row.frozen (j * 6)
      have f1 := HM1.out.row.frozen (j * 6 + 1)
      have f2 := HM1.out.row.frozen (j * 6 + 2)
      have f3 := HM1.out.row.frozen (j * 6 + 3)
      have f4 := HM1.out.row.frozen (j * 6 + 4)
      have f5 := HM1.out.row.frozen (j * 6 + 5)
      generalize hco : cs.getD j default = co at d0 d1 d2 d3 d4 d5
      have HCO : Hid (cs.getD j default = co) := hco
      clear hco
      obtain ⟨⟨op, orr, ot, od, on⟩, og, oN, oc, os⟩ := co
      dsimp only at d0 d1 d2 d3 d4 d5
      have HM2 : Hid (MkB w g bs (cs.set j ⟨⟨s0, orr, ot, od, on⟩, og, oN, oc, os⟩) (w1.setCell ⟨g, j * 6, none⟩ (.string s0))) := HM1.out.put j 0 _ _ HJL.out (by decide) (by rw [HCO.out]; rfl) (by rw [HCO.out]; rfl)
      have HJ2 : Hid (j < (cs.set j ⟨⟨s0, orr, ot, od, on⟩, og, oN, oc, os⟩).length) := by show _ < _; rw [List.length_set]; exact HJL.out
      have HG2 : Hid ((cs.set j ⟨⟨s0, orr, ot, od, on⟩, og, oN, oc, os⟩).getD j default = ⟨⟨s0, orr, ot, od, on⟩, og, oN, oc, os⟩) := set_self HJL.out _
      have HIT2 := HIT.out ⟨⟨op, orr, ot, od, on⟩, og, oN, oc, os⟩ (by rw [HCO.out])
      clear HM HM1 b1 hmk0 HIT HCO
      go_wp2_with fail
      clear d0 d1 d2 d3 d4 d5 f0 f1 f2 f3 f4 f5
      generalize cs.set j ⟨⟨s0, orr, ot, od, on⟩, og, oN, oc, os⟩ = cs2 at HM2 HJ2 HG2
      refine (hmk1 _).mono ?_
      rintro e w2 ⟨rfl, b2⟩
      have HM3 : Hid (MkB w g bs cs2 w2) := HM2.out.call b2
      have d0 := AtBlk.c0 (HM3.out.row.at 6 enBlk_len) j HJ2.out
      have d1 := AtBlk.c1 (HM3.out.row.at 6 enBlk_len) j HJ2.out
      have d2 := AtBlk.c2 (HM3.out.row.at 6 enBlk_len) j HJ2.out
      have d3 := AtBlk.c3 (HM3.out.row.at 6 enBlk_len) j HJ2.out
      have d4 := AtBlk.c4 (HM3.out.row.at 6 enBlk_len) j HJ2.out
      have d5 := AtBlk.c5 (HM3.out.row.at 6 enBlk_len) j HJ2.out
      have f0 := HM3.out.row.frozen (j * 6)
      have f1 := HM3.out.row.frozen (j * 6 + 1)
      have f2 := HM3.out.row.frozen (j * 6 + 2)
      have f3 := HM3.out.row.frozen (j * 6 + 3)
      have f4 := HM3.out.row.frozen (j * 6 + 4)
      have f5 := HM3.out.row.frozen (j * 6 + 5)
      rw [HG2.out] at d0 d1 d2 d3 d4 d5
      dsimp only at d0 d1 d2 d3 d4 d5
      have P1 : Hid (MkB w g bs (cs2.set j ⟨⟨s0, s1, ot, od, on⟩, og, oN, oc, os⟩) (w2.setCell ⟨g, j * 6 + 1, none⟩ (.string s1))) := HM3.out.put j 1 _ _ HJ2.out (by decide) (by rw [HG2.out]; rfl) (by rw [HG2.out]; rfl)
      have N1 : Hid (j < (cs2.set j ⟨⟨s0, s1, ot, od, on⟩, og, oN, oc, os⟩).length ∧ (cs2.set j ⟨⟨s0, s1, ot, od, on⟩, og, oN, oc, os⟩).getD j default = ⟨⟨s0, s1, ot, od, on⟩, og, oN, oc, os⟩) := ⟨by rw [List.length_set]; exact HJ2.out, set_self HJ2.out _⟩
      generalize cs2.set j ⟨⟨s0, s1, ot, od, on⟩, og, oN, oc, os⟩ = x1 at P1 N1
      have P2 : Hid (MkB w g bs (x1.set j ⟨⟨s0, s1, (m2 : Int), od, on⟩, og, oN, oc, os⟩) ((w2.setCell ⟨g, j * 6 + 1, none⟩ (.string s1)).setCell ⟨g, j * 6 + 2, none⟩ (.int .i64 (m2 : Int)))) := P1.out.put j 2 _ _ N1.out.1 (by decide) (by rw [N1.out.2]; rfl) (by rw [N1.out.2]; rfl)
      have N2 : Hid (j < (x1.set j ⟨⟨s0, s1, (m2 : Int), od, on⟩, og, oN, oc, os⟩).length ∧ (x1.set j ⟨⟨s0, s1, (m2 : Int), od, on⟩, og, oN, oc, os⟩).getD j default = ⟨⟨s0, s1, (m2 : Int), od, on⟩, og, oN, oc, os⟩) := ⟨by rw [List.length_set]; exact N1.out.1, set_self N1.out.1 _⟩
      generalize x1.set j ⟨⟨s0, s1, (m2 : Int), od, on⟩, og, oN, oc, os⟩ = x2 at P2 N2
      have P3 : Hid (MkB w g bs (x2.set j ⟨⟨s0, s1, (m2 : Int), (m3 : Int), on⟩, og, oN, oc, os⟩) (((w2.setCell ⟨g, j * 6 + 1, none⟩ (.string s1)).setCell ⟨g, j * 6 + 2, none⟩ (.int .i64 (m2 : Int))).setCell ⟨g, j * 6 + 3, none⟩ (.int .i64 (m3 : Int)))) := P2.out.put j 3 _ _ N2.out.1 (by decide) (by rw [N2.out.2]; rfl) (by rw [N2.out.2]; rfl)
      have N3 : Hid (j < (x2.set j ⟨⟨s0, s1, (m2 : Int), (m3 : Int), on⟩, og, oN, oc, os⟩).length ∧ (x2.set j ⟨⟨s0, s1, (m2 : Int), (m3 : Int), on⟩, og, oN, oc, os⟩).getD j default = ⟨⟨s0, s1, (m2 : Int), (m3 : Int), on⟩, og, oN, oc, os⟩) := ⟨by rw [List.length_set]; exact N2.out.1, set_self N2.out.1 _⟩
      generalize x2.set j ⟨⟨s0, s1, (m2 : Int), (m3 : Int), on⟩, og, oN, oc, os⟩ = x3 at P3 N3
      have P4 : Hid (MkB w g bs (x3.set j ⟨⟨s0, s1, (m2 : Int), (m3 : Int), (m4 : Int)⟩, og, oN, oc, os⟩) ((((w2.setCell ⟨g, j * 6 + 1, none⟩ (.string s1)).setCell ⟨g, j * 6 + 2, none⟩ (.int .i64 (m2 : Int))).setCell ⟨g, j * 6 + 3, none⟩ (.int .i64 (m3 : Int))).setCell ⟨g, j * 6 + 4, none⟩ (.int .i64 (m4 : Int)))) := P3.out.put j 4 _ _ N3.out.1 (by decide) (by rw [N3.out.2]; rfl) (by rw [N3.out.2]; rfl)
      have hms := markStrs og oN oc m5 _ (HIT2.2.2.2 _ _ P4.out) (by have := HIT2.2.2.1; omega) hm5l
      have HP5 : Hid (∀ e w', MSPost og oN m5 ((((w2.setCell ⟨g, j * 6 + 1, none⟩ (.string s1)).setCell ⟨g, j * 6 + 2, none⟩ (.int .i64 (m2 : Int))).setCell ⟨g, j * 6 + 3, none⟩ (.int .i64 (m3 : Int))).setCell ⟨g, j * 6 + 4, none⟩ (.int .i64 (m4 : Int))) e w' → ∃ ds, MkB w g bs ds w') := fun e w' hp => ⟨_, P4.out.items hp HIT2.1 HIT2.2.1⟩
      have HON : Hid (oN ≤ 1048576) := HIT2.2.2.1
      clear HM2 HM3 b2 hmk1 P1 P2 P3 P4 N1 N2 N3 HIT2 HG2 HJ2
      go_wp2_with fail
      refine hms.mono ?_
      intro e w3 hp3
      obtain ⟨ds, HD⟩ := HP5.out e w3 hp3
      have HD3 : Hid (MkB w g bs ds w3) := HD
      obtain ⟨rfl, _⟩ := hp3
      obtain ⟨m6, hm6⟩ : ∃ m6, m6 = m5 + oN := ⟨_, rfl⟩
      rw [← hm6]
      have HM6 : Hid (m6 ≤ 1 + (j + 1) * 1048581) := by
        show _ ≤ _
        have := HKB.out
        have := HON.out
        omega
      clear hms HP5 HD hm6 d0 d1 d2 d3 d4 d5 f0 f1 f2 f3 f4 f5
      go_wp2_with fail
      go_roundw
      case rel => exact ⟨j + 1, m6, ds, HK1.out, by go_num, rfl, HM6.out, HD3⟩
      case measure => have := HK1.out; simp [intOf]; omega
    · obtain rfl : j = n := by omega
      go_wp2_with fail
      exact HQ.out _ _ m cs rfl HM.out

end Go.Proofs.YtoifgpmbeicmnaaGreatDoor

set_option linter.unusedVariables false
namespace Go.Proofs.YtoifgpmbeicmnaaGreatDoor
open Go.RowKit Go.Deep

theorem below_ofH {B : Nat} {w w' : World} (h : Below 0 w w') (hk : ∀ b, b < B → w'.heap[b]? = w.heap[b]?) : Below B w w' := ⟨h.os, h.tape, h.output, h.size, hk⟩
theorem findL_len {it : ByteArray} {ls : List LBlk} {len : Nat} (hs : ∀ i, i < len → smallL (ls.getD i default)) (hl : ls.length = len) : (findL it (ptsL ls)).length ≤ 1073741824 := by
  unfold findL
  split
  · rename_i h
    rw [okP, Bool.and_eq_true, decide_eq_true_eq] at h
    have h1 := ck_len h.1
    rw [List.length_map] at h1
    have h2 := fdT_len (it := it) (ps := ptsL ls) (fun p hp => by
      obtain ⟨b, hb, rfl⟩ := List.mem_map.1 hp
      obtain ⟨j, hj, rfl⟩ := List.mem_iff_getElem.1 hb
      have h3 := (hs j (by omega)).2.1
      rw [List.getD_eq_getElem?_getD, List.getElem?_eq_getElem hj] at h3
      have h4 : (ls[j].zs.take ls[j].n).length ≤ ls[j].n := by rw [List.length_take]; omega
      exact Nat.le_trans h4 h3) (ptsL ls).length (Nat.le_refl _)
    omega
  · exact Nat.zero_le _

end Go.Proofs.YtoifgpmbeicmnaaGreatDoor

set_option linter.unusedVariables false
namespace Go.Proofs.YtoifgpmbeicmnaaGreatDoor
open Go.ChangeShapes Go.WideShapes Go.ChangeAt Go.RowKit Go.Deep

/-- An answer in its block. -/
structure AnsP (w : World) (g B : Nat) (u1 u2 u3 : Value) (v : PdV) : Prop where
  k : CBk w g 31 (pdCells v u1 u2 u3)
  p : Pks B u1 v.pk w
  s : Pks B u2 v.st w
  d : Sds B u3 v.sd w
theorem AnsP.below {w w' : World} {g B : Nat} {u1 u2 u3 : Value} {v : PdV} (h : AnsP w g B u1 u2 u3 v) (hb : Below w.heap.size w w') : AnsP w' g B u1 u2 u3 v := ⟨h.k.call hb, h.p.below hb, h.s.below hb, h.d.below hb⟩
theorem AnsP.keep {w w' : World} {g B : Nat} {u1 u2 u3 : Value} {v : PdV} (h : AnsP w g B u1 u2 u3 v) (hs : w.heap.size ≤ w'.heap.size) (hg : w'.heap[g]? = w.heap[g]?) (h1 : ∀ b, blkOf u1 b → w'.heap[b]? = w.heap[b]?) (h2 : ∀ b, blkOf u2 b → w'.heap[b]? = w.heap[b]?) (h3 : ∀ b, blkS u3 b → w'.heap[b]? = w.heap[b]?) : AnsP w' g B u1 u2 u3 v := ⟨hg.trans h.k, h.p.keep hs h1, h.s.keep hs h2, h.d.keep hs h3⟩
theorem AnsP.new {w : World} {B : Nat} {u1 u2 u3 : Value} {v : PdV} (h1 : Pks B u1 v.pk w) (h2 : Pks B u2 v.st w) (h3 : Sds B u3 v.sd w) : AnsP (w.alloc (.cells (pdCells v u1 u2 u3) 31)) w.heap.size B u1 u2 u3 v :=
  have hb : Below w.heap.size w (w.alloc (.cells (pdCells v u1 u2 u3) 31)) := (Below.refl _ w).alloc (Nat.le_refl _) _
  ⟨CBk.new w _ _, h1.below hb, h2.below hb, h3.below hb⟩
theorem paidOfL_len (ps : List (HeadV × List ByteArray)) (x y : Int) : (paidOfL ps x y).pk.length ≤ 1048576 ∧ (paidOfL ps x y).st.length ≤ 1048576 ∧ (paidOfL ps x y).sd.length ≤ 1048576 := by
  by_cases h : inPd ps x y
  · obtain ⟨hh, hi⟩ := inPd_facts h
    have h1 := heads_len hh
    rw [List.length_map] at h1
    have h2 := ofP_len_le (ps.map (·.1)) ps.length
    have h3 := notes_len (heads_at hh) (by rw [List.length_map]; exact h1) x.toNat ps.length (by rw [List.length_map]; exact Nat.le_refl _)
    have hx : x.toNat < ps.length := by have := h.2.1; omega
    have h4 := itemsOk_len (hi (ps.getD x.toNat default) (by rw [List.getD_eq_getElem?_getD, List.getElem?_eq_getElem hx]; exact List.getElem_mem hx))
    have h5 := sidesR_len (ps.getD x.toNat default).2.length ((ps.getD x.toNat default).2.map rootItemB) y.toNat (by rw [List.length_map]; have := h.2.2; omega)
    rw [List.length_map] at h5
    rw [paidOfL, if_pos h]
    exact ⟨by show (ofP _ _).length ≤ _; omega, by show (notesN _ _ _).length ≤ _; omega, by show (sidesR _ _ _).length ≤ _; omega⟩
  · rw [paidOfL_no h]
    exact ⟨Nat.zero_le _, Nat.zero_le _, Nat.zero_le _⟩
set_option maxHeartbeats 8000000 in
set_option maxRecDepth 100000 in
theorem walk_FnExactPaidOf (a : Option Addr) (len cap : Nat) (ls : List LBlk) (x y : Int) (w : World) (h : IsBlks w a len cap ls) (hK : RowG w shaK) (hP : TabP w) (hE : ErrT w) :
    Calls Tryz.prog 3 #[.slice a len cap, .int .i64 x, .int .i64 y] w fun e w' => e = .returned (.bool true) ∧ Below w.heap.size w w' := by
  have HL : Hid (ls.length = len) := h.len
  have hsz := szBlks 1048576 (Nat.le_refl _) a len cap ls w h
  have HTO : Hid (len ≤ 1048576 → (∀ i, i < len → smallL (ls.getD i default)) → ∀ w', Below w.heap.size w w' → Calls Tryz.prog 6 #[.slice a len cap] w' fun e w'' => ∃ cs, e = .returned (.slice (some ⟨w'.heap.size, 0, none⟩) len len) ∧ CopyB w'.heap.size w'.heap.size len ls cs w'' ∧ Below w'.heap.size w' w'') := fun hn hs w' hb => toBlks a len cap ls w' w h hb hn hs
  have HSP : Hid (len ≤ 1048576 → (∀ i, i < len → smallL (ls.getD i default)) → ∀ (B g : Nat) cs w', CopyB B g len ls cs w' → Calls Tryz.prog 5 #[.slice (some ⟨g, 0, none⟩) len len, .int .i64 x, .int .i64 y] w' fun e w'' => PdPost w'.heap.size (paidOfL (ptsL ls) x y) w' e w'') := fun hn hs B g cs w' hc => by
    have := specPaidOf g len len cs x y w' (hc.blksS hn HL.out hs)
    have e : ptsOf cs = ptsL ls := hc.pts
    rw [e] at this
    exact this.mono fun e w'' h => h.1
  have HIM : Hid (len ≤ 1048576 → (∀ i, i < len → smallL (ls.getD i default)) → ∀ (B g : Nat) cs w', Below w.heap.size w w' → CopyB B g len ls cs w' → Calls Tryz.prog 7 #[.slice (some ⟨g, 0, none⟩) len len, .int .i64 x, .int .i64 y] w' fun e w'' => PdPost w'.heap.size (paidOfL (ptsL ls) x y) w' e w'' ∧ Dis3 (paidOfL (ptsL ls) x y) e) := fun hn hs B g cs w' hb hc => by
    have := implPaidOf g len len cs x y w' (hc.blksS hn HL.out hs) (hK.below hb hK.lt) (TabP.below hP hb (Nat.le_refl _)) (hE.below hb hE.lt)
    have e : ptsOf cs = ptsL ls := hc.pts
    rw [e] at this
    exact this.mono fun e w'' h => ⟨h.1, h.2 trivial⟩
  have HML : Hid ((paidOfL (ptsL ls) x y).pk.length ≤ 1048576 ∧ (paidOfL (ptsL ls) x y).st.length ≤ 1048576 ∧ (paidOfL (ptsL ls) x y).sd.length ≤ 1048576) := paidOfL_len _ x y
  unfold PdPost pdCells at HSP HIM
  clear h hK hP hE
  generalize paidOfL (ptsL ls) x y = V at HSP HIM HML
  go_enter Tryz.func3, Tryz.ntmps3
  go_wp2_with fail
  refine hsz.mono ?_
  rintro e w1 ⟨b1, rfl | ⟨r, rfl, hr, hn, hs⟩⟩
  · go_wp2_with fail
    go_ret
    exact ⟨rfl, b1⟩
  have HS : Hid (∀ i, i < len → smallL (ls.getD i default)) := hs
  have HT1 : Hid _ := HTO.out hn hs
  have HI1 : Hid _ := HIM.out hn hs
  have HS1 : Hid _ := HSP.out hn hs
  have hr0 : ¬ (r : Int) < 0 := by omega
  have HB1 : Hid (Below w.heap.size w w1) := b1
  clear hsz HTO HIM HSP b1 hs
  go_wp2_with fail
  refine (HT1.out _ HB1.out).mono ?_
  rintro e w2 ⟨cs2, rfl, C2, b2⟩
  have HB2 : Hid (Below w.heap.size w w2) := HB1.out.trans (b2.mono HB1.out.size)
  have hsp := HS1.out _ _ _ _ C2
  clear b2 C2 HB1 HS1
  generalize w1.heap.size = g1 at hsp ⊢
  go_wp2_with fail
  refine Calls.mono hsp ?_
  rintro e w3 ⟨u1, u2, u3, rfl, p3, s3, d3, b3⟩
  obtain ⟨ua, un, uc, rfl⟩ := pks_slice p3
  obtain ⟨va, vn, vc, rfl⟩ := pks_slice s3
  obtain ⟨ta, tn, tc, rfl⟩ := sds_slice d3
  have HB3 : Hid (Below w.heap.size w w3) := HB2.out.trans (b3.mono HB2.out.size)
  have A4 : Hid (AnsP (w3.alloc (.cells #[.int .i64 V.a, .string V.h.prev, .string V.h.root, .int .i64 V.h.time, .int .i64 V.h.diff, .int .i64 V.h.nonce, .slice ua un uc, .slice va vn vc, .slice ta tn tc] 31)) w3.heap.size 0 (.slice ua un uc) (.slice va vn vc) (.slice ta tn tc) V) := AnsP.new (p3.mono (Nat.zero_le _)) (s3.mono (Nat.zero_le _)) (d3.mono (Nat.zero_le _))
  have HB4 : Hid (Below w.heap.size w (w3.alloc (.cells #[.int .i64 V.a, .string V.h.prev, .string V.h.root, .int .i64 V.h.time, .int .i64 V.h.diff, .int .i64 V.h.nonce, .slice ua un uc, .slice va vn vc, .slice ta tn tc] 31))) := HB3.out.alloc HB3.out.size _
  clear HB2 b3 p3 s3 d3 hsp
  go_upto_region 6 with fail
  generalize w3.alloc (.cells #[.int .i64 V.a, .string V.h.prev, .string V.h.root, .int .i64 V.h.time, .int .i64 V.h.diff, .int .i64 V.h.nonce, .slice ua un uc, .slice va vn vc, .slice ta tn tc] 31) = w4 at A4 HB4 ⊢
  obtain ⟨g6, hg6⟩ : ∃ g6, g6 = w3.heap.size := ⟨_, rfl⟩
  rw [← hg6] at A4 ⊢
  clear hg6 HB3 w3
  go_wp2_with fail
  refine (HT1.out _ HB4.out).mono ?_
  rintro e w5 ⟨cs5, rfl, C5, b5⟩
  obtain ⟨g8, hg8⟩ : ∃ g8, g8 = w4.heap.size := ⟨_, rfl⟩
  have HV5 : Hid (g6 < g8 ∧ (∀ b, blkOf (.slice ua un uc) b → b < g8) ∧ (∀ b, blkOf (.slice va vn vc) b → b < g8) ∧ (∀ b, blkS (.slice ta tn tc) b → b < g8)) := by
    rw [hg8]
    exact ⟨A4.out.k.lt, fun b hb => (A4.out.p.blk hb).1, fun b hb => (A4.out.s.blk hb).1, fun b hb => (A4.out.d.blk hb).1⟩
  have HG5 : Hid (w.heap.size ≤ g8) := by show _ ≤ _; rw [hg8]; exact HB4.out.size
  have HB5 : Hid (Below w.heap.size w w5) := HB4.out.trans (b5.mono HB4.out.size)
  have A5 : Hid (AnsP w5 g6 0 (.slice ua un uc) (.slice va vn vc) (.slice ta tn tc) V) := A4.out.below b5
  rw [← hg8] at C5 ⊢
  clear hg8
  have HC5 : Hid (CopyB g8 g8 len ls cs5 w5) := C5
  have HI5 : Hid (∀ c ∈ cs5, c.g < w5.heap.size) := fun c hc => (C5.items c hc).1.lt
  have HCG : Hid (∀ c ∈ cs5, g8 < c.g) := fun c hc => (C5.items c hc).2.2.2
  have HR5 : Hid (g8 < w5.heap.size) := C5.row.lt
  have him := HI1.out _ _ _ _ HB5.out C5
  clear HB4 A4 b5 C5
  go_wp2_with fail
  refine Calls.mono him ?_
  rintro e w6 ⟨⟨i1, i2, i3, rfl, p6, s6, e6, b6⟩, dd6⟩
  obtain ⟨ia, im, ic, rfl⟩ := pks_slice p6
  obtain ⟨ja, jm, jc, rfl⟩ := pks_slice s6
  obtain ⟨ka, km, kc, rfl⟩ := sds_slice e6
  have HD6 : Hid (∀ b, blkOf (.slice ia im ic) b → ¬ blkOf (.slice ja jm jc) b) := fun b h => ((dd6 _ _ _ b rfl).1 h).1
  obtain ⟨h5, hh5⟩ : ∃ h5, h5 = w5.heap.size := ⟨_, rfl⟩
  have HB6 : Hid (Below w.heap.size w w6) := HB5.out.trans (b6.mono HB5.out.size)
  have hnew : Below w6.heap.size w6 (w6.alloc (.cells #[.int .i64 V.a, .string V.h.prev, .string V.h.root, .int .i64 V.h.time, .int .i64 V.h.diff, .int .i64 V.h.nonce, .slice ia im ic, .slice ja jm jc, .slice ka km kc] 31)) := (Below.refl _ w6).alloc (Nat.le_refl _) _
  have HB7 : Hid (Below w.heap.size w (w6.alloc (.cells #[.int .i64 V.a, .string V.h.prev, .string V.h.root, .int .i64 V.h.time, .int .i64 V.h.diff, .int .i64 V.h.nonce, .slice ia im ic, .slice ja jm jc, .slice ka km kc] 31))) := HB6.out.alloc HB6.out.size _
  have X7 : Hid (AnsP (w6.alloc (.cells #[.int .i64 V.a, .string V.h.prev, .string V.h.root, .int .i64 V.h.time, .int .i64 V.h.diff, .int .i64 V.h.nonce, .slice ia im ic, .slice ja jm jc, .slice ka km kc] 31)) w6.heap.size h5 (.slice ia im ic) (.slice ja jm jc) (.slice ka km kc) V) := by rw [hh5]; exact AnsP.new p6 s6 e6
  have A7 : Hid (AnsP (w6.alloc (.cells #[.int .i64 V.a, .string V.h.prev, .string V.h.root, .int .i64 V.h.time, .int .i64 V.h.diff, .int .i64 V.h.nonce, .slice ia im ic, .slice ja jm jc, .slice ka km kc] 31)) g6 0 (.slice ua un uc) (.slice va vn vc) (.slice ta tn tc) V) := (A5.out.below b6).below hnew
  have HC7 : Hid (CopyB g8 g8 len ls cs5 (w6.alloc (.cells #[.int .i64 V.a, .string V.h.prev, .string V.h.root, .int .i64 V.h.time, .int .i64 V.h.diff, .int .i64 V.h.nonce, .slice ia im ic, .slice ja jm jc, .slice ka km kc] 31))) := (HC5.out.below b6).below hnew
  have HV8 : Hid (g8 < h5 ∧ (∀ c ∈ cs5, c.g < h5) ∧ h5 ≤ w6.heap.size ∧ (∀ b, blkOf (.slice ia im ic) b → h5 ≤ b ∧ b < w6.heap.size) ∧ (∀ b, blkOf (.slice ja jm jc) b → h5 ≤ b ∧ b < w6.heap.size) ∧ (∀ b, blkS (.slice ka km kc) b → h5 ≤ b ∧ b < w6.heap.size)) := by
    rw [hh5]
    exact ⟨HR5.out, HI5.out, b6.size, fun b hb => ⟨(p6.blk hb).2, (p6.blk hb).1⟩, fun b hb => ⟨(s6.blk hb).2, (s6.blk hb).1⟩, fun b hb => ⟨(e6.blk hb).2, (e6.blk hb).1⟩⟩
  clear HB5 A5 HC5 HI5 HR5 hh5 p6 s6 e6 b6 dd6 him HB6 hnew
  go_upto_region 8 with fail
  generalize w6.alloc (.cells #[.int .i64 V.a, .string V.h.prev, .string V.h.root, .int .i64 V.h.time, .int .i64 V.h.diff, .int .i64 V.h.nonce, .slice ia im ic, .slice ja jm jc, .slice ka km kc] 31) = w7 at HB7 X7 A7 HC7 ⊢
  obtain ⟨g9, hg9⟩ : ∃ g9, g9 = w6.heap.size := ⟨_, rfl⟩
  rw [← hg9] at X7 HV8 ⊢
  clear hg9 w6
  obtain ⟨e0, e1, e2, e3, e4, e5, e6, e7, e8⟩ := CBk.nineP A7.out.k
  obtain ⟨f0, f1, f2, f3, f4, f5, f6, f7, f8⟩ := CBk.nineP X7.out.k
  have heq := eqPaidP X7.out.p X7.out.s X7.out.d A7.out.p A7.out.s A7.out.d HML.out.1 HML.out.2.1 HML.out.2.2
  unfold pdCells at heq
  go_wp2_with fail
  refine heq.mono ?_
  rintro e w8 ⟨rfl, b8⟩
  have HB8 : Hid (Below w.heap.size w w8) := HB7.out.trans (b8.mono HB7.out.size)
  have X8 : Hid (AnsP w8 g9 h5 (.slice ia im ic) (.slice ja jm jc) (.slice ka km kc) V) := X7.out.below b8
  have A8 : Hid (AnsP w8 g6 0 (.slice ua un uc) (.slice va vn vc) (.slice ta tn tc) V) := A7.out.below b8
  have HC8 : Hid (CopyB g8 g8 len ls cs5 w8) := HC7.out.below b8
  clear HB7 X7 A7 HC7 e0 e1 e2 e3 e4 e5 e6 e7 e8 f0 f1 f2 f3 f4 f5 f6 f7 f8 heq b8
  go_wp2_with fail
  refine (HT1.out _ HB8.out).mono ?_
  rintro e w9 ⟨cs9, rfl, C9, b9⟩
  have HB9 : Hid (Below w.heap.size w w9) := HB8.out.trans (b9.mono HB8.out.size)
  have X9 : Hid (AnsP w9 g9 h5 (.slice ia im ic) (.slice ja jm jc) (.slice ka km kc) V) := X8.out.below b9
  have A9 : Hid (AnsP w9 g6 0 (.slice ua un uc) (.slice va vn vc) (.slice ta tn tc) V) := A8.out.below b9
  have D5 := HC8.out.below b9
  have HC9 : Hid (CopyB g8 g8 len ls cs5 w9) := D5
  have heq := eqBlks g8 w8.heap.size len len len cs5 cs9 w9 D5.at C9.at D5.its C9.its (D5.pts.trans C9.pts.symm) D5.len hn (fun c hc => by have := D5.few HL.out HS.out c hc; omega)
  clear HB8 X8 A8 HC8 b9 C9 D5
  generalize w8.heap.size = g10 at heq ⊢
  go_wp2_with fail
  refine heq.mono ?_
  rintro e w10 ⟨rfl, b10⟩
  have HB10 : Hid (Below w.heap.size w w10) := HB9.out.trans (b10.mono HB9.out.size)
  have X10 : Hid (AnsP w10 g9 h5 (.slice ia im ic) (.slice ja jm jc) (.slice ka km kc) V) := X9.out.below b10
  have A10 : Hid (AnsP w10 g6 0 (.slice ua un uc) (.slice va vn vc) (.slice ta tn tc) V) := A9.out.below b10
  have C10 := HC9.out.below b10
  have hmb := markBlks g8 len len cs5 w10 ⟨C10.row, rfl, fun c hc => ⟨by have := SBk.of (C10.items c hc).1; rw [← (C10.items c hc).2.1] at this; exact this, by have := (C10.items c hc).2.2.2; omega⟩, Nat.le_refl _, fun b _ _ _ => rfl, Below.refl _ _⟩ C10.len hn (C10.few HL.out HS.out)
  clear heq b10 C10 HB9 X9 A9 HC9
  go_wp2_with fail
  refine hmb.mono ?_
  rintro e w11 ⟨kk, ds, rfl, hm⟩
  have hlow : ∀ b, b < g8 → b < w10.heap.size → w11.heap[b]? = w10.heap[b]? := fun b hb hlt => hm.far b hlt (by omega) (fun c hc => by have := HCG.out c hc; omega)
  have hhigh : ∀ b, h5 ≤ b → b < w10.heap.size → w11.heap[b]? = w10.heap[b]? := fun b hb hlt => hm.far b hlt (by have := HV8.out.1; omega) (fun c hc => by have := HV8.out.2.1 c hc; omega)
  have HB11 : Hid (Below w.heap.size w w11) := HB10.out.trans (below_ofH hm.fr fun b hb => hm.far b (Nat.lt_of_lt_of_le hb HB10.out.size) (by have := HG5.out; omega) (fun c hc => by have := HCG.out c hc; have := HG5.out; omega))
  have A11 : Hid (AnsP w11 g6 0 (.slice ua un uc) (.slice va vn vc) (.slice ta tn tc) V) := A10.out.keep hm.size (hlow g6 HV5.out.1 A10.out.k.lt) (fun b hb => hlow b (HV5.out.2.1 b hb) (A10.out.p.blk hb).1) (fun b hb => hlow b (HV5.out.2.2.1 b hb) (A10.out.s.blk hb).1) (fun b hb => hlow b (HV5.out.2.2.2 b hb) (A10.out.d.blk hb).1)
  have X11 : Hid (AnsP w11 g9 h5 (.slice ia im ic) (.slice ja jm jc) (.slice ka km kc) V) := X10.out.keep hm.size (hhigh g9 HV8.out.2.2.1 X10.out.k.lt) (fun b hb => hhigh b (HV8.out.2.2.2.1 b hb).1 (X10.out.p.blk hb).1) (fun b hb => hhigh b (HV8.out.2.2.2.2.1 b hb).1 (X10.out.s.blk hb).1) (fun b hb => hhigh b (HV8.out.2.2.2.2.2 b hb).1 (X10.out.d.blk hb).1)
  have hk0 : ¬ (kk : Int) < 0 := by omega
  clear HB10 A10 X10 hmb hm hlow hhigh
  obtain ⟨e0, e1, e2, e3, e4, e5, e6, e7, e8⟩ := CBk.nineP A11.out.k
  obtain ⟨f0, f1, f2, f3, f4, f5, f6, f7, f8⟩ := CBk.nineP X11.out.k
  have heq := eqPaidP X11.out.p X11.out.s X11.out.d A11.out.p A11.out.s A11.out.d HML.out.1 HML.out.2.1 HML.out.2.2
  unfold pdCells at heq
  go_wp2_with fail
  refine heq.mono ?_
  rintro e w12 ⟨rfl, b12⟩
  have HB12 : Hid (Below w.heap.size w w12) := HB11.out.trans (b12.mono HB11.out.size)
  have A12 : Hid (AnsP w12 g6 0 (.slice ua un uc) (.slice va vn vc) (.slice ta tn tc) V) := A11.out.below b12
  have X12 : Hid (AnsP w12 g9 h5 (.slice ia im ic) (.slice ja jm jc) (.slice ka km kc) V) := X11.out.below b12
  clear HB11 A11 X11 e0 e1 e2 e3 e4 e5 e6 e7 e8 f0 f1 f2 f3 f4 f5 f6 f7 f8 heq b12 hk0
  obtain ⟨mm, hmm⟩ : ∃ mm, mm = 1 + 3 * V.pk.length + 3 * V.st.length + 2 * V.sd.length := ⟨_, rfl⟩
  have HMM : Hid (mm = 1 + 3 * V.pk.length + 3 * V.st.length + 2 * V.sd.length) := hmm
  have hmk := markPaidP X12.out.p X12.out.s X12.out.d HD6.out HML.out.1 HML.out.2.1 HML.out.2.2
  rw [← hmm] at hmk
  unfold pdCells at hmk
  clear hmm
  obtain ⟨f0, f1, f2, f3, f4, f5, f6, f7, f8⟩ := CBk.nineP X12.out.k
  go_wp2_with fail
  refine hmk.mono ?_
  rintro e w13 ⟨rfl, h13, f13, k13⟩
  have hold : ∀ c, c < h5 → c < w12.heap.size → w13.heap[c]? = w12.heap[c]? := fun c hc hlt => k13 c hlt (fun hb => by have := HV8.out.2.2.2.1 c hb; omega) (fun hb => by have := HV8.out.2.2.2.2.1 c hb; omega) (fun hb => by have := HV8.out.2.2.2.2.2 c hb; omega)
  have hg8 := HV8.out.1
  have HB13 : Hid (Below w.heap.size w w13) := HB12.out.trans (below_ofH f13 fun c hc => hold c (by have := HG5.out; omega) (Nat.lt_of_lt_of_le hc HB12.out.size))
  have A13 : Hid (AnsP w13 g6 0 (.slice ua un uc) (.slice va vn vc) (.slice ta tn tc) V) := A12.out.keep f13.size (hold g6 (by have := HV5.out.1; omega) A12.out.k.lt) (fun b hb => hold b (by have := HV5.out.2.1 b hb; omega) (A12.out.p.blk hb).1) (fun b hb => hold b (by have := HV5.out.2.2.1 b hb; omega) (A12.out.s.blk hb).1) (fun b hb => hold b (by have := HV5.out.2.2.2 b hb; omega) (A12.out.d.blk hb).1)
  have K13 : Hid (CBk w13 g9 31 (pdCells V (.slice ia im ic) (.slice ja jm jc) (.slice ka km kc))) := (k13 g9 X12.out.k.lt (fun hb => by have := HV8.out.2.2.2.1 g9 hb; omega) (fun hb => by have := HV8.out.2.2.2.2.1 g9 hb; omega) (fun hb => by have := HV8.out.2.2.2.2.2 g9 hb; omega)).trans X12.out.k
  have H13 : Hid (HeldPd (.slice ia im ic) (.slice ja jm jc) (.slice ka km kc) V.pk.length V.st.length V.sd.length w13) := h13
  clear HB12 A12 X12 hmk f0 f1 f2 f3 f4 f5 f6 f7 f8 h13 f13 k13 hold hg8
  obtain ⟨f0, f1, f2, f3, f4, f5, f6, f7, f8⟩ := CBk.nineP K13.out
  have hhe := heldPaidP (v := V) H13.out HML.out.1 HML.out.2.1 HML.out.2.2
  rw [← HMM.out] at hhe
  unfold pdCells at hhe
  go_wp2_with fail
  refine hhe.mono ?_
  rintro e w14 ⟨rfl, b14⟩
  have HB14 : Hid (Below w.heap.size w w14) := HB13.out.trans (b14.mono HB13.out.size)
  have A14 : Hid (AnsP w14 g6 0 (.slice ua un uc) (.slice va vn vc) (.slice ta tn tc) V) := A13.out.below b14
  have K14 : Hid (CBk w14 g9 31 (pdCells V (.slice ia im ic) (.slice ja jm jc) (.slice ka km kc))) := K13.out.call b14
  have H14 : Hid (HeldPd (.slice ia im ic) (.slice ja jm jc) (.slice ka km kc) V.pk.length V.st.length V.sd.length w14) := H13.out.below b14
  have hm0 : ¬ (mm : Int) < 0 := by omega
  clear HB13 A13 K13 H13 f0 f1 f2 f3 f4 f5 f6 f7 f8 hhe b14
  go_wp2_with fail
  refine (HT1.out _ HB14.out).mono ?_
  rintro e w15 ⟨cs15, rfl, C15, b15⟩
  have HB15 : Hid (Below w.heap.size w w15) := HB14.out.trans (b15.mono HB14.out.size)
  have A15 : Hid (AnsP w15 g6 0 (.slice ua un uc) (.slice va vn vc) (.slice ta tn tc) V) := A14.out.below b15
  have K15 : Hid (CBk w15 g9 31 (pdCells V (.slice ia im ic) (.slice ja jm jc) (.slice ka km kc))) := K14.out.call b15
  have H15 : Hid (HeldPd (.slice ia im ic) (.slice ja jm jc) (.slice ka km kc) V.pk.length V.st.length V.sd.length w15) := H14.out.below b15
  have him := HI1.out _ _ _ _ HB15.out C15
  clear HB14 A14 K14 H14 b15 C15
  generalize w14.heap.size = g14 at him ⊢
  go_wp2_with fail
  refine Calls.mono him ?_
  rintro e w16 ⟨⟨i1, i2, i3, rfl, p16, s16, e16, b16⟩, dd16⟩
  obtain ⟨xa, xm, xc, rfl⟩ := pks_slice p16
  obtain ⟨ya, ym, yc, rfl⟩ := pks_slice s16
  obtain ⟨za, zm, zc, rfl⟩ := sds_slice e16
  have HB16 : Hid (Below w.heap.size w w16) := HB15.out.trans (b16.mono HB15.out.size)
  have hnew : Below w16.heap.size w16 (w16.alloc (.cells #[.int .i64 V.a, .string V.h.prev, .string V.h.root, .int .i64 V.h.time, .int .i64 V.h.diff, .int .i64 V.h.nonce, .slice xa xm xc, .slice ya ym yc, .slice za zm zc] 31)) := (Below.refl _ w16).alloc (Nat.le_refl _) _
  have HB17 : Hid (Below w.heap.size w (w16.alloc (.cells #[.int .i64 V.a, .string V.h.prev, .string V.h.root, .int .i64 V.h.time, .int .i64 V.h.diff, .int .i64 V.h.nonce, .slice xa xm xc, .slice ya ym yc, .slice za zm zc] 31))) := HB16.out.alloc HB16.out.size _
  have Y17 : Hid (AnsP (w16.alloc (.cells #[.int .i64 V.a, .string V.h.prev, .string V.h.root, .int .i64 V.h.time, .int .i64 V.h.diff, .int .i64 V.h.nonce, .slice xa xm xc, .slice ya ym yc, .slice za zm zc] 31)) w16.heap.size 0 (.slice xa xm xc) (.slice ya ym yc) (.slice za zm zc) V) := AnsP.new (p16.mono (Nat.zero_le _)) (s16.mono (Nat.zero_le _)) (e16.mono (Nat.zero_le _))
  have A17 : Hid (AnsP (w16.alloc (.cells #[.int .i64 V.a, .string V.h.prev, .string V.h.root, .int .i64 V.h.time, .int .i64 V.h.diff, .int .i64 V.h.nonce, .slice xa xm xc, .slice ya ym yc, .slice za zm zc] 31)) g6 0 (.slice ua un uc) (.slice va vn vc) (.slice ta tn tc) V) := (A15.out.below b16).below hnew
  have K17 : Hid (CBk (w16.alloc (.cells #[.int .i64 V.a, .string V.h.prev, .string V.h.root, .int .i64 V.h.time, .int .i64 V.h.diff, .int .i64 V.h.nonce, .slice xa xm xc, .slice ya ym yc, .slice za zm zc] 31)) g9 31 (pdCells V (.slice ia im ic) (.slice ja jm jc) (.slice ka km kc))) := (K15.out.call b16).call hnew
  have H17 : Hid (HeldPd (.slice ia im ic) (.slice ja jm jc) (.slice ka km kc) V.pk.length V.st.length V.sd.length (w16.alloc (.cells #[.int .i64 V.a, .string V.h.prev, .string V.h.root, .int .i64 V.h.time, .int .i64 V.h.diff, .int .i64 V.h.nonce, .slice xa xm xc, .slice ya ym yc, .slice za zm zc] 31))) := (H15.out.below b16).below hnew
  clear HB15 A15 K15 H15 him p16 s16 e16 b16 dd16 HB16 hnew
  go_upto_region 25 with fail
  generalize w16.alloc (.cells #[.int .i64 V.a, .string V.h.prev, .string V.h.root, .int .i64 V.h.time, .int .i64 V.h.diff, .int .i64 V.h.nonce, .slice xa xm xc, .slice ya ym yc, .slice za zm zc] 31) = w17 at HB17 Y17 A17 K17 H17 ⊢
  obtain ⟨g17, hg17⟩ : ∃ g17, g17 = w16.heap.size := ⟨_, rfl⟩
  rw [← hg17] at Y17 ⊢
  clear hg17 w16
  obtain ⟨e0, e1, e2, e3, e4, e5, e6, e7, e8⟩ := CBk.nineP A17.out.k
  obtain ⟨f0, f1, f2, f3, f4, f5, f6, f7, f8⟩ := CBk.nineP Y17.out.k
  have heq := eqPaidP Y17.out.p Y17.out.s Y17.out.d A17.out.p A17.out.s A17.out.d HML.out.1 HML.out.2.1 HML.out.2.2
  unfold pdCells at heq
  go_wp2_with fail
  refine heq.mono ?_
  rintro e w18 ⟨rfl, b18⟩
  have HB18 : Hid (Below w.heap.size w w18) := HB17.out.trans (b18.mono HB17.out.size)
  have K18 : Hid (CBk w18 g9 31 (pdCells V (.slice ia im ic) (.slice ja jm jc) (.slice ka km kc))) := K17.out.call b18
  have hhe := heldPaidP (v := V) (H17.out.below b18) HML.out.1 HML.out.2.1 HML.out.2.2
  rw [← HMM.out] at hhe
  unfold pdCells at hhe
  clear HB17 Y17 A17 K17 H17 e0 e1 e2 e3 e4 e5 e6 e7 e8 f0 f1 f2 f3 f4 f5 f6 f7 f8 heq b18
  obtain ⟨f0, f1, f2, f3, f4, f5, f6, f7, f8⟩ := CBk.nineP K18.out
  go_wp2_with fail
  refine hhe.mono ?_
  rintro e w19 ⟨rfl, b19⟩
  have HB19 : Hid (Below w.heap.size w w19) := HB18.out.trans (b19.mono HB18.out.size)
  clear HB18 K18 f0 f1 f2 f3 f4 f5 f6 f7 f8 hhe b19
  go_wp2_with fail
  go_ret
  exact ⟨rfl, HB19.out⟩
end Go.Proofs.YtoifgpmbeicmnaaGreatDoor

namespace Go.Proofs.YtoifgpmbeicmnaaGreatDoor
open Go.ChangeShapes Go.WideShapes Go.ChangeAt Go.RowKit
open Go.ChangeMaps (open_string shut_string)
set_option linter.unusedVariables false

theorem own_fnExactPaidOf : ownKnob Tryz.prog.godebug = none := by kernel_rfl
theorem laid_fnExactPaidOf : laidOutB Tryz.prog = true := by kernel_rfl
theorem table_fnExactPaidOf {W : World} (h : laidMetH Tryz.prog Rows.fnExactPaidOfRow.laid W) : RowG W shaK ∧ TabP W ∧ ErrT W := tabs_of_laidE h

theorem met_fnExactPaidOf (os : Os) : laidMetH Tryz.prog Rows.fnExactPaidOfRow.laid ((laidWorldE os).forCall (fun _ _ => 0) ⟨#[], #[.slice none 0 0, .int .i64 0, .int .i64 0], []⟩).memory :=
  laidMetH_of_parts (laidMet_of_run' 8 (by kernel_rfl) (by kernel_rfl)) (by kernel_rfl)
theorem reads_fnExactPaidOf (os : Os) {H : Type} (enc : TypeId × Value → H) : ∃ places, DataW.whole enc Tryz.prog ((laidWorldE os).forCall (fun _ _ => 0) ⟨#[], #[.slice none 0 0, .int .i64 0, .int .i64 0], []⟩).memory Tryz.f3.params.toList Rows.fnExactPaidOfSpec.vars false (#[.slice none 0 0, .int .i64 0, .int .i64 0] : Array Value).toList 8 = some ([.nil, .lit (.int .i64 0), .lit (.int .i64 0)], [Rows.laid_loop_example_cordillera_impl_sumRounds], places) :=
  ⟨MemPlace.row ⟨1, 0, none⟩ 64, by kernel_rfl⟩

set_option maxRecDepth 100000 in
theorem lifted_fnExactPaidOf (os : Os) (started : os.Started) (H : Type) (enc : TypeId × Value → H) (F : Stop.Interp) :
    ReturnsInHanded {} Tryz.checked os 3 .any ((OpenSpec.ofChange Rows.fnExactPaidOfSpec).preRow enc Tryz.prog Tryz.f3 Rows.fnExactPaidOfRow.domain false Rows.fnExactPaidOfRow.laid) (((OpenSpec.ofChange Rows.fnExactPaidOfSpec).at F).post enc Tryz.prog Tryz.f3 false true false false) := by
  obtain ⟨places, hx⟩ := reads_fnExactPaidOf os enc
  refine returnsInHanded_of_row (C := Tryz.checked) (s := OpenSpec.ofChange Rows.fnExactPaidOfSpec) own_fnExactPaidOf started (by kernel_rfl) Tryz.func3
    (witness_row_at (enc := enc) (C := Tryz.checked) false (laidWorldE os) #[.slice none 0 0, .int .i64 0, .int .i64 0] rfl (by kernel_rfl) (by kernel_rfl) (by kernel_rfl)
      (OpenSpec.preRow_of_cond 8 hx (by kernel_rfl) (fun k hk => by cases hk) (by kernel_rfl) (met_fnExactPaidOf os))) ?_
  intro W base args ds gs before hval0 hW _ _ _ hL _ _
  have hval : ∀ (j : Nat) t v, Tryz.f3.params[j]? = some t → args[j]? = some v → Value.okWide Tryz.prog W .any base t v := hval0
  have hW' := hW
  obtain ⟨p, q, hA0, hV, rfl, hfz, hnd⟩ := hW
  have hA : DataW.TrodAll enc Tryz.prog W 0 (fun _ => true) true Tryz.f3.params.toList args.toList ds p := hA0
  rw [Tryz.params3] at hA hval
  obtain ⟨v0, vs0, d0, ds0, p0, q0, hargs, rfl, rfl, h0, r0⟩ := trodAll_cons hA
  obtain ⟨v1, vs1, d1, ds1, p1, q1, rfl, rfl, rfl, h1, r1⟩ := trodAll_cons r0
  obtain ⟨v2, vs2, d2, ds2, p2, q2, rfl, rfl, rfl, h2, r2⟩ := trodAll_cons r1
  obtain ⟨rfl, rfl, rfl⟩ := trodAll_nil r2
  obtain rfl : args = #[v0, v1, v2] := by cases args; simp_all
  obtain ⟨gv, tv, cv, fv, dv, pv, rfl, hgv, htv, hvv, hdv, rfl⟩ := trodVars_one hV
  obtain ⟨a0, len0, cap0, rfl⟩ := okWide_slice Tryz.underlying22 (hval 0 22 v0 rfl rfl)
  have k0 := h0
  have lt0 : ∀ x ∈ p0, x.block < W.heap.size := by obtain ⟨m, hm⟩ := k0; exact DataW.trod_lt m _ _ _ hm
  obtain ⟨z0, w0⟩ := open_blocks h0
  obtain ⟨a1, rfl, rfl, rfl, w1⟩ := open_int Tryz.underlying3 (hval 1 3 v1 rfl rfl) h1
  obtain ⟨a2, rfl, rfl, rfl, w2⟩ := open_int Tryz.underlying3 (hval 2 3 v2 rfl rfl) h2
  clear hA0 hval0
  refine (walk_FnExactPaidOf a0 len0 cap0 z0 a1 a2 W w0 (table_fnExactPaidOf hL).1 (table_fnExactPaidOf hL).2.1 (table_fnExactPaidOf hL).2.2).mono fun e W' ⟨he, bel⟩ => ?_
  subst he
  obtain ⟨pv', hpv⟩ := varsBack laid_fnExactPaidOf hgv htv hvv hdv bel
  exact ⟨_, rfl, _, _, _, [], _, pv', hW', trodAll_mk1 (shut_bool Tryz.underlying4 _), (trodAll_cons_mk (Below.trod laid_fnExactPaidOf (by kernel_rfl) (of_decide_eq_true (by kernel_rfl)) k0 bel lt0) (trodAll_cons_mk (shut_int Tryz.underlying3 w1) (trodAll_cons_mk (shut_int Tryz.underlying3 w2) trodAll_mk0))), hpv, bel.frame _, fun h => by cases h⟩

theorem fnExactPaidOf_said : Rows.FnExactPaidOfSaid :=
  OpenClaim.holds_of_cond 3 Tryz.f3 rfl rfl rfl rfl rfl rfl rfl ⟨rfl, rfl, rfl, rfl, rfl⟩ rfl rfl rfl rfl rfl (by kernel_rfl) Tryz.func3 (by kernel_rfl)
    (of_decide_eq_true (by kernel_rfl)) (by unfold Func.isWrapper; first | (rw [if_pos (by decide +kernel)]; kernel_rfl) | (rw [if_neg (by decide +kernel)]; exact ⟨rfl, rfl⟩))
    (fun os started H enc _ F => by rw [OpenClaim.pre_eq_preRow]; exact lifted_fnExactPaidOf os started H enc F)
theorem plain_fnExactPaidOf (f : FuncId) (fn : Func) (hf : Tryz.pinned.checked.prog.funcNamed "loop.example/cordillera/laws.FnExactPaidOf" = some f) (hfn : Tryz.pinned.checked.prog.funcs[f]? = some fn) :
    true = Tryz.pinned.checked.prog.looks [] ∧ ∀ (j : Nat) t, fn.params[j]? = some t → Tryz.pinned.checked.prog.wantsStandIn t = false := by
  obtain rfl : f = 3 := Option.some.inj ((show Tryz.prog.funcNamed "loop.example/cordillera/laws.FnExactPaidOf" = some 3 by kernel_rfl).symm.trans hf) |>.symm
  obtain rfl : fn = Tryz.f3 := (Option.some.inj (Tryz.func3.symm.trans hfn)).symm
  refine ⟨by kernel_rfl, fun j t ht => ?_⟩
  rw [Tryz.params3] at ht
  have hall : ∀ t ∈ (#[22, 3, 3] : Array TypeId), Tryz.prog.wantsStandIn t = false := by
    intro t ht
    simp only [List.mem_toArray, List.mem_cons, List.not_mem_nil, or_false] at ht
    rcases ht with rfl | rfl | rfl <;> kernel_rfl
  exact hall t (Array.mem_of_getElem? ht)
theorem fnExactPaidOf_holds : Rows.FnExactPaidOfCardSaid :=
  Claim7.holds_tied_plain_at .later [] _ _ _ _ fnExactPaidOf_said (fun _ h => by cases h) (by kernel_rfl) (fun _ h => by cases h) fnExactPaidOf_row_tie rfl ⟨rfl, rfl⟩ (by kernel_rfl) rfl plain_fnExactPaidOf (by kernel_rfl)
#print axioms fnExactPaidOf_holds
end Go.Proofs.YtoifgpmbeicmnaaGreatDoor

