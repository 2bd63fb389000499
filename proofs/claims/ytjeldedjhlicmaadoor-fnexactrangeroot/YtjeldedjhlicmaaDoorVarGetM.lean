/-
  Plain facts on reading a number from bytes of seven bits each.
-/
import Derived.Test.YtjeldedjhlicmaaDoorMath
import Derived.Laws.BitsLemmas
import Derived.WalkKit
namespace Go.Proofs.YtjeldedjhlicmaaDoor
open Go.RowKit

/-- What VarPut comes to. -/
def varPut (n : Int) : List UInt8 := if 0 ≤ n ∧ n ≤ 2147483647 then varB 4 n.toNat else []

/-- The number that bytes of seven bits are, the lowest first. -/
def vNum : List UInt8 → Nat
  | [] => 0
  | b :: r => b.toNat % 128 + 128 * vNum r

theorem vNum_snoc (l : List UInt8) (b : UInt8) : vNum (l ++ [b]) = vNum l + b.toNat % 128 * 128 ^ l.length := by
  induction l with
  | nil => simp [vNum]
  | cons c r ih =>
    simp only [List.cons_append, vNum, ih, List.length_cons, Nat.pow_succ]
    rw [Nat.mul_add, Nat.mul_comm (128 ^ r.length) 128, Nat.mul_left_comm]
    omega

theorem vNum_lt (l : List UInt8) : vNum l < 128 ^ l.length := by
  induction l with
  | nil => simp [vNum]
  | cons c r ih =>
    simp only [vNum, List.length_cons, Nat.pow_succ]
    omega

/-- Bytes that go on and one that ends are what is written of their number, just if the last is not needless, and the number not too great. -/
def vEnds (l : List UInt8) (b : UInt8) : Prop := (∀ c ∈ l, 128 ≤ c.toNat) ∧ b.toNat < 128

theorem varB_vNum (l : List UInt8) (b : UInt8) (h : vEnds l b) (f : Nat) (hf : l.length ≤ f) : varB f (vNum (l ++ [b])) = l ++ [b] ↔ (l = [] ∨ b ≠ 0) := by
  induction l generalizing f with
  | nil =>
    have hb := h.2
    have : vNum ([] ++ [b]) = b.toNat := by simp [vNum]; omega
    rw [this, varB_small _ _ hb]
    simp
  | cons c r ih =>
    obtain ⟨g, rfl⟩ : ∃ g, f = g + 1 := ⟨f - 1, by simp at hf; omega⟩
    have hr : vEnds r b := ⟨fun x hx => h.1 x (by simp [hx]), h.2⟩
    have hc := h.1 c (by simp)
    have hcl : c.toNat < 256 := c.toNat_lt
    have hlt := vNum_lt (r ++ [b])
    simp only [List.cons_append, vNum]
    have ihr := ih hr g (by simp at hf; omega)
    by_cases hz : vNum (r ++ [b]) = 0
    · have hb0 : b.toNat = 0 := by
        have hb := h.2
        rw [vNum_snoc] at hz
        have hm : b.toNat % 128 * 128 ^ r.length = 0 := by omega
        rcases Nat.mul_eq_zero.1 hm with hm | hm
        · omega
        · have : 0 < 128 ^ r.length := Nat.pow_pos (by decide)
          omega
      rw [hz, varB_small _ _ (by omega)]
      constructor
      · intro hh
        have := congrArg List.length hh
        simp at this
      · intro hh
        rcases hh with hh | hh
        · simp at hh
        · exact absurd (UInt8.toNat.inj (by simpa using hb0)) hh
    · have hge : ¬ (c.toNat % 128 + 128 * vNum (r ++ [b]) < 128) := by omega
      rw [varB_step g _ hge]
      have e1 : (c.toNat % 128 + 128 * vNum (r ++ [b])) / 128 = vNum (r ++ [b]) := by omega
      have e2 : UInt8.ofNat (128 + (c.toNat % 128 + 128 * vNum (r ++ [b])) % 128) = c := by
        apply UInt8.toNat.inj
        simp
        omega
      rw [e1, e2]
      simp only [List.cons.injEq, true_and, reduceCtorEq, false_or]
      rw [ihr]
      constructor
      · intro hh
        rcases hh with rfl | hh
        · intro hb
          subst hb
          simp [vNum] at hz
        · exact hh
      · intro hh
        exact Or.inr hh

theorem varPut_vNum (l : List UInt8) (b : UInt8) (h : vEnds l b) (hl : l.length ≤ 4) :
    varPut (vNum (l ++ [b])) = l ++ [b] ↔ ((l = [] ∨ b ≠ 0) ∧ vNum (l ++ [b]) ≤ 2147483647) := by
  unfold varPut
  by_cases hn : vNum (l ++ [b]) ≤ 2147483647
  · rw [if_pos (by omega)]
    simp only [Int.toNat_natCast, varB_vNum l b h 4 hl, hn, and_true]
  · rw [if_neg (by omega)]
    simp [hn]

/-- The number with which bytes begin, and how many it takes. -/
def vg : Nat → List UInt8 → List UInt8 → Nat × Nat
  | 0, _, _ => (0, 0)
  | _ + 1, _, [] => (0, 0)
  | f + 1, l, b :: r => if 128 ≤ b.toNat then vg f (l ++ [b]) r else if varPut (vNum (l ++ [b])) = l ++ [b] then (vNum (l ++ [b]), l.length + 1) else (0, 0)
def varGet (s : List UInt8) : Nat × Nat := vg 5 [] s

theorem take_snoc (s : ByteArray) (k : Nat) (h : k < s.size) : s.data.toList.take (k + 1) = s.data.toList.take k ++ [s[k]] := by
  rw [List.take_succ_eq_append_getElem (by simpa using h)]; rfl
theorem drop_cons (s : ByteArray) (k : Nat) (h : k < s.size) : s.data.toList.drop k = s[k] :: s.data.toList.drop (k + 1) := by
  rw [List.drop_eq_getElem_cons (by simpa using h)]; rfl
theorem take_len (s : ByteArray) (k : Nat) (h : k ≤ s.size) : (s.data.toList.take k).length = k := by
  simp; omega

theorem vg_on (s : ByteArray) (k : Nat) (h : k < s.size) (h5 : k < 5) (hb : 128 ≤ s[k].toNat) :
    vg (5 - k) (s.data.toList.take k) (s.data.toList.drop k) = vg (5 - (k + 1)) (s.data.toList.take (k + 1)) (s.data.toList.drop (k + 1)) := by
  have e : 5 - k = (5 - (k + 1)) + 1 := by omega
  rw [e, drop_cons s k h, take_snoc s k h, vg, if_pos hb]
theorem vg_yes (s : ByteArray) (k : Nat) (h : k < s.size) (h5 : k < 5) (hb : ¬ 128 ≤ s[k].toNat) (hp : varPut (vNum (s.data.toList.take (k + 1))) = s.data.toList.take (k + 1)) :
    vg (5 - k) (s.data.toList.take k) (s.data.toList.drop k) = (vNum (s.data.toList.take (k + 1)), k + 1) := by
  have e : 5 - k = (5 - (k + 1)) + 1 := by omega
  rw [take_snoc s k h] at hp ⊢
  rw [e, drop_cons s k h, vg, if_neg hb, if_pos hp, take_len s k (by omega)]
theorem vg_no (s : ByteArray) (k : Nat) (h : k < s.size) (h5 : k < 5) (hb : ¬ 128 ≤ s[k].toNat) (hp : ¬ varPut (vNum (s.data.toList.take (k + 1))) = s.data.toList.take (k + 1)) :
    vg (5 - k) (s.data.toList.take k) (s.data.toList.drop k) = (0, 0) := by
  have e : 5 - k = (5 - (k + 1)) + 1 := by omega
  rw [take_snoc s k h] at hp
  rw [e, drop_cons s k h, vg, if_neg hb, if_neg hp]
theorem vg_end (s : ByteArray) (k : Nat) (h : ¬ (k < s.size ∧ k < 5)) :
    vg (5 - k) (s.data.toList.take k) (s.data.toList.drop k) = (0, 0) := by
  by_cases h5 : k < 5
  · have e : 5 - k = (5 - (k + 1)) + 1 := by omega
    have hd : s.data.toList.drop k = [] := List.drop_eq_nil_of_le (by simp; have : ¬ k < s.size := fun h' => h ⟨h', h5⟩; exact Nat.le_of_not_lt this)
    rw [e, hd, vg]
  · have e : 5 - k = 0 := by omega
    rw [e, vg]

theorem or_step (n x k : Nat) (hn : n < 128 ^ k) (hx : x < 128) (hk : k < 5) : bits .or .i64 (n : Int) (wrap64 ((x : Int) * 2 ^ (7 * k))) = ((n + x * 128 ^ k : Nat) : Int) := by
  have e128 : (128 : Nat) ^ k = 2 ^ (7 * k) := by rw [Nat.pow_mul]
  have hk' : 128 ^ k ≤ 128 ^ 4 := Nat.pow_le_pow_right (by decide) (by omega)
  have hmul : x * 128 ^ k ≤ 127 * 128 ^ 4 := Nat.mul_le_mul (by omega) hk'
  have hc : (x : Int) * 2 ^ (7 * k) = ((x * 128 ^ k : Nat) : Int) := by rw [e128]; simp
  rw [hc, show wrap64 ((x * 128 ^ k : Nat) : Int) = ((x * 128 ^ k : Nat) : Int) from by unfold wrap64; omega]
  rw [(bits_nat .i64 40 (by decide) (fun m h0 h1 => by rw [IntKind.wrap_i64]; omega) n (x * 128 ^ k) (by omega) (by omega)).2]
  have hor : x * 128 ^ k ||| n = x * 128 ^ k + n := by
    rw [e128, Nat.mul_comm]
    exact (Nat.two_pow_add_eq_or_of_lt (by rw [← e128]; exact hn) x).symm
  rw [Nat.or_comm, hor, Nat.add_comm]

end Go.Proofs.YtjeldedjhlicmaaDoor
