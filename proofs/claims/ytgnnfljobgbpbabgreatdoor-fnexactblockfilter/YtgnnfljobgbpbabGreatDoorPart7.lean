/-
  Texts that the last part needs, joined.
-/
import Derived.Test.YtgnnfljobgbpbabGreatDoorPart1
import Derived.Test.YtgnnfljobgbpbabGreatDoorPart2
import Derived.Test.YtgnnfljobgbpbabGreatDoorPart3
import Derived.Test.YtgnnfljobgbpbabGreatDoorPart4
import Derived.Test.YtgnnfljobgbpbabGreatDoorPart5
import Derived.Test.YtgnnfljobgbpbabGreatDoorPart6
import Derived.Test.YtgnnfljobgbpbabGreatDoorProg
import Derived.WalkKit
import Derived.Sort.OwnSorted
import Derived.Sort.Grow
import Derived.Lib.OwnBridge
import Derived.Lib.RowBridge
import Derived.RangeFuncNested
import Derived.RangeFuncBound
import Derived.RangeFuncCalls
import Derived.RangeFuncLeaves
import Derived.Shelf.Abstract
import Derived.Shelf.RegionOpen
import Derived.OwnWalkIn
import Derived.TacticsInMore
import Derived.LoopNIn
import Derived.LoopIn
import Derived.WalkSpells
import Derived.BigQuiet
import Derived.Deep.QuietTactic
import Derived.Below
import Derived.Lib.Builder
import Derived.OpenShut
import Derived.Laws.BitsLemmas
import Derived.BigRegion
import Derived.Lib.UnsafeStr
import Derived.Lib.FrozenHead2
import Derived.Deep.MidRow
import Derived.Deep.RegionWith
import Derived.Deep.OwnRows
import Derived.Maps.AppendAt
import Derived.Sort.OwnSortedInts
import Derived.Lib.OthersKept
import Derived.Laws.Externs
set_option linter.unusedVariables false
namespace Go.Proofs.YtgnnfljobgbpbabGreatDoor
open Go.RowKit Go.Sort

theorem enc_data (ss : List ByteArray) : (ss.map fun s => s.data.toList).map encStr = ss.map Value.string := by
  rw [List.map_map]
  apply List.map_congr_left
  intro s _
  rfl
theorem set_left {w w1 : World} {g cap nn q : Nat} {os : Array Obj} {ss : List ByteArray} (hown : w1.ownsRow w.heap.size 9 1 (.slice (some ⟨g, 0, none⟩) ss.length cap) ss.length (ss.map Value.string)) (hbel : Below w.heap.size w w1) (hbg : w.heap.size ≤ g) :
    let so := (ss.map fun s => s.data.toList).mergeSort fun x y => decide (x ≤ y)
    let w3 := putRow encStr (Sort.ahead (grow (putRow encStr (Sort.ahead w1 nn) g 0 so.toArray) os) q) g 0 (Lib.compact so ++ List.replicate (so.length - (Lib.compact so).length) []).toArray
    w3.ownsRow w.heap.size 9 1 (.slice (some ⟨g, 0, none⟩) (setL ss).length cap) (setL ss).length ((setL ss).map Value.string) ∧ Below w.heap.size w w3 := by
  intro so w3
  have hl2 : so.length = (ss.map fun s => s.data.toList).length := List.length_mergeSort _
  have hle := Lib.compact_length_le so
  have hcs : Lib.compact so = (setL ss).map fun s => s.data.toList := compact_set ss
  have hcl : (Lib.compact so).length = (setL ss).length := by rw [hcs, List.length_map]
  have hl3 : so.length = ss.length := by rw [hl2, List.length_map]
  rcases hown.2 with ⟨h0, _⟩ | ⟨g', cap', cur, hv, hbase, hb, h1, h2, h3, h4⟩
  · cases h0
  cases hv
  have hs := ownsRow_sorted (n := nn) (os := os) (ss := so) (ts := so) rfl hbase hb (by rw [hl3]; exact h1) h2 h3
  have hc := Lib.ownsRow_putRow (q := q) (k := (Lib.compact so).length) (ys := Lib.compact so ++ List.replicate (so.length - (Lib.compact so).length) []) hs (by simp; omega) (by omega)
  rw [List.take_left] at hc
  refine ⟨?_, Lib.below_putRow (hbel.grown (grownBy_sorted _) hbel.size (fun j hj => by cases hj; exact hbase)) hbg⟩
  have e1 : (setL ss).map Value.string = (Lib.compact so).map encStr := by rw [hcs, enc_data]
  rw [e1, ← hcl]
  exact hc

end Go.Proofs.YtgnnfljobgbpbabGreatDoor

set_option linter.unusedVariables false
namespace Go.Proofs.YtgnnfljobgbpbabGreatDoor
open Go.RowKit Go.Shelf
attribute [local go_sem] Oper.semAt_some

abbrev Bit := { b : Nat // b ≤ 1 }
def bitOf (s : ByteArray) (q : Nat) : Bit := ⟨(s.data.toList.getD (q / 8) 0).toNat / 2 ^ (7 - q % 8) % 2, by omega⟩
def bitsTo (s : ByteArray) (k : Nat) : List Bit := (List.range k).map (bitOf s)
theorem bitsTo_succ (s : ByteArray) (k : Nat) : bitsTo s (k + 1) = bitsTo s k ++ [bitOf s k] := by simp [bitsTo, List.range_succ]
theorem bitsTo_length (s : ByteArray) (k : Nat) : (bitsTo s k).length = k := by simp [bitsTo]

end Go.Proofs.YtgnnfljobgbpbabGreatDoor

set_option linter.unusedVariables false
namespace Go.Proofs.YtgnnfljobgbpbabGreatDoor
open Go.RowKit Go.Shelf
attribute [local go_sem] Oper.semAt_some

def KeepsAt (Bs : Nat) (W W' : World) : Prop := W'.cell? ⟨Bs, 0, none⟩ = W.cell? ⟨Bs, 0, none⟩
theorem KeepsAt.t {Bs : Nat} {A B C : World} (h : KeepsAt Bs A B) (k : KeepsAt Bs B C) : KeepsAt Bs A C := Eq.trans k h
theorem KeepsAt.b {Bs : Nat} {w : World} (hb : Bs < w.heap.size) (W : World) (l : Nat) (o o' : Obj) (hl : w.heap.size ≤ l) (h : W.heap[l]? = some o) (_ : o.isCells = false) (_ : o.isWalk = false) : KeepsAt Bs W (W.putObj l o') := by
  have hB : Below (Bs + 1) W (W.putObj l o') := belowK_b (w := w) (by omega) W l o o' hl h (by assumption) (by assumption)
  exact hB.cell (p := ⟨Bs, 0, none⟩) (by show Bs < Bs + 1; omega)

end Go.Proofs.YtgnnfljobgbpbabGreatDoor

namespace Go.Proofs.YtgnnfljobgbpbabGreatDoor
open Go.RowKit

def valB (l : List Nat) : Nat := l.foldl (fun n b => n * 2 + b) 0
theorem valB_snoc (l : List Nat) (b : Nat) : valB (l ++ [b]) = valB l * 2 + b := by simp [valB]
theorem valB_lt (l : List Nat) (h : ∀ x ∈ l, x ≤ 1) : valB l + 1 ≤ 2 ^ l.length := by
  suffices ∀ (l : List Nat) (a : Nat), (∀ x ∈ l, x ≤ 1) → l.foldl (fun n b => n * 2 + b) a + 1 ≤ (a + 1) * 2 ^ l.length by
    have := this l 0 h
    simpa [valB] using this
  intro l
  induction l with
  | nil => intro a _; simp
  | cons x r ih =>
    intro a hx
    have h1 := hx x (by simp)
    have h2 := ih (a * 2 + x) (fun y hy => hx y (by simp [hy]))
    simp only [List.foldl_cons, List.length_cons, Nat.pow_succ]
    have h3 : (a * 2 + x + 1) * 2 ^ r.length ≤ (a + 1) * 2 * 2 ^ r.length := Nat.mul_le_mul_right _ (by omega)
    have h4 : (a + 1) * 2 * 2 ^ r.length = (a + 1) * (2 ^ r.length * 2) := by rw [Nat.mul_assoc, Nat.mul_comm 2]
    omega
/-- One bit more: the full bytes, and the bits that wait. -/
def stepB (s : List UInt8 × List Nat) (b : Nat) : List UInt8 × List Nat :=
  if s.2.length = 7 then (s.1 ++ [UInt8.ofNat (valB (s.2 ++ [b]))], []) else (s.1, s.2 ++ [b])
def runB (s : List UInt8 × List Nat) (bs : List Nat) : List UInt8 × List Nat := bs.foldl stepB s
def okB (s : List UInt8 × List Nat) : Prop := s.2.length < 8 ∧ ∀ x ∈ s.2, x ≤ 1
theorem stepB_ok {s : List UInt8 × List Nat} {b : Nat} (h : okB s) (hb : b ≤ 1) : okB (stepB s b) := by
  unfold stepB
  split
  · exact ⟨by simp, by simp⟩
  · refine ⟨by have := h.1; simp; omega, ?_⟩
    intro x hx
    rcases List.mem_append.1 hx with hx | hx
    · exact h.2 x hx
    · simp at hx; omega
theorem stepB_len (s : List UInt8 × List Nat) (b : Nat) : (stepB s b).1.length ≤ s.1.length + 1 := by
  unfold stepB
  split <;> simp
theorem runB_snoc (s : List UInt8 × List Nat) (bs : List Nat) (b : Nat) : runB s (bs ++ [b]) = stepB (runB s bs) b := by simp [runB]
theorem runB_append (s : List UInt8 × List Nat) (xs ys : List Nat) : runB s (xs ++ ys) = runB (runB s xs) ys := by simp [runB]
theorem runB_ok {s : List UInt8 × List Nat} {bs : List Nat} (h : okB s) (hb : ∀ b ∈ bs, b ≤ 1) : okB (runB s bs) := by
  induction bs generalizing s with
  | nil => exact h
  | cons b r ih => exact ih (stepB_ok h (hb b (by simp))) (fun x hx => hb x (by simp [hx]))
theorem runB_len (s : List UInt8 × List Nat) (bs : List Nat) : (runB s bs).1.length ≤ s.1.length + bs.length := by
  induction bs generalizing s with
  | nil => simp [runB]
  | cons b r ih =>
    have h1 := ih (stepB s b)
    have h2 := stepB_len s b
    simp only [runB, List.foldl_cons, List.length_cons] at h1 ⊢
    omega
/-- The lowest bits of a number, the highest of them first. -/
def lowB (n : Nat) : Nat → List Nat
  | 0 => []
  | k + 1 => (n / 2 ^ k % 2) :: lowB n k
theorem lowB_ok (n k : Nat) : ∀ b ∈ lowB n k, b ≤ 1 := by
  induction k with
  | zero => simp [lowB]
  | succ k ih =>
    intro b hb
    rcases List.mem_cons.1 hb with rfl | hb
    · omega
    · exact ih b hb
theorem lowB_length (n k : Nat) : (lowB n k).length = k := by
  induction k with
  | zero => rfl
  | succ k ih => simp [lowB, ih]
theorem lowB_mod (n k m : Nat) (h : k ≤ m) : lowB (n % 2 ^ m) k = lowB n k := by
  induction k with
  | zero => rfl
  | succ k ih =>
    rw [lowB, lowB, ih (by omega)]
    congr 1
    have : 2 ^ m = 2 ^ k * (2 * 2 ^ (m - k - 1)) := by
      rw [← Nat.mul_assoc, ← Nat.pow_succ, ← Nat.pow_add]
      congr 1
      omega
    rw [this, Nat.mod_mul_right_div_self, Nat.mod_mul_right_mod]
def numB (k n : Nat) : List Nat := List.replicate (n / 2 ^ k) 1 ++ 0 :: lowB n k
theorem numB_ok (k n : Nat) : ∀ b ∈ numB k n, b ≤ 1 := by
  intro b hb
  rcases List.mem_append.1 hb with hb | hb
  · simp at hb; omega
  · rcases List.mem_cons.1 hb with rfl | hb
    · omega
    · exact lowB_ok n k b hb
theorem numB_length (k n : Nat) : (numB k n).length = n / 2 ^ k + 1 + k := by
  simp [numB, lowB_length]; omega
def bitsOf (k : Nat) (l : List Nat) : List Nat := l.flatMap (numB k)
theorem bitsOf_snoc (k : Nat) (l : List Nat) (n : Nat) : bitsOf k (l ++ [n]) = bitsOf k l ++ numB k n := by simp [bitsOf]
theorem bitsOf_ok (k : Nat) (l : List Nat) : ∀ b ∈ bitsOf k l, b ≤ 1 := by
  intro b hb
  obtain ⟨n, _, hb⟩ := List.mem_flatMap.1 hb
  exact numB_ok k n b hb
theorem bitsOf_length (k : Nat) (l : List Nat) (hk : k ≤ 8) (h : ∀ x ∈ l, x ≤ 60000) : (bitsOf k l).length ≤ l.length * 60009 := by
  induction l with
  | nil => simp [bitsOf]
  | cons n r ih =>
    have h1 := ih (fun x hx => h x (by simp [hx]))
    have h2 := h n (by simp)
    have h3 : n / 2 ^ k ≤ n := Nat.div_le_self _ _
    simp only [bitsOf, List.flatMap_cons, List.length_append, numB_length, List.length_cons] at h1 ⊢
    omega
/-- The state once the last byte is full. -/
def fillB (s : List UInt8 × List Nat) : List UInt8 := (runB s (List.replicate (if s.2 = [] then 0 else 8 - s.2.length) 0)).1
def riceB (k : Nat) (l : List Nat) : List UInt8 := fillB (runB ([], []) (bitsOf k l))
/-- Noughts one by one: the bytes are those of the full state as soon as nothing waits. -/
theorem fillB_step {s : List UInt8 × List Nat} (h : s.2.length < 8) (h0 : s.2 ≠ []) : fillB (stepB s 0) = fillB s := by
  have hne : s.2.length ≠ 0 := fun e => h0 (List.length_eq_zero_iff.1 e)
  have e8 : 8 - s.2.length = (8 - s.2.length - 1) + 1 := by omega
  have hr : fillB s = (runB (stepB s 0) (List.replicate (8 - s.2.length - 1) 0)).1 := by
    rw [fillB, if_neg h0, e8, List.replicate_succ]
    rfl
  rw [hr]
  unfold fillB
  by_cases h7 : s.2.length = 7
  · have : (stepB s 0).2 = [] := by simp [stepB, h7]
    rw [if_pos this, h7]
  · have h2 : (stepB s 0).2 = s.2 ++ [0] := by simp [stepB, h7]
    have h3 : (stepB s 0).2 ≠ [] := by rw [h2]; simp
    rw [if_neg h3, h2]
    simp only [List.length_append, List.length_cons, List.length_nil]
    rw [show 8 - (s.2.length + (0 + 1)) = 8 - s.2.length - 1 from by omega]
theorem fillB_end {s : List UInt8 × List Nat} (h0 : s.2 = []) : fillB s = s.1 := by
  rw [fillB, if_pos h0]
  rfl

end Go.Proofs.YtgnnfljobgbpbabGreatDoor

namespace Go.Proofs.YtgnnfljobgbpbabGreatDoor
open Go.RowKit

/-! ### The bits of a text -/
def byteBits (c : UInt8) : List Nat := [c.toNat / 128 % 2, c.toNat / 64 % 2, c.toNat / 32 % 2, c.toNat / 16 % 2, c.toNat / 8 % 2, c.toNat / 4 % 2, c.toNat / 2 % 2, c.toNat % 2]
def unpack (o : List UInt8) : List Nat := o.flatMap byteBits
theorem unpack_append (a b : List UInt8) : unpack (a ++ b) = unpack a ++ unpack b := by simp [unpack]
theorem unpack_length (o : List UInt8) : (unpack o).length = 8 * o.length := by
  induction o with
  | nil => rfl
  | cons c r ih =>
    have : unpack (c :: r) = byteBits c ++ unpack r := rfl
    rw [this, List.length_append, ih]
    simp [byteBits]
    omega
theorem byteBits_val (l : List Nat) (h8 : l.length = 8) (h : ∀ x ∈ l, x ≤ 1) : byteBits (UInt8.ofNat (valB l)) = l := by
  match l, h8 with
  | [a, b, c, d, e, f, g, i], _ =>
    have ha := h a (by simp)
    have hb := h b (by simp)
    have hc := h c (by simp)
    have hd := h d (by simp)
    have he := h e (by simp)
    have hf := h f (by simp)
    have hg := h g (by simp)
    have hi := h i (by simp)
    have hv : valB [a, b, c, d, e, f, g, i] = a * 128 + b * 64 + c * 32 + d * 16 + e * 8 + f * 4 + g * 2 + i := by
      simp only [valB, List.foldl_cons, List.foldl_nil]
      omega
    have hn : (UInt8.ofNat (valB [a, b, c, d, e, f, g, i])).toNat = a * 128 + b * 64 + c * 32 + d * 16 + e * 8 + f * 4 + g * 2 + i := by
      rw [hv]
      simp
      omega
    simp only [byteBits, hn, List.cons.injEq, and_true]
    refine ⟨?_, ?_, ?_, ?_, ?_, ?_, ?_, ?_⟩ <;> omega
theorem unpack_step {s : List UInt8 × List Nat} {b : Nat} (h : okB s) (hb : b ≤ 1) : unpack (stepB s b).1 ++ (stepB s b).2 = unpack s.1 ++ s.2 ++ [b] := by
  unfold stepB
  split
  · rename_i h7
    have hall : ∀ x ∈ s.2 ++ [b], x ≤ 1 := by
      intro x hx
      rcases List.mem_append.1 hx with hx | hx
      · exact h.2 x hx
      · simp at hx; omega
    have e : unpack [UInt8.ofNat (valB (s.2 ++ [b]))] = s.2 ++ [b] := by
      have : unpack [UInt8.ofNat (valB (s.2 ++ [b]))] = byteBits (UInt8.ofNat (valB (s.2 ++ [b]))) := by simp [unpack]
      rw [this, byteBits_val _ (by simp [h7]) hall]
    rw [unpack_append, e]
    simp
  · simp
theorem unpack_run (bs : List Nat) : ∀ (s : List UInt8 × List Nat), okB s → (∀ b ∈ bs, b ≤ 1) → unpack (runB s bs).1 ++ (runB s bs).2 = unpack s.1 ++ s.2 ++ bs := by
  induction bs with
  | nil => intro s _ _; simp [runB]
  | cons b r ih =>
    intro s h hb
    have h1 := hb b (by simp)
    have := ih (stepB s b) (stepB_ok h h1) (fun x hx => hb x (by simp [hx]))
    have e : runB s (b :: r) = runB (stepB s b) r := rfl
    rw [e, this, unpack_step h h1]
    simp
theorem run_zeros (m : Nat) : ∀ (s : List UInt8 × List Nat), okB s → s.2.length + m = 8 → m ≠ 0 → (runB s (List.replicate m 0)).2 = [] := by
  induction m with
  | zero => intro s _ _ h; exact absurd rfl h
  | succ m ih =>
    intro s h hl _
    have e : runB s (List.replicate (m + 1) 0) = runB (stepB s 0) (List.replicate m 0) := rfl
    rw [e]
    by_cases h7 : s.2.length = 7
    · have hm : m = 0 := by omega
      subst hm
      simp [runB, stepB, h7]
    · have h2 : (stepB s 0).2 = s.2 ++ [0] := by simp [stepB, h7]
      refine ih _ (stepB_ok h (by omega)) (by rw [h2]; simp; omega) (by omega)
theorem unpack_fill {s : List UInt8 × List Nat} (h : okB s) : ∃ z, z < 8 ∧ unpack (fillB s) = unpack s.1 ++ s.2 ++ List.replicate z 0 := by
  by_cases h0 : s.2 = []
  · exact ⟨0, by omega, by rw [fillB_end h0, h0]; simp⟩
  · have hne : s.2.length ≠ 0 := fun e => h0 (List.length_eq_zero_iff.1 e)
    refine ⟨8 - s.2.length, by omega, ?_⟩
    have h8 := h.1
    have hu := unpack_run (List.replicate (8 - s.2.length) 0) s h (by intro b hb; simp at hb; omega)
    have hz := run_zeros (8 - s.2.length) s h (by omega) (by omega)
    rw [hz, List.append_nil] at hu
    rw [fillB, if_neg h0]
    exact hu
theorem unpack_rice (k : Nat) (l : List Nat) : ∃ z, z < 8 ∧ unpack (riceB k l) = bitsOf k l ++ List.replicate z 0 := by
  have hk : okB (runB ([], []) (bitsOf k l)) := runB_ok ⟨by simp, by simp⟩ (bitsOf_ok k l)
  obtain ⟨z, hz, h⟩ := unpack_fill hk
  refine ⟨z, hz, ?_⟩
  rw [riceB, h, unpack_run (bitsOf k l) ([], []) ⟨by simp, by simp⟩ (bitsOf_ok k l)]
  simp [unpack]

/-! ### The program's reader -/
def takeM (k : Nat) : Nat × Bool × Nat → Nat → (Nat × Bool × Nat) × Option Nat
  | (n, true, left), b => if 1 < left then ((n * 2 + b, true, left - 1), none) else ((0, false, 0), some (n * 2 + b))
  | (n, false, left), b => if b = 1 then ((n + 1, false, left), none) else if 0 < k then ((n, true, k), none) else ((0, false, 0), some n)
def readT (k many : Nat) : List Nat → Nat × Bool × Nat → List Nat → List Nat
  | [], _, out => out
  | b :: r, st, out => if out.length = many then out else readT k many r (takeM k st b).1 (out ++ (takeM k st b).2.toList)
theorem readT_ones (k many m : Nat) (rest : List Nat) : ∀ (n : Nat) (out : List Nat), out.length ≠ many → readT k many (List.replicate m 1 ++ rest) (n, false, 0) out = readT k many rest (n + m, false, 0) out := by
  induction m with
  | zero => intro n out _; simp
  | succ m ih =>
    intro n out h
    rw [List.replicate_succ, List.cons_append, readT, if_neg h]
    simp only [takeM, if_true, Option.toList, List.append_nil]
    rw [ih (n + 1) out h, show n + 1 + m = n + (m + 1) from by omega]
theorem readT_low (k many x : Nat) (rest : List Nat) : ∀ (j n : Nat) (out : List Nat), out.length ≠ many → n = x / 2 ^ (j + 1) → readT k many (lowB x (j + 1) ++ rest) (n, true, j + 1) out = readT k many rest (0, false, 0) (out ++ [x]) := by
  intro j
  induction j with
  | zero =>
    intro n out h hn
    rw [show lowB x (0 + 1) = [x / 2 ^ 0 % 2] from rfl, List.cons_append, readT, if_neg h]
    have : n * 2 + x / 2 ^ 0 % 2 = x := by rw [hn]; simp; omega
    simp only [takeM, List.nil_append, show ¬ (1 < 0 + 1) from by omega, if_false, Option.toList, this]
  | succ j ih =>
    intro n out h hn
    rw [show lowB x (j + 1 + 1) = (x / 2 ^ (j + 1) % 2) :: lowB x (j + 1) from rfl, List.cons_append, readT, if_neg h]
    simp only [takeM, show 1 < j + 1 + 1 from by omega, if_true, Option.toList, List.append_nil, show j + 1 + 1 - 1 = j + 1 from by omega]
    refine ih _ out h ?_
    rw [hn, Nat.pow_succ 2 (j + 1), ← Nat.div_div_eq_div_mul]
    omega
theorem readT_num (k many x : Nat) (rest : List Nat) (out : List Nat) (h : out.length ≠ many) : readT k many (numB k x ++ rest) (0, false, 0) out = readT k many rest (0, false, 0) (out ++ [x]) := by
  rw [numB, List.append_assoc, readT_ones k many _ _ 0 out h, List.cons_append, readT, if_neg h, Nat.zero_add]
  cases k with
  | zero => simp [takeM, lowB]
  | succ j =>
    simp only [takeM, show ¬ (0 = 1) from by omega, if_false, show 0 < j + 1 from by omega, if_true, Option.toList, List.append_nil]
    exact readT_low (j + 1) many x rest j _ out h rfl
theorem readT_all (k many : Nat) (l : List Nat) : ∀ (out rest : List Nat), out.length + l.length = many → readT k many (bitsOf k l ++ rest) (0, false, 0) out = out ++ l := by
  induction l with
  | nil =>
    intro out rest h
    have ho : out.length = many := by simpa using h
    cases rest with
    | nil => simp [bitsOf, readT]
    | cons b r => simp [bitsOf, readT, ho]
  | cons x l ih =>
    intro out rest h
    have : bitsOf k (x :: l) = numB k x ++ bitsOf k l := by simp [bitsOf]
    rw [this, List.append_assoc, readT_num k many x _ out (by simp at h; omega), ih (out ++ [x]) rest (by simp at h ⊢; omega)]
    simp
/-- What was written is read. -/
theorem readT_rice (k : Nat) (l : List Nat) : readT k l.length (unpack (riceB k l)) (0, false, 0) [] = l := by
  obtain ⟨z, _, h⟩ := unpack_rice k l
  rw [h, readT_all k l.length l [] _ (by simp)]
  rfl

end Go.Proofs.YtgnnfljobgbpbabGreatDoor

set_option linter.unusedVariables false
namespace Go.Proofs.YtgnnfljobgbpbabGreatDoor
open Go.RowKit

/-- A slice of integers that came in: it is nil; or it leads to a row of cells, the numbers zs. -/
def IsRow (k : IntKind) (w : World) (a : Option Addr) (len cap : Nat) (zs : List Int) : Prop :=
  (a = none ∧ len = 0 ∧ cap = 0 ∧ zs = []) ∨
  ∃ x, a = some x ∧ len ≤ cap ∧ cap ≤ maxLen ∧ zs.length = cap ∧ (∀ i, i < zs.length → w.cell? (x.add i) = some (.int k (zs.getD i 0))) ∧ ∀ n ∈ zs, (Lit.int k n).wf = true

theorem xor_nat (X Y : Int) (hX : 0 ≤ X) (hX' : X < 4611686018427387904) (hY : 0 ≤ Y) (hY' : Y < 4611686018427387904) : ∃ u : Nat, bits .xor .i64 X Y = (u : Int) := by
  obtain ⟨a, rfl⟩ := Int.eq_ofNat_of_zero_le hX
  obtain ⟨b, rfl⟩ := Int.eq_ofNat_of_zero_le hY
  refine ⟨a ^^^ b, ?_⟩
  have hx : a ^^^ b < 2 ^ 62 := Nat.xor_lt_two_pow (by omega) (by omega)
  have h1 : (BitVec.ofInt 64 (a : Int)).toNat = a := by
    rw [BitVec.ofInt_natCast, BitVec.toNat_ofNat]; exact Nat.mod_eq_of_lt (by omega)
  have h2 : (BitVec.ofInt 64 (b : Int)).toNat = b := by
    rw [BitVec.ofInt_natCast, BitVec.toNat_ofNat]; exact Nat.mod_eq_of_lt (by omega)
  show IntKind.i64.wrap ((BitVec.ofInt 64 (a : Int) ^^^ BitVec.ofInt 64 (b : Int)).toNat : Int) = _
  rw [BitVec.toNat_xor, h1, h2, IntKind.wrap_i64]
  omega

/-- Block b alone has turned. -/
structure Only (b : Nat) (w w' : World) : Prop where
  os : w'.os = w.os
  tape : w'.tape = w.tape
  output : w'.output = w.output
  size : w'.heap.size = w.heap.size
  block : ∀ c, c ≠ b → w'.heap[c]? = w.heap[c]?
theorem Only.below {B b : Nat} {w w' : World} (h : Only b w w') (hb : B ≤ b) : Below B w w' :=
  ⟨h.os, h.tape, h.output, by rw [h.size]; exact Nat.le_refl _, fun k hk => h.block k (by omega)⟩
theorem Only.refl (b : Nat) (w : World) : Only b w w := ⟨rfl, rfl, rfl, rfl, fun _ _ => rfl⟩
theorem Only.trans {b : Nat} {u v w : World} (h : Only b u v) (k : Only b v w) : Only b u w :=
  ⟨k.os.trans h.os, k.tape.trans h.tape, k.output.trans h.output, k.size.trans h.size, fun c hc => (k.block c hc).trans (h.block c hc)⟩
theorem Only.setCell (b o : Nat) (v : Value) (w : World) : Only b w (w.setCell ⟨b, o, none⟩ v) :=
  ⟨rfl, rfl, rfl, by simp [World.setCell], fun c hc => Below.heap_setCell _ _ _ _ hc⟩
theorem Only.drew {b : Nat} {w w' : World} (h : Only b w w') : Only b w w'.drew := ⟨h.os, h.tape, h.output, h.size, h.block⟩
theorem Only.drewN {b : Nat} {w w' : World} (h : Only b w w') (n : Nat) : Only b w (w'.drewN n) := ⟨h.os, h.tape, h.output, h.size, h.block⟩

/-- The cells of a list of numbers, of texts, that lies whole in a block. -/
theorem cells_ints {w : World} {g : Nat} {zs : List Int} {cs : Array Value} {T : TypeId} {fr : Nat × Nat} (h : w.heap[g]? = some (.cells cs T fr)) (he : cs = (zs.map (Value.int .i64)).toArray) (n : Nat) (hn : n ≤ zs.length) :
    ∀ i, i < n → w.cell? ⟨g, i, none⟩ = some (.int .i64 (zs.getD i 0)) := by
  intro i hi
  rw [Lib.cell_of_heap h, he]
  have : i < zs.length := by omega
  simp [List.getElem?_eq_getElem this]
theorem cells_texts {w : World} {g : Nat} {ss : List ByteArray} {cs : Array Value} {T : TypeId} {fr : Nat × Nat} (h : w.heap[g]? = some (.cells cs T fr)) (he : cs = (ss.map Value.string).toArray) (n : Nat) (hn : n ≤ ss.length) :
    ∀ i, i < n → w.cell? ⟨g, i, none⟩ = some (.string (ss.getD i ByteArray.empty)) := by
  intro i hi
  rw [Lib.cell_of_heap h, he]
  have : i < ss.length := by omega
  simp [List.getElem?_eq_getElem this]

end Go.Proofs.YtgnnfljobgbpbabGreatDoor

set_option linter.unusedVariables false
namespace Go.Proofs.YtgnnfljobgbpbabGreatDoor
open Go.RowKit

theorem or1 (n b : Nat) (hn : n < 1000000000000) (hb : b ≤ 1) : bits .or .i64 ((n : Int) * 2) (b : Int) = ((n * 2 + b : Nat) : Int) := by
  have e : (n : Int) * 2 = ((n * 2 : Nat) : Int) := by omega
  rw [e, (bits_nat .i64 63 (by decide) (fun m h0 h1 => by rw [IntKind.wrap_i64]; omega) (n * 2) b (by omega) (by omega)).2]
  have := (Nat.two_pow_add_eq_or_of_lt (i := 1) (by omega : b < 2 ^ 1) n).symm
  rw [show (2 : Nat) ^ 1 * n = n * 2 from by omega] at this
  rw [this]

end Go.Proofs.YtgnnfljobgbpbabGreatDoor

set_option linter.unusedVariables false
namespace Go.Proofs.YtgnnfljobgbpbabGreatDoor
open Go.Shelf Go.RowKit

theorem infoIntB : (Tryz.prog.info? 3).map (fun i => (i.zero, i.size, i.bytes)) = some (some (.int .i64 0), 1, 8) := by kernel_rfl
theorem infoByteB : (Tryz.prog.info? 5).map (fun i => (i.zero, i.size, i.bytes)) = some (some (.int .u8 0), 1, 1) := by kernel_rfl
def intCells (l : List Nat) : List Value := l.map fun n : Nat => Value.int .i64 (n : Int)
def SAt (b : Nat) (v u : Value) (w : World) : Prop := w.heap[b]? = some (.cells #[v, u] 90 (0, 0))
theorem SAt.c0 {b : Nat} {v u : Value} {w : World} (h : SAt b v u w) : w.cell? ⟨b, 0, none⟩ = some v := by rw [Lib.cell_of_heap h]; rfl
theorem SAt.c1 {b : Nat} {v u : Value} {w : World} (h : SAt b v u w) : w.cell? ⟨b, 1, none⟩ = some u := by rw [Lib.cell_of_heap h]; rfl
theorem SAt.fz {b : Nat} {v u : Value} {w : World} (h : SAt b v u w) (i : Nat) : w.frozen? ⟨b, i, none⟩ = false := Lib.frozen_of_heap h i
theorem SAt.lt {b : Nat} {v u : Value} {w : World} (h : SAt b v u w) : b < w.heap.size := by
  rcases Nat.lt_or_ge b w.heap.size with h' | h'
  · exact h'
  · simp [SAt, Array.getElem?_eq_none h'] at h
theorem SAt.set0 {b : Nat} {v u : Value} {w : World} (h : SAt b v u w) (x : Value) : SAt b x u (w.setCell ⟨b, 0, none⟩ x) := by
  unfold SAt at h ⊢
  simp only [World.setCell, Array.getElem?_modify, h]
  simp
theorem SAt.set1 {b : Nat} {v u : Value} {w : World} (h : SAt b v u w) (x : Value) : SAt b v x (w.setCell ⟨b, 1, none⟩ x) := by
  unfold SAt at h ⊢
  simp only [World.setCell, Array.getElem?_modify, h]
  simp
/-- A row that the call has made stands if its block stands. -/
theorem ownsRow_keep {base : Nat} {e : TypeId} {v : Value} {n : Nat} {xs : List Value} {w w' : World} (h : w.ownsRow base e 1 v n xs) (hk : ∀ g, v.ownBlock = some g → w'.heap[g]? = w.heap[g]?) : w'.ownsRow base e 1 v n xs := by
  refine ⟨h.1, ?_⟩
  rcases h.2 with h2 | ⟨g, cap, cur, hv, h2⟩
  · exact .inl h2
  · refine .inr ⟨g, cap, cur, hv, h2.1, ?_, h2.2.2⟩
    rw [hk g (by rw [hv]; rfl)]
    exact h2.2.1
theorem ownsRow_type {base : Nat} {e : TypeId} {v : Value} {n : Nat} {xs : List Value} {w : World} (h : w.ownsRow base e 1 v n xs) (g : Nat) (hg : v.ownBlock = some g) : ∃ cur, w.heap[g]? = some (.cells cur e (0, 0)) ∧ g < w.heap.size := by
  rcases h.2 with ⟨h2, _⟩ | ⟨g', cap, cur, hv, h2⟩
  · rw [h2] at hg; cases hg
  · rw [hv] at hg
    obtain rfl : g' = g := by simpa [Value.ownBlock] using hg
    refine ⟨cur, h2.2.1, ?_⟩
    rcases Nat.lt_or_ge g' w.heap.size with h' | h'
    · exact h'
    · have := h2.2.1
      simp [Array.getElem?_eq_none h'] at this
theorem intCell_at {base : Nat} {e : TypeId} {g n cap : Nat} {m : List Nat} {w : World} (h : w.ownsRow base e 1 (.slice (some ⟨g, 0, none⟩) n cap) n (intCells m)) (i : Nat) (hi : i < m.length) : w.cell? ⟨g, i, none⟩ = some (.int .i64 ((m.getD i 0 : Nat) : Int)) := by
  have hl : m.length = n := by have := h.1; simpa [intCells] using this
  rcases h.2 with ⟨h2, _⟩ | ⟨g', cap', cur, hv, _, hc, _, _, _, ht⟩
  · cases h2
  · simp only [Value.slice.injEq, Option.some.injEq, Addr.mk.injEq, and_true, true_and] at hv
    obtain ⟨rfl, rfl⟩ := hv
    rw [Lib.cell_of_heap hc, ← Array.getElem?_toList]
    have h3 : cur.toList[i]? = (intCells m)[i]? := by rw [← ht, List.getElem?_take]; simp [← hl, hi]
    rw [h3]
    simp [intCells, List.getElem?_eq_getElem hi]
theorem take_valB (m : List Nat) (j : Nat) (hj : j < m.length) : valB (m.take (j + 1)) = valB (m.take j) * 2 + m.getD j 0 := by
  have : m.take (j + 1) = m.take j ++ [m.getD j 0] := by
    rw [List.take_add_one, List.getElem?_eq_getElem hj]
    simp [List.getElem?_eq_getElem hj]
  rw [this, valB_snoc]
/-- The writer: its full bytes, and the bits that wait. -/
def SB (B b : Nat) (s : List UInt8 × List Nat) (w : World) : Prop :=
  B ≤ b ∧ ∃ v u, SAt b v u w ∧ w.ownsRow B 5 1 v s.1.length (Lib.byteCells s.1) ∧ w.ownsRow B 3 1 u s.2.length (intCells s.2)

set_option maxHeartbeats 1000000 in
set_option maxRecDepth 100000 in
theorem putS (B b : Nat) (s : List UInt8 × List Nat) (bit : Nat) (w : World) (h : SB B b s w) (hok : okB s) (hb : bit ≤ 1) (hlen : s.1.length + 1 ≤ 1000000000) :
    Calls Tryz.prog 78 #[.pointer (some ⟨b, 0, none⟩), .int .i64 (bit : Int)] w fun e w' => e = .returned (.tuple #[]) ∧ SB B b (stepB s bit) w' ∧ Below B w w' := by
  obtain ⟨o, l⟩ := s
  obtain ⟨i1, hi1, hz1, hz2, hz3⟩ := info_parts infoIntB
  obtain ⟨i0, hi0, hy1, hy2, hy3⟩ := info_parts infoByteB
  obtain ⟨hB, v, u, hs, ho, hl⟩ := h
  have c0 := hs.c0
  have c1 := hs.c1
  have HSS : Hid (SAt b v u w) := hs
  have hlt := hs.lt
  have HO : Hid (w.ownsRow B 5 1 v o.length (Lib.byteCells o)) := ho
  clear hs ho
  go_enter Tryz.func78, Tryz.ntmps78
  go_wp2_with (at_builtin; refine wp_app1 rfl _ _ 49 rfl B 3 i1 (.int .i64 0) 8 Tryz.underlying49 hi1 hz1 hz2 hz3 rfl _ l.length (intCells l) rfl hl (.int .i64 (bit : Int)) rfl rfl ?c3 ?c4 ?c5 ?_)
  case c3 => have := hok.1; unfold maxLen; dsimp only at this; omega
  case c4 => have := hok.1; dsimp only at this; omega
  case c5 => omega
  intro g cap w2 hown hb2 hoth
  have hub : u.ownBlock ≠ some b := by
    intro he
    obtain ⟨cur, hc, _⟩ := ownsRow_type hl b he
    rw [HSS.out] at hc
    simp only [Option.some.injEq, Obj.cells.injEq] at hc
    exact absurd hc.2.1 (by decide)
  have hs2 : SAt b v u w2 := by
    unfold SAt
    rw [hoth b hlt hub]
    exact HSS.out
  have HO2 : Hid (w2.ownsRow B 5 1 v o.length (Lib.byteCells o)) := by
    refine ownsRow_keep HO.out (fun g' hg' => ?_)
    obtain ⟨cur, hc, hlt'⟩ := ownsRow_type HO.out g' hg'
    refine hoth g' hlt' (fun he => ?_)
    obtain ⟨cur2, hc2, _⟩ := ownsRow_type hl g' he
    rw [hc] at hc2
    simp only [Option.some.injEq, Obj.cells.injEq] at hc2
    exact absurd hc2.2.1 (by decide)
  have hgb : g ≠ b := by
    intro he
    obtain ⟨cur, hc, _⟩ := ownsRow_type hown g rfl
    rw [he, hs2] at hc
    simp only [Option.some.injEq, Obj.cells.injEq] at hc
    exact absurd hc.2.1 (by decide)
  have hvb : v.ownBlock ≠ some b := by
    intro he
    obtain ⟨cur, hc, _⟩ := ownsRow_type HO2.out b he
    rw [hs2] at hc
    simp only [Option.some.injEq, Obj.cells.injEq] at hc
    exact absurd hc.2.1 (by decide)
  have d0 := hs2.c0
  have d1 := hs2.c1
  have f0 := hs2.fz 0
  have f1 := hs2.fz 1
  obtain ⟨w3, hw3⟩ : ∃ w3, w3 = w2.setCell ⟨b, 1, none⟩ (.slice (some ⟨g, 0, none⟩) (l.length + 1) cap) := ⟨_, rfl⟩
  have HW3 : Hid (w3 = w2.setCell ⟨b, 1, none⟩ (.slice (some ⟨g, 0, none⟩) (l.length + 1) cap)) := hw3
  have HS3 : Hid (SAt b v (.slice (some ⟨g, 0, none⟩) (l.length + 1) cap) w3) := by rw [hw3]; exact hs2.set1 _
  have HO3 : Hid (w3.ownsRow B 5 1 v o.length (Lib.byteCells o)) := by
    rw [hw3]
    exact ownsRow_keep HO2.out (fun g' hg' => Below.heap_setCell w2 ⟨b, 1, none⟩ _ g' (fun e => hvb (by rw [hg', e])))
  have HL3 : Hid (w3.ownsRow B 3 1 (.slice (some ⟨g, 0, none⟩) (l.length + 1) cap) (l.length + 1) (intCells (l ++ [bit]))) := by
    rw [hw3]
    have : intCells (l ++ [bit]) = intCells l ++ [.int .i64 (bit : Int)] := by simp [intCells]
    rw [this]
    exact ownsRow_keep hown (fun g' hg' => Below.heap_setCell w2 ⟨b, 1, none⟩ _ g' (fun e => hgb (by simpa [Value.ownBlock, e] using hg')))
  have HB3 : Hid (Below B w w3) := by rw [hw3]; exact hb2.setCell (p := ⟨b, 1, none⟩) hB _
  clear hw3 hl hown hoth hb2 hs2 HO HO2 HSS c0 c1
  by_cases h7 : l.length = 7
  · have HS : Hid (stepB (o, l) bit = (o ++ [UInt8.ofNat (valB (l ++ [bit]))], [])) := by
      show _ = _
      simp [stepB, h7]
    rw [h7] at HS3 HL3 HW3
    have HW8 : Hid (w2.setCell ⟨b, 1, none⟩ (.slice (some ⟨g, 0, none⟩) 8 cap) = w3) := by show _ = _; rw [HW3.out]
    have h8 : ((l.length + 1 : Nat) : Int) = 8 := by omega
    have hbl : ∀ x ∈ l ++ [bit], x ≤ 1 := by
      intro x hx
      rcases List.mem_append.1 hx with hx | hx
      · exact hok.2 x hx
      · simp at hx; omega
    have hml : (l ++ [bit]).length = 8 := by simp [h7]
    go_wp2_with fail
    rw [HW8.out]
    have c1 : w3.cell? ⟨b, 1, none⟩ = some (.slice (some ⟨g, 0, none⟩) 8 cap) := HS3.out.c1
    have HBL : Hid (∀ x ∈ l ++ [bit], x ≤ 1) := hbl
    have HML : Hid ((l ++ [bit]).length = 8) := hml
    obtain ⟨m, hm⟩ : ∃ m, m = l ++ [bit] := ⟨_, rfl⟩
    rw [← hm] at HL3 HS HBL HML
    have g0 := HS3.out.fz 0
    have g1 := HS3.out.fz 1
    have c0 := HS3.out.c0
    have hlt3 := HS3.out.lt
    clear hm hbl hml d0 d1 f0 f1 HW8 HW3 h8 h7
    go_loop [4, 5] (fun n i => ∃ j x : Nat, j ≤ 8 ∧ i = .int .i64 (j : Int) ∧ n = .int .i64 (x : Int) ∧ x < 256 ∧ Hid (x = valB (m.take j))) (fun _ i => 8 - (intOf i).toNat)
    case atStart => exact ⟨0, 0, by omega, rfl, rfl, by omega, rfl⟩
    case round =>
      obtain ⟨j, x, hj, rfl, rfl, hx, HX⟩ := hrel
      by_cases hj8 : j < 8
      · have hjm : j < m.length := by rw [HML.out]; exact hj8
        have cj := intCell_at HL3.out j hjm
        have HX2 : Hid (x * 2 + m.getD j 0 = valB (m.take (j + 1))) := by show _ = _; rw [take_valB m j hjm, ← HX.out]
        have hy : m.getD j 0 ≤ 1 := by
          rw [List.getD_eq_getElem?_getD, List.getElem?_eq_getElem hjm]
          exact HBL.out _ (List.getElem_mem hjm)
        have hxx : x * 2 + m.getD j 0 < 256 := by
          have h1 := valB_lt (m.take (j + 1)) (fun y hy => HBL.out y (List.mem_of_mem_take hy))
          have h2 : (m.take (j + 1)).length ≤ 8 := by simp [HML.out]; omega
          have h3 : 2 ^ (m.take (j + 1)).length ≤ 2 ^ 8 := Nat.pow_le_pow_right (by decide) h2
          rw [HX2.out]
          omega
        generalize m.getD j 0 = y at cj HX2 hy hxx
        have lj : (j : Int) < 8 := by omega
        have HJ : Hid (j + 1 ≤ 8) := hj8
        clear hjm HX
        go_wp2_with fail
        go_round
        case rel => exact ⟨j + 1, x * 2 + y, HJ.out, by go_num, by go_num, hxx, HX2⟩
        case measure => simp [intOf]; omega
      · have HX2 : Hid (x = valB m) := by
          show _ = _
          rw [HX.out, List.take_of_length_le (by rw [HML.out]; omega)]
        have rx : (x : Int) % 256 = (x : Int) := by omega
        go_wp2_with (at_builtin; refine wp_app1 rfl _ _ 66 rfl B 5 i0 (.int .u8 0) 1 Tryz.underlying66 hi0 hy1 hy2 hy3 rfl _ o.length (Lib.byteCells o) rfl HO3.out (.int .u8 (x : Int)) rfl rfl ?c3 ?c4 ?c5 ?_)
        case c3 => unfold maxLen; omega
        case c4 => omega
        case c5 => omega
        intro g4 cap4 w4 hown4 hb4 hoth4
        have hs4 : SAt b v (.slice (some ⟨g, 0, none⟩) (7 + 1) cap) w4 := by
          unfold SAt
          rw [hoth4 b hlt3 hvb]
          exact HS3.out
        have e0 := hs4.fz 0
        have e1 := hs4.fz 1
        have k0 := hs4.c0
        have k1 := hs4.c1
        have HS4 : Hid (SAt b v (.slice (some ⟨g, 0, none⟩) (7 + 1) cap) w4) := hs4
        have HO4 : Hid (w4.ownsRow B 5 1 (.slice (some ⟨g4, 0, none⟩) (o.length + 1) cap4) (o.length + 1) (Lib.byteCells o ++ [.int .u8 (x : Int)])) := hown4
        have HB4 : Hid (Below B w3 w4) := hb4
        have hg4 : g4 ≠ b := by
          intro he
          obtain ⟨cur, hc, _⟩ := ownsRow_type hown4 g4 rfl
          rw [he, hs4] at hc
          simp only [Option.some.injEq, Obj.cells.injEq] at hc
          exact absurd hc.2.1 (by decide)
        clear hs4 hown4 hb4 hoth4 c0 c1 g0 g1
        go_wp2_with fail
        go_end0
        rw [HS.out]
        refine ⟨rfl, ⟨hB, _, _, (HS4.out.set0 _).set1 _, ?_, ⟨rfl, .inl ⟨rfl, rfl⟩⟩⟩, ((HB3.out.trans HB4.out).setCell (p := ⟨b, 0, none⟩) hB _).setCell (p := ⟨b, 1, none⟩) hB _⟩
        have hbc : Lib.byteCells (o ++ [UInt8.ofNat (valB m)]) = Lib.byteCells o ++ [.int .u8 (x : Int)] := by
          rw [← HX2.out]
          have : ((UInt8.ofNat x).toNat : Int) = (x : Int) := by simp; omega
          simp only [Lib.byteCells, List.map_append, List.map_cons, List.map_nil, this]
        show World.ownsRow _ _ _ _ _ (o ++ [UInt8.ofNat (valB m)]).length _
        rw [hbc, List.length_append]
        exact ownsRow_keep HO4.out (fun g' hg' => by
          have : g' ≠ b := by
            intro e
            exact hg4 (by simpa [Value.ownBlock, e] using hg')
          rw [Below.heap_setCell _ ⟨b, 1, none⟩ _ g' this, Below.heap_setCell _ ⟨b, 0, none⟩ _ g' this])
  · have HS : Hid (stepB (o, l) bit = (o, l ++ [bit])) := by
      show _ = _
      simp [stepB, h7]
    have h8 : ((l.length : Int) + 1 == 8) = false := by simp; omega
    have HL1 : Hid (l.length + 1 = (l ++ [bit]).length) := by show _ = _; simp
    go_wp2_with fail
    go_end0
    rw [HS.out, ← HW3.out]
    refine ⟨rfl, ⟨hB, v, _, HS3.out, HO3.out, ?_⟩, HB3.out⟩
    have := HL3.out
    rw [HL1.out] at this ⊢
    exact this

end Go.Proofs.YtgnnfljobgbpbabGreatDoor

set_option linter.unusedVariables false
namespace Go.Proofs.YtgnnfljobgbpbabGreatDoor
open Go.RowKit Go.Shelf
attribute [local go_sem] Oper.semAt_some

theorem infoIntG : (Tryz.prog.info? 3).map (fun i => (i.zero, i.size, i.bytes)) = some (some (.int .i64 0), 1, 8) := by kernel_rfl
theorem makeCap (n : Nat) (hn : n ≤ 1099511627776) (w : World) : (Instr.makeSlice 49 (.int .i64 0) (.int .i64 (n : Int))).run Tryz.prog w = .ok (.slice (some ⟨w.heap.size, 0, none⟩) 0 n) (w.alloc (.cells (madeCells #[.int .i64 0] n) 3)) := by
  obtain ⟨i, hi, hz, hs, hb⟩ := info_parts infoIntG
  have hb' : (i.bytes : Int) * (n : Int) ≤ 281474976710656 := by rw [hb]; omega
  have hr := run_make (P := Tryz.prog) w 49 3 i (.int .i64 0) Tryz.underlying49 hi hz .i64 .i64 0 (n : Int) (by omega) (by omega) hb' (by omega)
  simp only [Int.toNat_natCast, hs, Nat.mul_one, Value.cells, Int.toNat_zero] at hr
  exact hr

end Go.Proofs.YtgnnfljobgbpbabGreatDoor

namespace Go.Proofs.YtgnnfljobgbpbabGreatDoor
open Go.RowKit

def numOk (z : Int) : Bool := decide (0 ≤ z ∧ z ≤ 60000)
def bitsOk (k : Int) : Bool := decide (0 ≤ k ∧ k ≤ 8)
def riceOkB (zs : List Int) (k : Int) : Bool := decide (zs.length ≤ 40) && bitsOk k && zs.all numOk
def ricePut (zs : List Int) (k : Int) : List UInt8 := if riceOkB zs k = true then riceB k.toNat (zs.map Int.toNat) else []
/-- The numbers lie there. -/
def At (w : World) (g : Nat) (zs : List Int) : Prop := g < w.heap.size ∧ ∀ i, i < zs.length → w.cell? ⟨g, i, none⟩ = some (.int .i64 (zs.getD i 0))
theorem At.below {w w' : World} {g B : Nat} {zs : List Int} (h : At w g zs) (hb : Below B w w') (hg : g < B) : At w' g zs :=
  ⟨Nat.lt_of_lt_of_le h.1 hb.size, fun i hi => by rw [hb.cell (p := ⟨g, i, none⟩) hg]; exact h.2 i hi⟩
theorem At.drew {w : World} {g : Nat} {zs : List Int} (h : At w g zs) : At w.drew g zs := h
theorem riceOk_len {zs : List Int} {k : Int} (h : riceOkB zs k = true) : zs.length ≤ 40 := by
  simp only [riceOkB, Bool.and_eq_true] at h
  exact of_decide_eq_true h.1.1
theorem riceOk_bits {zs : List Int} {k : Int} (h : riceOkB zs k = true) : 0 ≤ k ∧ k ≤ 8 := by
  simp only [riceOkB, Bool.and_eq_true] at h
  exact of_decide_eq_true h.1.2
theorem riceOk_at {zs : List Int} {k : Int} (h : riceOkB zs k = true) (i : Nat) (hi : i < zs.length) : 0 ≤ zs.getD i 0 ∧ zs.getD i 0 ≤ 60000 := by
  simp only [riceOkB, Bool.and_eq_true, List.all_eq_true] at h
  have := h.2 (zs.getD i 0) (by simp [List.getElem?_eq_getElem hi])
  exact of_decide_eq_true this
theorem riceOk_no {zs : List Int} {k : Int} (i : Nat) (hi : i < zs.length) (h : ¬ (0 ≤ zs.getD i 0 ∧ zs.getD i 0 ≤ 60000)) : riceOkB zs k = false := by
  cases hh : riceOkB zs k with
  | false => rfl
  | true => exact absurd (riceOk_at hh i hi) h
theorem riceOk_yes {zs : List Int} {k : Int} (h1 : zs.length ≤ 40) (h2 : 0 ≤ k ∧ k ≤ 8) (h3 : ∀ i, i < zs.length → 0 ≤ zs.getD i 0 ∧ zs.getD i 0 ≤ 60000) : riceOkB zs k = true := by
  have e1 : decide (zs.length ≤ 40) = true := decide_eq_true h1
  have e2 : bitsOk k = true := decide_eq_true h2
  simp only [riceOkB, e1, e2, Bool.true_and, List.all_eq_true]
  intro z hz
  obtain ⟨i, hi, rfl⟩ := List.mem_iff_getElem.1 hz
  have := h3 i hi
  rw [List.getD_eq_getElem?_getD, List.getElem?_eq_getElem hi] at this
  exact decide_eq_true this
theorem ricePut_yes {zs : List Int} {k : Int} (h : riceOkB zs k = true) : ricePut zs k = riceB k.toNat (zs.map Int.toNat) := by
  rw [ricePut, if_pos h]
theorem ricePut_no {zs : List Int} {k : Int} (h : riceOkB zs k = false) : ricePut zs k = [] := by
  rw [ricePut, if_neg (by rw [h]; decide)]
/-- The first so many numbers written. -/
def upTo (k : Nat) (zs : List Int) (i : Nat) : List UInt8 × List Nat := runB ([], []) (bitsOf k ((zs.map Int.toNat).take i))
theorem upTo_zero (k : Nat) (zs : List Int) : upTo k zs 0 = ([], []) := by simp [upTo, bitsOf, runB]
theorem upTo_succ (k : Nat) (zs : List Int) (i : Nat) (hi : i < zs.length) : upTo k zs (i + 1) = runB (upTo k zs i) (numB k (zs.getD i 0).toNat) := by
  have h : (zs.map Int.toNat).take (i + 1) = (zs.map Int.toNat).take i ++ [(zs.getD i 0).toNat] := by
    rw [List.take_add_one, List.getElem?_map, List.getElem?_eq_getElem hi]
    simp [List.getElem?_eq_getElem hi]
  rw [upTo, h, bitsOf_snoc, runB_append]
  rfl
theorem upTo_ok (k : Nat) (zs : List Int) (i : Nat) : okB (upTo k zs i) := runB_ok ⟨by simp, by simp⟩ (bitsOf_ok _ _)
theorem upTo_len {k : Nat} {zs : List Int} (hk : k ≤ 8) (hl : zs.length ≤ 40) (h : ∀ i, i < zs.length → 0 ≤ zs.getD i 0 ∧ zs.getD i 0 ≤ 60000) (i : Nat) : (upTo k zs i).1.length ≤ 10000000 := by
  have h1 := runB_len ([], []) (bitsOf k ((zs.map Int.toNat).take i))
  have h2 := bitsOf_length k ((zs.map Int.toNat).take i) hk (by
    intro x hx
    have hx' := List.mem_of_mem_take hx
    obtain ⟨z, hz, rfl⟩ := List.mem_map.1 hx'
    obtain ⟨j, hj, rfl⟩ := List.mem_iff_getElem.1 hz
    have := h j hj
    rw [List.getD_eq_getElem?_getD, List.getElem?_eq_getElem hj] at this
    simp at this
    omega)
  have h3 : ((zs.map Int.toNat).take i).length ≤ 40 := by simp; omega
  have h4 : ((zs.map Int.toNat).take i).length * 60009 ≤ 40 * 60009 := Nat.mul_le_mul_right _ h3
  simp only [List.length_nil] at h1
  show (runB ([], []) (bitsOf k ((zs.map Int.toNat).take i))).1.length ≤ _
  omega
theorem upTo_end (k : Nat) (zs : List Int) : fillB (upTo k zs zs.length) = riceB k (zs.map Int.toNat) := by
  rw [upTo, riceB, List.take_of_length_le (by simp)]

end Go.Proofs.YtgnnfljobgbpbabGreatDoor

set_option linter.unusedVariables false
namespace Go.Proofs.YtgnnfljobgbpbabGreatDoor
open Go.RowKit

/-- A row of integers of the call's own. -/
def ZRow (B : Nat) (v : Value) (zs : List Int) (w : World) : Prop := (∃ g cap, v = .slice (some ⟨g, 0, none⟩) zs.length cap) ∧ w.ownsRow B 3 1 v zs.length (zs.map (Value.int .i64))
theorem zrow_new (w : World) : ZRow w.heap.size (.slice (some ⟨w.heap.size, 0, none⟩) 0 0) [] (w.alloc (.cells #[] 3)) :=
  ⟨⟨_, _, rfl⟩, rfl, .inr ⟨_, _, #[], rfl, Nat.le_refl _, heap_alloc_new w _, Nat.le_refl _, by unfold maxLen; omega, rfl, rfl⟩⟩
theorem ZRow.block {B : Nat} {v : Value} {zs : List Int} {w : World} (h : ZRow B v zs w) : ∃ g cap cur, v = .slice (some ⟨g, 0, none⟩) zs.length cap ∧ B ≤ g ∧ g < w.heap.size ∧ w.heap[g]? = some (.cells cur 3 (0, 0)) ∧ cur.toList.take zs.length = zs.map (Value.int .i64) := by
  obtain ⟨⟨g, cap, rfl⟩, hl, h2⟩ := h
  rcases h2 with ⟨h2, _⟩ | ⟨g', cap', cur, hv, h3, h4, h5, h6, h7, h8⟩
  · cases h2
  · simp only [Value.slice.injEq, Option.some.injEq, Addr.mk.injEq, and_true] at hv
    obtain ⟨rfl, _, rfl⟩ := hv
    refine ⟨g, cap, cur, rfl, h3, ?_, h4, by simpa using h8⟩
    exact (Array.getElem?_eq_some_iff.1 h4).1
theorem ZRow.keep {B C : Nat} {v : Value} {zs : List Int} {w w' : World} (h : ZRow B v zs w) (hk : ∀ g, B ≤ g → g < w.heap.size → w'.heap[g]? = w.heap[g]?) : ZRow B v zs w' := by
  have hb := h.block
  refine ⟨h.1, ownsRow_keep h.2 (fun g hg => ?_)⟩
  obtain ⟨g', cap, cur, rfl, h1, h2, _⟩ := hb
  obtain rfl : g' = g := by simpa [Value.ownBlock] using hg
  exact hk g' h1 h2
theorem ZRow.only {B b : Nat} {v : Value} {zs : List Int} {w w' : World} (h : ZRow B v zs w) (ho : Only b w w') (hb : b < B) : ZRow B v zs w' := h.keep (C := B) (fun g hg _ => ho.block g (by omega))
theorem ZRow.at {B g n cap : Nat} {zs : List Int} {w : World} (h : ZRow B (.slice (some ⟨g, 0, none⟩) n cap) zs w) : At w g zs ∧ n = zs.length := by
  obtain ⟨g', cap', cur, hv, h1, h2, h3, h4⟩ := h.block
  simp only [Value.slice.injEq, Option.some.injEq, Addr.mk.injEq, and_true] at hv
  obtain ⟨rfl, rfl, rfl⟩ := hv
  refine ⟨⟨h2, fun i hi => ?_⟩, rfl⟩
  rw [Lib.cell_of_heap h3]
  have : cur.toList[i]? = (zs.map (Value.int .i64))[i]? := by rw [← h4, List.getElem?_take]; simp [hi]
  rw [← Array.getElem?_toList, this]
  simp [List.getElem?_eq_getElem hi]

def nums5 : List Int := [0, 1, 3, 8, 20]
def nums7 : List Int := [0, 1, 5, 31, 32, 100, 700]
def nums3 : List Int := [-1, 60000, 60001]
theorem nums5_in : ∀ i : Fin 5, 0 ≤ nums5.getD i.val 0 ∧ nums5.getD i.val 0 ≤ 20 := by decide

end Go.Proofs.YtgnnfljobgbpbabGreatDoor

set_option linter.unusedVariables false
namespace Go.Proofs.YtgnnfljobgbpbabGreatDoor
open Go.RowKit

theorem at_news {w : World} {g : Nat} {zs : List Int} (h : At w g zs) (a m off : Nat) (hk : a + m ≤ zs.length) (ho : 0 < m → off = a) : ∀ j u, (((zs.drop a).take m).map (Value.int .i64))[j]? = some u → w.cell? ((⟨g, off, none⟩ : Addr).add j) = some u := by
  intro j u hu
  have hj : j < m := by
    have := (List.getElem?_eq_some_iff.1 hu).1
    simp at this
    omega
  have e := ho (by omega)
  subst e
  have hc := h.2 (off + j) (by omega)
  have e2 : (((zs.drop off).take m).map (Value.int .i64))[j]? = some (.int .i64 (zs.getD (off + j) 0)) := by
    rw [List.getElem?_map, List.getElem?_take_of_lt hj, List.getElem?_drop, List.getElem?_eq_getElem (by omega)]
    simp [List.getElem?_eq_getElem (show off + j < zs.length by omega)]
  rw [e2] at hu
  rw [← hu, ← hc]
  rcases j with _ | j
  · simp [Addr.add]
  · simp [Addr.add]
theorem ints_one (l : List Int) : ∀ u ∈ l.map (Value.int .i64), u.oneCell' = true := by
  intro u hu
  obtain ⟨x, _, rfl⟩ := List.mem_map.1 hu
  rfl
theorem At.far {w w' : World} {g : Nat} {zs : List Int} (h : At w g zs) (hk : w'.heap[g]? = w.heap[g]?) (hs : w.heap.size ≤ w'.heap.size) : At w' g zs :=
  ⟨Nat.lt_of_lt_of_le h.1 hs, fun i hi => (World.cell?_of_block (a := ⟨g, i, none⟩) hk).trans (h.2 i hi)⟩
theorem ZRow.of {B n g cap : Nat} {zs : List Int} {w : World} (h : w.ownsRow B 3 1 (.slice (some ⟨g, 0, none⟩) n cap) n (zs.map (Value.int .i64))) (hn : n = zs.length) : ZRow B (.slice (some ⟨g, 0, none⟩) n cap) zs w := by
  subst hn
  exact ⟨⟨g, cap, rfl⟩, h⟩

theorem own_form {B n : Nat} {e : TypeId} {v : Value} {xs : List Value} {w : World} (h : w.ownsRow B e 1 v n xs) (hv : v ≠ .slice none 0 0) : ∃ g c, v = .slice (some ⟨g, 0, none⟩) n c := by
  rcases h.2 with ⟨h2, _⟩ | ⟨g, c, cur, h2, _⟩
  · exact absurd h2 hv
  · exact ⟨g, c, h2⟩
theorem own_cap {B n m g c : Nat} {e : TypeId} {xs : List Value} {w : World} (h : w.ownsRow B e 1 (.slice (some ⟨g, 0, none⟩) n c) m xs) : n ≤ c ∧ B ≤ g ∧ g < w.heap.size := by
  rcases h.2 with ⟨h2, _⟩ | ⟨g', c', cur, h2, h3, h4, h5, _⟩
  · cases h2
  · simp only [Value.slice.injEq, Option.some.injEq, Addr.mk.injEq, and_true] at h2
    obtain ⟨rfl, rfl, rfl⟩ := h2
    exact ⟨h5, h3, (Array.getElem?_eq_some_iff.1 h4).1⟩
theorem grown_far {W w1 : World} {row : Option Nat} {b : Nat} {o : Obj} (hg : (W.alloc o).grownBy w1 row) (hb : b < W.heap.size) (hne : some b ≠ row) : w1.heap[b]? = W.heap[b]? :=
  (hg.block b (by simp; omega) hne).trans (Below.heap_alloc _ _ _ hb)
theorem grown_far2 {W w1 : World} {row : Option Nat} {b : Nat} {o : Obj} (hg : (W.alloc o).drew.grownBy w1 row) (hb : b < W.heap.size) (hne : some b ≠ row) : w1.heap[b]? = W.heap[b]? :=
  (hg.block b (by show b < (W.alloc o).heap.size; simp; omega) hne).trans (Below.heap_alloc _ _ _ hb)
theorem grown_size2 {W w1 : World} {row : Option Nat} {o : Obj} (hg : (W.alloc o).drew.grownBy w1 row) : W.heap.size + 1 ≤ w1.heap.size := by
  have := hg.size
  have e : (W.alloc o).drew.heap.size = W.heap.size + 1 := by show (W.alloc o).heap.size = _; simp
  omega
theorem grown_size {W w1 : World} {row : Option Nat} {o : Obj} (hg : (W.alloc o).grownBy w1 row) : W.heap.size + 1 ≤ w1.heap.size := by
  have := hg.size
  simpa using this

set_option maxHeartbeats 4000000 in
set_option maxRecDepth 100000 in
theorem specSort (g n cap : Nat) (zs : List Int) (w : World) (h : At w g zs) (hn : n = zs.length) (hm : n ≤ 1000) :
    Calls Tryz.prog 51 #[.slice (some ⟨g, 0, none⟩) n cap] w fun e w' => ∃ v, e = .returned v ∧ ZRow w.heap.size v (sortL zs) w' ∧ Below w.heap.size w w' := by
  obtain ⟨i0, hi, hz0, hz1, hz2⟩ := info_parts infoIntB
  have HA : Hid (At w g zs) := h
  have HN : Hid (n = zs.length) := hn
  clear h hn
  go_enter Tryz.func51, Tryz.ntmps51
  go_wp2_with fail
  have HW0 : Hid (ZRow w.heap.size (.slice (some ⟨w.heap.size, 0, none⟩) 0 0) (sortL (zs.take 0)) (w.alloc (.cells #[] 3))) := zrow_new w
  have HB0 : Hid (Below w.heap.size w (w.alloc (.cells #[] 3))) := (Below.refl _ w).alloc (Nat.le_refl _) _
  go_loopw [3, 4] (fun v i wr => ∃ (q g3 c3 : Nat), q ≤ n ∧ i = .int .i64 (q : Int) ∧ v = .slice (some ⟨g3, 0, none⟩) q c3 ∧ Hid (ZRow w.heap.size v (sortL (zs.take q)) wr) ∧ Hid (Below w.heap.size w wr)) (fun _ i _ => n - (intOf i).toNat)
  case atStart => exact ⟨0, w.heap.size, 0, by omega, rfl, rfl, HW0, HB0⟩
  case round =>
    clear HW0 HB0
    obtain ⟨q, g3, c3, hq, rfl, rfl, HR, HB⟩ := hrel
    have hszr := HB.out.size
    by_cases hlt : q < n
    · have hql : q < zs.length := by rw [← HN.out]; exact hlt
      have hgw : g < wr.heap.size := Nat.lt_of_lt_of_le HA.out.1 hszr
      have hc : wr.cell? ⟨g, q, none⟩ = some (.int .i64 (zs.getD q 0)) := by
        rw [HB.out.cell (p := ⟨g, q, none⟩) HA.out.1]
        exact HA.out.2 q hql
      have HE : Hid (sortL (zs.take (q + 1)) = sortIns (sortL (zs.take q)) (zs.getD q 0)) := sortL_take zs q hql
      have HOL : Hid ((sortL (zs.take q)).length = q) := by
        show _ = _
        rw [sortL_length]
        simp
        omega
      generalize zs.getD q 0 = z at hc HE
      generalize sortL (zs.take q) = o at HR HE HOL
      have HAO : Hid (At wr g3 o) := HR.out.at.1
      have HG3 : Hid (w.heap.size ≤ g3 ∧ g3 < wr.heap.size) := by
        obtain ⟨g', _, _, hv, h1, h2, _⟩ := HR.out.block
        cases hv
        exact ⟨h1, h2⟩
      have HQ : Hid (q + 1 ≤ n) := hlt
      have HCP : Hid (q ≤ c3) := (own_cap HR.out.2).1
      have lq : (q : Int) < (n : Int) := by omega
      have lq0 : (0 : Int) ≤ (q : Int) := by omega
      clear hql
      go_wp2_with fail
      have HC : Hid (wr.cell? ⟨g, q, none⟩ = some (.int .i64 z)) := hc
      clear hc hszr hgw
      go_loopw [5] (fun i wx => ∃ k : Nat, k ≤ q ∧ i = .int .i64 (k : Int) ∧ Hid (∀ j, j < k → o.getD j 0 ≤ z) ∧ Hid (At wx g3 o ∧ wx.cell? ⟨g, q, none⟩ = some (.int .i64 z) ∧ w.heap.size ≤ g3) ∧ Hid (Below w.heap.size w wx)) (fun i _ => q - (intOf i).toNat)
      case atStart => exact ⟨0, by omega, rfl, fun j hj => by omega, ⟨HAO.out, HC.out, HG3.out.1⟩, HB⟩
      case round =>
        clear HR HB HAO HG3 HC
        obtain ⟨k, hk, rfl, HT, HX, HB⟩ := hrel
        have hcz := HX.out.2.1
        have hszr := HB.out.size
        have fin : (k = q ∨ ¬ o.getD k 0 ≤ z) → Hid (o.takeWhile (fun y => decide (y ≤ z)) = (o.drop 0).take k ∧ o.dropWhile (fun y => decide (y ≤ z)) = (o.drop k).take (q - k)) := by
          intro hor
          have := span_at (fun y => decide (y ≤ z)) 0 o k (by rw [HOL.out]; exact hk) (fun j hj => decide_eq_true (HT.out j hj)) (fun hj => by
            rcases hor with h' | h'
            · rw [HOL.out] at hj; omega
            · exact decide_eq_false h')
          refine ⟨by rw [List.drop_zero]; exact this.1, ?_⟩
          rw [this.2, List.take_of_length_le (by simp [HOL.out])]
        by_cases hkq : k < q
        · have hco := HX.out.1.2 k (by rw [HOL.out]; exact hkq)
          have lk : (k : Int) < (q : Int) := by omega
          have lk0 : (0 : Int) ≤ (k : Int) := by omega
          by_cases hle : o.getD k 0 ≤ z
          · have HT2 : Hid (∀ j, j < k + 1 → o.getD j 0 ≤ z) := by
              intro j hj
              rcases Nat.lt_or_ge j k with h' | h'
              · exact HT.out j h'
              · obtain rfl : j = k := by omega
                exact hle
            have HK : Hid (k + 1 ≤ q) := hkq
            generalize o.getD k 0 = y at hco hle
            clear fin
            go_wp2_with fail
            go_region
            go_wp2_with fail
            go_roundw
            case rel => exact ⟨k + 1, HK.out, by go_num, HT2, HX.out, HB.out.drew⟩
            case measure => have := HK.out; simp [intOf]; omega
          · have HF := fin (.inr hle)
            generalize o.getD k 0 = y at hco hle
            clear fin HT
            have hkc : (k : Int) ≤ (c3 : Int) := by have := HCP.out; omega
            go_wp2_with fail
            go_region
            have hne0 : g3 ≠ wr.heap.size := by have := HX.out.1.1; omega
            have hgl : g < w.heap.size := HA.out.1
            have HOW : Hid ((wr.alloc (.cells #[] 3)).drew.ownsRow w.heap.size 3 1 (.slice (some ⟨wr.heap.size, 0, none⟩) 0 0) 0 []) :=
              ⟨rfl, .inr ⟨_, _, #[], rfl, hszr, heap_alloc_new wr _, Nat.le_refl _, by unfold maxLen; omega, rfl, rfl⟩⟩
            have HO0 : Hid (At (wr.alloc (.cells #[] 3)).drew g3 o) := (HX.out.1.far (w' := wr.alloc (.cells #[] 3)) (Below.heap_alloc _ _ _ HX.out.1.1) (by simp)).drew
            have hl1 : (((o.drop 0).take k).map (Value.int .i64)).length = k * 1 := by simp [HOL.out] <;> omega
            have hn1 := at_news HO0.out 0 k 0 (by rw [HOL.out]; omega) (fun _ => rfl)
            have hx1 : 0 + k ≤ maxLen := by unfold maxLen; omega
            have hx2 : (0 + k) * 8 ≤ 140737488355328 := by omega
            have hx3 : k + 1 ≤ maxLen := by unfold maxLen; omega
            have hx4 : (k + 1) * 8 ≤ 140737488355328 := by omega
            have hx5 : k + 1 + (q - k) ≤ maxLen := by unfold maxLen; omega
            have hx6 : (k + 1 + (q - k)) * 8 ≤ 140737488355328 := by omega
            have hbs : w.heap.size ≤ (wr.alloc (.cells #[] 3)).drew.heap.size := by show _ ≤ (wr.alloc (.cells #[] 3)).heap.size; simp; omega
            have hl3 : (((o.drop k).take (q - k)).map (Value.int .i64)).length = (q - k) * 1 := by simp [HOL.out]
            have HRES : Hid (sortL (zs.take (q + 1)) = (o.drop 0).take k ++ [z] ++ (o.drop k).take (q - k) ∧ (sortL (zs.take (q + 1))).length = q + 1) := by
              have e : sortL (zs.take (q + 1)) = (o.drop 0).take k ++ [z] ++ (o.drop k).take (q - k) := by rw [HE.out, sortIns, HF.out.1, HF.out.2]; simp
              refine ⟨e, ?_⟩
              rw [HE.out, sortIns_length, HOL.out]
            have hck' : ¬ (c3 : Int) = (k : Int) := by have := HCP.out; omega
            have hck : ¬ c3 = k := by have := HCP.out; omega
            have HP : Hid (0 < q - k → k = k) := fun _ => rfl
            go_wp2_with first
              | (at_builtin; refine wpList_append_own_at _ rfl _ _ 49 rfl w.heap.size 3 i0 (.int .i64 0) 1 8 Tryz.underlying49 hi hz0 hz1 hz2 rfl (by decide) (.slice (some ⟨wr.heap.size, 0, none⟩) 0 0) 0 [] rfl HOW.out ⟨g3, 0, none⟩ k c3 (((o.drop 0).take k).map (Value.int .i64)) rfl hl1 hn1 (ints_one _) hx1 hx2 hbs ?_; intro v1 w1 hown1 hgrow1 hnil1 hat1; rw [Nat.zero_add, List.nil_append] at hown1; obtain ⟨g5, c5, rfl⟩ := own_form hown1 (fun e => by have := (hnil1.1 e).1; cases this); have hc1 : w1.cell? ⟨g, q, none⟩ = some (.int .i64 z) := (World.cell?_of_block (a := ⟨g, q, none⟩) (grown_far2 (b := g) hgrow1 (by omega) (by simp [Value.ownBlock]; omega))).trans HX.out.2.1; have HO1 : Hid (At w1 g3 o) := HX.out.1.far (grown_far2 hgrow1 HX.out.1.1 (by simpa [Value.ownBlock] using hne0)) (by have := grown_size2 hgrow1; omega); have hne1 : g3 ≠ g5 := (by have h9 := HX.out.1.1; simp [Value.ownBlock] at hat1; omega); have HB1 : Hid (Below w.heap.size w w1) := ((HB.out.alloc (by omega) _).drew).grown hgrow1 hbs (fun j hj => by have h8 : wr.heap.size = j := (by simpa [Value.ownBlock] using hj); omega); have HOW1 : Hid (w1.ownsRow w.heap.size 3 1 (.slice (some ⟨g5, 0, none⟩) k c5) k (((o.drop 0).take k).map (Value.int .i64))) := hown1; have hs1 : w.heap.size ≤ w1.heap.size := HB1.out.size; have hbs1 : w.heap.size ≤ (w1.alloc (.cells #[.int .i64 z] 3)).heap.size := (by simp; omega); clear hown1 hgrow1 hnil1 hat1)
              | (at_builtin; refine wpList_append_own_at _ rfl _ _ 49 rfl w.heap.size 3 i0 (.int .i64 0) 1 8 Tryz.underlying49 hi hz0 hz1 hz2 rfl (by decide) (.slice (some ⟨g5, 0, none⟩) k c5) k _ rfl (HOW1.out.alloc _) ⟨w1.heap.size, 0, none⟩ 1 1 [.int .i64 z] rfl rfl (cell_one_new _ _ _) (by simp [Value.oneCell']) hx3 hx4 hbs1 ?_; intro v2 w2 hown2 hgrow2 hnil2 hat2; obtain ⟨g6, c6, rfl⟩ := own_form hown2 (fun e => by have := (hnil2.1 e).1; cases this); have HO2 : Hid (At w2 g3 o) := HO1.out.far (grown_far hgrow2 HO1.out.1 (by simpa [Value.ownBlock] using hne1)) (by have := grown_size hgrow2; omega); have HB2 : Hid (Below w.heap.size w w2) := (HB1.out.alloc hs1 _).grown hgrow2 hbs1 (fun j hj => (HOW1.out.lt j hj).1); have HOW2 : Hid (w2.ownsRow w.heap.size 3 1 (.slice (some ⟨g6, 0, none⟩) (k + 1) c6) (k + 1) (((o.drop 0).take k).map (Value.int .i64) ++ [.int .i64 z])) := hown2; have hs2 : w.heap.size ≤ w2.heap.size := HB2.out.size; have hn3 := at_news HO2.out k (q - k) k (by rw [HOL.out]; omega) HP.out; clear hown2 hgrow2 hnil2 hat2)
              | (at_builtin; refine wpList_append_own_at _ rfl _ _ 49 rfl w.heap.size 3 i0 (.int .i64 0) 1 8 Tryz.underlying49 hi hz0 hz1 hz2 rfl (by decide) (.slice (some ⟨g6, 0, none⟩) (k + 1) c6) (k + 1) _ rfl HOW2.out ⟨g3, k, none⟩ (q - k) (c3 - k) (((o.drop k).take (q - k)).map (Value.int .i64)) rfl hl3 hn3 (ints_one _) hx5 hx6 hs2 ?_; intro v3 w3 hown3 hgrow3 hnil3 hat3; obtain ⟨g7, c7, rfl⟩ := own_form hown3 (fun e => by have := (hnil3.1 e).1; cases this); have HB3 : Hid (Below w.heap.size w w3) := HB2.out.grown hgrow3 hs2 (fun j hj => (HOW2.out.lt j hj).1); have HOW3 : Hid (w3.ownsRow w.heap.size 3 1 (.slice (some ⟨g7, 0, none⟩) (k + 1 + (q - k)) c7) (k + 1 + (q - k)) (((o.drop 0).take k).map (Value.int .i64) ++ [.int .i64 z] ++ ((o.drop k).take (q - k)).map (Value.int .i64))) := hown3; clear hown3 hgrow3 hnil3 hat3)
            go_roundw
            case rel =>
              have eq1 : k + 1 + (q - k) = q + 1 := by omega
              refine ⟨q + 1, g7, c7, HQ.out, by go_num, by rw [eq1], ?_, HB3⟩
              have h5 := HOW3.out
              rw [eq1] at h5 ⊢
              refine ZRow.of ?_ HRES.out.2.symm
              rw [HRES.out.1]
              simpa using h5
            case measure => have := HQ.out; simp [intOf]; omega
        · have hkq2 : k = q := by omega
          have HF := fin (.inl hkq2)
          subst hkq2
          clear fin HT
          have lk : ¬ (k : Int) < (k : Int) := by omega
          have hkc : (k : Int) ≤ (c3 : Int) := by have := HCP.out; omega
          go_wp2_with fail
          go_region
          have hne0 : g3 ≠ wr.heap.size := by have := HX.out.1.1; omega
          have hgl : g < w.heap.size := HA.out.1
          have HOW : Hid ((wr.alloc (.cells #[] 3)).drew.ownsRow w.heap.size 3 1 (.slice (some ⟨wr.heap.size, 0, none⟩) 0 0) 0 []) :=
            ⟨rfl, .inr ⟨_, _, #[], rfl, hszr, heap_alloc_new wr _, Nat.le_refl _, by unfold maxLen; omega, rfl, rfl⟩⟩
          have HO0 : Hid (At (wr.alloc (.cells #[] 3)).drew g3 o) := (HX.out.1.far (w' := wr.alloc (.cells #[] 3)) (Below.heap_alloc _ _ _ HX.out.1.1) (by simp)).drew
          have hl1 : (((o.drop 0).take k).map (Value.int .i64)).length = k * 1 := by simp [HOL.out] <;> omega
          have hn1 := at_news HO0.out 0 k 0 (by rw [HOL.out]; omega) (fun _ => rfl)
          have hx1 : 0 + k ≤ maxLen := by unfold maxLen; omega
          have hx2 : (0 + k) * 8 ≤ 140737488355328 := by omega
          have hx3 : k + 1 ≤ maxLen := by unfold maxLen; omega
          have hx4 : (k + 1) * 8 ≤ 140737488355328 := by omega
          have hx5 : k + 1 + 0 ≤ maxLen := by unfold maxLen; omega
          have hx6 : (k + 1 + 0) * 8 ≤ 140737488355328 := by omega
          have hbs : w.heap.size ≤ (wr.alloc (.cells #[] 3)).drew.heap.size := by show _ ≤ (wr.alloc (.cells #[] 3)).heap.size; simp; omega
          have HRES : Hid (sortL (zs.take (k + 1)) = (o.drop 0).take k ++ [z] ++ (o.drop k).take 0 ∧ (sortL (zs.take (k + 1))).length = k + 1) := by
            have e : sortL (zs.take (k + 1)) = (o.drop 0).take k ++ [z] ++ (o.drop k).take 0 := by rw [HE.out, sortIns, HF.out.1, HF.out.2]; simp
            refine ⟨e, ?_⟩
            rw [HE.out, sortIns_length, HOL.out]
          by_cases hck : c3 = k
          · obtain rfl : k = c3 := hck.symm
            go_wp2_with first
              | (at_builtin; refine wpList_append_own_at _ rfl _ _ 49 rfl w.heap.size 3 i0 (.int .i64 0) 1 8 Tryz.underlying49 hi hz0 hz1 hz2 rfl (by decide) (.slice (some ⟨wr.heap.size, 0, none⟩) 0 0) 0 [] rfl HOW.out ⟨g3, 0, none⟩ k k (((o.drop 0).take k).map (Value.int .i64)) rfl hl1 hn1 (ints_one _) hx1 hx2 hbs ?_; intro v1 w1 hown1 hgrow1 hnil1 hat1; rw [Nat.zero_add, List.nil_append] at hown1; obtain ⟨g5, c5, rfl⟩ := own_form hown1 (fun e => by have := (hnil1.1 e).1; cases this); have hc1 : w1.cell? ⟨g, k, none⟩ = some (.int .i64 z) := (World.cell?_of_block (a := ⟨g, k, none⟩) (grown_far2 (b := g) hgrow1 (by omega) (by simp [Value.ownBlock]; omega))).trans HX.out.2.1; have HO1 : Hid (At w1 g3 o) := HX.out.1.far (grown_far2 hgrow1 HX.out.1.1 (by simpa [Value.ownBlock] using hne0)) (by have := grown_size2 hgrow1; omega); have hne1 : g3 ≠ g5 := (by have h9 := HX.out.1.1; simp [Value.ownBlock] at hat1; omega); have HB1 : Hid (Below w.heap.size w w1) := ((HB.out.alloc (by omega) _).drew).grown hgrow1 hbs (fun j hj => by have h8 : wr.heap.size = j := (by simpa [Value.ownBlock] using hj); omega); have HOW1 : Hid (w1.ownsRow w.heap.size 3 1 (.slice (some ⟨g5, 0, none⟩) k c5) k (((o.drop 0).take k).map (Value.int .i64))) := hown1; have hs1 : w.heap.size ≤ w1.heap.size := HB1.out.size; have hbs1 : w.heap.size ≤ (w1.alloc (.cells #[.int .i64 z] 3)).heap.size := (by simp; omega); clear hown1 hgrow1 hnil1 hat1)
              | (at_builtin; refine wpList_append_own_at _ rfl _ _ 49 rfl w.heap.size 3 i0 (.int .i64 0) 1 8 Tryz.underlying49 hi hz0 hz1 hz2 rfl (by decide) (.slice (some ⟨g5, 0, none⟩) k c5) k _ rfl (HOW1.out.alloc _) ⟨w1.heap.size, 0, none⟩ 1 1 [.int .i64 z] rfl rfl (cell_one_new _ _ _) (by simp [Value.oneCell']) hx3 hx4 hbs1 ?_; intro v2 w2 hown2 hgrow2 hnil2 hat2; obtain ⟨g6, c6, rfl⟩ := own_form hown2 (fun e => by have := (hnil2.1 e).1; cases this); have HO2 : Hid (At w2 g3 o) := HO1.out.far (grown_far hgrow2 HO1.out.1 (by simpa [Value.ownBlock] using hne1)) (by have := grown_size hgrow2; omega); have HB2 : Hid (Below w.heap.size w w2) := (HB1.out.alloc hs1 _).grown hgrow2 hbs1 (fun j hj => (HOW1.out.lt j hj).1); have HOW2 : Hid (w2.ownsRow w.heap.size 3 1 (.slice (some ⟨g6, 0, none⟩) (k + 1) c6) (k + 1) (((o.drop 0).take k).map (Value.int .i64) ++ [.int .i64 z])) := hown2; have hs2 : w.heap.size ≤ w2.heap.size := HB2.out.size; clear hown2 hgrow2 hnil2 hat2)
              | (at_builtin; refine wpList_append_own_at _ rfl _ _ 49 rfl w.heap.size 3 i0 (.int .i64 0) 1 8 Tryz.underlying49 hi hz0 hz1 hz2 rfl (by decide) (.slice (some ⟨g6, 0, none⟩) (k + 1) c6) (k + 1) _ rfl HOW2.out ⟨g3, _, none⟩ 0 _ [] rfl rfl (fun j u h => by simp at h) (fun u h => by cases h) hx5 hx6 hs2 ?_; intro v3 w3 hown3 hgrow3 hnil3 hat3; obtain ⟨g7, c7, rfl⟩ := own_form hown3 (fun e => by have := (hnil3.1 e).1; cases this); have HB3 : Hid (Below w.heap.size w w3) := HB2.out.grown hgrow3 hs2 (fun j hj => (HOW2.out.lt j hj).1); have HOW3 : Hid (w3.ownsRow w.heap.size 3 1 (.slice (some ⟨g7, 0, none⟩) (k + 1 + 0) c7) (k + 1 + 0) (((o.drop 0).take k).map (Value.int .i64) ++ [.int .i64 z]  ++ [])) := hown3; clear hown3 hgrow3 hnil3 hat3)
            go_roundw
            case rel =>
              have eq1 : k + 1 + 0 = k + 1 := by omega
              refine ⟨k + 1, g7, c7, HQ.out, by go_num, by rw [eq1], ?_, HB3⟩
              have h5 := HOW3.out
              rw [eq1] at h5 ⊢
              refine ZRow.of ?_ HRES.out.2.symm
              rw [HRES.out.1]
              simpa using h5
            case measure => have := HQ.out; simp [intOf]; omega
          · have hck' : ¬ (c3 : Int) = (k : Int) := by omega
            go_wp2_with first
              | (at_builtin; refine wpList_append_own_at _ rfl _ _ 49 rfl w.heap.size 3 i0 (.int .i64 0) 1 8 Tryz.underlying49 hi hz0 hz1 hz2 rfl (by decide) (.slice (some ⟨wr.heap.size, 0, none⟩) 0 0) 0 [] rfl HOW.out ⟨g3, 0, none⟩ k c3 (((o.drop 0).take k).map (Value.int .i64)) rfl hl1 hn1 (ints_one _) hx1 hx2 hbs ?_; intro v1 w1 hown1 hgrow1 hnil1 hat1; rw [Nat.zero_add, List.nil_append] at hown1; obtain ⟨g5, c5, rfl⟩ := own_form hown1 (fun e => by have := (hnil1.1 e).1; cases this); have hc1 : w1.cell? ⟨g, k, none⟩ = some (.int .i64 z) := (World.cell?_of_block (a := ⟨g, k, none⟩) (grown_far2 (b := g) hgrow1 (by omega) (by simp [Value.ownBlock]; omega))).trans HX.out.2.1; have HO1 : Hid (At w1 g3 o) := HX.out.1.far (grown_far2 hgrow1 HX.out.1.1 (by simpa [Value.ownBlock] using hne0)) (by have := grown_size2 hgrow1; omega); have hne1 : g3 ≠ g5 := (by have h9 := HX.out.1.1; simp [Value.ownBlock] at hat1; omega); have HB1 : Hid (Below w.heap.size w w1) := ((HB.out.alloc (by omega) _).drew).grown hgrow1 hbs (fun j hj => by have h8 : wr.heap.size = j := (by simpa [Value.ownBlock] using hj); omega); have HOW1 : Hid (w1.ownsRow w.heap.size 3 1 (.slice (some ⟨g5, 0, none⟩) k c5) k (((o.drop 0).take k).map (Value.int .i64))) := hown1; have hs1 : w.heap.size ≤ w1.heap.size := HB1.out.size; have hbs1 : w.heap.size ≤ (w1.alloc (.cells #[.int .i64 z] 3)).heap.size := (by simp; omega); clear hown1 hgrow1 hnil1 hat1)
              | (at_builtin; refine wpList_append_own_at _ rfl _ _ 49 rfl w.heap.size 3 i0 (.int .i64 0) 1 8 Tryz.underlying49 hi hz0 hz1 hz2 rfl (by decide) (.slice (some ⟨g5, 0, none⟩) k c5) k _ rfl (HOW1.out.alloc _) ⟨w1.heap.size, 0, none⟩ 1 1 [.int .i64 z] rfl rfl (cell_one_new _ _ _) (by simp [Value.oneCell']) hx3 hx4 hbs1 ?_; intro v2 w2 hown2 hgrow2 hnil2 hat2; obtain ⟨g6, c6, rfl⟩ := own_form hown2 (fun e => by have := (hnil2.1 e).1; cases this); have HO2 : Hid (At w2 g3 o) := HO1.out.far (grown_far hgrow2 HO1.out.1 (by simpa [Value.ownBlock] using hne1)) (by have := grown_size hgrow2; omega); have HB2 : Hid (Below w.heap.size w w2) := (HB1.out.alloc hs1 _).grown hgrow2 hbs1 (fun j hj => (HOW1.out.lt j hj).1); have HOW2 : Hid (w2.ownsRow w.heap.size 3 1 (.slice (some ⟨g6, 0, none⟩) (k + 1) c6) (k + 1) (((o.drop 0).take k).map (Value.int .i64) ++ [.int .i64 z])) := hown2; have hs2 : w.heap.size ≤ w2.heap.size := HB2.out.size; clear hown2 hgrow2 hnil2 hat2)
              | (at_builtin; refine wpList_append_own_at _ rfl _ _ 49 rfl w.heap.size 3 i0 (.int .i64 0) 1 8 Tryz.underlying49 hi hz0 hz1 hz2 rfl (by decide) (.slice (some ⟨g6, 0, none⟩) (k + 1) c6) (k + 1) _ rfl HOW2.out ⟨g3, k, none⟩ 0 (c3 - k) [] rfl rfl (fun j u h => by simp at h) (fun u h => by cases h) hx5 hx6 hs2 ?_; intro v3 w3 hown3 hgrow3 hnil3 hat3; obtain ⟨g7, c7, rfl⟩ := own_form hown3 (fun e => by have := (hnil3.1 e).1; cases this); have HB3 : Hid (Below w.heap.size w w3) := HB2.out.grown hgrow3 hs2 (fun j hj => (HOW2.out.lt j hj).1); have HOW3 : Hid (w3.ownsRow w.heap.size 3 1 (.slice (some ⟨g7, 0, none⟩) (k + 1 + 0) c7) (k + 1 + 0) (((o.drop 0).take k).map (Value.int .i64) ++ [.int .i64 z]  ++ [])) := hown3; clear hown3 hgrow3 hnil3 hat3)
            go_roundw
            case rel =>
              have eq1 : k + 1 + 0 = k + 1 := by omega
              refine ⟨k + 1, g7, c7, HQ.out, by go_num, by rw [eq1], ?_, HB3⟩
              have h5 := HOW3.out
              rw [eq1] at h5 ⊢
              refine ZRow.of ?_ HRES.out.2.symm
              rw [HRES.out.1]
              simpa using h5
            case measure => have := HQ.out; simp [intOf]; omega
    · have HE : Hid (sortL (zs.take q) = sortL zs) := by
        show _ = _
        rw [List.take_of_length_le (by rw [← HN.out]; omega)]
      go_wp2_with fail
      go_ret
      refine ⟨_, rfl, ?_, HB.out⟩
      have := HR.out
      rw [HE.out] at this
      exact this

end Go.Proofs.YtgnnfljobgbpbabGreatDoor

set_option linter.unusedVariables false
namespace Go.Proofs.YtgnnfljobgbpbabGreatDoor
open Go.RowKit

def gapsZ : Int → List Int → List Int
  | _, [] => []
  | a, x :: r => (x - a) :: gapsZ x r
theorem gapsZ_length (l : List Int) : ∀ a, (gapsZ a l).length = l.length := by
  induction l with
  | nil => intro a; rfl
  | cons x r ih => intro a; simp [gapsZ, ih]
def lastZ : Int → List Int → Int
  | a, [] => a
  | _, x :: r => lastZ x r
theorem gapsZ_snoc (l : List Int) (x : Int) : ∀ a, gapsZ a (l ++ [x]) = gapsZ a l ++ [x - lastZ a l] := by
  induction l with
  | nil => intro a; rfl
  | cons y r ih =>
    intro a
    simp [gapsZ, ih, lastZ]
theorem lastZ_snoc (x : Int) (l : List Int) : ∀ a, lastZ a (l ++ [x]) = x := by
  induction l with
  | nil => intro a; rfl
  | cons y r ih => intro a; exact ih y
/-- In order. -/
def Asc : Int → List Int → Prop
  | _, [] => True
  | a, x :: r => a ≤ x ∧ Asc x r
theorem asc_mono {a b : Int} {l : List Int} (h : Asc b l) (hab : a ≤ b) : Asc a l := by
  cases l with
  | nil => trivial
  | cons x r => exact ⟨by have := h.1; omega, h.2⟩
theorem asc_ins (z : Int) : ∀ (l : List Int) (a : Int), a ≤ z → Asc a l → Asc a (sortIns l z) := by
  intro l
  induction l with
  | nil => intro a ha _; exact ⟨ha, trivial⟩
  | cons x r ih =>
    intro a ha h
    by_cases hx : x ≤ z
    · have e : sortIns (x :: r) z = x :: sortIns r z := by simp [sortIns, hx]
      rw [e]
      exact ⟨h.1, ih x hx h.2⟩
    · have e : sortIns (x :: r) z = z :: x :: r := by simp [sortIns, hx]
      rw [e]
      exact ⟨ha, by omega, h.2⟩
theorem asc_sort (l : List Int) (h : ∀ x ∈ l, 0 ≤ x) : Asc 0 (sortL l) := by
  have : ∀ (l o : List Int), (∀ x ∈ l, 0 ≤ x) → Asc 0 o → Asc 0 (l.foldl sortIns o) := by
    intro l
    induction l with
    | nil => intro o _ ho; exact ho
    | cons a r ih =>
      intro o hl ho
      exact ih _ (fun x hx => hl x (by simp [hx])) (asc_ins a o 0 (hl a (by simp)) ho)
  exact this l [] h trivial
theorem gaps_in (M : Int) : ∀ (l : List Int) (a : Int), 0 ≤ a → Asc a l → (∀ x ∈ l, x ≤ M) → ∀ y ∈ gapsZ a l, 0 ≤ y ∧ y ≤ M := by
  intro l
  induction l with
  | nil => intro a _ _ _ y hy; cases hy
  | cons x r ih =>
    intro a ha h hM y hy
    have h1 := h.1
    have h2 := hM x (by simp)
    rcases List.mem_cons.1 hy with rfl | hy
    · omega
    · exact ih x (by omega) h.2 (fun z hz => hM z (by simp [hz])) y hy

/-- Where the different ones fall, in order. -/
def placesL (k : List UInt8) (ss : List ByteArray) : List Int := (setL ss).map fun it => filterTo k it.data.toList (((setL ss).length : Int) * 37)
def gapsL (k : List UInt8) (ss : List ByteArray) : List Int := gapsZ 0 (sortL (placesL k ss))
def filterB (k : List UInt8) (ss : List ByteArray) : List UInt8 := varB 4 (setL ss).length ++ riceB 5 ((gapsL k ss).map Int.toNat)
def filterOf (k : List UInt8) (ss : List ByteArray) : List UInt8 := if (isSum k && itemsOkB ss) = true then filterB k ss else []
theorem filterOf_yes {k : List UInt8} {ss : List ByteArray} (h1 : isSum k = true) (h2 : itemsOkB ss = true) : filterOf k ss = filterB k ss := by rw [filterOf, h1, h2]; rfl
theorem filterOf_no1 {k : List UInt8} {ss : List ByteArray} (h1 : isSum k = false) : filterOf k ss = [] := by rw [filterOf, h1]; rfl
theorem filterOf_no2 {k : List UInt8} {ss : List ByteArray} (h2 : itemsOkB ss = false) : filterOf k ss = [] := by rw [filterOf, h2]; simp
theorem set_items {ss : List ByteArray} (h : itemsOkB ss = true) : ∀ it ∈ setL ss, isItem it.data.toList = true := by
  intro it hit
  have h1 := (setL_mem ss it).1 hit
  simp only [itemsOkB, Bool.and_eq_true, List.all_eq_true] at h
  exact h.2 it h1
theorem places_in {k : List UInt8} {ss : List ByteArray} (h1 : isSum k = true) (h2 : itemsOkB ss = true) : ∀ z ∈ placesL k ss, 0 ≤ z ∧ z ≤ 1480 := by
  intro z hz
  obtain ⟨it, hit, rfl⟩ := List.mem_map.1 hz
  have hi := set_items h2 it hit
  have hn : 1 ≤ (setL ss).length := by
    cases hs : setL ss with
    | nil => rw [hs] at hit; cases hit
    | cons a r => simp
  have hn4 : (setL ss).length ≤ 40 := Nat.le_trans (setL_length ss) (itemsOk_len h2)
  have hb : 1 ≤ ((setL ss).length : Int) * 37 ∧ ((setL ss).length : Int) * 37 ≤ 60000 := by omega
  rw [filterTo_yes h1 hi hb]
  have := place_lt (headOf (k ++ 32 :: it.data.toList)) (((setL ss).length : Int) * 37) (headOf_lt _) hb
  omega
theorem gaps_ok {k : List UInt8} {ss : List ByteArray} (h1 : isSum k = true) (h2 : itemsOkB ss = true) : (gapsL k ss).length ≤ 40 ∧ ∀ i, i < (gapsL k ss).length → 0 ≤ (gapsL k ss).getD i 0 ∧ (gapsL k ss).getD i 0 ≤ 60000 := by
  have hl : (gapsL k ss).length = (setL ss).length := by rw [gapsL, gapsZ_length, sortL_length, placesL, List.length_map]
  refine ⟨by rw [hl]; exact Nat.le_trans (setL_length ss) (itemsOk_len h2), fun i hi => ?_⟩
  have hp := places_in h1 h2
  have hmem : (gapsL k ss).getD i 0 ∈ gapsL k ss := by simp [List.getElem?_eq_getElem hi]
  have := gaps_in 1480 (sortL (placesL k ss)) 0 (Int.le_refl _) (asc_sort _ (fun x hx => (hp x hx).1)) (fun x hx => (hp x ((sortL_mem _ x).1 hx)).2) _ hmem
  omega

end Go.Proofs.YtgnnfljobgbpbabGreatDoor

set_option linter.unusedVariables false
namespace Go.Proofs.YtgnnfljobgbpbabGreatDoor
open Go.RowKit

set_option maxHeartbeats 1000000 in
set_option maxRecDepth 100000 in
theorem implSteps (g n cap : Nat) (so : List Int) (w : World) (h : At w g so) (hn : n = so.length) (hm : n ≤ 40) (hin : ∀ x ∈ so, 0 ≤ x ∧ x ≤ 1480) :
    Calls Tryz.prog 38 #[.slice (some ⟨g, 0, none⟩) n cap] w fun e w' => ∃ v, e = .returned v ∧ ZRow w.heap.size v (gapsZ 0 so) w' ∧ Below w.heap.size w w' := by
  obtain ⟨i0, hi, hz0, hz1, hz2⟩ := info_parts infoIntG
  have HA : Hid (At w g so) := h
  have HN : Hid (n = so.length) := hn
  have HPI : Hid (∀ x ∈ so, 0 ≤ x ∧ x ≤ 1480) := hin
  have hmk := makeCap n (by omega)
  clear h hn hin
  go_enter Tryz.func38, Tryz.ntmps38
  go_wp2_with fail
  have HG0 : Hid (ZRow w.heap.size (.slice (some ⟨w.heap.size, 0, none⟩) 0 n) (gapsZ 0 (so.take 0)) (w.alloc (.cells (madeCells #[.int .i64 0] n) 3))) :=
    ⟨⟨_, _, rfl⟩, rfl, .inr ⟨_, _, _, rfl, Nat.le_refl _, World.alloc_heap_new w _, Nat.zero_le _, by unfold maxLen; omega, by rw [size_madeCells]; omega, rfl⟩⟩
  have HB0 : Hid (Below w.heap.size w (w.alloc (.cells (madeCells #[.int .i64 0] n) 3))) := (Below.refl _ w).alloc (Nat.le_refl _) _
  clear hmk
  go_loopw [3, 4, 12] (fun v l i wx => ∃ (p g6 c6 : Nat) (y : Int), p ≤ n ∧ i = .int .i64 (p : Int) ∧ l = .int .i64 y ∧ 0 ≤ y ∧ y ≤ 1480 ∧ v = .slice (some ⟨g6, 0, none⟩) p c6 ∧ Hid (y = lastZ 0 (so.take p)) ∧ Hid (ZRow w.heap.size v (gapsZ 0 (so.take p)) wx) ∧ Hid (Below w.heap.size w wx)) (fun _ _ i _ => n - (intOf i).toNat)
  case atStart => exact ⟨0, w.heap.size, n, 0, by omega, rfl, rfl, by omega, by omega, rfl, rfl, HG0, HB0⟩
  case round =>
    clear HG0 HB0
    obtain ⟨p, g6, c6, y, hp, rfl, rfl, hy0, hy1, rfl, HY, HR, HB⟩ := hrel
    have hszr := HB.out.size
    have HGLN : Hid ((gapsZ 0 (so.take p)).length = p) := by show _ = _; rw [gapsZ_length, List.length_take, ← HN.out]; omega
    by_cases hlt2 : p < n
    · have hpl : p < so.length := by rw [← HN.out]; exact hlt2
      have hc : wr.cell? ⟨g, p, none⟩ = some (.int .i64 (so.getD p 0)) := by
        rw [HB.out.cell (p := ⟨g, p, none⟩) HA.out.1]
        exact HA.out.2 p hpl
      have hin := HPI.out (so.getD p 0) (by simp [List.getElem?_eq_getElem hpl])
      have e1 : so.take (p + 1) = so.take p ++ [so.getD p 0] := by
        rw [List.take_add_one, List.getElem?_eq_getElem hpl, List.getD_eq_getElem?_getD, List.getElem?_eq_getElem hpl]
        rfl
      have HE : Hid (gapsZ 0 (so.take (p + 1)) = gapsZ 0 (so.take p) ++ [so.getD p 0 - y] ∧ so.getD p 0 = lastZ 0 (so.take (p + 1))) := by
        rw [e1, gapsZ_snoc, lastZ_snoc, ← HY.out]
        exact ⟨rfl, rfl⟩
      generalize so.getD p 0 = x at hc hin HE
      obtain ⟨hin0, hin1⟩ := hin
      have HRW : Hid (wr.ownsRow w.heap.size 3 1 (.slice (some ⟨g6, 0, none⟩) p c6) p ((gapsZ 0 (so.take p)).map (Value.int .i64))) := by
        have h5 := HR.out.2
        rw [HGLN.out] at h5
        exact h5
      have HP : Hid (p + 1 ≤ n) := hlt2
      have lp : (p : Int) < (n : Int) := by omega
      have lp0 : (0 : Int) ≤ (p : Int) := by omega
      have hx1 : p + 1 ≤ maxLen := by unfold maxLen; omega
      have hx2 : (p + 1) * 8 ≤ 140737488355328 := by omega
      clear hpl e1
      go_wp2_with (at_builtin; refine wp_app1 rfl _ _ 49 rfl w.heap.size 3 i0 (.int .i64 0) 8 Tryz.underlying49 hi hz0 hz1 hz2 rfl _ _ _ rfl HRW.out (.int .i64 (x - y)) rfl rfl hx1 hx2 hszr ?_; intro g4 c4 w4 hown4 hb4 _)
      have HR4 : Hid (ZRow w.heap.size (.slice (some ⟨g4, 0, none⟩) (p + 1) c4) (gapsZ 0 (so.take (p + 1))) w4) := by
        refine ZRow.of ?_ (by rw [gapsZ_length, List.length_take, ← HN.out]; have := HP.out; omega)
        rw [HE.out.1, List.map_append]
        exact hown4
      clear hown4
      go_roundw
      case rel => exact ⟨p + 1, g4, c4, x, HP.out, by go_num, rfl, hin0, hin1, rfl, HE.out.2, HR4, HB.out.trans hb4⟩
      case measure => have := HP.out; simp [intOf]; omega
    · obtain rfl : p = n := by omega
      have HR5 : Hid (ZRow w.heap.size (.slice (some ⟨g6, 0, none⟩) p c6) (gapsZ 0 so) wr) := by
        have h5 := HR.out
        rw [List.take_of_length_le (by rw [← HN.out]; exact Nat.le_refl _)] at h5
        exact h5
      clear hszr HR
      go_wp2_with fail
      go_ret
      exact ⟨_, rfl, HR5.out, HB.out⟩

end Go.Proofs.YtgnnfljobgbpbabGreatDoor

namespace Go.Proofs.YtgnnfljobgbpbabGreatDoor

theorem sortIns_perm (o : List Int) (z : Int) : (sortIns o z).Perm (z :: o) := by
  have e := List.takeWhile_append_dropWhile (p := fun y => decide (y ≤ z)) (l := o)
  refine (List.perm_middle).trans ?_
  rw [e]
theorem sortL_perm (l : List Int) : (sortL l).Perm l := by
  have : ∀ (l o : List Int), (l.foldl sortIns o).Perm (o ++ l) := by
    intro l
    induction l with
    | nil => intro o; simp
    | cons a r ih =>
      intro o
      rw [List.foldl_cons]
      refine (ih _).trans ?_
      exact ((sortIns_perm o a).append_right r).trans (List.perm_middle.symm)
  simpa [sortL] using this l []
theorem sortIns_pair (z : Int) : ∀ (o : List Int), o.Pairwise (· ≤ ·) → (sortIns o z).Pairwise (· ≤ ·)
  | [], _ => by simp [sortIns]
  | x :: r, h => by
    have h1 := List.pairwise_cons.1 h
    by_cases hx : x ≤ z
    · have e : sortIns (x :: r) z = x :: sortIns r z := by simp [sortIns, hx]
      rw [e]
      refine List.pairwise_cons.2 ⟨?_, sortIns_pair z r h1.2⟩
      intro y hy
      rcases sortIns_mem.1 hy with rfl | hy
      · exact hx
      · exact h1.1 y hy
    · have e : sortIns (x :: r) z = z :: x :: r := by simp [sortIns, hx]
      rw [e]
      refine List.pairwise_cons.2 ⟨?_, h⟩
      intro y hy
      rcases List.mem_cons.1 hy with rfl | hy
      · omega
      · have := h1.1 y hy; omega
theorem sortL_pair (l : List Int) : (sortL l).Pairwise (· ≤ ·) := by
  have : ∀ (l o : List Int), o.Pairwise (· ≤ ·) → (l.foldl sortIns o).Pairwise (· ≤ ·) := by
    intro l
    induction l with
    | nil => intro o h; exact h
    | cons a r ih => intro o h; exact ih _ (sortIns_pair a o h)
  exact this l [] List.Pairwise.nil
theorem perm_pair_eq : ∀ {a b : List Int}, a.Perm b → a.Pairwise (· ≤ ·) → b.Pairwise (· ≤ ·) → a = b
  | [], b, hp, _, _ => (List.nil_perm.1 hp).symm
  | x :: r, [], hp, _, _ => by simp at hp
  | x :: r, y :: s, hp, ha, hb => by
    have h1 := List.pairwise_cons.1 ha
    have h2 := List.pairwise_cons.1 hb
    have hxy : x = y := by
      have hx : x ∈ y :: s := hp.subset (by simp)
      have hy : y ∈ x :: r := hp.symm.subset (by simp)
      rcases List.mem_cons.1 hx with h | hx
      · exact h
      · rcases List.mem_cons.1 hy with h | hy
        · exact h.symm
        · have := h1.1 y hy
          have := h2.1 x hx
          omega
    subst hxy
    rw [perm_pair_eq ((List.perm_cons x).1 hp) h1.2 h2.2]
theorem merge_sortL (l : List Int) : (l.mergeSort fun x y => decide (x ≤ y)) = sortL l := by
  refine perm_pair_eq ((List.mergeSort_perm l _).trans (sortL_perm l).symm) ?_ (sortL_pair l)
  have := List.pairwise_mergeSort (le := fun x y : Int => decide (x ≤ y)) (by intro a b c; simp; omega) (by intro a b; simp; omega) l
  exact this.imp (by intro a b h; simpa using h)

end Go.Proofs.YtgnnfljobgbpbabGreatDoor



set_option linter.unusedVariables false
namespace Go.Proofs.YtgnnfljobgbpbabGreatDoor
open Go.RowKit Go.Sort

def Cloned (B g n c : Nat) (ss : List ByteArray) (w w' : World) : Prop := w'.ownsRow B 9 1 (.slice (some ⟨g, 0, none⟩) n c) n (ss.map Value.string) ∧ Below B w w' ∧ B ≤ g
def SortedS (g : Nat) (ss : List ByteArray) (w1 w2 : World) : Prop := ∃ nn os, w2 = grow (putRow encStr (Sort.ahead w1 nn) g 0 ((ss.map fun s => s.data.toList).mergeSort fun x y => decide (x ≤ y)).toArray) os

theorem cloneS (g n c : Nat) (ss : List ByteArray) (w : World) (h : AtS w g ss) (hn : n = ss.length) (hm : n ≤ 40) :
    Calls Tryz.prog 31 #[.slice (some ⟨g, 0, none⟩) n c] w fun e w' => ∃ g1 c1, e = .returned (.slice (some ⟨g1, 0, none⟩) n c1) ∧ Cloned w.heap.size g1 n c1 ss w w' := by
  refine (Tryz.slices_Clone_string g 0 n c ss w (by omega) (by omega) (fun j hj => by rw [Nat.zero_add]; exact h.2 j hj)).mono ?_
  rintro e w' ⟨v', rfl, hown, hnn, hb⟩
  rw [List.take_of_length_le (by omega)] at hown
  obtain ⟨g1, c1, rfl, h1, h2, _⟩ := Lib.holds_of_ownsRow (enc := Value.string) hown hnn
  exact ⟨g1, c1, rfl, hown, hb, h1⟩
theorem sortS (B g n c : Nat) (ss : List ByteArray) (w w1 : World) (h : Cloned B g n c ss w w1) (hm : n ≤ 40) :
    Calls Tryz.prog 32 #[.slice (some ⟨g, 0, none⟩) n c] w1 fun e w2 => e = .returned (.tuple #[]) ∧ SortedS g ss w1 w2 := by
  have hown := h.1
  rw [← enc_data] at hown
  obtain ⟨g', c', hv, h1, h2, h3, h4, h5, hH⟩ := Lib.holds_of_ownsRow hown (by simp)
  cases hv
  have hs := Tryz.slices_Sort_string g 0 c (ss.map fun s => s.data.toList) w1 hH h2 (by omega)
  rw [h5] at hs
  exact hs
theorem compactS (g n c : Nat) (ss : List ByteArray) (w w1 w2 : World) (h : Cloned w.heap.size g n c ss w w1) (hs : SortedS g ss w1 w2) :
    Calls Tryz.prog 33 #[.slice (some ⟨g, 0, none⟩) n c] w2 fun e w3 => e = .returned (.slice (some ⟨g, 0, none⟩) (setL ss).length c) ∧ w3.ownsRow w.heap.size 9 1 (.slice (some ⟨g, 0, none⟩) (setL ss).length c) (setL ss).length ((setL ss).map Value.string) ∧ Below w.heap.size w w3 := by
  obtain ⟨nn, os, rfl⟩ := hs
  have hown := h.1
  have hn : ss.length = n := by simpa using hown.1
  rw [← enc_data] at hown
  obtain ⟨g', c', hv, h1, h2, h3, h4, h5, hH⟩ := Lib.holds_of_ownsRow hown (by simp)
  cases hv
  have hl2 : ((ss.map fun s => s.data.toList).mergeSort fun x y => decide (x ≤ y)).length = n := by rw [List.length_mergeSort]; exact h5
  have hcs : Lib.compact ((ss.map fun s => s.data.toList).mergeSort fun x y => decide (x ≤ y)) = (setL ss).map fun s => s.data.toList := compact_set ss
  have hcl : (Lib.compact ((ss.map fun s => s.data.toList).mergeSort fun x y => decide (x ≤ y))).length = (setL ss).length := by rw [hcs, List.length_map]
  have hsl := fun nn q os => set_left (nn := nn) (q := q) (os := os) (ss := ss) (w := w) (w1 := w1) (g := g) (cap := c) (by rw [hn]; exact h.1) h.2.1 h.2.2
  dsimp only at hsl
  generalize ((ss.map fun s => s.data.toList).mergeSort fun x y => decide (x ≤ y)) = so at hl2 hsl hcl
  have hH2 : Holds encStr (grow (putRow encStr (Sort.ahead w1 nn) g 0 so.toArray) os) g 0 so.toArray :=
    holds_grow encStr _ os g 0 _ (by simpa [putRow, mapBlock, Sort.ahead] using h2) (holds_putRow encStr _ g 0 _ _ (holds_ahead encStr w1 nn g 0 _ hH) (by simp [hl2, h5]))
  have hc := Tryz.slices_Compact_string g 0 c so _ hH2 (by unfold maxLen at h4; omega) (by omega)
  rw [hl2] at hc
  refine hc.mono ?_
  rintro e w3 ⟨rfl, q, rfl⟩
  refine ⟨by rw [hcl], ?_⟩
  have := hsl nn q os
  rw [hl2] at this
  exact this
theorem sortI (B g n c : Nat) (zs : List Int) (w : World) (h : ZRow B (.slice (some ⟨g, 0, none⟩) n c) zs w) (hB : B ≤ w.heap.size) (hm : n ≤ 40) :
    Calls Tryz.prog 35 #[.slice (some ⟨g, 0, none⟩) n c] w fun e w' => e = .returned (.tuple #[]) ∧ ZRow B (.slice (some ⟨g, 0, none⟩) n c) (sortL zs) w' ∧ Below B w w' := by
  have hn : n = zs.length := h.at.2
  subst hn
  rcases h.2.2 with ⟨h0, _⟩ | ⟨g', cap', cur, hv, hbase, hb, h1, h2, h3, h4⟩
  · cases h0
  cases hv
  have hH : Holds (Value.int .i64) w g 0 zs.toArray := holds_of_blockI hb (by simpa using h4)
  have hs := Tryz.slices_Sort_int g 0 c zs w hH (Array.getElem?_eq_some_iff.1 hb).1 (by omega)
  refine hs.mono ?_
  rintro e w' ⟨rfl, nn, os, rfl⟩
  refine ⟨rfl, ?_, (Below.refl _ w).grown (grownBy_sortedI _) hB (fun j hj => by cases hj; exact hbase)⟩
  have hl : (zs.mergeSort fun x y => decide (x ≤ y)).length = zs.length := List.length_mergeSort zs
  have ho := ownsRow_sortedI (n := nn) (os := os) (ts := zs.mergeSort fun x y => decide (x ≤ y)) hl hbase hb h1 h2 h3
  rw [merge_sortL] at ho ⊢
  exact ZRow.of ho (sortL_length zs).symm

end Go.Proofs.YtgnnfljobgbpbabGreatDoor

set_option linter.unusedVariables false
namespace Go.Proofs.YtgnnfljobgbpbabGreatDoor
open Go.RowKit

set_option maxHeartbeats 2000000 in
set_option maxRecDepth 100000 in
theorem implFilterTo (k it : ByteArray) (below : Int) (w : World) (hK : RowG w shaK) :
    Calls Tryz.prog 34 #[.string k, .string it, .int .i64 below] w fun e w' => e = .returned (.int .i64 (filterTo k.data.toList it.data.toList below)) ∧ Below w.heap.size w w' := by
  have HK : Hid (RowG w shaK) := hK
  clear hK
  cases h1 : isSum k.data.toList with
  | false =>
    rw [filterTo_no1 h1]
    go_enter Tryz.func34, Tryz.ntmps34
    go_wp2_with (go_at_call 29; refine (implSumOk _ _).mono ?_; rintro e w1 ⟨rfl, rfl⟩)
    go_ret
    exact ⟨rfl, Below.refl _ _⟩
  | true =>
    cases h2 : isItem it.data.toList with
    | false =>
      rw [filterTo_no2 h2]
      go_enter Tryz.func34, Tryz.ntmps34
      go_wp2_with (first | (go_at_call 29; refine (implSumOk _ _).mono ?_; rintro e w1 ⟨rfl, rfl⟩) | (go_at_call 60; refine (implItemOk _ _).mono ?_; rintro e w1 ⟨rfl, rfl⟩))
      go_ret
      exact ⟨rfl, Below.refl _ _⟩
    | true =>
      by_cases h3 : below < 1
      · rw [filterTo_no3 (by omega)]
        go_enter Tryz.func34, Tryz.ntmps34
        go_wp2_with (first | (go_at_call 29; refine (implSumOk _ _).mono ?_; rintro e w1 ⟨rfl, rfl⟩) | (go_at_call 60; refine (implItemOk _ _).mono ?_; rintro e w1 ⟨rfl, rfl⟩))
        go_ret
        exact ⟨rfl, Below.refl _ _⟩
      · by_cases h4 : 60000 < below
        · rw [filterTo_no3 (by omega)]
          go_enter Tryz.func34, Tryz.ntmps34
          go_wp2_with (first | (go_at_call 29; refine (implSumOk _ _).mono ?_; rintro e w1 ⟨rfl, rfl⟩) | (go_at_call 60; refine (implItemOk _ _).mono ?_; rintro e w1 ⟨rfl, rfl⟩))
          go_ret
          exact ⟨rfl, Below.refl _ _⟩
        · have hks : k.size = 16 := by have := isSum_len h1; simpa using this
          have his := isItem_size h2
          have hsz : (k ++ (⟨#[32]⟩ : ByteArray) ++ it).size ≤ 1073741824 := by
            simp only [ByteArray.size_append, hks]
            have : (⟨#[32]⟩ : ByteArray).size = 1 := rfl
            omega
          have HF : Hid (filterTo k.data.toList it.data.toList below = (headOf (k ++ (⟨#[32]⟩ : ByteArray) ++ it).data.toList : Int) * below / 2147483648) := by
            show _ = _
            rw [filterTo_yes h1 h2 (by omega), keyItem_bytes]
          have Hk : Hid (isSum k.data.toList = true) := h1
          have Hi : Hid (isItem it.data.toList = true) := h2
          go_enter Tryz.func34, Tryz.ntmps34
          go_wp2_with (first | (go_at_call 29; refine (implSumOk _ _).mono ?_; rintro e w1 ⟨rfl, rfl⟩) | (go_at_call 60; refine (implItemOk _ _).mono ?_; rintro e w1 ⟨rfl, rfl⟩))
          refine (implSum _ _ hsz HK.out).mono ?_
          rintro e w1 ⟨rfl, b1⟩
          have HH := sumHead_sumB (k ++ (⟨#[32]⟩ : ByteArray) ++ it).data.toList
          have hlt := headOf_lt (k ++ (⟨#[32]⟩ : ByteArray) ++ it).data.toList
          generalize (k ++ (⟨#[32]⟩ : ByteArray) ++ it).data.toList = t at HF HH hlt ⊢
          have Hhd : Hid (sumHead (sumB t) = (headOf t : Int)) := HH
          clear HH hsz
          have hpl := place_lt (headOf t) below hlt (by omega)
          generalize headOf t = h at HF hlt Hhd hpl
          go_wp2_with fail
          refine (implSumHead _ _).mono ?_
          rintro e w2 ⟨rfl, rfl⟩
          rw [show (⟨(sumB t).toArray⟩ : ByteArray).data.toList = sumB t from rfl, Hhd.out]
          go_wp2
          go_ret
          rw [HF.out]
          exact ⟨rfl, b1⟩

end Go.Proofs.YtgnnfljobgbpbabGreatDoor

set_option linter.unusedVariables false
namespace Go.Proofs.YtgnnfljobgbpbabGreatDoor
open Go.Shelf Go.RowKit

set_option maxHeartbeats 1000000 in
set_option maxRecDepth 100000 in
theorem implVarPut_no (n : Int) (w : World) (h : n < 0 ∨ 2147483647 < n) :
    Calls Tryz.prog 36 #[.int .i64 n] w fun e w' => e = .returned (.string ⟨#[]⟩) ∧ Below w.heap.size w w' := by
  rcases h with h | h
  · go_enter Tryz.func36, Tryz.ntmps36
    go_wp2
    go_ret
    exact ⟨rfl, Below.refl _ _⟩
  · have h' : ¬ n < 0 := by omega
    go_enter Tryz.func36, Tryz.ntmps36
    go_wp2
    go_ret
    exact ⟨rfl, Below.refl _ _⟩

set_option maxHeartbeats 2000000 in
set_option maxRecDepth 100000 in
theorem implVarPut_yes (n : Nat) (w : World) (h : n ≤ 2147483647) :
    Calls Tryz.prog 36 #[.int .i64 n] w fun e w' => e = .returned (.string ⟨(varB 4 n).toArray⟩) ∧ Below w.heap.size w w' := by
  have h0 : ¬ (n : Int) < 0 := by omega
  have h1 : ¬ (2147483647 : Int) < n := by omega
  go_enter Tryz.func36, Tryz.ntmps36
  go_wp2
  go_loopw [0] (fun v wr => ∃ (m f : Nat) (acc : List UInt8), v = .int .i64 m ∧ m ≤ n ∧ m < 128 ^ (f + 1) ∧ f ≤ 4 ∧ acc.length + f = 4 ∧ acc ++ varB f m = varB 4 n ∧ Lib.IsBuilderF 68 5 w.heap.size w.heap.size (Lib.byteCells acc) wr ∧ Below w.heap.size w wr) (fun v _ => (intOf v).toNat)
  case atStart =>
    exact ⟨n, 4, [], rfl, Nat.le_refl _, by omega, by omega, rfl, rfl, Lib.IsBuilderF.of (Lib.fresh_isBuilder 68 5 w), (Below.refl _ w).alloc (Nat.le_refl _) _⟩
  case round =>
    obtain ⟨m, f, acc, rfl, hm, hf, hf4, hacc, heq, hI, hbw⟩ := hrel
    have hsz := hbw.size
    by_cases hlt : m < 128
    · have h2 : (m : Int) < 128 := by omega
      go_wp2_with fail
      refine (writeByte _ _ _ _ _ hI (by rw [Lib.byteCells_length]; omega) hsz).mono ?_
      rintro e w1 ⟨rfl, h1, b1, k1⟩
      rw [byteCells_snoc acc _ m (by omega) (by omega)] at h1
      go_wp2_with fail
      refine (Tryz.Builder_String_any_k _ _ _ _ h1 (by have := b1.size; omega)).mono ?_
      rintro e w2 ⟨rfl, _, b2, _⟩
      go_wp2
      go_ret
      rw [varB_small f m hlt] at heq
      rw [heq]
      exact ⟨rfl, (hbw.trans b1).trans b2⟩
    · have h2 : ¬ (m : Int) < 128 := by omega
      obtain ⟨g, rfl⟩ : ∃ g, f = g + 1 := by
        cases f with
        | zero => omega
        | succ g => exact ⟨g, rfl⟩
      go_wp2_with fail
      refine (writeByte _ _ _ _ _ hI (by rw [Lib.byteCells_length]; omega) hsz).mono ?_
      rintro e w1 ⟨rfl, h1, b1, k1⟩
      rw [byteCells_snoc acc _ (128 + m % 128) (by omega) (by omega)] at h1
      go_wp2
      go_roundw
      case rel =>
        refine ⟨m / 128, g, acc ++ [UInt8.ofNat (128 + m % 128)], by go_num, by omega, ?_, by omega, by simp; omega, ?_, h1, hbw.trans b1⟩
        · have : 128 ^ (g + 1 + 1) = 128 ^ (g + 1) * 128 := Nat.pow_succ ..
          omega
        · rw [← heq, varB_step g m hlt]; simp
      case measure => simp [intOf]; omega

end Go.Proofs.YtgnnfljobgbpbabGreatDoor

set_option linter.unusedVariables false
namespace Go.Proofs.YtgnnfljobgbpbabGreatDoor
open Go.RowKit

theorem implVarPut (n : Int) (w : World) :
    Calls Tryz.prog 36 #[.int .i64 n] w fun e w' => e = .returned (.string ⟨(varPut n).toArray⟩) ∧ Below w.heap.size w w' := by
  by_cases h : 0 ≤ n ∧ n ≤ 2147483647
  · obtain ⟨m, rfl⟩ := Int.eq_ofNat_of_zero_le h.1
    rw [varPut, if_pos h]
    exact implVarPut_yes m w (by omega)
  · rw [varPut, if_neg h]
    exact implVarPut_no n w (by omega)

end Go.Proofs.YtgnnfljobgbpbabGreatDoor

set_option linter.unusedVariables false
namespace Go.Proofs.YtgnnfljobgbpbabGreatDoor
open Go.Shelf Go.RowKit

theorem sizeBuilderR : (Tryz.prog.info? 68).map (fun i => i.size) = some 2 := by kernel_rfl
theorem liesWriter : liesAt Tryz.prog Tryz.prog.depth 75 (4 / Tryz.prog.cellsOf 75) 0 68 1 = true := by kernel_rfl
theorem infoByteR : (Tryz.prog.info? 5).map (fun i => (i.zero, i.size, i.bytes)) = some (some (.int .u8 0), 1, 1) := by kernel_rfl

/-- The writer's block. -/
def WAt (b : Nat) (p v x y : Value) (w : World) : Prop := w.heap[b]? = some (.cells #[p, v, x, y] 75 (0, 0))
theorem WAt.c0 {b : Nat} {p v x y : Value} {w : World} (h : WAt b p v x y w) : w.cell? ⟨b, 0, none⟩ = some p := by rw [Lib.cell_of_heap h]; rfl
theorem WAt.c1 {b : Nat} {p v x y : Value} {w : World} (h : WAt b p v x y w) : w.cell? ⟨b, 1, none⟩ = some v := by rw [Lib.cell_of_heap h]; rfl
theorem WAt.c2 {b : Nat} {p v x y : Value} {w : World} (h : WAt b p v x y w) : w.cell? ⟨b, 2, none⟩ = some x := by rw [Lib.cell_of_heap h]; rfl
theorem WAt.c3 {b : Nat} {p v x y : Value} {w : World} (h : WAt b p v x y w) : w.cell? ⟨b, 3, none⟩ = some y := by rw [Lib.cell_of_heap h]; rfl
theorem WAt.fz {b : Nat} {p v x y : Value} {w : World} (h : WAt b p v x y w) (i : Nat) : w.frozen? ⟨b, i, none⟩ = false := Lib.frozen_of_heap h i
theorem WAt.lt {b : Nat} {p v x y : Value} {w : World} (h : WAt b p v x y w) : b < w.heap.size := by
  rcases Nat.lt_or_ge b w.heap.size with h' | h'
  · exact h'
  · simp [WAt, Array.getElem?_eq_none h'] at h
theorem WAt.set0 {b : Nat} {p v x y : Value} {w : World} (h : WAt b p v x y w) (u : Value) : WAt b u v x y (w.setCell ⟨b, 0, none⟩ u) := by
  unfold WAt at h ⊢
  simp only [World.setCell, Array.getElem?_modify, h]
  simp
theorem WAt.set1 {b : Nat} {p v x y : Value} {w : World} (h : WAt b p v x y w) (u : Value) : WAt b p u x y (w.setCell ⟨b, 1, none⟩ u) := by
  unfold WAt at h ⊢
  simp only [World.setCell, Array.getElem?_modify, h]
  simp
theorem WAt.set2 {b : Nat} {p v x y : Value} {w : World} (h : WAt b p v x y w) (u : Value) : WAt b p v u y (w.setCell ⟨b, 2, none⟩ u) := by
  unfold WAt at h ⊢
  simp only [World.setCell, Array.getElem?_modify, h]
  simp
theorem WAt.set3 {b : Nat} {p v x y : Value} {w : World} (h : WAt b p v x y w) (u : Value) : WAt b p v x u (w.setCell ⟨b, 3, none⟩ u) := by
  unfold WAt at h ⊢
  simp only [World.setCell, Array.getElem?_modify, h]
  simp
theorem WAt.drew {b : Nat} {p v x y : Value} {w : World} (h : WAt b p v x y w) : WAt b p v x y w.drew := h

/-- A row of bytes that the call has made stands, whatever is written into another block. -/
theorem ownsRow_setCell {base : Nat} {e : TypeId} {v : Value} {n : Nat} {xs : List Value} {w : World} (h : w.ownsRow base e 1 v n xs) (b i : Nat) (u : Value) (hne : v.ownBlock ≠ some b) : (w.setCell ⟨b, i, none⟩ u).ownsRow base e 1 v n xs := by
  refine ⟨h.1, ?_⟩
  rcases h.2 with h2 | ⟨g, cap, cur, hv, h2⟩
  · exact .inl h2
  · refine .inr ⟨g, cap, cur, hv, h2.1, ?_, h2.2.2⟩
    have : g ≠ b := by
      intro he
      rw [hv] at hne
      exact hne (by simp [Value.ownBlock, he])
    rw [Below.heap_setCell w ⟨b, i, none⟩ u g this]
    exact h2.2.1

/-- The writer: its bytes so far, and the two cells behind the builder. -/
def WB (B b : Nat) (o : List UInt8) (x y : Value) (w : World) : Prop :=
  B ≤ b ∧ ∃ p v, (p = .pointer none ∨ p = .pointer (some ⟨b, 0, none⟩)) ∧ WAt b p v x y w ∧ w.ownsRow B 5 1 v o.length (Lib.byteCells o) ∧ v.ownBlock ≠ some b ∧ (o = [] → v = .slice none 0 0)
theorem WB.lt {B b : Nat} {o : List UInt8} {x y : Value} {w : World} (h : WB B b o x y w) : b < w.heap.size := by
  obtain ⟨_, p, v, _, h, _⟩ := h; exact h.lt
theorem WB.set2 {B b : Nat} {o : List UInt8} {x y : Value} {w : World} (h : WB B b o x y w) (u : Value) : WB B b o u y (w.setCell ⟨b, 2, none⟩ u) := by
  obtain ⟨hB, p, v, hp, hw, ho, hne, h0⟩ := h
  exact ⟨hB, p, v, hp, hw.set2 u, ownsRow_setCell ho b 2 u hne, hne, h0⟩
theorem WB.set3 {B b : Nat} {o : List UInt8} {x y : Value} {w : World} (h : WB B b o x y w) (u : Value) : WB B b o x u (w.setCell ⟨b, 3, none⟩ u) := by
  obtain ⟨hB, p, v, hp, hw, ho, hne, h0⟩ := h
  exact ⟨hB, p, v, hp, hw.set3 u, ownsRow_setCell ho b 3 u hne, hne, h0⟩
theorem WB.drew {B b : Nat} {o : List UInt8} {x y : Value} {w : World} (h : WB B b o x y w) : WB B b o x y w.drew := h

set_option maxHeartbeats 1000000 in
set_option maxRecDepth 100000 in
theorem copyCheck_usedW (b : Nat) (w : World) (h0 : w.cell? ⟨b, 0, none⟩ = some (.pointer (some ⟨b, 0, none⟩))) :
    Calls Tryz.prog 104 #[.pointer (some ⟨b, 0, none⟩)] w fun e w' => e = .returned (.tuple #[]) ∧ w' = w := by
  obtain ⟨j, hj, _⟩ := Option.map_eq_some_iff.1 sizeBuilderR
  go_enter Tryz.func104, Tryz.ntmps104
  go_wp2
  rw [Lib.run_neq_ptr_same w _ Tryz.underlying65 hj]
  go_wp2
  go_end0
  exact ⟨rfl, rfl⟩

set_option maxHeartbeats 1000000 in
set_option maxRecDepth 100000 in
theorem copyCheck_freshW (b : Nat) (w : World) (h0 : w.cell? ⟨b, 0, none⟩ = some (.pointer none)) (hsh : w.shape? b = some (75, 4)) (hfz : w.frozen? ⟨b, 0, none⟩ = false) :
    Calls Tryz.prog 104 #[.pointer (some ⟨b, 0, none⟩)] w fun e w' => e = .returned (.tuple #[]) ∧ w' = w.setCell ⟨b, 0, none⟩ (.pointer (some ⟨b, 0, none⟩)) := by
  obtain ⟨j, hj, hjs⟩ := Option.map_eq_some_iff.1 sizeBuilderR
  go_enter Tryz.func104, Tryz.ntmps104
  go_wp2
  rw [Lib.run_to_unsafe w ⟨b, 0, none⟩ Tryz.underlying65 Tryz.underlying129 hj (by rw [hjs]; decide) hsh (Nat.zero_lt_succ 3)]
  simp only [Result.andThen]
  rw [Oper.upon_value]
  go_wp2
  rw [run_callFunc_extern Tryz.func131 (by kernel_rfl) (by kernel_rfl) (by kernel_rfl) (e := Extern.AbiNoEscape.same) (by kernel_rfl)]
  rw [Lib.run_noEscape]
  simp only [Result.andThen]
  rw [Oper.upon_value]
  go_wp2
  rw [Lib.run_from_unsafe w ⟨b, 0, none⟩ Tryz.underlying129 Tryz.underlying65 hj hsh liesWriter]
  simp only [Result.andThen]
  rw [Oper.upon_value]
  go_wp2
  go_end0
  exact ⟨rfl, rfl⟩

theorem copyCheckW (B b : Nat) (p v x y : Value) (n : Nat) (xs : List Value) (w : World) (hB : B ≤ b) (hp : p = .pointer none ∨ p = .pointer (some ⟨b, 0, none⟩)) (h : WAt b p v x y w) (ho : w.ownsRow B 5 1 v n xs) (hne : v.ownBlock ≠ some b) :
    Calls Tryz.prog 104 #[.pointer (some ⟨b, 0, none⟩)] w fun e w' => e = .returned (.tuple #[]) ∧ WAt b (.pointer (some ⟨b, 0, none⟩)) v x y w' ∧ w'.ownsRow B 5 1 v n xs ∧ Below B w w' ∧ w'.heap.size = w.heap.size := by
  rcases hp with rfl | rfl
  · refine (copyCheck_freshW b w h.c0 (by unfold WAt at h; simp [World.shape?, h]) (h.fz 0)).mono ?_
    rintro e w' ⟨rfl, rfl⟩
    exact ⟨rfl, h.set0 _, ownsRow_setCell ho b 0 _ hne, (Below.refl B w).setCell (p := ⟨b, 0, none⟩) hB _, by simp [World.setCell]⟩
  · refine (copyCheck_usedW b w h.c0).mono ?_
    rintro e w' ⟨rfl, rfl⟩
    exact ⟨rfl, h, ho, Below.refl B _, rfl⟩

set_option maxHeartbeats 2000000 in
set_option maxRecDepth 100000 in
theorem writeByteW (B b : Nat) (o : List UInt8) (c : UInt8) (x y : Value) (w : World) (h : WB B b o x y w) (hlen : o.length + 1 ≤ 140737488355328) :
    Calls Tryz.prog 64 #[.pointer (some ⟨b, 0, none⟩), .int .u8 (c.toNat : Int)] w fun e w' => e = .returned .nilIface ∧ WB B b (o ++ [c]) x y w' ∧ Below B w w' := by
  obtain ⟨i0, hi, hz0, hz1, hz2⟩ := info_parts infoByteR
  obtain ⟨hB, p, v, hp, hw, ho, hne, _⟩ := h
  have hlt := hw.lt
  go_enter Tryz.func64, Tryz.ntmps64
  go_wp2_with (go_at_call 104; refine (copyCheckW B b p v x y o.length (Lib.byteCells o) _ hB hp hw ho hne).mono ?_)
  rintro e w1 ⟨rfl, hw1, ho1, hb1, hs1⟩
  have Hs1 : Hid (w1.heap.size = w.heap.size) := hs1
  have Hw1 : Hid (WAt b (.pointer (some ⟨b, 0, none⟩)) v x y w1) := hw1
  have c0 := hw1.c0
  have c1 := hw1.c1
  clear hs1 hw hw1 ho
  go_wp2_with (at_builtin; refine wp_app1 rfl _ _ 66 rfl B 5 i0 (.int .u8 0) 1 Tryz.underlying66 hi hz0 hz1 hz2 rfl _ o.length (Lib.byteCells o) rfl ho1 (.int .u8 (c.toNat : Int)) rfl rfl ?c3 ?c4 ?c5 ?_)
  case c3 => unfold maxLen; omega
  case c4 => omega
  case c5 => rw [Hs1.out]; omega
  intro g cap w2 hown hb2 hoth
  have hw2 : WAt b (.pointer (some ⟨b, 0, none⟩)) v x y w2 := by
    unfold WAt
    rw [hoth b (by rw [Hs1.out]; exact hlt) hne]
    exact Hw1.out
  have d0 := hw2.c0
  have d1 := hw2.c1
  have f1 := hw2.fz 1
  have HW2 : Hid (WAt b (.pointer (some ⟨b, 0, none⟩)) v x y w2) := hw2
  have hgb : g ≠ b := by
    intro he
    rcases hown.2 with ⟨h1, _⟩ | ⟨g', cap', cur, hv, _, hc, _⟩
    · cases h1
    · simp only [Value.slice.injEq, Option.some.injEq, Addr.mk.injEq, and_true, true_and] at hv
      obtain ⟨rfl, _⟩ := hv
      rw [he] at hc
      rw [HW2.out] at hc
      simp only [Option.some.injEq, Obj.cells.injEq] at hc
      exact absurd hc.2.1 (by decide)
  have HO : Hid (w2.ownsRow B 5 1 (.slice (some ⟨g, 0, none⟩) (o.length + 1) cap) (o.length + 1) (Lib.byteCells o ++ [.int .u8 (c.toNat : Int)])) := hown
  have HB2 : Hid (Below B w1 w2) := hb2
  clear hw2 hown hoth hb2
  go_wp2
  go_ret
  have hne2 : (Value.slice (some ⟨g, 0, none⟩) (o.length + 1) cap).ownBlock ≠ some b := by simp [Value.ownBlock, hgb]
  refine ⟨rfl, ⟨hB, _, _, .inr rfl, HW2.out.set1 _, ?_, hne2, fun h => by simp at h⟩, (hb1.trans HB2.out).setCell (p := ⟨b, 1, none⟩) hB _⟩
  have := ownsRow_setCell HO.out b 1 (.slice (some ⟨g, 0, none⟩) (o.length + 1) cap) hne2
  simpa [Lib.byteCells] using this

theorem cellsByte : Tryz.prog.cellsOf 5 = 1 := by kernel_rfl

set_option maxHeartbeats 2000000 in
set_option maxRecDepth 100000 in
theorem stringW (B b : Nat) (o : List UInt8) (x y : Value) (w : World) (h : WB B b o x y w) :
    Calls Tryz.prog 65 #[.pointer (some ⟨b, 0, none⟩)] w fun e w' => e = .returned (.string ⟨o.toArray⟩) ∧ Below B w w' := by
  obtain ⟨hB, p, v, hp, hw, ho, hne, h0⟩ := h
  by_cases he : o = []
  · have hv := h0 he
    subst hv
    subst he
    have hUS : ∀ (W : World) (q : Option Addr), (Builtin.unsafeString_ #[111, 3] 9 #[.pointer q, .int .i64 0]).run Tryz.prog W = .ok (.string .empty) W := fun W q => Lib.run_unsafeString_none W _ _ _ q
    have c1 : w.drew.cell? ⟨b, 1, none⟩ = some (.slice none 0 0) := hw.c1
    have hSD : (Builtin.unsafeSliceData_ #[66] 111 #[.slice none 0 0]).run Tryz.prog w.drew = .ok (.pointer none) w.drew := rfl
    go_enter Tryz.func65, Tryz.ntmps65
    go_wp2
    go_region
    all_goals (go_wp2; go_ret; exact ⟨rfl, Below.drew (Below.refl B w)⟩)
  · have hl0 : o.length ≠ 0 := by simpa using he
    obtain ⟨g, cap, cur, rfl, hbg, hg, hnc, hcm, hcs, htake⟩ : ∃ g cap cur, v = .slice (some ⟨g, 0, none⟩) o.length cap ∧ B ≤ g ∧ w.heap[g]? = some (.cells cur 5 (0, 0)) ∧ o.length ≤ cap ∧ cap ≤ maxLen ∧ cur.size = cap * 1 ∧ cur.toList.take (o.length * 1) = Lib.byteCells o := by
      rcases ho.2 with ⟨_, hz⟩ | ⟨g, cap, cur, hv, r⟩
      · exact absurd hz hl0
      · exact ⟨g, cap, cur, hv, r⟩
    have c1 : w.drew.cell? ⟨b, 1, none⟩ = some (.slice (some ⟨g, 0, none⟩) o.length cap) := hw.c1
    have hSD : (Builtin.unsafeSliceData_ #[66] 111 #[.slice (some ⟨g, 0, none⟩) o.length cap]).run Tryz.prog w.drew = .ok (.pointer (some ⟨g, 0, none⟩)) w.drew :=
      Lib.run_unsafeSliceData_row _ _ _ _ _ _ (by omega)
    have hUS : (Builtin.unsafeString_ #[111, 3] 9 #[.pointer (some ⟨g, 0, none⟩), .int .i64 o.length]).run Tryz.prog w.drew = .ok (.string ⟨o.toArray⟩) (w.drew.freeze ⟨g, 0, none⟩ o.length) := by
      refine Lib.run_unsafeString_row w.drew 111 3 9 5 Tryz.underlying111 cellsByte g cur.size (by have hg' : w.drew.heap[g]? = some (.cells cur 5 (0, 0)) := hg; simp [World.shape?, hg']) o he (by omega) (by unfold maxLen at hcm; omega) ?_
      intro j z hz
      have hj : j < o.length := by
        rcases Nat.lt_or_ge j o.length with h' | h'
        · exact h'
        · simp [List.getElem?_eq_none h'] at hz
      have hg' : w.drew.heap[g]? = some (.cells cur 5 (0, 0)) := hg
      have hcell : w.drew.cell? ⟨g, j, none⟩ = cur[j]? := Lib.cell_of_heap hg' j
      have h3 : cur.toList[j]? = (Lib.byteCells o)[j]? := by rw [← htake, List.getElem?_take]; simp [hj]
      have : w.drew.cell? ⟨g, j, none⟩ = some (.int .u8 z.toNat) := by
        rw [hcell, ← Array.getElem?_toList, h3]
        simp [Lib.byteCells, hz]
      rw [Addr.add_mid, Nat.zero_add]
      exact this
    have HB : Hid (Below B w (w.drew.freeze ⟨g, 0, none⟩ o.length)) := Lib.below_freeze (Below.drew (Below.refl B w)) (p := ⟨g, 0, none⟩) hbg _
    clear hw ho htake hcs hg
    go_enter Tryz.func65, Tryz.ntmps65
    go_wp2
    go_region
    all_goals (go_wp2; go_ret; exact ⟨rfl, HB.out⟩)

end Go.Proofs.YtgnnfljobgbpbabGreatDoor

