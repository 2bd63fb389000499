/-
  Reading bits back: the model.
-/
import Derived.Test.YtcaejndpmagfaaaDoorRiceM
namespace Go.Proofs.YtcaejndpmagfaaaDoor
open Go.RowKit

/-! ### The bits of a text -/
def byteBits (c : UInt8) : List Nat := [c.toNat / 128 % 2, c.toNat / 64 % 2, c.toNat / 32 % 2, c.toNat / 16 % 2, c.toNat / 8 % 2, c.toNat / 4 % 2, c.toNat / 2 % 2, c.toNat % 2]
def unpack (o : List UInt8) : List Nat := o.flatMap byteBits
theorem unpack_append (a b : List UInt8) : unpack (a ++ b) = unpack a ++ unpack b := by simp [unpack]
theorem unpack_length (o : List UInt8) : (unpack o).length = 8 * o.length := by
  induction o with
  | nil => rfl
  | cons c r ih =>
    have : unpack (c :: r) = byteBits c ++ unpack r := rfl
    rw [this, List.length_append, ih]
    simp [byteBits]
    omega
theorem byteBits_val (l : List Nat) (h8 : l.length = 8) (h : ∀ x ∈ l, x ≤ 1) : byteBits (UInt8.ofNat (valB l)) = l := by
  match l, h8 with
  | [a, b, c, d, e, f, g, i], _ =>
    have ha := h a (by simp)
    have hb := h b (by simp)
    have hc := h c (by simp)
    have hd := h d (by simp)
    have he := h e (by simp)
    have hf := h f (by simp)
    have hg := h g (by simp)
    have hi := h i (by simp)
    have hv : valB [a, b, c, d, e, f, g, i] = a * 128 + b * 64 + c * 32 + d * 16 + e * 8 + f * 4 + g * 2 + i := by
      simp only [valB, List.foldl_cons, List.foldl_nil]
      omega
    have hn : (UInt8.ofNat (valB [a, b, c, d, e, f, g, i])).toNat = a * 128 + b * 64 + c * 32 + d * 16 + e * 8 + f * 4 + g * 2 + i := by
      rw [hv]
      simp
      omega
    simp only [byteBits, hn, List.cons.injEq, and_true]
    refine ⟨?_, ?_, ?_, ?_, ?_, ?_, ?_, ?_⟩ <;> omega
theorem unpack_step {s : List UInt8 × List Nat} {b : Nat} (h : okB s) (hb : b ≤ 1) : unpack (stepB s b).1 ++ (stepB s b).2 = unpack s.1 ++ s.2 ++ [b] := by
  unfold stepB
  split
  · rename_i h7
    have hall : ∀ x ∈ s.2 ++ [b], x ≤ 1 := by
      intro x hx
      rcases List.mem_append.1 hx with hx | hx
      · exact h.2 x hx
      · simp at hx; omega
    have e : unpack [UInt8.ofNat (valB (s.2 ++ [b]))] = s.2 ++ [b] := by
      have : unpack [UInt8.ofNat (valB (s.2 ++ [b]))] = byteBits (UInt8.ofNat (valB (s.2 ++ [b]))) := by simp [unpack]
      rw [this, byteBits_val _ (by simp [h7]) hall]
    rw [unpack_append, e]
    simp
  · simp
theorem unpack_run (bs : List Nat) : ∀ (s : List UInt8 × List Nat), okB s → (∀ b ∈ bs, b ≤ 1) → unpack (runB s bs).1 ++ (runB s bs).2 = unpack s.1 ++ s.2 ++ bs := by
  induction bs with
  | nil => intro s _ _; simp [runB]
  | cons b r ih =>
    intro s h hb
    have h1 := hb b (by simp)
    have := ih (stepB s b) (stepB_ok h h1) (fun x hx => hb x (by simp [hx]))
    have e : runB s (b :: r) = runB (stepB s b) r := rfl
    rw [e, this, unpack_step h h1]
    simp
theorem run_zeros (m : Nat) : ∀ (s : List UInt8 × List Nat), okB s → s.2.length + m = 8 → m ≠ 0 → (runB s (List.replicate m 0)).2 = [] := by
  induction m with
  | zero => intro s _ _ h; exact absurd rfl h
  | succ m ih =>
    intro s h hl _
    have e : runB s (List.replicate (m + 1) 0) = runB (stepB s 0) (List.replicate m 0) := rfl
    rw [e]
    by_cases h7 : s.2.length = 7
    · have hm : m = 0 := by omega
      subst hm
      simp [runB, stepB, h7]
    · have h2 : (stepB s 0).2 = s.2 ++ [0] := by simp [stepB, h7]
      refine ih _ (stepB_ok h (by omega)) (by rw [h2]; simp; omega) (by omega)
theorem unpack_fill {s : List UInt8 × List Nat} (h : okB s) : ∃ z, z < 8 ∧ unpack (fillB s) = unpack s.1 ++ s.2 ++ List.replicate z 0 := by
  by_cases h0 : s.2 = []
  · exact ⟨0, by omega, by rw [fillB_end h0, h0]; simp⟩
  · have hne : s.2.length ≠ 0 := fun e => h0 (List.length_eq_zero_iff.1 e)
    refine ⟨8 - s.2.length, by omega, ?_⟩
    have h8 := h.1
    have hu := unpack_run (List.replicate (8 - s.2.length) 0) s h (by intro b hb; simp at hb; omega)
    have hz := run_zeros (8 - s.2.length) s h (by omega) (by omega)
    rw [hz, List.append_nil] at hu
    rw [fillB, if_neg h0]
    exact hu
theorem unpack_rice (k : Nat) (l : List Nat) : ∃ z, z < 8 ∧ unpack (riceB k l) = bitsOf k l ++ List.replicate z 0 := by
  have hk : okB (runB ([], []) (bitsOf k l)) := runB_ok ⟨by simp, by simp⟩ (bitsOf_ok k l)
  obtain ⟨z, hz, h⟩ := unpack_fill hk
  refine ⟨z, hz, ?_⟩
  rw [riceB, h, unpack_run (bitsOf k l) ([], []) ⟨by simp, by simp⟩ (bitsOf_ok k l)]
  simp [unpack]

/-! ### The program's reader -/
def takeM (k : Nat) : Nat × Bool × Nat → Nat → (Nat × Bool × Nat) × Option Nat
  | (n, true, left), b => if 1 < left then ((n * 2 + b, true, left - 1), none) else ((0, false, 0), some (n * 2 + b))
  | (n, false, left), b => if b = 1 then ((n + 1, false, left), none) else if 0 < k then ((n, true, k), none) else ((0, false, 0), some n)
def readT (k many : Nat) : List Nat → Nat × Bool × Nat → List Nat → List Nat
  | [], _, out => out
  | b :: r, st, out => if out.length = many then out else readT k many r (takeM k st b).1 (out ++ (takeM k st b).2.toList)
theorem readT_ones (k many m : Nat) (rest : List Nat) : ∀ (n : Nat) (out : List Nat), out.length ≠ many → readT k many (List.replicate m 1 ++ rest) (n, false, 0) out = readT k many rest (n + m, false, 0) out := by
  induction m with
  | zero => intro n out _; simp
  | succ m ih =>
    intro n out h
    rw [List.replicate_succ, List.cons_append, readT, if_neg h]
    simp only [takeM, if_true, Option.toList, List.append_nil]
    rw [ih (n + 1) out h, show n + 1 + m = n + (m + 1) from by omega]
theorem readT_low (k many x : Nat) (rest : List Nat) : ∀ (j n : Nat) (out : List Nat), out.length ≠ many → n = x / 2 ^ (j + 1) → readT k many (lowB x (j + 1) ++ rest) (n, true, j + 1) out = readT k many rest (0, false, 0) (out ++ [x]) := by
  intro j
  induction j with
  | zero =>
    intro n out h hn
    rw [show lowB x (0 + 1) = [x / 2 ^ 0 % 2] from rfl, List.cons_append, readT, if_neg h]
    have : n * 2 + x / 2 ^ 0 % 2 = x := by rw [hn]; simp; omega
    simp only [takeM, List.nil_append, show ¬ (1 < 0 + 1) from by omega, if_false, Option.toList, this]
  | succ j ih =>
    intro n out h hn
    rw [show lowB x (j + 1 + 1) = (x / 2 ^ (j + 1) % 2) :: lowB x (j + 1) from rfl, List.cons_append, readT, if_neg h]
    simp only [takeM, show 1 < j + 1 + 1 from by omega, if_true, Option.toList, List.append_nil, show j + 1 + 1 - 1 = j + 1 from by omega]
    refine ih _ out h ?_
    rw [hn, Nat.pow_succ 2 (j + 1), ← Nat.div_div_eq_div_mul]
    omega
theorem readT_num (k many x : Nat) (rest : List Nat) (out : List Nat) (h : out.length ≠ many) : readT k many (numB k x ++ rest) (0, false, 0) out = readT k many rest (0, false, 0) (out ++ [x]) := by
  rw [numB, List.append_assoc, readT_ones k many _ _ 0 out h, List.cons_append, readT, if_neg h, Nat.zero_add]
  cases k with
  | zero => simp [takeM, lowB]
  | succ j =>
    simp only [takeM, show ¬ (0 = 1) from by omega, if_false, show 0 < j + 1 from by omega, if_true, Option.toList, List.append_nil]
    exact readT_low (j + 1) many x rest j _ out h rfl
theorem readT_all (k many : Nat) (l : List Nat) : ∀ (out rest : List Nat), out.length + l.length = many → readT k many (bitsOf k l ++ rest) (0, false, 0) out = out ++ l := by
  induction l with
  | nil =>
    intro out rest h
    have ho : out.length = many := by simpa using h
    cases rest with
    | nil => simp [bitsOf, readT]
    | cons b r => simp [bitsOf, readT, ho]
  | cons x l ih =>
    intro out rest h
    have : bitsOf k (x :: l) = numB k x ++ bitsOf k l := by simp [bitsOf]
    rw [this, List.append_assoc, readT_num k many x _ out (by simp at h; omega), ih (out ++ [x]) rest (by simp at h ⊢; omega)]
    simp
/-- What was written is read. -/
theorem readT_rice (k : Nat) (l : List Nat) : readT k l.length (unpack (riceB k l)) (0, false, 0) [] = l := by
  obtain ⟨z, _, h⟩ := unpack_rice k l
  rw [h, readT_all k l.length l [] _ (by simp)]
  rfl

end Go.Proofs.YtcaejndpmagfaaaDoor
