/-
  The program's reading of numbers, bit by bit: the model.
-/
import Derived.Test.YtcaejndpmagfaaaDoorRiceGM
import Derived.Test.YtcaejndpmagfaaaDoorRiceGI2
set_option linter.unusedVariables false
namespace Go.Proofs.YtcaejndpmagfaaaDoor
open Go.RowKit

def stepT (k : Nat) (s : (Nat × Bool × Nat) × List Nat) (b : Nat) : (Nat × Bool × Nat) × List Nat := ((takeM k s.1 b).1, s.2 ++ (takeM k s.1 b).2.toList)
def runT (k : Nat) (bs : List Bit) : (Nat × Bool × Nat) × List Nat := bs.foldl (fun s b => stepT k s b.1) ((0, false, 0), [])
theorem runT_snoc (k : Nat) (bs : List Bit) (b : Bit) : runT k (bs ++ [b]) = stepT k (runT k bs) b.1 := by simp [runT]
/-- What a number that is read in part can be. -/
def okT (k q : Nat) (st : Nat × Bool × Nat) : Prop := (st.2.1 = false ∧ st.1 ≤ q ∧ st.2.2 = 0) ∨ (st.2.1 = true ∧ 1 ≤ st.2.2 ∧ st.2.2 ≤ k ∧ st.1 < (q + 1) * 2 ^ (k - st.2.2))
theorem okT_step {k q b : Nat} {st : Nat × Bool × Nat} (h : okT k q st) (hb : b ≤ 1) : okT k (q + 1) (takeM k st b).1 := by
  obtain ⟨n, r, left⟩ := st
  rcases h with ⟨h1, h2, h3⟩ | ⟨h1, h2, h3, h4⟩
  · obtain rfl : r = false := h1
    have h2' : n ≤ q := h2
    have h3' : left = 0 := h3
    by_cases hb1 : b = 1
    · have e : (takeM k (n, false, left) b).1 = (n + 1, false, left) := by simp [takeM, hb1]
      rw [e]
      exact .inl ⟨rfl, by show n + 1 ≤ q + 1; omega, h3⟩
    · by_cases hk : 0 < k
      · have e : (takeM k (n, false, left) b).1 = (n, true, k) := by simp [takeM, hb1, hk]
        rw [e]
        exact .inr ⟨rfl, by show 1 ≤ k; omega, Nat.le_refl _, by show n < (q + 1 + 1) * 2 ^ (k - k); rw [Nat.sub_self]; omega⟩
      · have e : (takeM k (n, false, left) b).1 = (0, false, 0) := by simp [takeM, hb1, hk]
        rw [e]
        exact .inl ⟨rfl, Nat.zero_le _, rfl⟩
  · obtain rfl : r = true := h1
    have h3' : left ≤ k := h3
    have h4' : n < (q + 1) * 2 ^ (k - left) := h4
    by_cases hl : 1 < left
    · have e : (takeM k (n, true, left) b).1 = (n * 2 + b, true, left - 1) := by simp [takeM, hl]
      rw [e]
      refine .inr ⟨rfl, by show 1 ≤ left - 1; omega, by show left - 1 ≤ k; omega, ?_⟩
      show n * 2 + b < (q + 1 + 1) * 2 ^ (k - (left - 1))
      rw [show k - (left - 1) = k - left + 1 from by omega, Nat.pow_succ, ← Nat.mul_assoc, Nat.add_mul (q + 1) 1]
      omega
    · have e : (takeM k (n, true, left) b).1 = (0, false, 0) := by simp [takeM, hl]
      rw [e]
      exact .inl ⟨rfl, Nat.zero_le _, rfl⟩
theorem okT_small {k q : Nat} {st : Nat × Bool × Nat} (h : okT k q st) (hk : k ≤ 8) (hq : q ≤ 4800) : st.1 < 1000000000000 ∧ st.2.2 ≤ 8 ∧ (st.2.1 = true → 1 ≤ st.2.2) := by
  rcases h with ⟨h1, h2, h3⟩ | ⟨h1, h2, h3, h4⟩
  · exact ⟨by omega, by omega, fun e => by rw [h1] at e; cases e⟩
  · have hp : 2 ^ (k - st.2.2) ≤ 2 ^ 8 := Nat.pow_le_pow_right (by omega) (by omega)
    have hm : (q + 1) * 2 ^ (k - st.2.2) ≤ 4801 * 2 ^ 8 := Nat.mul_le_mul (by omega) hp
    exact ⟨by omega, by omega, fun _ => h2⟩
/-- Reading goes on behind these bits. -/
def OpenT (k many : Nat) (bs : List Bit) : Prop := (∀ rest, readT k many (bs.map (fun b => b.1) ++ rest) (0, false, 0) [] = readT k many rest (runT k bs).1 (runT k bs).2) ∧ (runT k bs).2.length ≤ many ∧ okT k bs.length (runT k bs).1
theorem openT_nil (k many : Nat) : OpenT k many [] := ⟨fun _ => rfl, Nat.zero_le _, .inl ⟨rfl, Nat.le_refl _, rfl⟩⟩
theorem openT_snoc {k many : Nat} {bs : List Bit} (h : OpenT k many bs) (hne : (runT k bs).2.length ≠ many) (b : Bit) : OpenT k many (bs ++ [b]) := by
  refine ⟨fun rest => ?_, ?_, ?_⟩
  · rw [List.map_append, List.append_assoc, h.1, List.map_cons, List.map_nil, List.cons_append, List.nil_append, readT, if_neg hne, runT_snoc]
    rfl
  · rw [runT_snoc]
    have h2 := h.2.1
    simp only [stepT, List.length_append]
    have : (takeM k (runT k bs).1 b.1).2.toList.length ≤ 1 := by cases (takeM k (runT k bs).1 b.1).2 <;> simp
    omega
  · rw [runT_snoc, List.length_append]
    exact okT_step h.2.2 b.2
theorem openT_full {k many : Nat} {bs : List Bit} (h : OpenT k many bs) (he : (runT k bs).2.length = many) (rest : List Nat) : readT k many (bs.map (fun b => b.1) ++ rest) (0, false, 0) [] = (runT k bs).2 := by
  rw [h.1]
  cases rest with
  | nil => rfl
  | cons b r => rw [readT, if_pos he]
theorem openT_end {k many : Nat} {bs : List Bit} (h : OpenT k many bs) : readT k many (bs.map (fun b => b.1)) (0, false, 0) [] = (runT k bs).2 := by
  have := h.1 []
  rw [List.append_nil] at this
  rw [this]
  rfl

theorem unpack_map (o : List UInt8) : unpack o = (List.range (8 * o.length)).map fun q => (o.getD (q / 8) 0).toNat / 2 ^ (7 - q % 8) % 2 := by
  induction o with
  | nil => rfl
  | cons c r ih =>
    have e : unpack (c :: r) = byteBits c ++ unpack r := rfl
    rw [e, ih, List.length_cons, show 8 * (r.length + 1) = 8 + 8 * r.length from by omega, List.range_add, List.map_append, List.map_map]
    congr 1
    · simp [byteBits, List.range, List.range.loop]
    · apply List.map_congr_left
      intro q _
      show _ = ((c :: r).getD ((8 + q) / 8) 0).toNat / 2 ^ (7 - (8 + q) % 8) % 2
      rw [show (8 + q) / 8 = q / 8 + 1 from by omega, show (8 + q) % 8 = q % 8 from by omega]
      simp
theorem unpack_bits (s : ByteArray) : unpack s.data.toList = (bitsTo s (8 * s.size)).map (fun b => b.1) := by
  rw [unpack_map, bitsTo, List.map_map]
  have : s.data.toList.length = s.size := by simp
  rw [this]
  rfl
theorem bitsTo_split (s : ByteArray) (q : Nat) (h : q ≤ 8 * s.size) : ∃ rest, unpack s.data.toList = (bitsTo s q).map (fun b => b.1) ++ rest := by
  refine ⟨((List.range (8 * s.size - q)).map (fun i => bitOf s (q + i))).map (fun b => b.1), ?_⟩
  have e : bitsTo s (8 * s.size) = bitsTo s q ++ (List.range (8 * s.size - q)).map (fun i => bitOf s (q + i)) := by
    rw [bitsTo, show 8 * s.size = q + (8 * s.size - q) from by omega, List.range_add, List.map_append, List.map_map, show q + (8 * s.size - q) - q = 8 * s.size - q from by omega]
    rfl
  rw [unpack_bits, e, List.map_append]

end Go.Proofs.YtcaejndpmagfaaaDoor
