/-
  Plain facts on figures of base 16.
-/
import Derived.Test.YtjeldedjhlicmaaDoorVarGetM
import Derived.Lib.IndexBytes
import Derived.Shelf.Strings.Search1
namespace Go.Proofs.YtjeldedjhlicmaaDoor
open Go.RowKit

def hexB (b : UInt8) : Bool := decide (48 ≤ b.toNat ∧ b.toNat ≤ 57 ∨ 97 ≤ b.toNat ∧ b.toNat ≤ 102)
def hexV (b : UInt8) : Nat := if b.toNat < 97 then b.toNat - 48 else b.toNat - 87
def figs : List UInt8 := [48, 49, 50, 51, 52, 53, 54, 55, 56, 57, 97, 98, 99, 100, 101, 102]
def figAt (b : UInt8) : Int := if hexB b then (hexV b : Int) else -1
theorem figAt_all : ∀ n : Fin 256, Lib.indexByte figs (UInt8.ofNat n.val) = figAt (UInt8.ofNat n.val) := by decide +kernel
theorem figAt_eq (b : UInt8) : Lib.indexByte figs b = figAt b := by
  have h := figAt_all ⟨b.toNat, b.toNat_lt⟩
  simpa using h
theorem hexV_lt (b : UInt8) (h : hexB b = true) : hexV b < 16 := by
  have := of_decide_eq_true h
  unfold hexV
  split <;> omega
theorem figAt_yes (b : UInt8) (h : hexB b = true) : figAt b = (hexV b : Int) := by simp [figAt, h]
theorem figAt_no (b : UInt8) (h : hexB b = false) : figAt b = -1 := by simp [figAt, h]

def isSum (l : List UInt8) : Bool := l.length == 16 && l.all hexB
def hexN (l : List UInt8) : Nat := l.foldl (fun n b => n * 16 + hexV b) 0
theorem hexN_snoc (l : List UInt8) (b : UInt8) : hexN (l ++ [b]) = hexN l * 16 + hexV b := by simp [hexN]
theorem hexN_le (l : List UInt8) (h : l.all hexB = true) : hexN l + 1 ≤ 16 ^ l.length := by
  suffices ∀ (l : List UInt8) (a : Nat), l.all hexB = true → l.foldl (fun n b => n * 16 + hexV b) a + 1 ≤ (a + 1) * 16 ^ l.length by
    have := this l 0 h
    simpa [hexN] using this
  intro l
  induction l with
  | nil => intro a _; simp
  | cons b r ih =>
    intro a hb
    simp only [List.all_cons, Bool.and_eq_true] at hb
    have hv := hexV_lt b hb.1
    have := ih (a * 16 + hexV b) hb.2
    simp only [List.foldl_cons, List.length_cons, Nat.pow_succ]
    refine Nat.le_trans this ?_
    rw [Nat.mul_comm (16 ^ r.length) 16, ← Nat.mul_assoc]
    exact Nat.mul_le_mul_right _ (by omega)
def sumHead (l : List UInt8) : Int := if isSum l then ((hexN (l.take 8) / 2 : Nat) : Int) else -1
theorem isSum_len {l : List UInt8} (h : isSum l = true) : l.length = 16 := by
  simp [isSum] at h; exact h.1
theorem isSum_at {s : ByteArray} (h : isSum s.data.toList = true) (k : Nat) (hk : k < s.size) : hexB s[k] = true := by
  simp only [isSum, Bool.and_eq_true, List.all_eq_true] at h
  exact h.2 _ (by simp [ByteArray.getElem_eq_getElem_data])
theorem isSum_no {s : ByteArray} (k : Nat) (hk : k < s.size) (h : hexB s[k] = false) : isSum s.data.toList = false := by
  cases hh : isSum s.data.toList with
  | false => rfl
  | true => rw [isSum_at hh k hk] at h; exact absurd h (by decide)
theorem isSum_yes {s : ByteArray} (hl : s.size = 16) (h : ∀ k (hk : k < s.size), hexB s[k] = true) : isSum s.data.toList = true := by
  simp only [isSum, Bool.and_eq_true, List.all_eq_true]
  refine ⟨by simpa using hl, ?_⟩
  intro b hb
  obtain ⟨k, hk, rfl⟩ := List.mem_iff_getElem.1 hb
  have := h k (by simpa using hk)
  simpa [ByteArray.getElem_eq_getElem_data] using this

theorem or16 (n x : Nat) (hn : n < 268435456) (hx : x < 16) : bits .or .u32 ((n : Int) * 16 % 4294967296) (x : Int) = ((n * 16 + x : Nat) : Int) := by
  have e : (n : Int) * 16 % 4294967296 = ((n * 16 : Nat) : Int) := by omega
  rw [e, (bits_nat .u32 32 (by decide) (fun m h0 h1 => by rw [IntKind.wrap_u32]; omega) (n * 16) x (by omega) (by omega)).2]
  have := (Nat.two_pow_add_eq_or_of_lt (i := 4) (by omega : x < 2 ^ 4) n).symm
  rw [show (2 : Nat) ^ 4 * n = n * 16 from by omega] at this
  rw [this]

/-! ### Figures -/
def hexOf (x : Nat) : List UInt8 := (List.range 8).map fun i => figs.getD (x / 2 ^ (4 * (7 - i)) % 16) 0
theorem figs_at (d : Nat) (h : d < 16) (hh : d < (⟨#[48, 49, 50, 51, 52, 53, 54, 55, 56, 57, 97, 98, 99, 100, 101, 102]⟩ : ByteArray).size) : (⟨#[48, 49, 50, 51, 52, 53, 54, 55, 56, 57, 97, 98, 99, 100, 101, 102]⟩ : ByteArray)[d] = figs.getD d 0 := by
  have e : figs.getD d 0 = figs[d]'h := by simp [List.getElem?_eq_getElem (show d < figs.length from h)]; rfl
  rw [e]
  rfl
theorem hexOf_take (x j : Nat) (h : j < 8) : (hexOf x).take (j + 1) = (hexOf x).take j ++ [figs.getD (x / 2 ^ (4 * (7 - j)) % 16) 0] := by
  have hl : j < (hexOf x).length := by simp [hexOf]; omega
  rw [List.take_succ_eq_append_getElem hl]
  simp [hexOf]


end Go.Proofs.YtjeldedjhlicmaaDoor
