/-
  Plain facts on numbers in bytes of seven bits each, the lowest first.
-/
import Derived.WalkKit
import Derived.Lib.Builder
import Derived.Laws.IdiomStrings
import Derived.Below
import Derived.Lib.AppendStr
import Derived.Lib.UnsafeStr
namespace Go.Proofs.YtjeldedjhlicmaaDoor
open Go.RowKit

/-- A number in bytes of seven bits, by at most so many bytes behind the first. -/
def varB : Nat → Nat → List UInt8
  | 0, n => [UInt8.ofNat n]
  | f + 1, n => if n < 128 then [UInt8.ofNat n] else UInt8.ofNat (128 + n % 128) :: varB f (n / 128)

theorem varB_small (f n : Nat) (h : n < 128) : varB f n = [UInt8.ofNat n] := by
  cases f with
  | zero => rfl
  | succ f => simp [varB, h]

theorem varB_step (f n : Nat) (h : ¬ n < 128) : varB (f + 1) n = UInt8.ofNat (128 + n % 128) :: varB f (n / 128) := by
  simp [varB, h]

theorem varB_length (f n : Nat) : 1 ≤ (varB f n).length ∧ (varB f n).length ≤ f + 1 := by
  induction f generalizing n with
  | zero => simp [varB]
  | succ f ih =>
    by_cases h : n < 128
    · rw [varB_small _ _ h]; simp
    · rw [varB_step _ _ h]; have := ih (n / 128); simp; omega

theorem ofNat_cell (n : Nat) (h : n < 256) : (Value.int .u8 (n : Int)) = .int .u8 ((UInt8.ofNat n).toNat : Int) := by
  have : (UInt8.ofNat n).toNat = n := by simp; omega
  rw [this]

theorem byteCells_snoc (acc : List UInt8) (c : Int) (k : Nat) (hc : c = (k : Int)) (hk : k < 256) :
    Lib.byteCells acc ++ [.int .u8 c] = Lib.byteCells (acc ++ [UInt8.ofNat k]) := by
  subst hc
  rw [ofNat_cell k hk]
  simp [Lib.byteCells]

/-- The text that a row of bytes of the call's own is. -/
theorem bytes_back {P : Program} {w : World} {base e : Nat} {n cap g : Nat} {l : List UInt8} (src dst : TypeId) (hs : P.underlying src = some (.slice e)) (he : P.underlying e = some (.int .u8)) (hd : P.underlying dst = some .string)
    (h : w.ownsRow base e 1 (.slice (some ⟨g, 0, none⟩) n cap) n (Lib.byteCells l)) (hn : n = l.length) :
    (convert src dst (.slice (some ⟨g, 0, none⟩) n cap)).run P w = .ok (.string ⟨l.toArray⟩) w := by
  subst hn
  refine run_convert_bytes_back w src dst e ⟨g, 0, none⟩ cap l hs he hd ?_
  intro j hj
  have := h.cells (g := g) rfl j (.int .u8 (l[j].toNat : Int)) (by simp [Lib.byteCells, List.getElem?_eq_getElem hj])
  exact this

/-- What is owned has a head as soon as it has an element. -/
theorem owned_head {w : World} {base e : Nat} {v : Value} {n : Nat} {xs : List Value} (h : w.ownsRow base e 1 v n xs) (hn : n ≠ 0) : ∃ g cap, v = .slice (some ⟨g, 0, none⟩) n cap := by
  rcases h.2 with ⟨_, h0⟩ | ⟨g, cap, cur, hv, _⟩
  · exact absurd h0 hn
  · exact ⟨g, cap, hv⟩

end Go.Proofs.YtjeldedjhlicmaaDoor
