/-
  Texts that the last part needs, joined.
-/
import Derived.WalkKit
import Derived.Lib.Builder
import Derived.Laws.IdiomStrings
import Derived.Below
import Derived.Lib.AppendStr
import Derived.Lib.UnsafeStr
import Derived.Laws.BitsLemmas
import Derived.RangeFuncNested
import Derived.RangeFuncBound
import Derived.RangeFuncCalls
import Derived.RangeFuncLeaves
import Derived.Shelf.Abstract
import Derived.Shelf.RegionOpen
import Derived.OwnWalkIn
import Derived.TacticsInMore
import Derived.LoopNIn
import Derived.LoopIn
import Derived.Test.YteihpdnbehnnhaaProg
import Derived.WalkSpells
import Derived.BigQuiet
import Derived.Deep.QuietTactic
import Derived.OpenShut
import Derived.BigRegion
import Derived.Shelf.Strings.Builder1
import Derived.Shelf.Strings.BuilderF
import Derived.Shelf.Strings.BuilderK
import Derived.Shelf.Strings.BuilderCap
import Derived.Lib.FrozenHead2
import Derived.Deep.MidRow
import Derived.Deep.RegionWith
import Derived.Deep.OwnRows
namespace Go.Proofs.Yteihpdnbehnnhaa
open Go.RowKit

/-- A number in bytes of seven bits, by at most so many bytes behind the first. -/
def varB : Nat → Nat → List UInt8
  | 0, n => [UInt8.ofNat n]
  | f + 1, n => if n < 128 then [UInt8.ofNat n] else UInt8.ofNat (128 + n % 128) :: varB f (n / 128)

theorem varB_small (f n : Nat) (h : n < 128) : varB f n = [UInt8.ofNat n] := by
  cases f with
  | zero => rfl
  | succ f => simp [varB, h]

theorem varB_step (f n : Nat) (h : ¬ n < 128) : varB (f + 1) n = UInt8.ofNat (128 + n % 128) :: varB f (n / 128) := by
  simp [varB, h]

theorem varB_length (f n : Nat) : 1 ≤ (varB f n).length ∧ (varB f n).length ≤ f + 1 := by
  induction f generalizing n with
  | zero => simp [varB]
  | succ f ih =>
    by_cases h : n < 128
    · rw [varB_small _ _ h]; simp
    · rw [varB_step _ _ h]; have := ih (n / 128); simp; omega

theorem ofNat_cell (n : Nat) (h : n < 256) : (Value.int .u8 (n : Int)) = .int .u8 ((UInt8.ofNat n).toNat : Int) := by
  have : (UInt8.ofNat n).toNat = n := by simp; omega
  rw [this]

theorem byteCells_snoc (acc : List UInt8) (c : Int) (k : Nat) (hc : c = (k : Int)) (hk : k < 256) :
    Lib.byteCells acc ++ [.int .u8 c] = Lib.byteCells (acc ++ [UInt8.ofNat k]) := by
  subst hc
  rw [ofNat_cell k hk]
  simp [Lib.byteCells]

/-- The text that a row of bytes of the call's own is. -/
theorem bytes_back {P : Program} {w : World} {base e : Nat} {n cap g : Nat} {l : List UInt8} (src dst : TypeId) (hs : P.underlying src = some (.slice e)) (he : P.underlying e = some (.int .u8)) (hd : P.underlying dst = some .string)
    (h : w.ownsRow base e 1 (.slice (some ⟨g, 0, none⟩) n cap) n (Lib.byteCells l)) (hn : n = l.length) :
    (convert src dst (.slice (some ⟨g, 0, none⟩) n cap)).run P w = .ok (.string ⟨l.toArray⟩) w := by
  subst hn
  refine run_convert_bytes_back w src dst e ⟨g, 0, none⟩ cap l hs he hd ?_
  intro j hj
  have := h.cells (g := g) rfl j (.int .u8 (l[j].toNat : Int)) (by simp [Lib.byteCells, List.getElem?_eq_getElem hj])
  exact this

/-- What is owned has a head as soon as it has an element. -/
theorem owned_head {w : World} {base e : Nat} {v : Value} {n : Nat} {xs : List Value} (h : w.ownsRow base e 1 v n xs) (hn : n ≠ 0) : ∃ g cap, v = .slice (some ⟨g, 0, none⟩) n cap := by
  rcases h.2 with ⟨_, h0⟩ | ⟨g, cap, cur, hv, _⟩
  · exact absurd h0 hn
  · exact ⟨g, cap, hv⟩

end Go.Proofs.Yteihpdnbehnnhaa

namespace Go.Proofs.Yteihpdnbehnnhaa
open Go.RowKit

/-- What VarPut comes to. -/
def varPut (n : Int) : List UInt8 := if 0 ≤ n ∧ n ≤ 2147483647 then varB 4 n.toNat else []

/-- The number that bytes of seven bits are, the lowest first. -/
def vNum : List UInt8 → Nat
  | [] => 0
  | b :: r => b.toNat % 128 + 128 * vNum r

theorem vNum_snoc (l : List UInt8) (b : UInt8) : vNum (l ++ [b]) = vNum l + b.toNat % 128 * 128 ^ l.length := by
  induction l with
  | nil => simp [vNum]
  | cons c r ih =>
    simp only [List.cons_append, vNum, ih, List.length_cons, Nat.pow_succ]
    rw [Nat.mul_add, Nat.mul_comm (128 ^ r.length) 128, Nat.mul_left_comm]
    omega

theorem vNum_lt (l : List UInt8) : vNum l < 128 ^ l.length := by
  induction l with
  | nil => simp [vNum]
  | cons c r ih =>
    simp only [vNum, List.length_cons, Nat.pow_succ]
    omega

/-- Bytes that go on and one that ends are what is written of their number, just if the last is not needless, and the number not too great. -/
def vEnds (l : List UInt8) (b : UInt8) : Prop := (∀ c ∈ l, 128 ≤ c.toNat) ∧ b.toNat < 128

theorem varB_vNum (l : List UInt8) (b : UInt8) (h : vEnds l b) (f : Nat) (hf : l.length ≤ f) : varB f (vNum (l ++ [b])) = l ++ [b] ↔ (l = [] ∨ b ≠ 0) := by
  induction l generalizing f with
  | nil =>
    have hb := h.2
    have : vNum ([] ++ [b]) = b.toNat := by simp [vNum]; omega
    rw [this, varB_small _ _ hb]
    simp
  | cons c r ih =>
    obtain ⟨g, rfl⟩ : ∃ g, f = g + 1 := ⟨f - 1, by simp at hf; omega⟩
    have hr : vEnds r b := ⟨fun x hx => h.1 x (by simp [hx]), h.2⟩
    have hc := h.1 c (by simp)
    have hcl : c.toNat < 256 := c.toNat_lt
    have hlt := vNum_lt (r ++ [b])
    simp only [List.cons_append, vNum]
    have ihr := ih hr g (by simp at hf; omega)
    by_cases hz : vNum (r ++ [b]) = 0
    · have hb0 : b.toNat = 0 := by
        have hb := h.2
        rw [vNum_snoc] at hz
        have hm : b.toNat % 128 * 128 ^ r.length = 0 := by omega
        rcases Nat.mul_eq_zero.1 hm with hm | hm
        · omega
        · have : 0 < 128 ^ r.length := Nat.pow_pos (by decide)
          omega
      rw [hz, varB_small _ _ (by omega)]
      constructor
      · intro hh
        have := congrArg List.length hh
        simp at this
      · intro hh
        rcases hh with hh | hh
        · simp at hh
        · exact absurd (UInt8.toNat.inj (by simpa using hb0)) hh
    · have hge : ¬ (c.toNat % 128 + 128 * vNum (r ++ [b]) < 128) := by omega
      rw [varB_step g _ hge]
      have e1 : (c.toNat % 128 + 128 * vNum (r ++ [b])) / 128 = vNum (r ++ [b]) := by omega
      have e2 : UInt8.ofNat (128 + (c.toNat % 128 + 128 * vNum (r ++ [b])) % 128) = c := by
        apply UInt8.toNat.inj
        simp
        omega
      rw [e1, e2]
      simp only [List.cons.injEq, true_and, reduceCtorEq, false_or]
      rw [ihr]
      constructor
      · intro hh
        rcases hh with rfl | hh
        · intro hb
          subst hb
          simp [vNum] at hz
        · exact hh
      · intro hh
        exact Or.inr hh

theorem varPut_vNum (l : List UInt8) (b : UInt8) (h : vEnds l b) (hl : l.length ≤ 4) :
    varPut (vNum (l ++ [b])) = l ++ [b] ↔ ((l = [] ∨ b ≠ 0) ∧ vNum (l ++ [b]) ≤ 2147483647) := by
  unfold varPut
  by_cases hn : vNum (l ++ [b]) ≤ 2147483647
  · rw [if_pos (by omega)]
    simp only [Int.toNat_natCast, varB_vNum l b h 4 hl, hn, and_true]
  · rw [if_neg (by omega)]
    simp [hn]

/-- The number with which bytes begin, and how many it takes. -/
def vg : Nat → List UInt8 → List UInt8 → Nat × Nat
  | 0, _, _ => (0, 0)
  | _ + 1, _, [] => (0, 0)
  | f + 1, l, b :: r => if 128 ≤ b.toNat then vg f (l ++ [b]) r else if varPut (vNum (l ++ [b])) = l ++ [b] then (vNum (l ++ [b]), l.length + 1) else (0, 0)
def varGet (s : List UInt8) : Nat × Nat := vg 5 [] s

theorem take_snoc (s : ByteArray) (k : Nat) (h : k < s.size) : s.data.toList.take (k + 1) = s.data.toList.take k ++ [s[k]] := by
  rw [List.take_succ_eq_append_getElem (by simpa using h)]; rfl
theorem drop_cons (s : ByteArray) (k : Nat) (h : k < s.size) : s.data.toList.drop k = s[k] :: s.data.toList.drop (k + 1) := by
  rw [List.drop_eq_getElem_cons (by simpa using h)]; rfl
theorem take_len (s : ByteArray) (k : Nat) (h : k ≤ s.size) : (s.data.toList.take k).length = k := by
  simp; omega

theorem vg_on (s : ByteArray) (k : Nat) (h : k < s.size) (h5 : k < 5) (hb : 128 ≤ s[k].toNat) :
    vg (5 - k) (s.data.toList.take k) (s.data.toList.drop k) = vg (5 - (k + 1)) (s.data.toList.take (k + 1)) (s.data.toList.drop (k + 1)) := by
  have e : 5 - k = (5 - (k + 1)) + 1 := by omega
  rw [e, drop_cons s k h, take_snoc s k h, vg, if_pos hb]
theorem vg_yes (s : ByteArray) (k : Nat) (h : k < s.size) (h5 : k < 5) (hb : ¬ 128 ≤ s[k].toNat) (hp : varPut (vNum (s.data.toList.take (k + 1))) = s.data.toList.take (k + 1)) :
    vg (5 - k) (s.data.toList.take k) (s.data.toList.drop k) = (vNum (s.data.toList.take (k + 1)), k + 1) := by
  have e : 5 - k = (5 - (k + 1)) + 1 := by omega
  rw [take_snoc s k h] at hp ⊢
  rw [e, drop_cons s k h, vg, if_neg hb, if_pos hp, take_len s k (by omega)]
theorem vg_no (s : ByteArray) (k : Nat) (h : k < s.size) (h5 : k < 5) (hb : ¬ 128 ≤ s[k].toNat) (hp : ¬ varPut (vNum (s.data.toList.take (k + 1))) = s.data.toList.take (k + 1)) :
    vg (5 - k) (s.data.toList.take k) (s.data.toList.drop k) = (0, 0) := by
  have e : 5 - k = (5 - (k + 1)) + 1 := by omega
  rw [take_snoc s k h] at hp
  rw [e, drop_cons s k h, vg, if_neg hb, if_neg hp]
theorem vg_end (s : ByteArray) (k : Nat) (h : ¬ (k < s.size ∧ k < 5)) :
    vg (5 - k) (s.data.toList.take k) (s.data.toList.drop k) = (0, 0) := by
  by_cases h5 : k < 5
  · have e : 5 - k = (5 - (k + 1)) + 1 := by omega
    have hd : s.data.toList.drop k = [] := List.drop_eq_nil_of_le (by simp; have : ¬ k < s.size := fun h' => h ⟨h', h5⟩; exact Nat.le_of_not_lt this)
    rw [e, hd, vg]
  · have e : 5 - k = 0 := by omega
    rw [e, vg]

theorem or_step (n x k : Nat) (hn : n < 128 ^ k) (hx : x < 128) (hk : k < 5) : bits .or .i64 (n : Int) (wrap64 ((x : Int) * 2 ^ (7 * k))) = ((n + x * 128 ^ k : Nat) : Int) := by
  have e128 : (128 : Nat) ^ k = 2 ^ (7 * k) := by rw [Nat.pow_mul]
  have hk' : 128 ^ k ≤ 128 ^ 4 := Nat.pow_le_pow_right (by decide) (by omega)
  have hmul : x * 128 ^ k ≤ 127 * 128 ^ 4 := Nat.mul_le_mul (by omega) hk'
  have hc : (x : Int) * 2 ^ (7 * k) = ((x * 128 ^ k : Nat) : Int) := by rw [e128]; simp
  rw [hc, show wrap64 ((x * 128 ^ k : Nat) : Int) = ((x * 128 ^ k : Nat) : Int) from by unfold wrap64; omega]
  rw [(bits_nat .i64 40 (by decide) (fun m h0 h1 => by rw [IntKind.wrap_i64]; omega) n (x * 128 ^ k) (by omega) (by omega)).2]
  have hor : x * 128 ^ k ||| n = x * 128 ^ k + n := by
    rw [e128, Nat.mul_comm]
    exact (Nat.two_pow_add_eq_or_of_lt (by rw [← e128]; exact hn) x).symm
  rw [Nat.or_comm, hor, Nat.add_comm]

end Go.Proofs.Yteihpdnbehnnhaa

set_option linter.unusedVariables false
namespace Go.Proofs.Yteihpdnbehnnhaa
open Go.RowKit Go.Shelf
attribute [local go_sem] Oper.semAt_some

abbrev Bit := { b : Nat // b ≤ 1 }
def bitOf (s : ByteArray) (q : Nat) : Bit := ⟨(s.data.toList.getD (q / 8) 0).toNat / 2 ^ (7 - q % 8) % 2, by omega⟩
def bitsTo (s : ByteArray) (k : Nat) : List Bit := (List.range k).map (bitOf s)
theorem bitsTo_succ (s : ByteArray) (k : Nat) : bitsTo s (k + 1) = bitsTo s k ++ [bitOf s k] := by simp [bitsTo, List.range_succ]
theorem bitsTo_length (s : ByteArray) (k : Nat) : (bitsTo s k).length = k := by simp [bitsTo]

set_option maxHeartbeats 2000000 in
set_option maxRecDepth 100000 in
theorem bitsIter (F : Fence) (n : Nat) (hf : F.fn 56) (hro : F.round = none) (hn : 1 ≤ n) (l Bs : Nat) (s : ByteArray) (hs : s.size ≤ 600) (J Jx : List Bit → World → Prop)
    (hY : ∀ pre x W, J pre W → pre.length < 8 * s.size → YieldAt F (n - 1) Try.prog l #[.int .i64 ((x.1 : Nat) : Int)] W fun e W' =>
      (e = .returned (.bool true) ∧ J (pre ++ [x]) W' ∧ W'.cell? ⟨Bs, 0, none⟩ = W.cell? ⟨Bs, 0, none⟩) ∨ (e = .returned (.bool false) ∧ Jx (pre ++ [x]) W'))
    (W : World) (hBs : W.cell? ⟨Bs, 0, none⟩ = some (.string s)) (h0 : J [] W) :
    CallsIn F n Try.prog 56 #[.func (.yield l) #[] #[], .pointer (some ⟨Bs, 0, none⟩)] W fun e W' => (∃ v, e = .returned v) ∧
      ((∃ ys, ys = bitsTo s (8 * s.size) ∧ J ys W') ∨ (∃ pre, (∃ k, k ≤ 8 * s.size ∧ pre = bitsTo s k) ∧ Jx pre W')) := by
  refine callsIn_of_wp Try.func56 rfl hf ?_ hro
  simp only [Try.ntmps56, List.size_toArray, List.length_cons, List.length_nil, Nat.reduceAdd, Nat.reduceSub, Array.replicate_succ, Array.replicate_zero, List.push_toArray, List.append_toArray, List.nil_append, List.cons_append]
  have HY : Hid (∀ pre x W, J pre W → pre.length < 8 * s.size → YieldAt F (n - 1) Try.prog l #[.int .i64 ((x.1 : Nat) : Int)] W fun e W' =>
      (e = .returned (.bool true) ∧ J (pre ++ [x]) W' ∧ W'.cell? ⟨Bs, 0, none⟩ = W.cell? ⟨Bs, 0, none⟩) ∨ (e = .returned (.bool false) ∧ Jx (pre ++ [x]) W')) := hY
  clear hY
  gi_wp2
  gi_loopw [7] (fun i wr => ∃ k : Nat, k ≤ s.size ∧ i = .int .i64 (k : Int) ∧ Hid (J (bitsTo s (8 * k)) wr) ∧ Hid (wr.cell? ⟨Bs, 0, none⟩ = some (.string s))) (fun i _ => s.size - (intOf i).toNat)
  case atStart => exact ⟨0, by omega, rfl, h0, hBs⟩
  case round =>
    clear h0 hBs
    obtain ⟨k, hk, rfl, HJ, HC⟩ := hrel
    by_cases hlt : k < s.size
    · have HK : Hid (k + 1 ≤ s.size) := hlt
      gi_wp2
      gi_loopw [4] (fun i wr => ∃ (r : Nat) (x : Int), r ≤ 8 ∧ i = .int .i64 x ∧ Hid (x = (r : Int) - 1) ∧ Hid (J (bitsTo s (8 * k + (8 - r))) wr) ∧ Hid (wr.cell? ⟨Bs, 0, none⟩ = some (.string s))) (fun i _ => (intOf i + 1).toNat)
      case atStart => exact ⟨8, 7, by omega, rfl, rfl, HJ, HC⟩
      case round =>
        clear HJ HC
        obtain ⟨r, x, hr, rfl, HX, HJ, HC⟩ := hrel
        rcases r with _ | m
        · have hx : ¬ (0 : Int) ≤ x := by have := HX.out; omega
          gi_wp2
          go_roundw
          case rel => exact ⟨k + 1, HK.out, by go_num, by rw [show 8 * (k + 1) = 8 * k + (8 - 0) from by omega]; exact HJ, HC⟩
          case measure => have := HK.out; simp [intOf]; omega
        · obtain rfl : x = (m : Int) := by have := HX.out; omega
          obtain ⟨q, hq⟩ : ∃ q : Nat, q = (s[k]'hlt).toNat / 2 ^ m := ⟨_, rfl⟩
          have rq : ((s[k]'hlt).toNat : Int) / 2 ^ m = (q : Int) := by rw [hq]; simp
          have hby := (s[k]'hlt).toNat_lt
          have hq8 : q < 256 := by rw [hq]; exact Nat.lt_of_le_of_lt (Nat.div_le_self _ _) hby
          obtain ⟨bt, hbt⟩ : ∃ bt : Nat, bt = q % 2 := ⟨_, rfl⟩
          have hb1 : bt ≤ 1 := by omega
          have rb : bits .and .i64 (q : Int) 1 = (bt : Int) := by
            have := (bits_nat .i64 63 (by decide) (fun m h0 h1 => by rw [IntKind.wrap_i64]; omega) q 1 (by omega) (by omega)).1
            rw [Nat.and_one_is_mod, ← hbt] at this
            exact this
          have rb2 : (q : Int) % 2 = (bt : Int) := by omega
          have HBT : Hid (bitOf s (8 * k + (7 - m)) = ⟨bt, hb1⟩) := by
            show _ = _
            have e : s.data.toList.getD k 0 = s[k]'hlt := by
              rw [List.getD_eq_getElem?_getD, List.getElem?_eq_getElem (by simpa using hlt)]
              rfl
            simp only [bitOf, show (8 * k + (7 - m)) / 8 = k from by omega, show (8 * k + (7 - m)) % 8 = 7 - m from by omega, e, show 7 - (7 - m) = m from by omega, ← hq, ← hbt]
          have HNX : Hid (bitsTo s (8 * k + (8 - (m + 1))) ++ [⟨bt, hb1⟩] = bitsTo s (8 * k + (8 - m))) := by
            show _ = _
            rw [← HBT.out, show 8 - (m + 1) = 7 - m from by omega, show 8 * k + (8 - m) = 8 * k + (7 - m) + 1 from by omega, bitsTo_succ]
          have hcell := HC.out
          have hYY := HY.out _ ⟨bt, hb1⟩ wr HJ.out (by rw [bitsTo_length]; omega)
          dsimp only at hYY
          obtain ⟨fn, tmps, assign, body, hy, hR⟩ := hYY
          have hm0 : (0 : Int) ≤ (m : Int) := by omega
          have hm7 : m ≤ 7 := by omega
          have lk : (k : Int) < (s.size : Int) := by omega
          clear hq hbt
          gi_wp2
          refine hR.mono ?_
          rintro e W3 (⟨rfl, hJ3, hk3⟩ | ⟨rfl, hJx3⟩)
          · have HJ3 : Hid (J (bitsTo s (8 * k + (8 - m))) W3) := by rw [← HNX.out]; exact hJ3
            have HC3 : Hid (W3.cell? ⟨Bs, 0, none⟩ = some (.string s)) := hk3.trans HC.out
            clear hJ3 hk3
            gi_wp2
            go_roundw
            case rel => exact ⟨m, _, by omega, rfl, by show _ = _; first | rfl | omega, HJ3, HC3⟩
            case measure => simp [intOf]
          · have HJ3 : Hid (Jx (bitsTo s (8 * k + (8 - m))) W3) := by rw [← HNX.out]; exact hJx3
            clear hJx3
            gi_wp2
            refine bodyPost_ret (results_none rfl _ _ _) rfl ?_
            exact ⟨⟨_, rfl⟩, .inr ⟨_, ⟨8 * k + (8 - m), by have := HK.out; omega, rfl⟩, HJ3.out⟩⟩
    · obtain rfl : k = s.size := by omega
      gi_wp2
      go_end0
      exact ⟨⟨_, rfl⟩, .inl ⟨_, rfl, HJ.out⟩⟩

end Go.Proofs.Yteihpdnbehnnhaa

set_option linter.unusedVariables false
namespace Go.Proofs.Yteihpdnbehnnhaa
open Go.RowKit Go.Shelf
attribute [local go_sem] Oper.semAt_some

def KeepsAt (Bs : Nat) (W W' : World) : Prop := W'.cell? ⟨Bs, 0, none⟩ = W.cell? ⟨Bs, 0, none⟩
theorem KeepsAt.t {Bs : Nat} {A B C : World} (h : KeepsAt Bs A B) (k : KeepsAt Bs B C) : KeepsAt Bs A C := Eq.trans k h
theorem KeepsAt.b {Bs : Nat} {w : World} (hb : Bs < w.heap.size) (W : World) (l : Nat) (o o' : Obj) (hl : w.heap.size ≤ l) (h : W.heap[l]? = some o) (_ : o.isCells = false) (_ : o.isWalk = false) : KeepsAt Bs W (W.putObj l o') := by
  have hB : Below (Bs + 1) W (W.putObj l o') := belowK_b (w := w) (by omega) W l o o' hl h (by assumption) (by assumption)
  exact hB.cell (p := ⟨Bs, 0, none⟩) (by show Bs < Bs + 1; omega)

theorem bits_stops (F : Fence) (n : Nat) (hf : F.fn 56) (hro : F.round = none) (hn : 1 ≤ n) (Bs : Nat) (s : ByteArray) (hs : s.size ≤ 600) (w : World) (hBs : Bs < w.heap.size) (hc : w.cell? ⟨Bs, 0, none⟩ = some (.string s)) :
    SeqStopsK F n Try.prog 56 #[.pointer (some ⟨Bs, 0, none⟩)] (fun x : Bit => #[Value.int .i64 ((x.1 : Nat) : Int)]) (KeepsAt Bs) (fun ys => ys = bitsTo s (8 * s.size)) (fun pre => ∃ k, k ≤ 8 * s.size ∧ pre = bitsTo s k) (8 * s.size) w := fun l J Jx W hW _ _ hY h0 => by
  have hc' := (hW.cell (p := ⟨Bs, 0, none⟩) hBs).trans hc
  exact bitsIter F n hf hro hn l Bs s hs J Jx hY W hc' h0

set_option maxHeartbeats 2000000 in
set_option maxRecDepth 100000 in
/-- riceBits: the closure over the text, which lies in a box. -/
theorem bitsMake (F : Fence) (n : Nat) (hf : F.fn 47) (hro : F.round = none) (s : ByteArray) (w : World) :
    CallsIn F n Try.prog 47 #[.string s] w fun e w' => e = .returned (.func (.func 56) #[] #[.pointer (some ⟨w.heap.size, 0, none⟩)]) ∧ w' = w.alloc (.cells #[.string s] 9) := by
  refine callsIn_of_wp Try.func47 rfl hf ?_ hro
  simp only [Try.ntmps47, List.size_toArray, List.length_cons, List.length_nil, Nat.reduceAdd, Nat.reduceSub, Array.replicate_succ, Array.replicate_zero, List.push_toArray, List.append_toArray, List.nil_append, List.cons_append]
  gi_wp2
  go_ret
  exact ⟨rfl, rfl⟩

end Go.Proofs.Yteihpdnbehnnhaa

namespace Go.Proofs.Yteihpdnbehnnhaa
open Go.RowKit

def valB (l : List Nat) : Nat := l.foldl (fun n b => n * 2 + b) 0
theorem valB_snoc (l : List Nat) (b : Nat) : valB (l ++ [b]) = valB l * 2 + b := by simp [valB]
theorem valB_lt (l : List Nat) (h : ∀ x ∈ l, x ≤ 1) : valB l + 1 ≤ 2 ^ l.length := by
  suffices ∀ (l : List Nat) (a : Nat), (∀ x ∈ l, x ≤ 1) → l.foldl (fun n b => n * 2 + b) a + 1 ≤ (a + 1) * 2 ^ l.length by
    have := this l 0 h
    simpa [valB] using this
  intro l
  induction l with
  | nil => intro a _; simp
  | cons x r ih =>
    intro a hx
    have h1 := hx x (by simp)
    have h2 := ih (a * 2 + x) (fun y hy => hx y (by simp [hy]))
    simp only [List.foldl_cons, List.length_cons, Nat.pow_succ]
    have h3 : (a * 2 + x + 1) * 2 ^ r.length ≤ (a + 1) * 2 * 2 ^ r.length := Nat.mul_le_mul_right _ (by omega)
    have h4 : (a + 1) * 2 * 2 ^ r.length = (a + 1) * (2 ^ r.length * 2) := by rw [Nat.mul_assoc, Nat.mul_comm 2]
    omega
/-- One bit more: the full bytes, and the bits that wait. -/
def stepB (s : List UInt8 × List Nat) (b : Nat) : List UInt8 × List Nat :=
  if s.2.length = 7 then (s.1 ++ [UInt8.ofNat (valB (s.2 ++ [b]))], []) else (s.1, s.2 ++ [b])
def runB (s : List UInt8 × List Nat) (bs : List Nat) : List UInt8 × List Nat := bs.foldl stepB s
def okB (s : List UInt8 × List Nat) : Prop := s.2.length < 8 ∧ ∀ x ∈ s.2, x ≤ 1
theorem stepB_ok {s : List UInt8 × List Nat} {b : Nat} (h : okB s) (hb : b ≤ 1) : okB (stepB s b) := by
  unfold stepB
  split
  · exact ⟨by simp, by simp⟩
  · refine ⟨by have := h.1; simp; omega, ?_⟩
    intro x hx
    rcases List.mem_append.1 hx with hx | hx
    · exact h.2 x hx
    · simp at hx; omega
theorem stepB_len (s : List UInt8 × List Nat) (b : Nat) : (stepB s b).1.length ≤ s.1.length + 1 := by
  unfold stepB
  split <;> simp
theorem runB_snoc (s : List UInt8 × List Nat) (bs : List Nat) (b : Nat) : runB s (bs ++ [b]) = stepB (runB s bs) b := by simp [runB]
theorem runB_append (s : List UInt8 × List Nat) (xs ys : List Nat) : runB s (xs ++ ys) = runB (runB s xs) ys := by simp [runB]
theorem runB_ok {s : List UInt8 × List Nat} {bs : List Nat} (h : okB s) (hb : ∀ b ∈ bs, b ≤ 1) : okB (runB s bs) := by
  induction bs generalizing s with
  | nil => exact h
  | cons b r ih => exact ih (stepB_ok h (hb b (by simp))) (fun x hx => hb x (by simp [hx]))
theorem runB_len (s : List UInt8 × List Nat) (bs : List Nat) : (runB s bs).1.length ≤ s.1.length + bs.length := by
  induction bs generalizing s with
  | nil => simp [runB]
  | cons b r ih =>
    have h1 := ih (stepB s b)
    have h2 := stepB_len s b
    simp only [runB, List.foldl_cons, List.length_cons] at h1 ⊢
    omega
/-- The lowest bits of a number, the highest of them first. -/
def lowB (n : Nat) : Nat → List Nat
  | 0 => []
  | k + 1 => (n / 2 ^ k % 2) :: lowB n k
theorem lowB_ok (n k : Nat) : ∀ b ∈ lowB n k, b ≤ 1 := by
  induction k with
  | zero => simp [lowB]
  | succ k ih =>
    intro b hb
    rcases List.mem_cons.1 hb with rfl | hb
    · omega
    · exact ih b hb
theorem lowB_length (n k : Nat) : (lowB n k).length = k := by
  induction k with
  | zero => rfl
  | succ k ih => simp [lowB, ih]
theorem lowB_mod (n k m : Nat) (h : k ≤ m) : lowB (n % 2 ^ m) k = lowB n k := by
  induction k with
  | zero => rfl
  | succ k ih =>
    rw [lowB, lowB, ih (by omega)]
    congr 1
    have : 2 ^ m = 2 ^ k * (2 * 2 ^ (m - k - 1)) := by
      rw [← Nat.mul_assoc, ← Nat.pow_succ, ← Nat.pow_add]
      congr 1
      omega
    rw [this, Nat.mod_mul_right_div_self, Nat.mod_mul_right_mod]
def numB (k n : Nat) : List Nat := List.replicate (n / 2 ^ k) 1 ++ 0 :: lowB n k
theorem numB_ok (k n : Nat) : ∀ b ∈ numB k n, b ≤ 1 := by
  intro b hb
  rcases List.mem_append.1 hb with hb | hb
  · simp at hb; omega
  · rcases List.mem_cons.1 hb with rfl | hb
    · omega
    · exact lowB_ok n k b hb
theorem numB_length (k n : Nat) : (numB k n).length = n / 2 ^ k + 1 + k := by
  simp [numB, lowB_length]; omega
def bitsOf (k : Nat) (l : List Nat) : List Nat := l.flatMap (numB k)
theorem bitsOf_snoc (k : Nat) (l : List Nat) (n : Nat) : bitsOf k (l ++ [n]) = bitsOf k l ++ numB k n := by simp [bitsOf]
theorem bitsOf_ok (k : Nat) (l : List Nat) : ∀ b ∈ bitsOf k l, b ≤ 1 := by
  intro b hb
  obtain ⟨n, _, hb⟩ := List.mem_flatMap.1 hb
  exact numB_ok k n b hb
theorem bitsOf_length (k : Nat) (l : List Nat) (hk : k ≤ 8) (h : ∀ x ∈ l, x ≤ 60000) : (bitsOf k l).length ≤ l.length * 60009 := by
  induction l with
  | nil => simp [bitsOf]
  | cons n r ih =>
    have h1 := ih (fun x hx => h x (by simp [hx]))
    have h2 := h n (by simp)
    have h3 : n / 2 ^ k ≤ n := Nat.div_le_self _ _
    simp only [bitsOf, List.flatMap_cons, List.length_append, numB_length, List.length_cons] at h1 ⊢
    omega
/-- The state once the last byte is full. -/
def fillB (s : List UInt8 × List Nat) : List UInt8 := (runB s (List.replicate (if s.2 = [] then 0 else 8 - s.2.length) 0)).1
def riceB (k : Nat) (l : List Nat) : List UInt8 := fillB (runB ([], []) (bitsOf k l))
/-- Noughts one by one: the bytes are those of the full state as soon as nothing waits. -/
theorem fillB_step {s : List UInt8 × List Nat} (h : s.2.length < 8) (h0 : s.2 ≠ []) : fillB (stepB s 0) = fillB s := by
  have hne : s.2.length ≠ 0 := fun e => h0 (List.length_eq_zero_iff.1 e)
  have e8 : 8 - s.2.length = (8 - s.2.length - 1) + 1 := by omega
  have hr : fillB s = (runB (stepB s 0) (List.replicate (8 - s.2.length - 1) 0)).1 := by
    rw [fillB, if_neg h0, e8, List.replicate_succ]
    rfl
  rw [hr]
  unfold fillB
  by_cases h7 : s.2.length = 7
  · have : (stepB s 0).2 = [] := by simp [stepB, h7]
    rw [if_pos this, h7]
  · have h2 : (stepB s 0).2 = s.2 ++ [0] := by simp [stepB, h7]
    have h3 : (stepB s 0).2 ≠ [] := by rw [h2]; simp
    rw [if_neg h3, h2]
    simp only [List.length_append, List.length_cons, List.length_nil]
    rw [show 8 - (s.2.length + (0 + 1)) = 8 - s.2.length - 1 from by omega]
theorem fillB_end {s : List UInt8 × List Nat} (h0 : s.2 = []) : fillB s = s.1 := by
  rw [fillB, if_pos h0]
  rfl

end Go.Proofs.Yteihpdnbehnnhaa

namespace Go.Proofs.Yteihpdnbehnnhaa
open Go.RowKit

/-! ### The bits of a text -/
def byteBits (c : UInt8) : List Nat := [c.toNat / 128 % 2, c.toNat / 64 % 2, c.toNat / 32 % 2, c.toNat / 16 % 2, c.toNat / 8 % 2, c.toNat / 4 % 2, c.toNat / 2 % 2, c.toNat % 2]
def unpack (o : List UInt8) : List Nat := o.flatMap byteBits
theorem unpack_append (a b : List UInt8) : unpack (a ++ b) = unpack a ++ unpack b := by simp [unpack]
theorem unpack_length (o : List UInt8) : (unpack o).length = 8 * o.length := by
  induction o with
  | nil => rfl
  | cons c r ih =>
    have : unpack (c :: r) = byteBits c ++ unpack r := rfl
    rw [this, List.length_append, ih]
    simp [byteBits]
    omega
theorem byteBits_val (l : List Nat) (h8 : l.length = 8) (h : ∀ x ∈ l, x ≤ 1) : byteBits (UInt8.ofNat (valB l)) = l := by
  match l, h8 with
  | [a, b, c, d, e, f, g, i], _ =>
    have ha := h a (by simp)
    have hb := h b (by simp)
    have hc := h c (by simp)
    have hd := h d (by simp)
    have he := h e (by simp)
    have hf := h f (by simp)
    have hg := h g (by simp)
    have hi := h i (by simp)
    have hv : valB [a, b, c, d, e, f, g, i] = a * 128 + b * 64 + c * 32 + d * 16 + e * 8 + f * 4 + g * 2 + i := by
      simp only [valB, List.foldl_cons, List.foldl_nil]
      omega
    have hn : (UInt8.ofNat (valB [a, b, c, d, e, f, g, i])).toNat = a * 128 + b * 64 + c * 32 + d * 16 + e * 8 + f * 4 + g * 2 + i := by
      rw [hv]
      simp
      omega
    simp only [byteBits, hn, List.cons.injEq, and_true]
    refine ⟨?_, ?_, ?_, ?_, ?_, ?_, ?_, ?_⟩ <;> omega
theorem unpack_step {s : List UInt8 × List Nat} {b : Nat} (h : okB s) (hb : b ≤ 1) : unpack (stepB s b).1 ++ (stepB s b).2 = unpack s.1 ++ s.2 ++ [b] := by
  unfold stepB
  split
  · rename_i h7
    have hall : ∀ x ∈ s.2 ++ [b], x ≤ 1 := by
      intro x hx
      rcases List.mem_append.1 hx with hx | hx
      · exact h.2 x hx
      · simp at hx; omega
    have e : unpack [UInt8.ofNat (valB (s.2 ++ [b]))] = s.2 ++ [b] := by
      have : unpack [UInt8.ofNat (valB (s.2 ++ [b]))] = byteBits (UInt8.ofNat (valB (s.2 ++ [b]))) := by simp [unpack]
      rw [this, byteBits_val _ (by simp [h7]) hall]
    rw [unpack_append, e]
    simp
  · simp
theorem unpack_run (bs : List Nat) : ∀ (s : List UInt8 × List Nat), okB s → (∀ b ∈ bs, b ≤ 1) → unpack (runB s bs).1 ++ (runB s bs).2 = unpack s.1 ++ s.2 ++ bs := by
  induction bs with
  | nil => intro s _ _; simp [runB]
  | cons b r ih =>
    intro s h hb
    have h1 := hb b (by simp)
    have := ih (stepB s b) (stepB_ok h h1) (fun x hx => hb x (by simp [hx]))
    have e : runB s (b :: r) = runB (stepB s b) r := rfl
    rw [e, this, unpack_step h h1]
    simp
theorem run_zeros (m : Nat) : ∀ (s : List UInt8 × List Nat), okB s → s.2.length + m = 8 → m ≠ 0 → (runB s (List.replicate m 0)).2 = [] := by
  induction m with
  | zero => intro s _ _ h; exact absurd rfl h
  | succ m ih =>
    intro s h hl _
    have e : runB s (List.replicate (m + 1) 0) = runB (stepB s 0) (List.replicate m 0) := rfl
    rw [e]
    by_cases h7 : s.2.length = 7
    · have hm : m = 0 := by omega
      subst hm
      simp [runB, stepB, h7]
    · have h2 : (stepB s 0).2 = s.2 ++ [0] := by simp [stepB, h7]
      refine ih _ (stepB_ok h (by omega)) (by rw [h2]; simp; omega) (by omega)
theorem unpack_fill {s : List UInt8 × List Nat} (h : okB s) : ∃ z, z < 8 ∧ unpack (fillB s) = unpack s.1 ++ s.2 ++ List.replicate z 0 := by
  by_cases h0 : s.2 = []
  · exact ⟨0, by omega, by rw [fillB_end h0, h0]; simp⟩
  · have hne : s.2.length ≠ 0 := fun e => h0 (List.length_eq_zero_iff.1 e)
    refine ⟨8 - s.2.length, by omega, ?_⟩
    have h8 := h.1
    have hu := unpack_run (List.replicate (8 - s.2.length) 0) s h (by intro b hb; simp at hb; omega)
    have hz := run_zeros (8 - s.2.length) s h (by omega) (by omega)
    rw [hz, List.append_nil] at hu
    rw [fillB, if_neg h0]
    exact hu
theorem unpack_rice (k : Nat) (l : List Nat) : ∃ z, z < 8 ∧ unpack (riceB k l) = bitsOf k l ++ List.replicate z 0 := by
  have hk : okB (runB ([], []) (bitsOf k l)) := runB_ok ⟨by simp, by simp⟩ (bitsOf_ok k l)
  obtain ⟨z, hz, h⟩ := unpack_fill hk
  refine ⟨z, hz, ?_⟩
  rw [riceB, h, unpack_run (bitsOf k l) ([], []) ⟨by simp, by simp⟩ (bitsOf_ok k l)]
  simp [unpack]

/-! ### The program's reader -/
def takeM (k : Nat) : Nat × Bool × Nat → Nat → (Nat × Bool × Nat) × Option Nat
  | (n, true, left), b => if 1 < left then ((n * 2 + b, true, left - 1), none) else ((0, false, 0), some (n * 2 + b))
  | (n, false, left), b => if b = 1 then ((n + 1, false, left), none) else if 0 < k then ((n, true, k), none) else ((0, false, 0), some n)
def readT (k many : Nat) : List Nat → Nat × Bool × Nat → List Nat → List Nat
  | [], _, out => out
  | b :: r, st, out => if out.length = many then out else readT k many r (takeM k st b).1 (out ++ (takeM k st b).2.toList)
theorem readT_ones (k many m : Nat) (rest : List Nat) : ∀ (n : Nat) (out : List Nat), out.length ≠ many → readT k many (List.replicate m 1 ++ rest) (n, false, 0) out = readT k many rest (n + m, false, 0) out := by
  induction m with
  | zero => intro n out _; simp
  | succ m ih =>
    intro n out h
    rw [List.replicate_succ, List.cons_append, readT, if_neg h]
    simp only [takeM, if_true, Option.toList, List.append_nil]
    rw [ih (n + 1) out h, show n + 1 + m = n + (m + 1) from by omega]
theorem readT_low (k many x : Nat) (rest : List Nat) : ∀ (j n : Nat) (out : List Nat), out.length ≠ many → n = x / 2 ^ (j + 1) → readT k many (lowB x (j + 1) ++ rest) (n, true, j + 1) out = readT k many rest (0, false, 0) (out ++ [x]) := by
  intro j
  induction j with
  | zero =>
    intro n out h hn
    rw [show lowB x (0 + 1) = [x / 2 ^ 0 % 2] from rfl, List.cons_append, readT, if_neg h]
    have : n * 2 + x / 2 ^ 0 % 2 = x := by rw [hn]; simp; omega
    simp only [takeM, List.nil_append, show ¬ (1 < 0 + 1) from by omega, if_false, Option.toList, this]
  | succ j ih =>
    intro n out h hn
    rw [show lowB x (j + 1 + 1) = (x / 2 ^ (j + 1) % 2) :: lowB x (j + 1) from rfl, List.cons_append, readT, if_neg h]
    simp only [takeM, show 1 < j + 1 + 1 from by omega, if_true, Option.toList, List.append_nil, show j + 1 + 1 - 1 = j + 1 from by omega]
    refine ih _ out h ?_
    rw [hn, Nat.pow_succ 2 (j + 1), ← Nat.div_div_eq_div_mul]
    omega
theorem readT_num (k many x : Nat) (rest : List Nat) (out : List Nat) (h : out.length ≠ many) : readT k many (numB k x ++ rest) (0, false, 0) out = readT k many rest (0, false, 0) (out ++ [x]) := by
  rw [numB, List.append_assoc, readT_ones k many _ _ 0 out h, List.cons_append, readT, if_neg h, Nat.zero_add]
  cases k with
  | zero => simp [takeM, lowB]
  | succ j =>
    simp only [takeM, show ¬ (0 = 1) from by omega, if_false, show 0 < j + 1 from by omega, if_true, Option.toList, List.append_nil]
    exact readT_low (j + 1) many x rest j _ out h rfl
theorem readT_all (k many : Nat) (l : List Nat) : ∀ (out rest : List Nat), out.length + l.length = many → readT k many (bitsOf k l ++ rest) (0, false, 0) out = out ++ l := by
  induction l with
  | nil =>
    intro out rest h
    have ho : out.length = many := by simpa using h
    cases rest with
    | nil => simp [bitsOf, readT]
    | cons b r => simp [bitsOf, readT, ho]
  | cons x l ih =>
    intro out rest h
    have : bitsOf k (x :: l) = numB k x ++ bitsOf k l := by simp [bitsOf]
    rw [this, List.append_assoc, readT_num k many x _ out (by simp at h; omega), ih (out ++ [x]) rest (by simp at h ⊢; omega)]
    simp
/-- What was written is read. -/
theorem readT_rice (k : Nat) (l : List Nat) : readT k l.length (unpack (riceB k l)) (0, false, 0) [] = l := by
  obtain ⟨z, _, h⟩ := unpack_rice k l
  rw [h, readT_all k l.length l [] _ (by simp)]
  rfl

end Go.Proofs.Yteihpdnbehnnhaa

set_option linter.unusedVariables false
namespace Go.Proofs.Yteihpdnbehnnhaa
open Go.RowKit

/-- A slice of integers that came in: it is nil; or it leads to a row of cells, the numbers zs. -/
def IsRow (k : IntKind) (w : World) (a : Option Addr) (len cap : Nat) (zs : List Int) : Prop :=
  (a = none ∧ len = 0 ∧ cap = 0 ∧ zs = []) ∨
  ∃ x, a = some x ∧ len ≤ cap ∧ cap ≤ maxLen ∧ zs.length = cap ∧ (∀ i, i < zs.length → w.cell? (x.add i) = some (.int k (zs.getD i 0))) ∧ ∀ n ∈ zs, (Lit.int k n).wf = true

theorem xor_nat (X Y : Int) (hX : 0 ≤ X) (hX' : X < 4611686018427387904) (hY : 0 ≤ Y) (hY' : Y < 4611686018427387904) : ∃ u : Nat, bits .xor .i64 X Y = (u : Int) := by
  obtain ⟨a, rfl⟩ := Int.eq_ofNat_of_zero_le hX
  obtain ⟨b, rfl⟩ := Int.eq_ofNat_of_zero_le hY
  refine ⟨a ^^^ b, ?_⟩
  have hx : a ^^^ b < 2 ^ 62 := Nat.xor_lt_two_pow (by omega) (by omega)
  have h1 : (BitVec.ofInt 64 (a : Int)).toNat = a := by
    rw [BitVec.ofInt_natCast, BitVec.toNat_ofNat]; exact Nat.mod_eq_of_lt (by omega)
  have h2 : (BitVec.ofInt 64 (b : Int)).toNat = b := by
    rw [BitVec.ofInt_natCast, BitVec.toNat_ofNat]; exact Nat.mod_eq_of_lt (by omega)
  show IntKind.i64.wrap ((BitVec.ofInt 64 (a : Int) ^^^ BitVec.ofInt 64 (b : Int)).toNat : Int) = _
  rw [BitVec.toNat_xor, h1, h2, IntKind.wrap_i64]
  omega

/-- The reader: its block b, one of the call's own, the bytes that it reads, which came in, its place p. -/
def Rd (B b p : Nat) (w : World) : Prop :=
  B ≤ b ∧ ∃ (a : Option Addr) (n cap : Nat) (zs : List Int), n ≤ 2000 ∧ w.heap[b]? = some (.cells #[.slice a n cap, .int .i64 p] 81 (0, 0)) ∧
    (n ≠ 0 → ∃ x o, a = some ⟨x, o, none⟩ ∧ x < B ∧ (∀ i, i < n → w.cell? ⟨x, o + i, none⟩ = some (.int .u8 (zs.getD i 0)) ∧ 0 ≤ zs.getD i 0 ∧ zs.getD i 0 ≤ 255))

/-- Block b alone has turned. -/
structure Only (b : Nat) (w w' : World) : Prop where
  os : w'.os = w.os
  tape : w'.tape = w.tape
  output : w'.output = w.output
  size : w'.heap.size = w.heap.size
  block : ∀ c, c ≠ b → w'.heap[c]? = w.heap[c]?
theorem Only.below {B b : Nat} {w w' : World} (h : Only b w w') (hb : B ≤ b) : Below B w w' :=
  ⟨h.os, h.tape, h.output, by rw [h.size]; exact Nat.le_refl _, fun k hk => h.block k (by omega)⟩
theorem Only.refl (b : Nat) (w : World) : Only b w w := ⟨rfl, rfl, rfl, rfl, fun _ _ => rfl⟩
theorem Only.trans {b : Nat} {u v w : World} (h : Only b u v) (k : Only b v w) : Only b u w :=
  ⟨k.os.trans h.os, k.tape.trans h.tape, k.output.trans h.output, k.size.trans h.size, fun c hc => (k.block c hc).trans (h.block c hc)⟩
theorem Only.setCell (b o : Nat) (v : Value) (w : World) : Only b w (w.setCell ⟨b, o, none⟩ v) :=
  ⟨rfl, rfl, rfl, by simp [World.setCell], fun c hc => Below.heap_setCell _ _ _ _ hc⟩
theorem Only.drew {b : Nat} {w w' : World} (h : Only b w w') : Only b w w'.drew := ⟨h.os, h.tape, h.output, h.size, h.block⟩
theorem Only.drewN {b : Nat} {w w' : World} (h : Only b w w') (n : Nat) : Only b w (w'.drewN n) := ⟨h.os, h.tape, h.output, h.size, h.block⟩

/-- What a step leaves below block b and in b leaves the reader. -/
theorem Rd.keep {B b p : Nat} {w w' : World} (h : Rd B b p w) (hk : Below (b + 1) w w') : Rd B b p w' := by
  obtain ⟨hB, a, n, cap, zs, hn, hb, hc⟩ := h
  refine ⟨hB, a, n, cap, zs, hn, by rw [hk.block b (by omega)]; exact hb, fun h0 => ?_⟩
  obtain ⟨x, o, ha, hx, hcs⟩ := hc h0
  exact ⟨x, o, ha, hx, fun i hi => ⟨by rw [hk.cell (show (⟨x, o + i, none⟩ : Addr).block < b + 1 by show x < b + 1; omega)]; exact (hcs i hi).1, (hcs i hi).2⟩⟩
theorem Rd.lt {B b p : Nat} {w : World} (h : Rd B b p w) : b < w.heap.size := by
  obtain ⟨_, a, n, cap, zs, _, hb, _⟩ := h
  rcases Nat.lt_or_ge b w.heap.size with h' | h'
  · exact h'
  · simp [Array.getElem?_eq_none h'] at hb

set_option maxHeartbeats 2000000 in
set_option maxRecDepth 100000 in
theorem open_walk (a : Option Addr) (len cap : Nat) (zs : List Int) (w : World) (h : IsRow .u8 w a len cap zs) :
    Calls Try.prog 34 #[.slice a len cap] w fun e w' => e = .returned (.pointer (some ⟨w.heap.size, 0, none⟩)) ∧ Rd w.heap.size w.heap.size 0 w' ∧ Below w.heap.size w w' ∧ w'.heap.size = w.heap.size + 1 := by
  rcases h with ⟨rfl, rfl, rfl, rfl⟩ | ⟨x, rfl, hl, hm, hz, hcell, hwz⟩
  · go_enter Try.func34, Try.ntmps34
    go_wp2
    go_ret
    exact ⟨rfl, ⟨Nat.le_refl _, none, 0, 0, [], by omega, heap_alloc_new w _, fun h => absurd rfl h⟩, (Below.refl _ w).alloc (Nat.le_refl _) _, by simp⟩
  · have hrd : ∀ n, n ≤ len → n ≤ 2000 → Rd w.heap.size w.heap.size 0 (w.alloc (.cells #[.slice (some x) n cap, .int .i64 0] 81)) := by
      intro n hn hn2
      refine ⟨Nat.le_refl _, some x, n, cap, zs, hn2, heap_alloc_new w _, fun h0 => ?_⟩
      obtain ⟨b, o, spot⟩ := x
      have hc0 := hcell 0 (by omega)
      have hspot : spot = none := by simpa [Addr.add] using World.cell?_spot hc0
      subst hspot
      have hlt : b < w.heap.size := World.block_lt_of_cell? w _ hc0
      refine ⟨b, o, rfl, hlt, fun i hi => ?_⟩
      have hci := hcell i (by omega)
      refine ⟨?_, ?_⟩
      · rw [World.cell?_of_block (w := w) (a := ⟨b, o + i, none⟩) (Below.heap_alloc w _ b hlt)]
        by_cases h0 : i = 0
        · subst h0; simpa [Addr.add] using hci
        · simpa [Addr.add, h0] using hci
      · have hmem : zs.getD i 0 ∈ zs := by
          have hi' : i < zs.length := by omega
          simp [List.getElem?_eq_getElem hi']
        have := hwz _ hmem
        exact bounds_u8 this
    by_cases h2 : (2000 : Int) < (len : Int)
    · go_enter Try.func34, Try.ntmps34
      go_wp2
      go_ret
      exact ⟨rfl, hrd 2000 (by omega) (by omega), (Below.refl _ w).alloc (Nat.le_refl _) _, by simp⟩
    · go_enter Try.func34, Try.ntmps34
      go_wp2
      go_ret
      exact ⟨rfl, hrd len (by omega) (by omega), (Below.refl _ w).alloc (Nat.le_refl _) _, by simp⟩

theorem Rd.next {B b p : Nat} {w : World} (h : Rd B b p w) : Rd B b (p + 1) (w.setCell ⟨b, 1, none⟩ (.int .i64 (p + 1))) := by
  obtain ⟨hB, a, n, cap, zs, hn, hb, hc⟩ := h
  refine ⟨hB, a, n, cap, zs, hn, by simp [World.setCell, Array.getElem?_modify, hb], fun h0 => ?_⟩
  obtain ⟨x, o, ha, hx, hcs⟩ := hc h0
  refine ⟨x, o, ha, hx, fun i hi => ⟨?_, (hcs i hi).2⟩⟩
  rw [World.cell?_of_block (w := w) (a := ⟨x, o + i, none⟩) (Below.heap_setCell w ⟨b, 1, none⟩ _ x (by show x ≠ b; omega))]
  exact (hcs i hi).1

set_option maxHeartbeats 2000000 in
set_option maxRecDepth 100000 in
theorem pick_walk (B b p : Nat) (n : Int) (w : World) (h : Rd B b p w) (hp : p < 1000000000) (hn31 : n ≤ 1000000000) :
    Calls Try.prog 37 #[.pointer (some ⟨b, 0, none⟩), .int .i64 n] w fun e w' => ∃ x : Nat, e = .returned (.int .i64 x) ∧ (1 ≤ n → (x : Int) < n) ∧ (n < 1 → x = 0) ∧ Rd B b (p + 1) w' ∧ Only b w w' := by
  have hnext := h.next
  obtain ⟨hB, a, len, cap, zs, hlen, hb, hc⟩ := h
  have c0 : w.cell? ⟨b, 0, none⟩ = some (.slice a len cap) := by rw [Lib.cell_of_heap hb]; rfl
  have c1 : w.cell? ⟨b, 1, none⟩ = some (.int .i64 p) := by rw [Lib.cell_of_heap hb]; rfl
  have f1 : w.frozen? ⟨b, 1, none⟩ = false := Lib.frozen_of_heap hb 1
  have HO := Only.setCell b 1 (.int .i64 ((p : Int) + 1)) w
  by_cases hn : n < 1
  · go_enter Try.func37, Try.ntmps37
    go_wp2
    go_ret
    exact ⟨0, rfl, fun h => by omega, fun _ => rfl, hnext, HO⟩
  · by_cases hl0 : len = 0
    · subst hl0
      go_enter Try.func37, Try.ntmps37
      go_wp2
      go_ret
      exact ⟨0, rfl, by omega, by omega, hnext, HO⟩
    · obtain ⟨x, o, rfl, hxB, hcs⟩ := hc hl0
      have hcx : ∀ i, i < len → (w.setCell ⟨b, 1, none⟩ (.int .i64 ((p : Int) + 1))).cell? ⟨x, o + i, none⟩ = some (.int .u8 (zs.getD i 0)) := by
        intro i hi
        rw [World.cell?_of_block (w := w) (a := ⟨x, o + i, none⟩) (Below.heap_setCell w ⟨b, 1, none⟩ _ x (by show x ≠ b; omega))]
        exact (hcs i hi).1
      have hl0' : ((len : Int) == 0) = false := by simp; omega
      by_cases hpl : p < len
      · have hcp := hcx p hpl
        have hz := (hcs p hpl).2
        obtain ⟨z, hzz⟩ : ∃ z, z = zs.getD p 0 := ⟨_, rfl⟩
        rw [← hzz] at hcp hz
        clear hcx hcs hc hzz
        obtain ⟨hz0, hz1⟩ := hz
        go_enter Try.func37, Try.ntmps37
        go_wp2
        go_ret
        obtain ⟨y, hy⟩ := Int.eq_ofNat_of_zero_le (Int.emod_nonneg z (show n ≠ 0 by omega))
        have hyl : (y : Int) < n := by rw [← hy]; exact Int.emod_lt_of_pos _ (by omega)
        exact ⟨y, congrArg (fun t => Ending.returned (Value.int .i64 t)) hy, by first | exact fun _ => hyl | exact hyl, by omega, hnext, HO⟩
      · clear hc
        obtain ⟨q1, hq1⟩ : ∃ q : Nat, (p : Int) % (len : Int) = (q : Int) := ⟨p % len, by simp⟩
        have hq1l : (q1 : Int) < (len : Int) := by rw [← hq1]; exact Int.emod_lt_of_pos _ (by omega)
        obtain ⟨q2, hq2⟩ : ∃ q : Nat, ((p : Int) * 7 + 3) % (len : Int) = (q : Int) := ⟨(p * 7 + 3) % len, by simp⟩
        have hq2l : (q2 : Int) < (len : Int) := by rw [← hq2]; exact Int.emod_lt_of_pos _ (by omega)
        obtain ⟨q3, hq3⟩ : ∃ q : Nat, (p : Int) / (len : Int) = (q : Int) := ⟨p / len, by simp⟩
        have hq3l : q3 ≤ p := by
          have : p / len ≤ p := Nat.div_le_self _ _
          have h2 : ((p / len : Nat) : Int) = (q3 : Int) := by rw [← hq3]; simp
          omega
        have hc1 := hcx q1 (by omega)
        have hz1 := (hcs q1 (by omega)).2
        have hc2 := hcx q2 (by omega)
        have hz2 := (hcs q2 (by omega)).2
        obtain ⟨z1, hzz1⟩ : ∃ z, z = zs.getD q1 0 := ⟨_, rfl⟩
        obtain ⟨z2, hzz2⟩ : ∃ z, z = zs.getD q2 0 := ⟨_, rfl⟩
        rw [← hzz1] at hc1 hz1
        rw [← hzz2] at hc2 hz2
        clear hcx hcs hzz1 hzz2
        obtain ⟨hz10, hz11⟩ := hz1
        obtain ⟨hz20, hz21⟩ := hz2
        go_enter Try.func37, Try.ntmps37
        go_wp2_with fail
        go_quiet (fail)
        go_wp2
        go_ret
        obtain ⟨u, hu⟩ := xor_nat (z1 * 131 + z2 * 1117 + (p : Int) * 29 + (q3 : Int) * 53) ((z1 * 131 + z2 * 1117 + (p : Int) * 29 + (q3 : Int) * 53) / 64) (by omega) (by omega) (by omega) (by omega)
        obtain ⟨y, hy⟩ := Int.eq_ofNat_of_zero_le (Int.emod_nonneg (u : Int) (show n ≠ 0 by omega))
        have hyl : (y : Int) < n := by rw [← hy]; exact Int.emod_lt_of_pos _ (by omega)
        have ht : (bits .xor .i64 (z1 * 131 + z2 * 1117 + (p : Int) * 29 + (q3 : Int) * 53) ((z1 * 131 + z2 * 1117 + (p : Int) * 29 + (q3 : Int) * 53) / 64)).tmod n = (y : Int) := by
          rw [hu, Int.tmod_eq_emod_of_nonneg (by omega)]; exact hy
        exact ⟨y, congrArg (fun t => Ending.returned (Value.int .i64 t)) ht, by first | exact fun _ => hyl | exact hyl, by omega, hnext.keep ⟨rfl, rfl, rfl, Nat.le_refl _, fun _ _ => rfl⟩, HO.drewN nq⟩

/-- One of a list of numbers that the call has just laid. -/
theorem one_walk (B b p : Nat) (g n cap : Nat) (zs : List Int) (w : World) (h : Rd B b p w) (hp : p < 1000000000) (hn0 : 1 ≤ n) (hn31 : n ≤ 1000000000) (hcell : ∀ i, i < n → w.cell? ⟨g, i, none⟩ = some (.int .i64 (zs.getD i 0))) (hgb : g ≠ b) :
    Calls Try.prog 36 #[.pointer (some ⟨b, 0, none⟩), .slice (some ⟨g, 0, none⟩) n cap] w fun e w' => ∃ x : Nat, x < n ∧ e = .returned (.int .i64 (zs.getD x 0)) ∧ Rd B b (p + 1) w' ∧ Only b w w' := by
  go_enter Try.func36, Try.ntmps36
  go_wp2_with (go_at_call 37; refine (pick_walk B b p _ _ h hp (by omega)).mono ?_)
  rintro e w1 ⟨x, rfl, hx, _, hr, ho⟩
  have hxn : (x : Int) < (n : Int) := hx (by omega)
  have hc : w1.cell? ⟨g, x, none⟩ = some (.int .i64 (zs.getD x 0)) := by
    rw [World.cell?_of_block (w := w) (a := ⟨g, x, none⟩) (ho.block g hgb)]
    exact hcell x (by omega)
  obtain ⟨z, hz⟩ : ∃ z, z = zs.getD x 0 := ⟨_, rfl⟩
  rw [← hz] at hc
  have HZ : Hid (z = zs.getD x 0) := hz
  clear hz hx hcell
  go_wp2
  go_ret
  exact ⟨x, by omega, by rw [← HZ.out]; rfl, hr, ho⟩

/-- One of a list of texts that the call has just laid. -/
theorem of_walk (B b p : Nat) (g n cap : Nat) (ss : List ByteArray) (w : World) (h : Rd B b p w) (hp : p < 1000000000) (hn0 : 1 ≤ n) (hn31 : n ≤ 1000000000) (hcell : ∀ i, i < n → w.cell? ⟨g, i, none⟩ = some (.string (ss.getD i ByteArray.empty))) (hgb : g ≠ b) :
    Calls Try.prog 49 #[.pointer (some ⟨b, 0, none⟩), .slice (some ⟨g, 0, none⟩) n cap] w fun e w' => ∃ x : Nat, x < n ∧ e = .returned (.string (ss.getD x ByteArray.empty)) ∧ Rd B b (p + 1) w' ∧ Only b w w' := by
  go_enter Try.func49, Try.ntmps49
  go_wp2_with (go_at_call 37; refine (pick_walk B b p _ _ h hp (by omega)).mono ?_)
  rintro e w1 ⟨x, rfl, hx, _, hr, ho⟩
  have hxn : (x : Int) < (n : Int) := hx (by omega)
  have hc : w1.cell? ⟨g, x, none⟩ = some (.string (ss.getD x ByteArray.empty)) := by
    rw [World.cell?_of_block (w := w) (a := ⟨g, x, none⟩) (ho.block g hgb)]
    exact hcell x (by omega)
  obtain ⟨z, hz⟩ : ∃ z, z = ss.getD x ByteArray.empty := ⟨_, rfl⟩
  rw [← hz] at hc
  have HZ : Hid (z = ss.getD x ByteArray.empty) := hz
  clear hz hx hcell
  go_wp2
  go_ret
  exact ⟨x, by omega, by rw [← HZ.out]; rfl, hr, ho⟩

/-- The cells of a list of numbers, of texts, that lies whole in a block. -/
theorem cells_ints {w : World} {g : Nat} {zs : List Int} {cs : Array Value} {T : TypeId} {fr : Nat × Nat} (h : w.heap[g]? = some (.cells cs T fr)) (he : cs = (zs.map (Value.int .i64)).toArray) (n : Nat) (hn : n ≤ zs.length) :
    ∀ i, i < n → w.cell? ⟨g, i, none⟩ = some (.int .i64 (zs.getD i 0)) := by
  intro i hi
  rw [Lib.cell_of_heap h, he]
  have : i < zs.length := by omega
  simp [List.getElem?_eq_getElem this]
theorem cells_texts {w : World} {g : Nat} {ss : List ByteArray} {cs : Array Value} {T : TypeId} {fr : Nat × Nat} (h : w.heap[g]? = some (.cells cs T fr)) (he : cs = (ss.map Value.string).toArray) (n : Nat) (hn : n ≤ ss.length) :
    ∀ i, i < n → w.cell? ⟨g, i, none⟩ = some (.string (ss.getD i ByteArray.empty)) := by
  intro i hi
  rw [Lib.cell_of_heap h, he]
  have : i < ss.length := by omega
  simp [List.getElem?_eq_getElem this]

end Go.Proofs.Yteihpdnbehnnhaa

set_option linter.unusedVariables false
namespace Go.Proofs.Yteihpdnbehnnhaa
open Go.RowKit

def RR (b k : Nat) (st : Nat × Bool × Nat) (w : World) : Prop := w.heap[b]? = some (.cells #[.int .i64 (k : Int), .int .i64 (st.1 : Int), .bool st.2.1, .int .i64 (st.2.2 : Int)] 74 (0, 0))
theorem RR.c0 {b k : Nat} {st : Nat × Bool × Nat} {w : World} (h : RR b k st w) : w.cell? ⟨b, 0, none⟩ = some (.int .i64 (k : Int)) := by rw [Lib.cell_of_heap h]; rfl
theorem RR.c1 {b k : Nat} {st : Nat × Bool × Nat} {w : World} (h : RR b k st w) : w.cell? ⟨b, 1, none⟩ = some (.int .i64 (st.1 : Int)) := by rw [Lib.cell_of_heap h]; rfl
theorem RR.c2 {b k : Nat} {st : Nat × Bool × Nat} {w : World} (h : RR b k st w) : w.cell? ⟨b, 2, none⟩ = some (.bool st.2.1) := by rw [Lib.cell_of_heap h]; rfl
theorem RR.c3 {b k : Nat} {st : Nat × Bool × Nat} {w : World} (h : RR b k st w) : w.cell? ⟨b, 3, none⟩ = some (.int .i64 (st.2.2 : Int)) := by rw [Lib.cell_of_heap h]; rfl
theorem RR.fz {b k : Nat} {st : Nat × Bool × Nat} {w : World} (h : RR b k st w) (i : Nat) : w.frozen? ⟨b, i, none⟩ = false := Lib.frozen_of_heap h i
def R4 (b : Nat) (x0 x1 x2 x3 : Value) (w : World) : Prop := w.heap[b]? = some (.cells #[x0, x1, x2, x3] 74 (0, 0))
theorem R4.set0 {b : Nat} {x0 x1 x2 x3 : Value} {w : World} (h : R4 b x0 x1 x2 x3 w) (v : Value) : R4 b v x1 x2 x3 (w.setCell ⟨b, 0, none⟩ v) := by
  unfold R4 at h ⊢
  simp only [World.setCell, Array.getElem?_modify, h]
  simp
theorem R4.set1 {b : Nat} {x0 x1 x2 x3 : Value} {w : World} (h : R4 b x0 x1 x2 x3 w) (v : Value) : R4 b x0 v x2 x3 (w.setCell ⟨b, 1, none⟩ v) := by
  unfold R4 at h ⊢
  simp only [World.setCell, Array.getElem?_modify, h]
  simp
theorem R4.set2 {b : Nat} {x0 x1 x2 x3 : Value} {w : World} (h : R4 b x0 x1 x2 x3 w) (v : Value) : R4 b x0 x1 v x3 (w.setCell ⟨b, 2, none⟩ v) := by
  unfold R4 at h ⊢
  simp only [World.setCell, Array.getElem?_modify, h]
  simp
theorem R4.set3 {b : Nat} {x0 x1 x2 x3 : Value} {w : World} (h : R4 b x0 x1 x2 x3 w) (v : Value) : R4 b x0 x1 x2 v (w.setCell ⟨b, 3, none⟩ v) := by
  unfold R4 at h ⊢
  simp only [World.setCell, Array.getElem?_modify, h]
  simp
theorem or1 (n b : Nat) (hn : n < 1000000000000) (hb : b ≤ 1) : bits .or .i64 ((n : Int) * 2) (b : Int) = ((n * 2 + b : Nat) : Int) := by
  have e : (n : Int) * 2 = ((n * 2 : Nat) : Int) := by omega
  rw [e, (bits_nat .i64 63 (by decide) (fun m h0 h1 => by rw [IntKind.wrap_i64]; omega) (n * 2) b (by omega) (by omega)).2]
  have := (Nat.two_pow_add_eq_or_of_lt (i := 1) (by omega : b < 2 ^ 1) n).symm
  rw [show (2 : Nat) ^ 1 * n = n * 2 from by omega] at this
  rw [this]

set_option maxHeartbeats 1000000 in
set_option maxRecDepth 100000 in
theorem takeI (b k n left bit : Nat) (rest : Bool) (w : World) (h : RR b k (n, rest, left) w) (hb : bit ≤ 1) (hn : n < 1000000000000) (hk : k ≤ 8) (hl : left ≤ 8) (h1 : rest = true → 1 ≤ left) :
    Calls Try.prog 48 #[.pointer (some ⟨b, 0, none⟩), .int .i64 (bit : Int)] w fun e w' =>
      e = .returned (.tuple #[.int .i64 (((takeM k (n, rest, left) bit).2.getD 0 : Nat) : Int), .bool (takeM k (n, rest, left) bit).2.isSome]) ∧ RR b k (takeM k (n, rest, left) bit).1 w' ∧ Only b w w' := by
  have HR : Hid (RR b k (n, rest, left) w) := h
  have c0 := h.c0
  have c1 := h.c1
  have c2 := h.c2
  have c3 := h.c3
  have f0 := h.fz 0
  have f1 := h.fz 1
  have f2 := h.fz 2
  have f3 := h.fz 3
  have ror := or1 n bit hn hb
  clear h
  have H4 : Hid (R4 b (.int .i64 (k : Int)) (.int .i64 (n : Int)) (.bool rest) (.int .i64 (left : Int)) w) := HR.out
  cases rest with
  | true =>
    have hl1 := h1 rfl
    have en : ((n * 2 + bit : Nat) : Int) = (n : Int) * 2 + (bit : Int) := by omega
    by_cases hl2 : 1 < left
    · have hgt : (0 : Int) < (left : Int) - 1 := by omega
      have el : ((left - 1 : Nat) : Int) = (left : Int) - 1 := by omega
      have HM : Hid (takeM k (n, true, left) bit = ((n * 2 + bit, true, left - 1), none)) := by show _ = _; simp [takeM, hl2]
      have HEN : Hid (_ ∧ _) := And.intro en el
      rw [HM.out]
      clear en el
      go_enter Try.func48, Try.ntmps48
      go_wp2_with fail
      go_ret2
      refine ⟨rfl, ?_, (Only.setCell b 1 _ w).trans (Only.setCell b 3 _ _)⟩
      show R4 b (.int .i64 (k : Int)) (.int .i64 ((n * 2 + bit : Nat) : Int)) (.bool true) (.int .i64 ((left - 1 : Nat) : Int)) _
      rw [HEN.out.1, HEN.out.2]
      exact (H4.out.set1 _).set3 _
    · have hgt : ¬ (0 : Int) < (left : Int) - 1 := by omega
      have HM : Hid (takeM k (n, true, left) bit = ((0, false, 0), some (n * 2 + bit))) := by show _ = _; simp [takeM, hl2]
      have HEN : Hid (((n * 2 + bit : Nat) : Int) = (n : Int) * 2 + (bit : Int)) := en
      rw [HM.out]
      clear en
      go_enter Try.func48, Try.ntmps48
      go_wp2_with fail
      go_ret2
      refine ⟨?_, ?_, ?_⟩
      · simp
      · exact (((((H4.out.set1 _).set3 _).set0 _).set1 _).set2 _).set3 _
      · exact (((((Only.setCell b 1 _ w).trans (Only.setCell b 3 _ _)).trans (Only.setCell b 0 _ _)).trans (Only.setCell b 1 _ _)).trans (Only.setCell b 2 _ _)).trans (Only.setCell b 3 _ _)
  | false =>
    by_cases hb1 : bit = 1
    · subst hb1
      have HM : Hid (takeM k (n, false, left) 1 = ((n + 1, false, left), none)) := by show _ = _; simp [takeM]
      have HEN : Hid (((n + 1 : Nat) : Int) = (n : Int) + 1) := by show _ = _; omega
      rw [HM.out]
      go_enter Try.func48, Try.ntmps48
      go_wp2_with fail
      go_ret2
      refine ⟨rfl, ?_, Only.setCell b 1 _ w⟩
      show R4 b (.int .i64 (k : Int)) (.int .i64 ((n + 1 : Nat) : Int)) (.bool false) (.int .i64 (left : Int)) _
      rw [HEN.out]
      exact H4.out.set1 _
    · obtain rfl : bit = 0 := by omega
      by_cases hk0 : 0 < k
      · have hgt : (0 : Int) < (k : Int) := by omega
        have HM : Hid (takeM k (n, false, left) 0 = ((n, true, k), none)) := by show _ = _; simp [takeM, hk0]
        rw [HM.out]
        go_enter Try.func48, Try.ntmps48
        go_wp2_with fail
        go_ret2
        refine ⟨rfl, ?_, (Only.setCell b 2 _ w).trans (Only.setCell b 3 _ _)⟩
        exact (H4.out.set2 _).set3 _
      · have hgt : ¬ (0 : Int) < (k : Int) := by omega
        have HM : Hid (takeM k (n, false, left) 0 = ((0, false, 0), some n)) := by show _ = _; simp [takeM, hk0]
        rw [HM.out]
        go_enter Try.func48, Try.ntmps48
        go_wp2_with fail
        go_ret2
        refine ⟨?_, ?_, ?_⟩
        · simp
        · exact (((((H4.out.set2 _).set3 _).set0 _).set1 _).set2 _).set3 _
        · exact (((((Only.setCell b 2 _ w).trans (Only.setCell b 3 _ _)).trans (Only.setCell b 0 _ _)).trans (Only.setCell b 1 _ _)).trans (Only.setCell b 2 _ _)).trans (Only.setCell b 3 _ _)

end Go.Proofs.Yteihpdnbehnnhaa

namespace Go.Proofs.Yteihpdnbehnnhaa
open Go.RowKit

/-- 'append(xs, u)' of one element of one cell, xs nil or the call's own: the slice has a head and one element more; of what was there the row alone may have turned. -/
theorem wp_app1 {P : Program} {w : World} {ops : Array Oper} {rest : List Oper} {o : Oper} {a : Act} {Q : Exit → Act → World → Prop} (hgd : o.guard = none) (s x : Operand) (t : TypeId)
    (ho : o.op = .call { callee := .builtin .append, args := #[s, x], argTypes := #[t, t] })
    (base : Nat) (e : TypeId) (i : TypeInfo) (z : Value) (bytes : Nat) (ht : P.underlying t = some (.slice e)) (hi : P.info? e = some i) (hz : i.zero = some z)
    (hsize : i.size = 1) (hby : i.bytes = bytes) (hzs : z.cells.size = 1)
    (v : Value) (n : Nat) (xs : List Value) (hs : a.eval s = v) (hown : w.ownsRow base e 1 v n xs)
    (u : Value) (hx : a.eval x = .slice (some ⟨w.heap.size, 0, none⟩) 1 1) (hu : u.oneCell' = true)
    (h63 : n + 1 ≤ maxLen) (hbytes : (n + 1) * bytes ≤ 140737488355328) (hbase : base ≤ w.heap.size)
    (h : ∀ g cap w', w'.ownsRow base e 1 (.slice (some ⟨g, 0, none⟩) (n + 1) cap) (n + 1) (xs ++ [u]) → Below base w w' → (∀ b, b < w.heap.size → v.ownBlock ≠ some b → w'.heap[b]? = w.heap[b]?) →
      wpList P ops Q rest (a.put o.dst (.slice (some ⟨g, 0, none⟩) (n + 1) cap)) w') :
    wpList P ops Q (o :: rest) a (w.alloc (.cells #[u] e)) := by
  refine wpList_append_own _ hgd s x t ho base e i z 1 bytes ht hi hz hsize hby hzs (by decide) v n xs hs (hown.alloc _) ⟨w.heap.size, 0, none⟩ 1 1 [u] hx rfl (cell_one_new _ _ _) ?_ h63 hbytes (by simp; omega) ?_
  · intro y hy
    simp at hy
    subst hy
    exact hu
  · intro v' w' hown' hg _
    obtain ⟨g, cap, rfl⟩ : ∃ g cap, v' = .slice (some ⟨g, 0, none⟩) (n + 1) cap := by
      rcases hown'.2 with ⟨_, h0⟩ | ⟨g, cap, cur, hv, _⟩
      · omega
      · exact ⟨g, cap, hv⟩
    refine h g cap w' hown' (((Below.refl base w).alloc hbase _).grown hg (by simp; omega) (fun k hk => (hown.lt k hk).1)) ?_
    intro b hb hne
    rw [hg.block b (by simp; omega) (fun e => hne e.symm)]
    exact Below.heap_alloc _ _ _ hb

theorem one_int (k : IntKind) (x : Int) : (Value.int k x).oneCell' = true := rfl

end Go.Proofs.Yteihpdnbehnnhaa

namespace Go.Proofs
open Go.Shelf
def Try.lays169_ren : Go.Shelf.Ren := ⟨fun | 169 => 30 | n => n, fun | 70 => 44 | 9 => 9 | 0 => 0 | 72 => 46 | 37 => 31 | 127 => 71 | 3 => 3 | 5 => 5 | n => n, fun | n => n⟩
theorem Try.lays169 : Go.Proofs.Lays.n169 Try.prog Try.lays169_ren := {
  mixed := by kernel_rfl
  f169 := Try.func30.trans (congrArg some (by kernel_rfl))
  t0 := Try.underlying0
  a0 := Try.isAgg0
  z0 := Try.sizeOf0
  v0 := Try.zeroValue0
  t3 := Try.underlying3
  a3 := Try.isAgg3
  z3 := Try.sizeOf3
  v3 := Try.zeroValue3
  t9 := Try.underlying9
  a9 := Try.isAgg9
  z9 := Try.sizeOf9
  v9 := Try.zeroValue9
  t37 := Try.underlying31
  a37 := Try.isAgg31
  z37 := Try.sizeOf31
  v37 := Try.zeroValue31
  t70 := Try.underlying44
  a70 := Try.isAgg44
  z70 := Try.sizeOf44
  v70 := Try.zeroValue44
  t72 := Try.underlying46
  a72 := Try.isAgg46
  z72 := Try.sizeOf46
  v72 := Try.zeroValue46
  t127 := Try.underlying71
  a127 := Try.isAgg71
  z127 := Try.sizeOf71
  v127 := Try.zeroValue71 }
theorem Try.Builder_Extra_169 : Builder.Extra Try.prog Try.lays169_ren := {
  sizeBuilder := by kernel_rfl
  liesBuilder := by kernel_rfl
  t5 := Try.underlying5
  a5 := Try.isAgg5
  z5 := Try.sizeOf5
  v5 := Try.zeroValue5
  infoByte := by kernel_rfl
  cellsByte := by kernel_rfl
  sizeByte := by kernel_rfl
  neB5 := by decide }
open Go.RowKit in
theorem Try.Builder_String (B b : Nat) (l : List UInt8) (w : World) (h : Lib.IsBuilder 46 5 B b (Lib.byteCells l) w) (h0 : l ≠ []) :
    Calls Try.prog 30 #[.pointer (some ⟨b, 0, none⟩)] w fun e w' => e = .returned (.string ⟨l.toArray⟩) ∧ Below B w w' := Any.Builder_String Try.lays169 Try.Builder_Extra_169 B b l w h h0
open Go.RowKit in
theorem Try.Builder_String_empty (B b : Nat) (w : World) (h : Lib.IsBuilder 46 5 B b [] w) (hBw : B ≤ w.heap.size) :
    Calls Try.prog 30 #[.pointer (some ⟨b, 0, none⟩)] w fun e w' => e = .returned (.string ⟨#[]⟩) ∧ Below B w w' := Any.Builder_String_empty Try.lays169 Try.Builder_Extra_169 B b w h hBw
open Go.RowKit in
theorem Try.Builder_String_any (B b : Nat) (l : List UInt8) (w : World) (h : Lib.IsBuilder 46 5 B b (Lib.byteCells l) w) (hBw : B ≤ w.heap.size) :
    Calls Try.prog 30 #[.pointer (some ⟨b, 0, none⟩)] w fun e w' => e = .returned (.string ⟨l.toArray⟩) ∧ Below B w w' := Any.Builder_String_any Try.lays169 Try.Builder_Extra_169 B b l w h hBw
open Go.RowKit in
theorem Try.Builder_String_f (B b : Nat) (l : List UInt8) (w : World) (h : Lib.IsBuilderF 46 5 B b (Lib.byteCells l) w) (h0 : l ≠ []) :
    Calls Try.prog 30 #[.pointer (some ⟨b, 0, none⟩)] w fun e w' => e = .returned (.string ⟨l.toArray⟩) ∧ (Lib.IsBuilderF 46 5 B b (Lib.byteCells l) w' ∧ Below B w w') := Any.Builder_String_f Try.lays169 Try.Builder_Extra_169 B b l w h h0
open Go.RowKit in
theorem Try.Builder_String_empty_f (B b : Nat) (w : World) (h : Lib.IsBuilderF 46 5 B b [] w) (hBw : B ≤ w.heap.size) :
    Calls Try.prog 30 #[.pointer (some ⟨b, 0, none⟩)] w fun e w' => e = .returned (.string ⟨#[]⟩) ∧ (Lib.IsBuilderF 46 5 B b [] w' ∧ Below B w w') := Any.Builder_String_empty_f Try.lays169 Try.Builder_Extra_169 B b w h hBw
open Go.RowKit in
theorem Try.Builder_String_any_f (B b : Nat) (l : List UInt8) (w : World) (h : Lib.IsBuilderF 46 5 B b (Lib.byteCells l) w) (hBw : B ≤ w.heap.size) :
    Calls Try.prog 30 #[.pointer (some ⟨b, 0, none⟩)] w fun e w' => e = .returned (.string ⟨l.toArray⟩) ∧ (Lib.IsBuilderF 46 5 B b (Lib.byteCells l) w' ∧ Below B w w') := Any.Builder_String_any_f Try.lays169 Try.Builder_Extra_169 B b l w h hBw
open Go.RowKit in
theorem Try.Builder_String_k (B b : Nat) (l : List UInt8) (w : World) (h : Lib.IsBuilderF 46 5 B b (Lib.byteCells l) w) (h0 : l ≠ []) :
    Calls Try.prog 30 #[.pointer (some ⟨b, 0, none⟩)] w fun e w' => e = .returned (.string ⟨l.toArray⟩) ∧ (Lib.IsBuilderF 46 5 B b (Lib.byteCells l) w' ∧ Below B w w' ∧ Lib.OthersKept 5 (some b) w w') := Any.Builder_String_k Try.lays169 Try.Builder_Extra_169 B b l w h h0
open Go.RowKit in
theorem Try.Builder_String_empty_k (B b : Nat) (w : World) (h : Lib.IsBuilderF 46 5 B b [] w) (hBw : B ≤ w.heap.size) :
    Calls Try.prog 30 #[.pointer (some ⟨b, 0, none⟩)] w fun e w' => e = .returned (.string ⟨#[]⟩) ∧ (Lib.IsBuilderF 46 5 B b [] w' ∧ Below B w w' ∧ Lib.OthersKept 5 (some b) w w') := Any.Builder_String_empty_k Try.lays169 Try.Builder_Extra_169 B b w h hBw
open Go.RowKit in
theorem Try.Builder_String_any_k (B b : Nat) (l : List UInt8) (w : World) (h : Lib.IsBuilderF 46 5 B b (Lib.byteCells l) w) (hBw : B ≤ w.heap.size) :
    Calls Try.prog 30 #[.pointer (some ⟨b, 0, none⟩)] w fun e w' => e = .returned (.string ⟨l.toArray⟩) ∧ (Lib.IsBuilderF 46 5 B b (Lib.byteCells l) w' ∧ Below B w w' ∧ Lib.OthersKept 5 (some b) w w') := Any.Builder_String_any_k Try.lays169 Try.Builder_Extra_169 B b l w h hBw
end Go.Proofs

set_option linter.unusedVariables false
namespace Go.Proofs.Yteihpdnbehnnhaa
open Go.Shelf Go.RowKit

theorem infoIntB : (Try.prog.info? 3).map (fun i => (i.zero, i.size, i.bytes)) = some (some (.int .i64 0), 1, 8) := by kernel_rfl
theorem infoByteB : (Try.prog.info? 5).map (fun i => (i.zero, i.size, i.bytes)) = some (some (.int .u8 0), 1, 1) := by kernel_rfl
def intCells (l : List Nat) : List Value := l.map fun n : Nat => Value.int .i64 (n : Int)
def SAt (b : Nat) (v u : Value) (w : World) : Prop := w.heap[b]? = some (.cells #[v, u] 68 (0, 0))
theorem SAt.c0 {b : Nat} {v u : Value} {w : World} (h : SAt b v u w) : w.cell? ⟨b, 0, none⟩ = some v := by rw [Lib.cell_of_heap h]; rfl
theorem SAt.c1 {b : Nat} {v u : Value} {w : World} (h : SAt b v u w) : w.cell? ⟨b, 1, none⟩ = some u := by rw [Lib.cell_of_heap h]; rfl
theorem SAt.fz {b : Nat} {v u : Value} {w : World} (h : SAt b v u w) (i : Nat) : w.frozen? ⟨b, i, none⟩ = false := Lib.frozen_of_heap h i
theorem SAt.lt {b : Nat} {v u : Value} {w : World} (h : SAt b v u w) : b < w.heap.size := by
  rcases Nat.lt_or_ge b w.heap.size with h' | h'
  · exact h'
  · simp [SAt, Array.getElem?_eq_none h'] at h
theorem SAt.set0 {b : Nat} {v u : Value} {w : World} (h : SAt b v u w) (x : Value) : SAt b x u (w.setCell ⟨b, 0, none⟩ x) := by
  unfold SAt at h ⊢
  simp only [World.setCell, Array.getElem?_modify, h]
  simp
theorem SAt.set1 {b : Nat} {v u : Value} {w : World} (h : SAt b v u w) (x : Value) : SAt b v x (w.setCell ⟨b, 1, none⟩ x) := by
  unfold SAt at h ⊢
  simp only [World.setCell, Array.getElem?_modify, h]
  simp
/-- A row that the call has made stands if its block stands. -/
theorem ownsRow_keep {base : Nat} {e : TypeId} {v : Value} {n : Nat} {xs : List Value} {w w' : World} (h : w.ownsRow base e 1 v n xs) (hk : ∀ g, v.ownBlock = some g → w'.heap[g]? = w.heap[g]?) : w'.ownsRow base e 1 v n xs := by
  refine ⟨h.1, ?_⟩
  rcases h.2 with h2 | ⟨g, cap, cur, hv, h2⟩
  · exact .inl h2
  · refine .inr ⟨g, cap, cur, hv, h2.1, ?_, h2.2.2⟩
    rw [hk g (by rw [hv]; rfl)]
    exact h2.2.1
theorem ownsRow_type {base : Nat} {e : TypeId} {v : Value} {n : Nat} {xs : List Value} {w : World} (h : w.ownsRow base e 1 v n xs) (g : Nat) (hg : v.ownBlock = some g) : ∃ cur, w.heap[g]? = some (.cells cur e (0, 0)) ∧ g < w.heap.size := by
  rcases h.2 with ⟨h2, _⟩ | ⟨g', cap, cur, hv, h2⟩
  · rw [h2] at hg; cases hg
  · rw [hv] at hg
    obtain rfl : g' = g := by simpa [Value.ownBlock] using hg
    refine ⟨cur, h2.2.1, ?_⟩
    rcases Nat.lt_or_ge g' w.heap.size with h' | h'
    · exact h'
    · have := h2.2.1
      simp [Array.getElem?_eq_none h'] at this
theorem intCell_at {base : Nat} {e : TypeId} {g n cap : Nat} {m : List Nat} {w : World} (h : w.ownsRow base e 1 (.slice (some ⟨g, 0, none⟩) n cap) n (intCells m)) (i : Nat) (hi : i < m.length) : w.cell? ⟨g, i, none⟩ = some (.int .i64 ((m.getD i 0 : Nat) : Int)) := by
  have hl : m.length = n := by have := h.1; simpa [intCells] using this
  rcases h.2 with ⟨h2, _⟩ | ⟨g', cap', cur, hv, _, hc, _, _, _, ht⟩
  · cases h2
  · simp only [Value.slice.injEq, Option.some.injEq, Addr.mk.injEq, and_true, true_and] at hv
    obtain ⟨rfl, rfl⟩ := hv
    rw [Lib.cell_of_heap hc, ← Array.getElem?_toList]
    have h3 : cur.toList[i]? = (intCells m)[i]? := by rw [← ht, List.getElem?_take]; simp [← hl, hi]
    rw [h3]
    simp [intCells, List.getElem?_eq_getElem hi]
theorem take_valB (m : List Nat) (j : Nat) (hj : j < m.length) : valB (m.take (j + 1)) = valB (m.take j) * 2 + m.getD j 0 := by
  have : m.take (j + 1) = m.take j ++ [m.getD j 0] := by
    rw [List.take_add_one, List.getElem?_eq_getElem hj]
    simp [List.getElem?_eq_getElem hj]
  rw [this, valB_snoc]
/-- The writer: its full bytes, and the bits that wait. -/
def SB (B b : Nat) (s : List UInt8 × List Nat) (w : World) : Prop :=
  B ≤ b ∧ ∃ v u, SAt b v u w ∧ w.ownsRow B 5 1 v s.1.length (Lib.byteCells s.1) ∧ w.ownsRow B 3 1 u s.2.length (intCells s.2)

set_option maxHeartbeats 1000000 in
set_option maxRecDepth 100000 in
theorem putS (B b : Nat) (s : List UInt8 × List Nat) (bit : Nat) (w : World) (h : SB B b s w) (hok : okB s) (hb : bit ≤ 1) (hlen : s.1.length + 1 ≤ 1000000000) :
    Calls Try.prog 42 #[.pointer (some ⟨b, 0, none⟩), .int .i64 (bit : Int)] w fun e w' => e = .returned (.tuple #[]) ∧ SB B b (stepB s bit) w' ∧ Below B w w' := by
  obtain ⟨o, l⟩ := s
  obtain ⟨i1, hi1, hz1, hz2, hz3⟩ := info_parts infoIntB
  obtain ⟨i0, hi0, hy1, hy2, hy3⟩ := info_parts infoByteB
  obtain ⟨hB, v, u, hs, ho, hl⟩ := h
  have c0 := hs.c0
  have c1 := hs.c1
  have HSS : Hid (SAt b v u w) := hs
  have hlt := hs.lt
  have HO : Hid (w.ownsRow B 5 1 v o.length (Lib.byteCells o)) := ho
  clear hs ho
  go_enter Try.func42, Try.ntmps42
  go_wp2_with (at_builtin; refine wp_app1 rfl _ _ 22 rfl B 3 i1 (.int .i64 0) 8 Try.underlying22 hi1 hz1 hz2 hz3 rfl _ l.length (intCells l) rfl hl (.int .i64 (bit : Int)) rfl rfl ?c3 ?c4 ?c5 ?_)
  case c3 => have := hok.1; unfold maxLen; dsimp only at this; omega
  case c4 => have := hok.1; dsimp only at this; omega
  case c5 => omega
  intro g cap w2 hown hb2 hoth
  have hub : u.ownBlock ≠ some b := by
    intro he
    obtain ⟨cur, hc, _⟩ := ownsRow_type hl b he
    rw [HSS.out] at hc
    simp only [Option.some.injEq, Obj.cells.injEq] at hc
    exact absurd hc.2.1 (by decide)
  have hs2 : SAt b v u w2 := by
    unfold SAt
    rw [hoth b hlt hub]
    exact HSS.out
  have HO2 : Hid (w2.ownsRow B 5 1 v o.length (Lib.byteCells o)) := by
    refine ownsRow_keep HO.out (fun g' hg' => ?_)
    obtain ⟨cur, hc, hlt'⟩ := ownsRow_type HO.out g' hg'
    refine hoth g' hlt' (fun he => ?_)
    obtain ⟨cur2, hc2, _⟩ := ownsRow_type hl g' he
    rw [hc] at hc2
    simp only [Option.some.injEq, Obj.cells.injEq] at hc2
    exact absurd hc2.2.1 (by decide)
  have hgb : g ≠ b := by
    intro he
    obtain ⟨cur, hc, _⟩ := ownsRow_type hown g rfl
    rw [he, hs2] at hc
    simp only [Option.some.injEq, Obj.cells.injEq] at hc
    exact absurd hc.2.1 (by decide)
  have hvb : v.ownBlock ≠ some b := by
    intro he
    obtain ⟨cur, hc, _⟩ := ownsRow_type HO2.out b he
    rw [hs2] at hc
    simp only [Option.some.injEq, Obj.cells.injEq] at hc
    exact absurd hc.2.1 (by decide)
  have d0 := hs2.c0
  have d1 := hs2.c1
  have f0 := hs2.fz 0
  have f1 := hs2.fz 1
  obtain ⟨w3, hw3⟩ : ∃ w3, w3 = w2.setCell ⟨b, 1, none⟩ (.slice (some ⟨g, 0, none⟩) (l.length + 1) cap) := ⟨_, rfl⟩
  have HW3 : Hid (w3 = w2.setCell ⟨b, 1, none⟩ (.slice (some ⟨g, 0, none⟩) (l.length + 1) cap)) := hw3
  have HS3 : Hid (SAt b v (.slice (some ⟨g, 0, none⟩) (l.length + 1) cap) w3) := by rw [hw3]; exact hs2.set1 _
  have HO3 : Hid (w3.ownsRow B 5 1 v o.length (Lib.byteCells o)) := by
    rw [hw3]
    exact ownsRow_keep HO2.out (fun g' hg' => Below.heap_setCell w2 ⟨b, 1, none⟩ _ g' (fun e => hvb (by rw [hg', e])))
  have HL3 : Hid (w3.ownsRow B 3 1 (.slice (some ⟨g, 0, none⟩) (l.length + 1) cap) (l.length + 1) (intCells (l ++ [bit]))) := by
    rw [hw3]
    have : intCells (l ++ [bit]) = intCells l ++ [.int .i64 (bit : Int)] := by simp [intCells]
    rw [this]
    exact ownsRow_keep hown (fun g' hg' => Below.heap_setCell w2 ⟨b, 1, none⟩ _ g' (fun e => hgb (by simpa [Value.ownBlock, e] using hg')))
  have HB3 : Hid (Below B w w3) := by rw [hw3]; exact hb2.setCell (p := ⟨b, 1, none⟩) hB _
  clear hw3 hl hown hoth hb2 hs2 HO HO2 HSS c0 c1
  by_cases h7 : l.length = 7
  · have HS : Hid (stepB (o, l) bit = (o ++ [UInt8.ofNat (valB (l ++ [bit]))], [])) := by
      show _ = _
      simp [stepB, h7]
    rw [h7] at HS3 HL3 HW3
    have HW8 : Hid (w2.setCell ⟨b, 1, none⟩ (.slice (some ⟨g, 0, none⟩) 8 cap) = w3) := by show _ = _; rw [HW3.out]
    have h8 : ((l.length + 1 : Nat) : Int) = 8 := by omega
    have hbl : ∀ x ∈ l ++ [bit], x ≤ 1 := by
      intro x hx
      rcases List.mem_append.1 hx with hx | hx
      · exact hok.2 x hx
      · simp at hx; omega
    have hml : (l ++ [bit]).length = 8 := by simp [h7]
    go_wp2_with fail
    rw [HW8.out]
    have c1 : w3.cell? ⟨b, 1, none⟩ = some (.slice (some ⟨g, 0, none⟩) 8 cap) := HS3.out.c1
    have HBL : Hid (∀ x ∈ l ++ [bit], x ≤ 1) := hbl
    have HML : Hid ((l ++ [bit]).length = 8) := hml
    obtain ⟨m, hm⟩ : ∃ m, m = l ++ [bit] := ⟨_, rfl⟩
    rw [← hm] at HL3 HS HBL HML
    have g0 := HS3.out.fz 0
    have g1 := HS3.out.fz 1
    have c0 := HS3.out.c0
    have hlt3 := HS3.out.lt
    clear hm hbl hml d0 d1 f0 f1 HW8 HW3 h8 h7
    go_loop [4, 5] (fun n i => ∃ j x : Nat, j ≤ 8 ∧ i = .int .i64 (j : Int) ∧ n = .int .i64 (x : Int) ∧ x < 256 ∧ Hid (x = valB (m.take j))) (fun _ i => 8 - (intOf i).toNat)
    case atStart => exact ⟨0, 0, by omega, rfl, rfl, by omega, rfl⟩
    case round =>
      obtain ⟨j, x, hj, rfl, rfl, hx, HX⟩ := hrel
      by_cases hj8 : j < 8
      · have hjm : j < m.length := by rw [HML.out]; exact hj8
        have cj := intCell_at HL3.out j hjm
        have HX2 : Hid (x * 2 + m.getD j 0 = valB (m.take (j + 1))) := by show _ = _; rw [take_valB m j hjm, ← HX.out]
        have hy : m.getD j 0 ≤ 1 := by
          rw [List.getD_eq_getElem?_getD, List.getElem?_eq_getElem hjm]
          exact HBL.out _ (List.getElem_mem hjm)
        have hxx : x * 2 + m.getD j 0 < 256 := by
          have h1 := valB_lt (m.take (j + 1)) (fun y hy => HBL.out y (List.mem_of_mem_take hy))
          have h2 : (m.take (j + 1)).length ≤ 8 := by simp [HML.out]; omega
          have h3 : 2 ^ (m.take (j + 1)).length ≤ 2 ^ 8 := Nat.pow_le_pow_right (by decide) h2
          rw [HX2.out]
          omega
        generalize m.getD j 0 = y at cj HX2 hy hxx
        have lj : (j : Int) < 8 := by omega
        have HJ : Hid (j + 1 ≤ 8) := hj8
        clear hjm HX
        go_wp2_with fail
        go_round
        case rel => exact ⟨j + 1, x * 2 + y, HJ.out, by go_num, by go_num, hxx, HX2⟩
        case measure => simp [intOf]; omega
      · have HX2 : Hid (x = valB m) := by
          show _ = _
          rw [HX.out, List.take_of_length_le (by rw [HML.out]; omega)]
        have rx : (x : Int) % 256 = (x : Int) := by omega
        go_wp2_with (at_builtin; refine wp_app1 rfl _ _ 31 rfl B 5 i0 (.int .u8 0) 1 Try.underlying31 hi0 hy1 hy2 hy3 rfl _ o.length (Lib.byteCells o) rfl HO3.out (.int .u8 (x : Int)) rfl rfl ?c3 ?c4 ?c5 ?_)
        case c3 => unfold maxLen; omega
        case c4 => omega
        case c5 => omega
        intro g4 cap4 w4 hown4 hb4 hoth4
        have hs4 : SAt b v (.slice (some ⟨g, 0, none⟩) (7 + 1) cap) w4 := by
          unfold SAt
          rw [hoth4 b hlt3 hvb]
          exact HS3.out
        have e0 := hs4.fz 0
        have e1 := hs4.fz 1
        have k0 := hs4.c0
        have k1 := hs4.c1
        have HS4 : Hid (SAt b v (.slice (some ⟨g, 0, none⟩) (7 + 1) cap) w4) := hs4
        have HO4 : Hid (w4.ownsRow B 5 1 (.slice (some ⟨g4, 0, none⟩) (o.length + 1) cap4) (o.length + 1) (Lib.byteCells o ++ [.int .u8 (x : Int)])) := hown4
        have HB4 : Hid (Below B w3 w4) := hb4
        have hg4 : g4 ≠ b := by
          intro he
          obtain ⟨cur, hc, _⟩ := ownsRow_type hown4 g4 rfl
          rw [he, hs4] at hc
          simp only [Option.some.injEq, Obj.cells.injEq] at hc
          exact absurd hc.2.1 (by decide)
        clear hs4 hown4 hb4 hoth4 c0 c1 g0 g1
        go_wp2_with fail
        go_end0
        rw [HS.out]
        refine ⟨rfl, ⟨hB, _, _, (HS4.out.set0 _).set1 _, ?_, ⟨rfl, .inl ⟨rfl, rfl⟩⟩⟩, ((HB3.out.trans HB4.out).setCell (p := ⟨b, 0, none⟩) hB _).setCell (p := ⟨b, 1, none⟩) hB _⟩
        have hbc : Lib.byteCells (o ++ [UInt8.ofNat (valB m)]) = Lib.byteCells o ++ [.int .u8 (x : Int)] := by
          rw [← HX2.out]
          have : ((UInt8.ofNat x).toNat : Int) = (x : Int) := by simp; omega
          simp only [Lib.byteCells, List.map_append, List.map_cons, List.map_nil, this]
        show World.ownsRow _ _ _ _ _ (o ++ [UInt8.ofNat (valB m)]).length _
        rw [hbc, List.length_append]
        exact ownsRow_keep HO4.out (fun g' hg' => by
          have : g' ≠ b := by
            intro e
            exact hg4 (by simpa [Value.ownBlock, e] using hg')
          rw [Below.heap_setCell _ ⟨b, 1, none⟩ _ g' this, Below.heap_setCell _ ⟨b, 0, none⟩ _ g' this])
  · have HS : Hid (stepB (o, l) bit = (o, l ++ [bit])) := by
      show _ = _
      simp [stepB, h7]
    have h8 : ((l.length : Int) + 1 == 8) = false := by simp; omega
    have HL1 : Hid (l.length + 1 = (l ++ [bit]).length) := by show _ = _; simp
    go_wp2_with fail
    go_end0
    rw [HS.out, ← HW3.out]
    refine ⟨rfl, ⟨hB, v, _, HS3.out, HO3.out, ?_⟩, HB3.out⟩
    have := HL3.out
    rw [HL1.out] at this ⊢
    exact this

end Go.Proofs.Yteihpdnbehnnhaa

set_option linter.unusedVariables false
namespace Go.Proofs.Yteihpdnbehnnhaa
open Go.RowKit Go.Shelf
attribute [local go_sem] Oper.semAt_some

theorem infoIntG : (Try.prog.info? 3).map (fun i => (i.zero, i.size, i.bytes)) = some (some (.int .i64 0), 1, 8) := by kernel_rfl
theorem makeCap (n : Nat) (hn : n ≤ 1099511627776) (w : World) : (Instr.makeSlice 22 (.int .i64 0) (.int .i64 (n : Int))).run Try.prog w = .ok (.slice (some ⟨w.heap.size, 0, none⟩) 0 n) (w.alloc (.cells (madeCells #[.int .i64 0] n) 3)) := by
  obtain ⟨i, hi, hz, hs, hb⟩ := info_parts infoIntG
  have hb' : (i.bytes : Int) * (n : Int) ≤ 281474976710656 := by rw [hb]; omega
  have hr := run_make (P := Try.prog) w 22 3 i (.int .i64 0) Try.underlying22 hi hz .i64 .i64 0 (n : Int) (by omega) (by omega) hb' (by omega)
  simp only [Int.toNat_natCast, hs, Nat.mul_one, Value.cells, Int.toNat_zero] at hr
  exact hr

end Go.Proofs.Yteihpdnbehnnhaa

namespace Go.Proofs.Yteihpdnbehnnhaa
open Go.RowKit

def numOk (z : Int) : Bool := decide (0 ≤ z ∧ z ≤ 60000)
def bitsOk (k : Int) : Bool := decide (0 ≤ k ∧ k ≤ 8)
def riceOkB (zs : List Int) (k : Int) : Bool := decide (zs.length ≤ 40) && bitsOk k && zs.all numOk
def ricePut (zs : List Int) (k : Int) : List UInt8 := if riceOkB zs k = true then riceB k.toNat (zs.map Int.toNat) else []
/-- The numbers lie there. -/
def At (w : World) (g : Nat) (zs : List Int) : Prop := g < w.heap.size ∧ ∀ i, i < zs.length → w.cell? ⟨g, i, none⟩ = some (.int .i64 (zs.getD i 0))
theorem At.below {w w' : World} {g B : Nat} {zs : List Int} (h : At w g zs) (hb : Below B w w') (hg : g < B) : At w' g zs :=
  ⟨Nat.lt_of_lt_of_le h.1 hb.size, fun i hi => by rw [hb.cell (p := ⟨g, i, none⟩) hg]; exact h.2 i hi⟩
theorem At.drew {w : World} {g : Nat} {zs : List Int} (h : At w g zs) : At w.drew g zs := h
theorem riceOk_len {zs : List Int} {k : Int} (h : riceOkB zs k = true) : zs.length ≤ 40 := by
  simp only [riceOkB, Bool.and_eq_true] at h
  exact of_decide_eq_true h.1.1
theorem riceOk_bits {zs : List Int} {k : Int} (h : riceOkB zs k = true) : 0 ≤ k ∧ k ≤ 8 := by
  simp only [riceOkB, Bool.and_eq_true] at h
  exact of_decide_eq_true h.1.2
theorem riceOk_at {zs : List Int} {k : Int} (h : riceOkB zs k = true) (i : Nat) (hi : i < zs.length) : 0 ≤ zs.getD i 0 ∧ zs.getD i 0 ≤ 60000 := by
  simp only [riceOkB, Bool.and_eq_true, List.all_eq_true] at h
  have := h.2 (zs.getD i 0) (by simp [List.getElem?_eq_getElem hi])
  exact of_decide_eq_true this
theorem riceOk_no {zs : List Int} {k : Int} (i : Nat) (hi : i < zs.length) (h : ¬ (0 ≤ zs.getD i 0 ∧ zs.getD i 0 ≤ 60000)) : riceOkB zs k = false := by
  cases hh : riceOkB zs k with
  | false => rfl
  | true => exact absurd (riceOk_at hh i hi) h
theorem riceOk_yes {zs : List Int} {k : Int} (h1 : zs.length ≤ 40) (h2 : 0 ≤ k ∧ k ≤ 8) (h3 : ∀ i, i < zs.length → 0 ≤ zs.getD i 0 ∧ zs.getD i 0 ≤ 60000) : riceOkB zs k = true := by
  have e1 : decide (zs.length ≤ 40) = true := decide_eq_true h1
  have e2 : bitsOk k = true := decide_eq_true h2
  simp only [riceOkB, e1, e2, Bool.true_and, List.all_eq_true]
  intro z hz
  obtain ⟨i, hi, rfl⟩ := List.mem_iff_getElem.1 hz
  have := h3 i hi
  rw [List.getD_eq_getElem?_getD, List.getElem?_eq_getElem hi] at this
  exact decide_eq_true this
theorem ricePut_yes {zs : List Int} {k : Int} (h : riceOkB zs k = true) : ricePut zs k = riceB k.toNat (zs.map Int.toNat) := by
  rw [ricePut, if_pos h]
theorem ricePut_no {zs : List Int} {k : Int} (h : riceOkB zs k = false) : ricePut zs k = [] := by
  rw [ricePut, if_neg (by rw [h]; decide)]
/-- The first so many numbers written. -/
def upTo (k : Nat) (zs : List Int) (i : Nat) : List UInt8 × List Nat := runB ([], []) (bitsOf k ((zs.map Int.toNat).take i))
theorem upTo_zero (k : Nat) (zs : List Int) : upTo k zs 0 = ([], []) := by simp [upTo, bitsOf, runB]
theorem upTo_succ (k : Nat) (zs : List Int) (i : Nat) (hi : i < zs.length) : upTo k zs (i + 1) = runB (upTo k zs i) (numB k (zs.getD i 0).toNat) := by
  have h : (zs.map Int.toNat).take (i + 1) = (zs.map Int.toNat).take i ++ [(zs.getD i 0).toNat] := by
    rw [List.take_add_one, List.getElem?_map, List.getElem?_eq_getElem hi]
    simp [List.getElem?_eq_getElem hi]
  rw [upTo, h, bitsOf_snoc, runB_append]
  rfl
theorem upTo_ok (k : Nat) (zs : List Int) (i : Nat) : okB (upTo k zs i) := runB_ok ⟨by simp, by simp⟩ (bitsOf_ok _ _)
theorem upTo_len {k : Nat} {zs : List Int} (hk : k ≤ 8) (hl : zs.length ≤ 40) (h : ∀ i, i < zs.length → 0 ≤ zs.getD i 0 ∧ zs.getD i 0 ≤ 60000) (i : Nat) : (upTo k zs i).1.length ≤ 10000000 := by
  have h1 := runB_len ([], []) (bitsOf k ((zs.map Int.toNat).take i))
  have h2 := bitsOf_length k ((zs.map Int.toNat).take i) hk (by
    intro x hx
    have hx' := List.mem_of_mem_take hx
    obtain ⟨z, hz, rfl⟩ := List.mem_map.1 hx'
    obtain ⟨j, hj, rfl⟩ := List.mem_iff_getElem.1 hz
    have := h j hj
    rw [List.getD_eq_getElem?_getD, List.getElem?_eq_getElem hj] at this
    simp at this
    omega)
  have h3 : ((zs.map Int.toNat).take i).length ≤ 40 := by simp; omega
  have h4 : ((zs.map Int.toNat).take i).length * 60009 ≤ 40 * 60009 := Nat.mul_le_mul_right _ h3
  simp only [List.length_nil] at h1
  show (runB ([], []) (bitsOf k ((zs.map Int.toNat).take i))).1.length ≤ _
  omega
theorem upTo_end (k : Nat) (zs : List Int) : fillB (upTo k zs zs.length) = riceB k (zs.map Int.toNat) := by
  rw [upTo, riceB, List.take_of_length_le (by simp)]

end Go.Proofs.Yteihpdnbehnnhaa

set_option linter.unusedVariables false
namespace Go.Proofs.Yteihpdnbehnnhaa
open Go.RowKit

def bitAt (o : List UInt8) (p : Nat) : Int := if p < 8 * o.length then (((o.getD (p / 8) 0).toNat / 2 ^ (7 - p % 8) % 2 : Nat) : Int) else -1
theorem byteBits_at (c : UInt8) (p : Nat) (hp : p < 8) : (byteBits c).getD p 0 = c.toNat / 2 ^ (7 - p) % 2 := by
  match p, hp with
  | 0, _ | 1, _ | 2, _ | 3, _ | 4, _ | 5, _ | 6, _ => rfl
  | 7, _ => simp [byteBits]
theorem unpack_at (o : List UInt8) : ∀ p, p < 8 * o.length → (unpack o).getD p 0 = (o.getD (p / 8) 0).toNat / 2 ^ (7 - p % 8) % 2 := by
  induction o with
  | nil => intro p hp; simp at hp
  | cons c r ih =>
    intro p hp
    have hu : unpack (c :: r) = byteBits c ++ unpack r := rfl
    have hl : (byteBits c).length = 8 := rfl
    rw [hu]
    rcases Nat.lt_or_ge p 8 with h | h
    · have e : p / 8 = 0 := by omega
      rw [List.getD_eq_getElem?_getD, List.getElem?_append_left (by omega), ← List.getD_eq_getElem?_getD, byteBits_at c p h, e, show p % 8 = p from by omega]
      rfl
    · have e : p / 8 = (p - 8) / 8 + 1 := by omega
      have hp' : p - 8 < 8 * r.length := by simp at hp; omega
      rw [List.getD_eq_getElem?_getD, List.getElem?_append_right (by omega), hl, ← List.getD_eq_getElem?_getD, ih (p - 8) hp', e, show (p - 8) % 8 = p % 8 from by omega]
      rfl
theorem bitAt_in {o : List UInt8} {p : Nat} (hp : p < 8 * o.length) : bitAt o p = (((unpack o).getD p 0 : Nat) : Int) := by
  rw [bitAt, if_pos hp, unpack_at o p hp]
theorem bitAt_out {o : List UInt8} {p : Nat} (hp : ¬ p < 8 * o.length) : bitAt o p = -1 := by rw [bitAt, if_neg hp]
theorem bitAt_range (o : List UInt8) (p : Nat) : -1 ≤ bitAt o p ∧ bitAt o p ≤ 1 := by
  unfold bitAt
  split <;> omega

set_option maxHeartbeats 1000000 in
set_option maxRecDepth 100000 in
theorem specBit (s : ByteArray) (p : Nat) (w : World) (hs : s.size ≤ 600) (hp : p ≤ 1000000) :
    Calls Try.prog 46 #[.string s, .int .i64 (p : Int)] w fun e w' => e = .returned (.int .i64 (bitAt s.data.toList p)) ∧ w = w' := by
  by_cases h : p < 8 * s.size
  · have hq : p / 8 < s.size := by omega
    obtain ⟨q, hqe⟩ : ∃ q : Nat, q = p / 8 := ⟨_, rfl⟩
    obtain ⟨r, hre⟩ : ∃ r : Nat, r = 7 - p % 8 := ⟨_, rfl⟩
    have rq : (p : Int) / 8 = (q : Int) := by rw [hqe]; simp
    have rr : 7 - (p : Int) % 8 = (r : Int) := by omega
    have hq2 : q < s.size := by omega
    have lq : (q : Int) < (s.size : Int) := by omega
    have HB : Hid (bitAt s.data.toList p = (((s[q].toNat / 2 ^ r % 2 : Nat)) : Int)) := by
      show _ = _
      rw [bitAt, if_pos (by simpa using h), ← hqe, ← hre]
      have : s.data.toList.getD q 0 = s[q] := by
        rw [List.getD_eq_getElem?_getD, List.getElem?_eq_getElem (by simpa using hq2)]
        rfl
      rw [this]
    have hby : (s[q].toNat : Int) < 256 := by have := s[q].toNat_lt; omega
    obtain ⟨x, hx⟩ : ∃ x : Nat, x = s[q].toNat / 2 ^ r := ⟨_, rfl⟩
    have rx : (s[q].toNat : Int) / 2 ^ r = (x : Int) := by rw [hx]; simp
    rw [← hx] at HB
    have hr7 : r ≤ 7 := by omega
    have hr0 : (0 : Int) ≤ (r : Int) := by omega
    clear hqe hre hx hq h
    go_enter Try.func46, Try.ntmps46
    go_wp2
    go_ret
    rw [HB.out]
    refine ⟨?_, rfl⟩
    simp
  · have HB : Hid (bitAt s.data.toList p = -1) := bitAt_out (by simpa using h)
    have hge : (s.size : Int) ≤ (p : Int) / 8 := by omega
    go_enter Try.func46, Try.ntmps46
    go_wp2
    go_ret
    rw [HB.out]
    exact ⟨rfl, rfl⟩

end Go.Proofs.Yteihpdnbehnnhaa

set_option linter.unusedVariables false
namespace Go.Proofs.Yteihpdnbehnnhaa
open Go.Shelf Go.RowKit

/-- A list that is written just so. -/
def Writes (k many : Nat) (o : List UInt8) (l : List Nat) : Prop := l.length = many ∧ (∀ x ∈ l, x ≤ 60000) ∧ riceB k l = o
theorem writes_one {k many : Nat} {o : List UInt8} {l : List Nat} (h : Writes k many o l) : readT k many (unpack o) (0, false, 0) [] = l := by
  rw [← h.2.2, ← h.1]
  exact readT_rice k l
/-- The place at which the j-th number begins. -/
def placeOf (k : Nat) (l : List Nat) (j : Nat) : Nat := (bitsOf k (l.take j)).length
theorem placeOf_zero (k : Nat) (l : List Nat) : placeOf k l 0 = 0 := by simp [placeOf, bitsOf]
theorem placeOf_succ (k : Nat) (l : List Nat) (j : Nat) (hj : j < l.length) : placeOf k l (j + 1) = placeOf k l j + (numB k (l.getD j 0)).length := by
  have : l.take (j + 1) = l.take j ++ [l.getD j 0] := by
    rw [List.take_add_one, List.getElem?_eq_getElem hj]
    simp [List.getElem?_eq_getElem hj]
  rw [placeOf, this, bitsOf_snoc, List.length_append]
  rfl
theorem num_at {k many : Nat} {o : List UInt8} {l : List Nat} (h : Writes k many o l) (j : Nat) (hj : j < many) (q : Nat) (hq : q < (numB k (l.getD j 0)).length) :
    placeOf k l j + q < 8 * o.length ∧ bitAt o (placeOf k l j + q) = (((numB k (l.getD j 0)).getD q 0 : Nat) : Int) := by
  obtain ⟨z, _, hu⟩ := unpack_rice k l
  rw [h.2.2] at hu
  have hjl : j < l.length := by rw [h.1]; exact hj
  have hsplit : bitsOf k l = bitsOf k (l.take j) ++ (numB k (l.getD j 0) ++ bitsOf k (l.drop (j + 1))) := by
    have e : l = l.take j ++ (l.getD j 0 :: l.drop (j + 1)) := by
      have e2 : l.getD j 0 = l[j] := by rw [List.getD_eq_getElem?_getD, List.getElem?_eq_getElem hjl]; rfl
      rw [e2, ← List.drop_eq_getElem_cons hjl, List.take_append_drop]
    conv => lhs; rw [e]
    simp [bitsOf]
  have hul : (unpack o).length = 8 * o.length := unpack_length o
  rw [hsplit] at hu
  have hlen : placeOf k l j + q < (unpack o).length := by
    rw [hu]
    simp only [List.length_append, placeOf]
    omega
  refine ⟨by omega, ?_⟩
  rw [bitAt_in (by omega), hu]
  congr 1
  rw [List.append_assoc, List.getD_eq_getElem?_getD, List.getElem?_append_right (by simp only [placeOf]; omega)]
  rw [show placeOf k l j + q - (bitsOf k (l.take j)).length = q from by simp only [placeOf]; omega]
  rw [List.append_assoc, List.getElem?_append_left hq, ← List.getD_eq_getElem?_getD]
theorem numB_one (k x q : Nat) (h : q < x / 2 ^ k) : (numB k x).getD q 0 = 1 := by
  rw [numB, List.getD_eq_getElem?_getD, List.getElem?_append_left (by simpa using h)]
  simp [h]
theorem numB_nought (k x : Nat) : (numB k x).getD (x / 2 ^ k) 0 = 0 := by
  rw [numB, List.getD_eq_getElem?_getD, List.getElem?_append_right (by simp)]
  simp
theorem lowB_at (x : Nat) : ∀ (k i : Nat), i < k → (lowB x k).getD i 0 = x / 2 ^ (k - 1 - i) % 2 := by
  intro k
  induction k with
  | zero => intro i hi; omega
  | succ k ih =>
    intro i hi
    cases i with
    | zero => rfl
    | succ i =>
      have := ih i (by omega)
      rw [show lowB x (k + 1) = (x / 2 ^ k % 2) :: lowB x k from rfl]
      rw [List.getD_cons_succ, this, show k + 1 - 1 - (i + 1) = k - 1 - i from by omega]
theorem numB_low (k x i : Nat) (h : i < k) : (numB k x).getD (x / 2 ^ k + 1 + i) 0 = x / 2 ^ (k - 1 - i) % 2 := by
  rw [numB, List.getD_eq_getElem?_getD, List.getElem?_append_right (by simp; omega)]
  rw [show x / 2 ^ k + 1 + i - (List.replicate (x / 2 ^ k) 1).length = i + 1 from by simp; omega]
  rw [List.getElem?_cons_succ, ← List.getD_eq_getElem?_getD, lowB_at x k i h]
/-- So many ones from a place on, then none: the number's first part. -/
theorem ones_end {k many : Nat} {o : List UInt8} {l : List Nat} (h : Writes k many o l) (j : Nat) (hj : j < many) (n : Nat) (h1 : ∀ q, q < n → bitAt o (placeOf k l j + q) = 1) (h2 : bitAt o (placeOf k l j + n) ≠ 1) : n = l.getD j 0 / 2 ^ k := by
  have hl := numB_length k (l.getD j 0)
  rcases Nat.lt_trichotomy n (l.getD j 0 / 2 ^ k) with hh | hh | hh
  · have := (num_at h j hj n (by omega)).2
    rw [numB_one k _ n hh] at this
    exact absurd this h2
  · exact hh
  · have a := (num_at h j hj (l.getD j 0 / 2 ^ k) (by omega)).2
    rw [numB_nought, h1 _ hh] at a
    simp at a
theorem low_step {k many : Nat} {o : List UInt8} {l : List Nat} (h : Writes k many o l) (j : Nat) (hj : j < many) (i : Nat) (hi : i < k) (v : Int) (hv : v = ((l.getD j 0 / 2 ^ (k - i) : Nat) : Int)) :
    v * 2 + bitAt o (placeOf k l j + l.getD j 0 / 2 ^ k + 1 + i) = ((l.getD j 0 / 2 ^ (k - (i + 1)) : Nat) : Int) := by
  have hl := numB_length k (l.getD j 0)
  have a := (num_at h j hj (l.getD j 0 / 2 ^ k + 1 + i) (by omega)).2
  rw [numB_low k _ i hi] at a
  rw [show placeOf k l j + l.getD j 0 / 2 ^ k + 1 + i = placeOf k l j + (l.getD j 0 / 2 ^ k + 1 + i) from by omega, a, hv]
  have e : l.getD j 0 / 2 ^ (k - i) = l.getD j 0 / 2 ^ (k - (i + 1)) / 2 := by
    rw [show k - i = k - (i + 1) + 1 from by omega, Nat.pow_succ, Nat.div_div_eq_div_mul]
  rw [e, show k - 1 - i = k - (i + 1) from by omega]
  omega

end Go.Proofs.Yteihpdnbehnnhaa

namespace Go.Proofs.Yteihpdnbehnnhaa
open Go.RowKit

def getOk (o : List UInt8) (many k : Int) : Bool := decide (0 ≤ many ∧ many ≤ 40) && decide (0 ≤ k ∧ k ≤ 8) && decide (o.length ≤ 600)
def readAll (o : List UInt8) (many k : Int) : List Nat := readT k.toNat many.toNat (unpack o) (0, false, 0) []
open Classical in
/-- The list that is written just so, if there is one. -/
noncomputable def riceGet (o : List UInt8) (many k : Int) : Option (List Nat) :=
  if getOk o many k = true ∧ Writes k.toNat many.toNat o (readAll o many k) then some (readAll o many k) else none
theorem riceGet_bad {o : List UInt8} {many k : Int} (h : getOk o many k = false) : riceGet o many k = none := by
  rw [riceGet, if_neg (fun hh => by rw [h] at hh; cases hh.1)]
theorem riceGet_yes {o : List UInt8} {many k : Int} {l : List Nat} (h : getOk o many k = true) (hw : Writes k.toNat many.toNat o l) : riceGet o many k = some l := by
  have e : readAll o many k = l := writes_one hw
  rw [riceGet, e, if_pos ⟨h, hw⟩]
theorem riceGet_no {o : List UInt8} {many k : Int} (h : ∀ l, ¬ Writes k.toNat many.toNat o l) : riceGet o many k = none := by
  rw [riceGet, if_neg (fun hh => h _ hh.2)]
theorem riceGet_some {o : List UInt8} {many k : Int} {l : List Nat} (h : riceGet o many k = some l) : getOk o many k = true ∧ Writes k.toNat many.toNat o l := by
  unfold riceGet at h
  split at h
  · rename_i hh
    obtain rfl : readAll o many k = l := by simpa using h
    exact hh
  · cases h

end Go.Proofs.Yteihpdnbehnnhaa

set_option linter.unusedVariables false
namespace Go.Proofs.Yteihpdnbehnnhaa
open Go.RowKit

def stepT (k : Nat) (s : (Nat × Bool × Nat) × List Nat) (b : Nat) : (Nat × Bool × Nat) × List Nat := ((takeM k s.1 b).1, s.2 ++ (takeM k s.1 b).2.toList)
def runT (k : Nat) (bs : List Bit) : (Nat × Bool × Nat) × List Nat := bs.foldl (fun s b => stepT k s b.1) ((0, false, 0), [])
theorem runT_snoc (k : Nat) (bs : List Bit) (b : Bit) : runT k (bs ++ [b]) = stepT k (runT k bs) b.1 := by simp [runT]
/-- What a number that is read in part can be. -/
def okT (k q : Nat) (st : Nat × Bool × Nat) : Prop := (st.2.1 = false ∧ st.1 ≤ q ∧ st.2.2 = 0) ∨ (st.2.1 = true ∧ 1 ≤ st.2.2 ∧ st.2.2 ≤ k ∧ st.1 < (q + 1) * 2 ^ (k - st.2.2))
theorem okT_step {k q b : Nat} {st : Nat × Bool × Nat} (h : okT k q st) (hb : b ≤ 1) : okT k (q + 1) (takeM k st b).1 := by
  obtain ⟨n, r, left⟩ := st
  rcases h with ⟨h1, h2, h3⟩ | ⟨h1, h2, h3, h4⟩
  · obtain rfl : r = false := h1
    have h2' : n ≤ q := h2
    have h3' : left = 0 := h3
    by_cases hb1 : b = 1
    · have e : (takeM k (n, false, left) b).1 = (n + 1, false, left) := by simp [takeM, hb1]
      rw [e]
      exact .inl ⟨rfl, by show n + 1 ≤ q + 1; omega, h3⟩
    · by_cases hk : 0 < k
      · have e : (takeM k (n, false, left) b).1 = (n, true, k) := by simp [takeM, hb1, hk]
        rw [e]
        exact .inr ⟨rfl, by show 1 ≤ k; omega, Nat.le_refl _, by show n < (q + 1 + 1) * 2 ^ (k - k); rw [Nat.sub_self]; omega⟩
      · have e : (takeM k (n, false, left) b).1 = (0, false, 0) := by simp [takeM, hb1, hk]
        rw [e]
        exact .inl ⟨rfl, Nat.zero_le _, rfl⟩
  · obtain rfl : r = true := h1
    have h3' : left ≤ k := h3
    have h4' : n < (q + 1) * 2 ^ (k - left) := h4
    by_cases hl : 1 < left
    · have e : (takeM k (n, true, left) b).1 = (n * 2 + b, true, left - 1) := by simp [takeM, hl]
      rw [e]
      refine .inr ⟨rfl, by show 1 ≤ left - 1; omega, by show left - 1 ≤ k; omega, ?_⟩
      show n * 2 + b < (q + 1 + 1) * 2 ^ (k - (left - 1))
      rw [show k - (left - 1) = k - left + 1 from by omega, Nat.pow_succ, ← Nat.mul_assoc, Nat.add_mul (q + 1) 1]
      omega
    · have e : (takeM k (n, true, left) b).1 = (0, false, 0) := by simp [takeM, hl]
      rw [e]
      exact .inl ⟨rfl, Nat.zero_le _, rfl⟩
theorem okT_small {k q : Nat} {st : Nat × Bool × Nat} (h : okT k q st) (hk : k ≤ 8) (hq : q ≤ 4800) : st.1 < 1000000000000 ∧ st.2.2 ≤ 8 ∧ (st.2.1 = true → 1 ≤ st.2.2) := by
  rcases h with ⟨h1, h2, h3⟩ | ⟨h1, h2, h3, h4⟩
  · exact ⟨by omega, by omega, fun e => by rw [h1] at e; cases e⟩
  · have hp : 2 ^ (k - st.2.2) ≤ 2 ^ 8 := Nat.pow_le_pow_right (by omega) (by omega)
    have hm : (q + 1) * 2 ^ (k - st.2.2) ≤ 4801 * 2 ^ 8 := Nat.mul_le_mul (by omega) hp
    exact ⟨by omega, by omega, fun _ => h2⟩
/-- Reading goes on behind these bits. -/
def OpenT (k many : Nat) (bs : List Bit) : Prop := (∀ rest, readT k many (bs.map (fun b => b.1) ++ rest) (0, false, 0) [] = readT k many rest (runT k bs).1 (runT k bs).2) ∧ (runT k bs).2.length ≤ many ∧ okT k bs.length (runT k bs).1
theorem openT_nil (k many : Nat) : OpenT k many [] := ⟨fun _ => rfl, Nat.zero_le _, .inl ⟨rfl, Nat.le_refl _, rfl⟩⟩
theorem openT_snoc {k many : Nat} {bs : List Bit} (h : OpenT k many bs) (hne : (runT k bs).2.length ≠ many) (b : Bit) : OpenT k many (bs ++ [b]) := by
  refine ⟨fun rest => ?_, ?_, ?_⟩
  · rw [List.map_append, List.append_assoc, h.1, List.map_cons, List.map_nil, List.cons_append, List.nil_append, readT, if_neg hne, runT_snoc]
    rfl
  · rw [runT_snoc]
    have h2 := h.2.1
    simp only [stepT, List.length_append]
    have : (takeM k (runT k bs).1 b.1).2.toList.length ≤ 1 := by cases (takeM k (runT k bs).1 b.1).2 <;> simp
    omega
  · rw [runT_snoc, List.length_append]
    exact okT_step h.2.2 b.2
theorem openT_full {k many : Nat} {bs : List Bit} (h : OpenT k many bs) (he : (runT k bs).2.length = many) (rest : List Nat) : readT k many (bs.map (fun b => b.1) ++ rest) (0, false, 0) [] = (runT k bs).2 := by
  rw [h.1]
  cases rest with
  | nil => rfl
  | cons b r => rw [readT, if_pos he]
theorem openT_end {k many : Nat} {bs : List Bit} (h : OpenT k many bs) : readT k many (bs.map (fun b => b.1)) (0, false, 0) [] = (runT k bs).2 := by
  have := h.1 []
  rw [List.append_nil] at this
  rw [this]
  rfl

theorem unpack_map (o : List UInt8) : unpack o = (List.range (8 * o.length)).map fun q => (o.getD (q / 8) 0).toNat / 2 ^ (7 - q % 8) % 2 := by
  induction o with
  | nil => rfl
  | cons c r ih =>
    have e : unpack (c :: r) = byteBits c ++ unpack r := rfl
    rw [e, ih, List.length_cons, show 8 * (r.length + 1) = 8 + 8 * r.length from by omega, List.range_add, List.map_append, List.map_map]
    congr 1
    · simp [byteBits, List.range, List.range.loop]
    · apply List.map_congr_left
      intro q _
      show _ = ((c :: r).getD ((8 + q) / 8) 0).toNat / 2 ^ (7 - (8 + q) % 8) % 2
      rw [show (8 + q) / 8 = q / 8 + 1 from by omega, show (8 + q) % 8 = q % 8 from by omega]
      simp
theorem unpack_bits (s : ByteArray) : unpack s.data.toList = (bitsTo s (8 * s.size)).map (fun b => b.1) := by
  rw [unpack_map, bitsTo, List.map_map]
  have : s.data.toList.length = s.size := by simp
  rw [this]
  rfl
theorem bitsTo_split (s : ByteArray) (q : Nat) (h : q ≤ 8 * s.size) : ∃ rest, unpack s.data.toList = (bitsTo s q).map (fun b => b.1) ++ rest := by
  refine ⟨((List.range (8 * s.size - q)).map (fun i => bitOf s (q + i))).map (fun b => b.1), ?_⟩
  have e : bitsTo s (8 * s.size) = bitsTo s q ++ (List.range (8 * s.size - q)).map (fun i => bitOf s (q + i)) := by
    rw [bitsTo, show 8 * s.size = q + (8 * s.size - q) from by omega, List.range_add, List.map_append, List.map_map, show q + (8 * s.size - q) - q = 8 * s.size - q from by omega]
    rfl
  rw [unpack_bits, e, List.map_append]

end Go.Proofs.Yteihpdnbehnnhaa

