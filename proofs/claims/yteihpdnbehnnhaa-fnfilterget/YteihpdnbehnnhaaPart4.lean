/-
  Texts that the last part needs, joined.
-/
import Derived.Test.YteihpdnbehnnhaaPart1
import Derived.Test.YteihpdnbehnnhaaPart2
import Derived.Test.YteihpdnbehnnhaaPart3
import Derived.Test.YteihpdnbehnnhaaProg
import Derived.BigRegion
import Derived.Deep.OwnRows
import Derived.WalkKit
import Derived.OwnWalk
import Derived.Maps.AppendAt
import Derived.Lib.FrozenHead2
import Derived.Lib.OthersKept
import Derived.Laws.Externs
import Derived.Lib.UnsafeStr
import Derived.Deep.MidRow
import Derived.Deep.RegionWith
import Derived.RegionTactic
set_option linter.unusedVariables false
namespace Go.Proofs.Yteihpdnbehnnhaa
open Go.RowKit Go.Shelf
attribute [local go_sem] Oper.semAt_some

def KeepsAt (Bs : Nat) (W W' : World) : Prop := W'.cell? ⟨Bs, 0, none⟩ = W.cell? ⟨Bs, 0, none⟩
theorem KeepsAt.t {Bs : Nat} {A B C : World} (h : KeepsAt Bs A B) (k : KeepsAt Bs B C) : KeepsAt Bs A C := Eq.trans k h
theorem KeepsAt.b {Bs : Nat} {w : World} (hb : Bs < w.heap.size) (W : World) (l : Nat) (o o' : Obj) (hl : w.heap.size ≤ l) (h : W.heap[l]? = some o) (_ : o.isCells = false) (_ : o.isWalk = false) : KeepsAt Bs W (W.putObj l o') := by
  have hB : Below (Bs + 1) W (W.putObj l o') := belowK_b (w := w) (by omega) W l o o' hl h (by assumption) (by assumption)
  exact hB.cell (p := ⟨Bs, 0, none⟩) (by show Bs < Bs + 1; omega)

theorem bits_stops (F : Fence) (n : Nat) (hf : F.fn 56) (hro : F.round = none) (hn : 1 ≤ n) (Bs : Nat) (s : ByteArray) (hs : s.size ≤ 600) (w : World) (hBs : Bs < w.heap.size) (hc : w.cell? ⟨Bs, 0, none⟩ = some (.string s)) :
    SeqStopsK F n Try.prog 56 #[.pointer (some ⟨Bs, 0, none⟩)] (fun x : Bit => #[Value.int .i64 ((x.1 : Nat) : Int)]) (KeepsAt Bs) (fun ys => ys = bitsTo s (8 * s.size)) (fun pre => ∃ k, k ≤ 8 * s.size ∧ pre = bitsTo s k) (8 * s.size) w := fun l J Jx W hW _ _ hY h0 => by
  have hc' := (hW.cell (p := ⟨Bs, 0, none⟩) hBs).trans hc
  exact bitsIter F n hf hro hn l Bs s hs J Jx hY W hc' h0

set_option maxHeartbeats 2000000 in
set_option maxRecDepth 100000 in
/-- riceBits: the closure over the text, which lies in a box. -/
theorem bitsMake (F : Fence) (n : Nat) (hf : F.fn 47) (hro : F.round = none) (s : ByteArray) (w : World) :
    CallsIn F n Try.prog 47 #[.string s] w fun e w' => e = .returned (.func (.func 56) #[] #[.pointer (some ⟨w.heap.size, 0, none⟩)]) ∧ w' = w.alloc (.cells #[.string s] 9) := by
  refine callsIn_of_wp Try.func47 rfl hf ?_ hro
  simp only [Try.ntmps47, List.size_toArray, List.length_cons, List.length_nil, Nat.reduceAdd, Nat.reduceSub, Array.replicate_succ, Array.replicate_zero, List.push_toArray, List.append_toArray, List.nil_append, List.cons_append]
  gi_wp2
  go_ret
  exact ⟨rfl, rfl⟩

end Go.Proofs.Yteihpdnbehnnhaa

set_option linter.unusedVariables false
namespace Go.Proofs.Yteihpdnbehnnhaa
open Go.RowKit

def RR (b k : Nat) (st : Nat × Bool × Nat) (w : World) : Prop := w.heap[b]? = some (.cells #[.int .i64 (k : Int), .int .i64 (st.1 : Int), .bool st.2.1, .int .i64 (st.2.2 : Int)] 74 (0, 0))
theorem RR.c0 {b k : Nat} {st : Nat × Bool × Nat} {w : World} (h : RR b k st w) : w.cell? ⟨b, 0, none⟩ = some (.int .i64 (k : Int)) := by rw [Lib.cell_of_heap h]; rfl
theorem RR.c1 {b k : Nat} {st : Nat × Bool × Nat} {w : World} (h : RR b k st w) : w.cell? ⟨b, 1, none⟩ = some (.int .i64 (st.1 : Int)) := by rw [Lib.cell_of_heap h]; rfl
theorem RR.c2 {b k : Nat} {st : Nat × Bool × Nat} {w : World} (h : RR b k st w) : w.cell? ⟨b, 2, none⟩ = some (.bool st.2.1) := by rw [Lib.cell_of_heap h]; rfl
theorem RR.c3 {b k : Nat} {st : Nat × Bool × Nat} {w : World} (h : RR b k st w) : w.cell? ⟨b, 3, none⟩ = some (.int .i64 (st.2.2 : Int)) := by rw [Lib.cell_of_heap h]; rfl
theorem RR.fz {b k : Nat} {st : Nat × Bool × Nat} {w : World} (h : RR b k st w) (i : Nat) : w.frozen? ⟨b, i, none⟩ = false := Lib.frozen_of_heap h i
def R4 (b : Nat) (x0 x1 x2 x3 : Value) (w : World) : Prop := w.heap[b]? = some (.cells #[x0, x1, x2, x3] 74 (0, 0))
theorem R4.set0 {b : Nat} {x0 x1 x2 x3 : Value} {w : World} (h : R4 b x0 x1 x2 x3 w) (v : Value) : R4 b v x1 x2 x3 (w.setCell ⟨b, 0, none⟩ v) := by
  unfold R4 at h ⊢
  simp only [World.setCell, Array.getElem?_modify, h]
  simp
theorem R4.set1 {b : Nat} {x0 x1 x2 x3 : Value} {w : World} (h : R4 b x0 x1 x2 x3 w) (v : Value) : R4 b x0 v x2 x3 (w.setCell ⟨b, 1, none⟩ v) := by
  unfold R4 at h ⊢
  simp only [World.setCell, Array.getElem?_modify, h]
  simp
theorem R4.set2 {b : Nat} {x0 x1 x2 x3 : Value} {w : World} (h : R4 b x0 x1 x2 x3 w) (v : Value) : R4 b x0 x1 v x3 (w.setCell ⟨b, 2, none⟩ v) := by
  unfold R4 at h ⊢
  simp only [World.setCell, Array.getElem?_modify, h]
  simp
theorem R4.set3 {b : Nat} {x0 x1 x2 x3 : Value} {w : World} (h : R4 b x0 x1 x2 x3 w) (v : Value) : R4 b x0 x1 x2 v (w.setCell ⟨b, 3, none⟩ v) := by
  unfold R4 at h ⊢
  simp only [World.setCell, Array.getElem?_modify, h]
  simp
theorem or1 (n b : Nat) (hn : n < 1000000000000) (hb : b ≤ 1) : bits .or .i64 ((n : Int) * 2) (b : Int) = ((n * 2 + b : Nat) : Int) := by
  have e : (n : Int) * 2 = ((n * 2 : Nat) : Int) := by omega
  rw [e, (bits_nat .i64 63 (by decide) (fun m h0 h1 => by rw [IntKind.wrap_i64]; omega) (n * 2) b (by omega) (by omega)).2]
  have := (Nat.two_pow_add_eq_or_of_lt (i := 1) (by omega : b < 2 ^ 1) n).symm
  rw [show (2 : Nat) ^ 1 * n = n * 2 from by omega] at this
  rw [this]

set_option maxHeartbeats 1000000 in
set_option maxRecDepth 100000 in
theorem takeI (b k n left bit : Nat) (rest : Bool) (w : World) (h : RR b k (n, rest, left) w) (hb : bit ≤ 1) (hn : n < 1000000000000) (hk : k ≤ 8) (hl : left ≤ 8) (h1 : rest = true → 1 ≤ left) :
    Calls Try.prog 48 #[.pointer (some ⟨b, 0, none⟩), .int .i64 (bit : Int)] w fun e w' =>
      e = .returned (.tuple #[.int .i64 (((takeM k (n, rest, left) bit).2.getD 0 : Nat) : Int), .bool (takeM k (n, rest, left) bit).2.isSome]) ∧ RR b k (takeM k (n, rest, left) bit).1 w' ∧ Only b w w' := by
  have HR : Hid (RR b k (n, rest, left) w) := h
  have c0 := h.c0
  have c1 := h.c1
  have c2 := h.c2
  have c3 := h.c3
  have f0 := h.fz 0
  have f1 := h.fz 1
  have f2 := h.fz 2
  have f3 := h.fz 3
  have ror := or1 n bit hn hb
  clear h
  have H4 : Hid (R4 b (.int .i64 (k : Int)) (.int .i64 (n : Int)) (.bool rest) (.int .i64 (left : Int)) w) := HR.out
  cases rest with
  | true =>
    have hl1 := h1 rfl
    have en : ((n * 2 + bit : Nat) : Int) = (n : Int) * 2 + (bit : Int) := by omega
    by_cases hl2 : 1 < left
    · have hgt : (0 : Int) < (left : Int) - 1 := by omega
      have el : ((left - 1 : Nat) : Int) = (left : Int) - 1 := by omega
      have HM : Hid (takeM k (n, true, left) bit = ((n * 2 + bit, true, left - 1), none)) := by show _ = _; simp [takeM, hl2]
      have HEN : Hid (_ ∧ _) := And.intro en el
      rw [HM.out]
      clear en el
      go_enter Try.func48, Try.ntmps48
      go_wp2_with fail
      go_ret2
      refine ⟨rfl, ?_, (Only.setCell b 1 _ w).trans (Only.setCell b 3 _ _)⟩
      show R4 b (.int .i64 (k : Int)) (.int .i64 ((n * 2 + bit : Nat) : Int)) (.bool true) (.int .i64 ((left - 1 : Nat) : Int)) _
      rw [HEN.out.1, HEN.out.2]
      exact (H4.out.set1 _).set3 _
    · have hgt : ¬ (0 : Int) < (left : Int) - 1 := by omega
      have HM : Hid (takeM k (n, true, left) bit = ((0, false, 0), some (n * 2 + bit))) := by show _ = _; simp [takeM, hl2]
      have HEN : Hid (((n * 2 + bit : Nat) : Int) = (n : Int) * 2 + (bit : Int)) := en
      rw [HM.out]
      clear en
      go_enter Try.func48, Try.ntmps48
      go_wp2_with fail
      go_ret2
      refine ⟨?_, ?_, ?_⟩
      · simp
      · exact (((((H4.out.set1 _).set3 _).set0 _).set1 _).set2 _).set3 _
      · exact (((((Only.setCell b 1 _ w).trans (Only.setCell b 3 _ _)).trans (Only.setCell b 0 _ _)).trans (Only.setCell b 1 _ _)).trans (Only.setCell b 2 _ _)).trans (Only.setCell b 3 _ _)
  | false =>
    by_cases hb1 : bit = 1
    · subst hb1
      have HM : Hid (takeM k (n, false, left) 1 = ((n + 1, false, left), none)) := by show _ = _; simp [takeM]
      have HEN : Hid (((n + 1 : Nat) : Int) = (n : Int) + 1) := by show _ = _; omega
      rw [HM.out]
      go_enter Try.func48, Try.ntmps48
      go_wp2_with fail
      go_ret2
      refine ⟨rfl, ?_, Only.setCell b 1 _ w⟩
      show R4 b (.int .i64 (k : Int)) (.int .i64 ((n + 1 : Nat) : Int)) (.bool false) (.int .i64 (left : Int)) _
      rw [HEN.out]
      exact H4.out.set1 _
    · obtain rfl : bit = 0 := by omega
      by_cases hk0 : 0 < k
      · have hgt : (0 : Int) < (k : Int) := by omega
        have HM : Hid (takeM k (n, false, left) 0 = ((n, true, k), none)) := by show _ = _; simp [takeM, hk0]
        rw [HM.out]
        go_enter Try.func48, Try.ntmps48
        go_wp2_with fail
        go_ret2
        refine ⟨rfl, ?_, (Only.setCell b 2 _ w).trans (Only.setCell b 3 _ _)⟩
        exact (H4.out.set2 _).set3 _
      · have hgt : ¬ (0 : Int) < (k : Int) := by omega
        have HM : Hid (takeM k (n, false, left) 0 = ((0, false, 0), some n)) := by show _ = _; simp [takeM, hk0]
        rw [HM.out]
        go_enter Try.func48, Try.ntmps48
        go_wp2_with fail
        go_ret2
        refine ⟨?_, ?_, ?_⟩
        · simp
        · exact (((((H4.out.set2 _).set3 _).set0 _).set1 _).set2 _).set3 _
        · exact (((((Only.setCell b 2 _ w).trans (Only.setCell b 3 _ _)).trans (Only.setCell b 0 _ _)).trans (Only.setCell b 1 _ _)).trans (Only.setCell b 2 _ _)).trans (Only.setCell b 3 _ _)

end Go.Proofs.Yteihpdnbehnnhaa

set_option linter.unusedVariables false
namespace Go.Proofs.Yteihpdnbehnnhaa
open Go.RowKit Go.Shelf
attribute [local go_sem] Oper.semAt_some

theorem infoIntG : (Try.prog.info? 3).map (fun i => (i.zero, i.size, i.bytes)) = some (some (.int .i64 0), 1, 8) := by kernel_rfl
theorem makeCap (n : Nat) (hn : n ≤ 1099511627776) (w : World) : (Instr.makeSlice 22 (.int .i64 0) (.int .i64 (n : Int))).run Try.prog w = .ok (.slice (some ⟨w.heap.size, 0, none⟩) 0 n) (w.alloc (.cells (madeCells #[.int .i64 0] n) 3)) := by
  obtain ⟨i, hi, hz, hs, hb⟩ := info_parts infoIntG
  have hb' : (i.bytes : Int) * (n : Int) ≤ 281474976710656 := by rw [hb]; omega
  have hr := run_make (P := Try.prog) w 22 3 i (.int .i64 0) Try.underlying22 hi hz .i64 .i64 0 (n : Int) (by omega) (by omega) hb' (by omega)
  simp only [Int.toNat_natCast, hs, Nat.mul_one, Value.cells, Int.toNat_zero] at hr
  exact hr

end Go.Proofs.Yteihpdnbehnnhaa

set_option linter.unusedVariables false
namespace Go.Proofs.Yteihpdnbehnnhaa
open Go.RowKit

def bitAt (o : List UInt8) (p : Nat) : Int := if p < 8 * o.length then (((o.getD (p / 8) 0).toNat / 2 ^ (7 - p % 8) % 2 : Nat) : Int) else -1
theorem byteBits_at (c : UInt8) (p : Nat) (hp : p < 8) : (byteBits c).getD p 0 = c.toNat / 2 ^ (7 - p) % 2 := by
  match p, hp with
  | 0, _ | 1, _ | 2, _ | 3, _ | 4, _ | 5, _ | 6, _ => rfl
  | 7, _ => simp [byteBits]
theorem unpack_at (o : List UInt8) : ∀ p, p < 8 * o.length → (unpack o).getD p 0 = (o.getD (p / 8) 0).toNat / 2 ^ (7 - p % 8) % 2 := by
  induction o with
  | nil => intro p hp; simp at hp
  | cons c r ih =>
    intro p hp
    have hu : unpack (c :: r) = byteBits c ++ unpack r := rfl
    have hl : (byteBits c).length = 8 := rfl
    rw [hu]
    rcases Nat.lt_or_ge p 8 with h | h
    · have e : p / 8 = 0 := by omega
      rw [List.getD_eq_getElem?_getD, List.getElem?_append_left (by omega), ← List.getD_eq_getElem?_getD, byteBits_at c p h, e, show p % 8 = p from by omega]
      rfl
    · have e : p / 8 = (p - 8) / 8 + 1 := by omega
      have hp' : p - 8 < 8 * r.length := by simp at hp; omega
      rw [List.getD_eq_getElem?_getD, List.getElem?_append_right (by omega), hl, ← List.getD_eq_getElem?_getD, ih (p - 8) hp', e, show (p - 8) % 8 = p % 8 from by omega]
      rfl
theorem bitAt_in {o : List UInt8} {p : Nat} (hp : p < 8 * o.length) : bitAt o p = (((unpack o).getD p 0 : Nat) : Int) := by
  rw [bitAt, if_pos hp, unpack_at o p hp]
theorem bitAt_out {o : List UInt8} {p : Nat} (hp : ¬ p < 8 * o.length) : bitAt o p = -1 := by rw [bitAt, if_neg hp]
theorem bitAt_range (o : List UInt8) (p : Nat) : -1 ≤ bitAt o p ∧ bitAt o p ≤ 1 := by
  unfold bitAt
  split <;> omega

set_option maxHeartbeats 1000000 in
set_option maxRecDepth 100000 in
theorem specBit (s : ByteArray) (p : Nat) (w : World) (hs : s.size ≤ 600) (hp : p ≤ 1000000) :
    Calls Try.prog 46 #[.string s, .int .i64 (p : Int)] w fun e w' => e = .returned (.int .i64 (bitAt s.data.toList p)) ∧ w = w' := by
  by_cases h : p < 8 * s.size
  · have hq : p / 8 < s.size := by omega
    obtain ⟨q, hqe⟩ : ∃ q : Nat, q = p / 8 := ⟨_, rfl⟩
    obtain ⟨r, hre⟩ : ∃ r : Nat, r = 7 - p % 8 := ⟨_, rfl⟩
    have rq : (p : Int) / 8 = (q : Int) := by rw [hqe]; simp
    have rr : 7 - (p : Int) % 8 = (r : Int) := by omega
    have hq2 : q < s.size := by omega
    have lq : (q : Int) < (s.size : Int) := by omega
    have HB : Hid (bitAt s.data.toList p = (((s[q].toNat / 2 ^ r % 2 : Nat)) : Int)) := by
      show _ = _
      rw [bitAt, if_pos (by simpa using h), ← hqe, ← hre]
      have : s.data.toList.getD q 0 = s[q] := by
        rw [List.getD_eq_getElem?_getD, List.getElem?_eq_getElem (by simpa using hq2)]
        rfl
      rw [this]
    have hby : (s[q].toNat : Int) < 256 := by have := s[q].toNat_lt; omega
    obtain ⟨x, hx⟩ : ∃ x : Nat, x = s[q].toNat / 2 ^ r := ⟨_, rfl⟩
    have rx : (s[q].toNat : Int) / 2 ^ r = (x : Int) := by rw [hx]; simp
    rw [← hx] at HB
    have hr7 : r ≤ 7 := by omega
    have hr0 : (0 : Int) ≤ (r : Int) := by omega
    clear hqe hre hx hq h
    go_enter Try.func46, Try.ntmps46
    go_wp2
    go_ret
    rw [HB.out]
    refine ⟨?_, rfl⟩
    simp
  · have HB : Hid (bitAt s.data.toList p = -1) := bitAt_out (by simpa using h)
    have hge : (s.size : Int) ≤ (p : Int) / 8 := by omega
    go_enter Try.func46, Try.ntmps46
    go_wp2
    go_ret
    rw [HB.out]
    exact ⟨rfl, rfl⟩

end Go.Proofs.Yteihpdnbehnnhaa

set_option linter.unusedVariables false
namespace Go.Proofs.Yteihpdnbehnnhaa
open Go.Shelf Go.RowKit

/-- A list that is written just so. -/
def Writes (k many : Nat) (o : List UInt8) (l : List Nat) : Prop := l.length = many ∧ (∀ x ∈ l, x ≤ 60000) ∧ riceB k l = o
theorem writes_one {k many : Nat} {o : List UInt8} {l : List Nat} (h : Writes k many o l) : readT k many (unpack o) (0, false, 0) [] = l := by
  rw [← h.2.2, ← h.1]
  exact readT_rice k l
/-- The place at which the j-th number begins. -/
def placeOf (k : Nat) (l : List Nat) (j : Nat) : Nat := (bitsOf k (l.take j)).length
theorem placeOf_zero (k : Nat) (l : List Nat) : placeOf k l 0 = 0 := by simp [placeOf, bitsOf]
theorem placeOf_succ (k : Nat) (l : List Nat) (j : Nat) (hj : j < l.length) : placeOf k l (j + 1) = placeOf k l j + (numB k (l.getD j 0)).length := by
  have : l.take (j + 1) = l.take j ++ [l.getD j 0] := by
    rw [List.take_add_one, List.getElem?_eq_getElem hj]
    simp [List.getElem?_eq_getElem hj]
  rw [placeOf, this, bitsOf_snoc, List.length_append]
  rfl
theorem num_at {k many : Nat} {o : List UInt8} {l : List Nat} (h : Writes k many o l) (j : Nat) (hj : j < many) (q : Nat) (hq : q < (numB k (l.getD j 0)).length) :
    placeOf k l j + q < 8 * o.length ∧ bitAt o (placeOf k l j + q) = (((numB k (l.getD j 0)).getD q 0 : Nat) : Int) := by
  obtain ⟨z, _, hu⟩ := unpack_rice k l
  rw [h.2.2] at hu
  have hjl : j < l.length := by rw [h.1]; exact hj
  have hsplit : bitsOf k l = bitsOf k (l.take j) ++ (numB k (l.getD j 0) ++ bitsOf k (l.drop (j + 1))) := by
    have e : l = l.take j ++ (l.getD j 0 :: l.drop (j + 1)) := by
      have e2 : l.getD j 0 = l[j] := by rw [List.getD_eq_getElem?_getD, List.getElem?_eq_getElem hjl]; rfl
      rw [e2, ← List.drop_eq_getElem_cons hjl, List.take_append_drop]
    conv => lhs; rw [e]
    simp [bitsOf]
  have hul : (unpack o).length = 8 * o.length := unpack_length o
  rw [hsplit] at hu
  have hlen : placeOf k l j + q < (unpack o).length := by
    rw [hu]
    simp only [List.length_append, placeOf]
    omega
  refine ⟨by omega, ?_⟩
  rw [bitAt_in (by omega), hu]
  congr 1
  rw [List.append_assoc, List.getD_eq_getElem?_getD, List.getElem?_append_right (by simp only [placeOf]; omega)]
  rw [show placeOf k l j + q - (bitsOf k (l.take j)).length = q from by simp only [placeOf]; omega]
  rw [List.append_assoc, List.getElem?_append_left hq, ← List.getD_eq_getElem?_getD]
theorem numB_one (k x q : Nat) (h : q < x / 2 ^ k) : (numB k x).getD q 0 = 1 := by
  rw [numB, List.getD_eq_getElem?_getD, List.getElem?_append_left (by simpa using h)]
  simp [h]
theorem numB_nought (k x : Nat) : (numB k x).getD (x / 2 ^ k) 0 = 0 := by
  rw [numB, List.getD_eq_getElem?_getD, List.getElem?_append_right (by simp)]
  simp
theorem lowB_at (x : Nat) : ∀ (k i : Nat), i < k → (lowB x k).getD i 0 = x / 2 ^ (k - 1 - i) % 2 := by
  intro k
  induction k with
  | zero => intro i hi; omega
  | succ k ih =>
    intro i hi
    cases i with
    | zero => rfl
    | succ i =>
      have := ih i (by omega)
      rw [show lowB x (k + 1) = (x / 2 ^ k % 2) :: lowB x k from rfl]
      rw [List.getD_cons_succ, this, show k + 1 - 1 - (i + 1) = k - 1 - i from by omega]
theorem numB_low (k x i : Nat) (h : i < k) : (numB k x).getD (x / 2 ^ k + 1 + i) 0 = x / 2 ^ (k - 1 - i) % 2 := by
  rw [numB, List.getD_eq_getElem?_getD, List.getElem?_append_right (by simp; omega)]
  rw [show x / 2 ^ k + 1 + i - (List.replicate (x / 2 ^ k) 1).length = i + 1 from by simp; omega]
  rw [List.getElem?_cons_succ, ← List.getD_eq_getElem?_getD, lowB_at x k i h]
/-- So many ones from a place on, then none: the number's first part. -/
theorem ones_end {k many : Nat} {o : List UInt8} {l : List Nat} (h : Writes k many o l) (j : Nat) (hj : j < many) (n : Nat) (h1 : ∀ q, q < n → bitAt o (placeOf k l j + q) = 1) (h2 : bitAt o (placeOf k l j + n) ≠ 1) : n = l.getD j 0 / 2 ^ k := by
  have hl := numB_length k (l.getD j 0)
  rcases Nat.lt_trichotomy n (l.getD j 0 / 2 ^ k) with hh | hh | hh
  · have := (num_at h j hj n (by omega)).2
    rw [numB_one k _ n hh] at this
    exact absurd this h2
  · exact hh
  · have a := (num_at h j hj (l.getD j 0 / 2 ^ k) (by omega)).2
    rw [numB_nought, h1 _ hh] at a
    simp at a
theorem low_step {k many : Nat} {o : List UInt8} {l : List Nat} (h : Writes k many o l) (j : Nat) (hj : j < many) (i : Nat) (hi : i < k) (v : Int) (hv : v = ((l.getD j 0 / 2 ^ (k - i) : Nat) : Int)) :
    v * 2 + bitAt o (placeOf k l j + l.getD j 0 / 2 ^ k + 1 + i) = ((l.getD j 0 / 2 ^ (k - (i + 1)) : Nat) : Int) := by
  have hl := numB_length k (l.getD j 0)
  have a := (num_at h j hj (l.getD j 0 / 2 ^ k + 1 + i) (by omega)).2
  rw [numB_low k _ i hi] at a
  rw [show placeOf k l j + l.getD j 0 / 2 ^ k + 1 + i = placeOf k l j + (l.getD j 0 / 2 ^ k + 1 + i) from by omega, a, hv]
  have e : l.getD j 0 / 2 ^ (k - i) = l.getD j 0 / 2 ^ (k - (i + 1)) / 2 := by
    rw [show k - i = k - (i + 1) + 1 from by omega, Nat.pow_succ, Nat.div_div_eq_div_mul]
  rw [e, show k - 1 - i = k - (i + 1) from by omega]
  omega

end Go.Proofs.Yteihpdnbehnnhaa

namespace Go.Proofs.Yteihpdnbehnnhaa
open Go.RowKit

def getOk (o : List UInt8) (many k : Int) : Bool := decide (0 ≤ many ∧ many ≤ 40) && decide (0 ≤ k ∧ k ≤ 8) && decide (o.length ≤ 600)
def readAll (o : List UInt8) (many k : Int) : List Nat := readT k.toNat many.toNat (unpack o) (0, false, 0) []
open Classical in
/-- The list that is written just so, if there is one. -/
noncomputable def riceGet (o : List UInt8) (many k : Int) : Option (List Nat) :=
  if getOk o many k = true ∧ Writes k.toNat many.toNat o (readAll o many k) then some (readAll o many k) else none
theorem riceGet_bad {o : List UInt8} {many k : Int} (h : getOk o many k = false) : riceGet o many k = none := by
  rw [riceGet, if_neg (fun hh => by rw [h] at hh; cases hh.1)]
theorem riceGet_yes {o : List UInt8} {many k : Int} {l : List Nat} (h : getOk o many k = true) (hw : Writes k.toNat many.toNat o l) : riceGet o many k = some l := by
  have e : readAll o many k = l := writes_one hw
  rw [riceGet, e, if_pos ⟨h, hw⟩]
theorem riceGet_no {o : List UInt8} {many k : Int} (h : ∀ l, ¬ Writes k.toNat many.toNat o l) : riceGet o many k = none := by
  rw [riceGet, if_neg (fun hh => h _ hh.2)]
theorem riceGet_some {o : List UInt8} {many k : Int} {l : List Nat} (h : riceGet o many k = some l) : getOk o many k = true ∧ Writes k.toNat many.toNat o l := by
  unfold riceGet at h
  split at h
  · rename_i hh
    obtain rfl : readAll o many k = l := by simpa using h
    exact hh
  · cases h

end Go.Proofs.Yteihpdnbehnnhaa

set_option linter.unusedVariables false
namespace Go.Proofs.Yteihpdnbehnnhaa
open Go.RowKit

def stepT (k : Nat) (s : (Nat × Bool × Nat) × List Nat) (b : Nat) : (Nat × Bool × Nat) × List Nat := ((takeM k s.1 b).1, s.2 ++ (takeM k s.1 b).2.toList)
def runT (k : Nat) (bs : List Bit) : (Nat × Bool × Nat) × List Nat := bs.foldl (fun s b => stepT k s b.1) ((0, false, 0), [])
theorem runT_snoc (k : Nat) (bs : List Bit) (b : Bit) : runT k (bs ++ [b]) = stepT k (runT k bs) b.1 := by simp [runT]
/-- What a number that is read in part can be. -/
def okT (k q : Nat) (st : Nat × Bool × Nat) : Prop := (st.2.1 = false ∧ st.1 ≤ q ∧ st.2.2 = 0) ∨ (st.2.1 = true ∧ 1 ≤ st.2.2 ∧ st.2.2 ≤ k ∧ st.1 < (q + 1) * 2 ^ (k - st.2.2))
theorem okT_step {k q b : Nat} {st : Nat × Bool × Nat} (h : okT k q st) (hb : b ≤ 1) : okT k (q + 1) (takeM k st b).1 := by
  obtain ⟨n, r, left⟩ := st
  rcases h with ⟨h1, h2, h3⟩ | ⟨h1, h2, h3, h4⟩
  · obtain rfl : r = false := h1
    have h2' : n ≤ q := h2
    have h3' : left = 0 := h3
    by_cases hb1 : b = 1
    · have e : (takeM k (n, false, left) b).1 = (n + 1, false, left) := by simp [takeM, hb1]
      rw [e]
      exact .inl ⟨rfl, by show n + 1 ≤ q + 1; omega, h3⟩
    · by_cases hk : 0 < k
      · have e : (takeM k (n, false, left) b).1 = (n, true, k) := by simp [takeM, hb1, hk]
        rw [e]
        exact .inr ⟨rfl, by show 1 ≤ k; omega, Nat.le_refl _, by show n < (q + 1 + 1) * 2 ^ (k - k); rw [Nat.sub_self]; omega⟩
      · have e : (takeM k (n, false, left) b).1 = (0, false, 0) := by simp [takeM, hb1, hk]
        rw [e]
        exact .inl ⟨rfl, Nat.zero_le _, rfl⟩
  · obtain rfl : r = true := h1
    have h3' : left ≤ k := h3
    have h4' : n < (q + 1) * 2 ^ (k - left) := h4
    by_cases hl : 1 < left
    · have e : (takeM k (n, true, left) b).1 = (n * 2 + b, true, left - 1) := by simp [takeM, hl]
      rw [e]
      refine .inr ⟨rfl, by show 1 ≤ left - 1; omega, by show left - 1 ≤ k; omega, ?_⟩
      show n * 2 + b < (q + 1 + 1) * 2 ^ (k - (left - 1))
      rw [show k - (left - 1) = k - left + 1 from by omega, Nat.pow_succ, ← Nat.mul_assoc, Nat.add_mul (q + 1) 1]
      omega
    · have e : (takeM k (n, true, left) b).1 = (0, false, 0) := by simp [takeM, hl]
      rw [e]
      exact .inl ⟨rfl, Nat.zero_le _, rfl⟩
theorem okT_small {k q : Nat} {st : Nat × Bool × Nat} (h : okT k q st) (hk : k ≤ 8) (hq : q ≤ 4800) : st.1 < 1000000000000 ∧ st.2.2 ≤ 8 ∧ (st.2.1 = true → 1 ≤ st.2.2) := by
  rcases h with ⟨h1, h2, h3⟩ | ⟨h1, h2, h3, h4⟩
  · exact ⟨by omega, by omega, fun e => by rw [h1] at e; cases e⟩
  · have hp : 2 ^ (k - st.2.2) ≤ 2 ^ 8 := Nat.pow_le_pow_right (by omega) (by omega)
    have hm : (q + 1) * 2 ^ (k - st.2.2) ≤ 4801 * 2 ^ 8 := Nat.mul_le_mul (by omega) hp
    exact ⟨by omega, by omega, fun _ => h2⟩
/-- Reading goes on behind these bits. -/
def OpenT (k many : Nat) (bs : List Bit) : Prop := (∀ rest, readT k many (bs.map (fun b => b.1) ++ rest) (0, false, 0) [] = readT k many rest (runT k bs).1 (runT k bs).2) ∧ (runT k bs).2.length ≤ many ∧ okT k bs.length (runT k bs).1
theorem openT_nil (k many : Nat) : OpenT k many [] := ⟨fun _ => rfl, Nat.zero_le _, .inl ⟨rfl, Nat.le_refl _, rfl⟩⟩
theorem openT_snoc {k many : Nat} {bs : List Bit} (h : OpenT k many bs) (hne : (runT k bs).2.length ≠ many) (b : Bit) : OpenT k many (bs ++ [b]) := by
  refine ⟨fun rest => ?_, ?_, ?_⟩
  · rw [List.map_append, List.append_assoc, h.1, List.map_cons, List.map_nil, List.cons_append, List.nil_append, readT, if_neg hne, runT_snoc]
    rfl
  · rw [runT_snoc]
    have h2 := h.2.1
    simp only [stepT, List.length_append]
    have : (takeM k (runT k bs).1 b.1).2.toList.length ≤ 1 := by cases (takeM k (runT k bs).1 b.1).2 <;> simp
    omega
  · rw [runT_snoc, List.length_append]
    exact okT_step h.2.2 b.2
theorem openT_full {k many : Nat} {bs : List Bit} (h : OpenT k many bs) (he : (runT k bs).2.length = many) (rest : List Nat) : readT k many (bs.map (fun b => b.1) ++ rest) (0, false, 0) [] = (runT k bs).2 := by
  rw [h.1]
  cases rest with
  | nil => rfl
  | cons b r => rw [readT, if_pos he]
theorem openT_end {k many : Nat} {bs : List Bit} (h : OpenT k many bs) : readT k many (bs.map (fun b => b.1)) (0, false, 0) [] = (runT k bs).2 := by
  have := h.1 []
  rw [List.append_nil] at this
  rw [this]
  rfl

theorem unpack_map (o : List UInt8) : unpack o = (List.range (8 * o.length)).map fun q => (o.getD (q / 8) 0).toNat / 2 ^ (7 - q % 8) % 2 := by
  induction o with
  | nil => rfl
  | cons c r ih =>
    have e : unpack (c :: r) = byteBits c ++ unpack r := rfl
    rw [e, ih, List.length_cons, show 8 * (r.length + 1) = 8 + 8 * r.length from by omega, List.range_add, List.map_append, List.map_map]
    congr 1
    · simp [byteBits, List.range, List.range.loop]
    · apply List.map_congr_left
      intro q _
      show _ = ((c :: r).getD ((8 + q) / 8) 0).toNat / 2 ^ (7 - (8 + q) % 8) % 2
      rw [show (8 + q) / 8 = q / 8 + 1 from by omega, show (8 + q) % 8 = q % 8 from by omega]
      simp
theorem unpack_bits (s : ByteArray) : unpack s.data.toList = (bitsTo s (8 * s.size)).map (fun b => b.1) := by
  rw [unpack_map, bitsTo, List.map_map]
  have : s.data.toList.length = s.size := by simp
  rw [this]
  rfl
theorem bitsTo_split (s : ByteArray) (q : Nat) (h : q ≤ 8 * s.size) : ∃ rest, unpack s.data.toList = (bitsTo s q).map (fun b => b.1) ++ rest := by
  refine ⟨((List.range (8 * s.size - q)).map (fun i => bitOf s (q + i))).map (fun b => b.1), ?_⟩
  have e : bitsTo s (8 * s.size) = bitsTo s q ++ (List.range (8 * s.size - q)).map (fun i => bitOf s (q + i)) := by
    rw [bitsTo, show 8 * s.size = q + (8 * s.size - q) from by omega, List.range_add, List.map_append, List.map_map, show q + (8 * s.size - q) - q = 8 * s.size - q from by omega]
    rfl
  rw [unpack_bits, e, List.map_append]

end Go.Proofs.Yteihpdnbehnnhaa

set_option linter.unusedVariables false
namespace Go.Proofs.Yteihpdnbehnnhaa
open Go.Shelf Go.RowKit

/-- What has been read: so many numbers, and for every list that is written just so: its first ones, and its next place. -/
def ReadTo (k many : Nat) (o : List UInt8) (out : List Nat) (p : Nat) : Prop :=
  (∀ x ∈ out, x ≤ 60000) ∧ ∀ l, Writes k many o l → l.take out.length = out ∧ placeOf k l out.length = p
def OutRow (B : Nat) (v : Value) (out : List Nat) (w : World) : Prop := (∃ g cap, v = .slice (some ⟨g, 0, none⟩) out.length cap) ∧ w.ownsRow B 3 1 v out.length (intCells out)

def sliceLen : Value → Nat
  | .slice _ n _ => n
  | _ => 0
theorem newRow (w : World) : OutRow w.heap.size (.slice (some ⟨w.heap.size, 0, none⟩) 0 0) [] (w.alloc (.cells #[] 3)) :=
  ⟨⟨_, _, rfl⟩, rfl, .inr ⟨_, _, #[], rfl, Nat.le_refl _, heap_alloc_new w _, Nat.le_refl _, by unfold maxLen; omega, rfl, rfl⟩⟩
theorem readTo_start (k many : Nat) (o : List UInt8) : ReadTo k many o [] 0 :=
  ⟨by simp, fun l _ => ⟨by simp, by simp [placeOf_zero]⟩⟩
theorem bitAt_nonneg {o : List UInt8} {p : Nat} (h : p < 8 * o.length) : 0 ≤ bitAt o p := by rw [bitAt_in h]; omega
theorem readTo_none {k many : Nat} {o : List UInt8} {out : List Nat} {p m : Nat} {v : Int} (h : ReadTo k many o out p) (hj : out.length < many) (hv : ∀ l, Writes k many o l → v = ((l.getD out.length 0 : Nat) : Int) ∧ m = placeOf k l (out.length + 1)) (hbad : 8 * o.length < m ∨ 60000 < v) : ∀ l, ¬ Writes k many o l := by
  intro l hl
  obtain ⟨h1, h2⟩ := hv l hl
  have hjl : out.length < l.length := by rw [hl.1]; exact hj
  rcases hbad with hb | hb
  · have hn := numB_length k (l.getD out.length 0)
    have hpos : 0 < (numB k (l.getD out.length 0)).length := by rw [hn]; exact Nat.add_pos_left (Nat.succ_pos _) _
    have h3 := (num_at hl out.length hj ((numB k (l.getD out.length 0)).length - 1) (Nat.sub_lt hpos Nat.one_pos)).1
    rw [placeOf_succ k l out.length hjl] at h2
    generalize (numB k (l.getD out.length 0)).length = N at *
    omega
  · have h3 : l.getD out.length 0 ≤ 60000 := by
      refine hl.2.1 _ ?_
      simp [List.getElem?_eq_getElem hjl]
    omega
theorem readTo_next {k many : Nat} {o : List UInt8} {out : List Nat} {p m vn : Nat} (h : ReadTo k many o out p) (hj : out.length < many) (hv : ∀ l, Writes k many o l → (vn : Int) = ((l.getD out.length 0 : Nat) : Int) ∧ m = placeOf k l (out.length + 1)) (hs : vn ≤ 60000) : ReadTo k many o (out ++ [vn]) m := by
  refine ⟨?_, ?_⟩
  · intro x hx
    rcases List.mem_append.1 hx with hx | hx
    · exact h.1 x hx
    · simp at hx; omega
  · intro l hl
    obtain ⟨h1, h2⟩ := hv l hl
    have hjl : out.length < l.length := by rw [hl.1]; exact hj
    refine ⟨?_, by rw [List.length_append]; exact h2.symm⟩
    rw [List.length_append, List.length_singleton, List.take_add_one, (h.2 l hl).1, List.getElem?_eq_getElem hjl]
    have e : l.getD out.length 0 = l[out.length] := by rw [List.getD_eq_getElem?_getD, List.getElem?_eq_getElem hjl]; rfl
    rw [e] at h1
    have : vn = l[out.length] := by omega
    simp [this]

set_option maxHeartbeats 1000000 in
set_option maxRecDepth 100000 in
theorem specRead (s : ByteArray) (many k : Nat) (w : World) (hs : s.size ≤ 600) (hm : many ≤ 40) (hk : k ≤ 8) :
    Calls Try.prog 31 #[.string s, .int .i64 (many : Int), .int .i64 (k : Int)] w fun e w' =>
      ((e = .returned (.tuple #[.slice none 0 0, .int .i64 (-1)]) ∧ ∀ l, ¬ Writes k many s.data.toList l) ∨
       ∃ (v : Value) (out : List Nat) (p : Nat), e = .returned (.tuple #[v, .int .i64 (p : Int)]) ∧ OutRow w.heap.size v out w' ∧ out.length = many ∧ ReadTo k many s.data.toList out p) ∧ Below w.heap.size w w' := by
  obtain ⟨i1, hi1, hz1, hz2, hz3⟩ := info_parts infoIntB
  have HW0 : Hid (OutRow w.heap.size (.slice (some ⟨w.heap.size, 0, none⟩) 0 0) [] (w.alloc (.cells #[] 3))) := newRow w
  have HB0 : Hid (Below w.heap.size w (w.alloc (.cells #[] 3))) := (Below.refl _ w).alloc (Nat.le_refl _) _
  have ho : s.data.toList.length = s.size := by simp
  obtain ⟨S8, hS8⟩ : ∃ S8 : Nat, S8 = 8 * s.size := ⟨_, rfl⟩
  have hS : S8 ≤ 4800 := by omega
  have HS8 : Hid (8 * s.data.toList.length = S8) := by show _ = _; rw [ho, hS8]
  have rS : (s.size : Int) * 8 = (S8 : Int) := by omega
  have HBI : Hid (∀ q, Calls Try.prog 46 #[.string s, .int .i64 ((q : Nat) : Int)] w (fun e w' => True) → True) := fun _ _ => trivial
  clear HBI ho hS8
  go_enter Try.func31, Try.ntmps31
  go_wp2_with fail
  go_loopw [8, 9] (fun v a wr => ∃ (out : List Nat) (p : Nat), out.length ≤ many ∧ p ≤ S8 ∧ a = .int .i64 (p : Int) ∧ Hid (OutRow w.heap.size v out wr) ∧ Hid (ReadTo k many s.data.toList out p) ∧ Hid (Below w.heap.size w wr)) (fun v _ _ => many - sliceLen v)
  case atStart => exact ⟨[], 0, by simp, by omega, rfl, HW0, readTo_start _ _ _, HB0⟩
  case round =>
    clear HW0 HB0
    obtain ⟨out, p, hol, hp, rfl, HR, HT, HB⟩ := hrel
    obtain ⟨⟨g, cap, rfl⟩, hrow⟩ := HR.out
    obtain ⟨j, hj⟩ : ∃ j, j = out.length := ⟨_, rfl⟩
    have HJ : Hid (j = out.length) := hj
    rw [← hj] at hol HR hrow ⊢
    by_cases hlt : j < many
    · have hcl : (j : Int) < (many : Int) := by omega
      clear hj hrow
      go_wp2_with fail
      go_loop [9, 10] (fun a x => ∃ n m : Nat, m ≤ S8 ∧ a = .int .i64 (m : Int) ∧ x = .int .i64 (n : Int) ∧ n ≤ S8 ∧ Hid (m = p + n) ∧ Hid (∀ q, q < n → bitAt s.data.toList (p + q) = 1)) (fun a _ => S8 + 1 - (intOf a).toNat)
      case atStart => exact ⟨0, p, hp, rfl, rfl, by omega, rfl, fun q hq => by omega⟩
      case round =>
        obtain ⟨n, m, hm8, rfl, rfl, hn8, HM, HA⟩ := hrel
        have hm6 : m ≤ 1000000 := by omega
        by_cases hb1 : bitAt s.data.toList m = 1
        · have hmS : m < S8 := by
            rcases Nat.lt_or_ge m S8 with h' | h'
            · exact h'
            · rw [bitAt_out (by rw [HS8.out]; omega)] at hb1
              cases hb1
          have HA2 : Hid (∀ q, q < n + 1 → bitAt s.data.toList (p + q) = 1) := by
            intro q hq
            rcases Nat.lt_or_ge q n with h' | h'
            · exact HA.out q h'
            · rw [show q = n from by omega, ← HM.out]; exact hb1
          have HMS : Hid (m < S8 ∧ n < S8) := ⟨hmS, by have := HM.out; omega⟩
          go_wp2_with (go_at_call 46; refine (specBit s m _ hs hm6).mono ?_; rintro e w1 ⟨rfl, rfl⟩)
          go_round
          case rel => exact ⟨n + 1, m + 1, HMS.out.1, by go_num, by go_num, HMS.out.2, by show _ = _; have := HM.out; omega, HA2⟩
          case measure => have := HMS.out.1; simp [intOf]; omega
        · have hbf : (bitAt s.data.toList m == 1) = false := by simpa using hb1
          have HNE : Hid (bitAt s.data.toList (p + n) ≠ 1) := by show _ ≠ _; rw [← HM.out]; exact hb1
          clear hb1
          go_wp2_with (go_at_call 46; refine (specBit s m _ hs hm6).mono ?_; rintro e w1 ⟨rfl, rfl⟩)
          have HPL : Hid (∀ l, Writes k many s.data.toList l → placeOf k l j = p) := fun l hl => by rw [HJ.out]; exact (HT.out.2 l hl).2
          have HN1 : Hid (∀ l, Writes k many s.data.toList l → n = l.getD j 0 / 2 ^ k) := by
            intro l hl
            have e := HPL.out l hl
            exact ones_end hl j hlt n (fun q hq => by rw [e]; exact HA.out q hq) (by rw [e]; exact HNE.out)
          go_loop [9, 10, 11] (fun a x i => ∃ (t m2 P : Nat) (v : Int), t ≤ k ∧ m2 ≤ 4900 ∧ P ≤ 256 ∧ a = .int .i64 (m2 : Int) ∧ x = .int .i64 v ∧ i = .int .i64 (t : Int) ∧ 1 - (P : Int) ≤ v ∧ v ≤ 5000 * (P : Int) - 1 ∧ Hid (m2 = p + n + 1 + t) ∧ Hid (P = 2 ^ t) ∧ Hid (m2 ≤ S8 → 0 ≤ v) ∧ Hid (∀ l, Writes k many s.data.toList l → v = ((l.getD j 0 / 2 ^ (k - t) : Nat) : Int))) (fun _ _ i => k - (intOf i).toNat)
          case atStart => exact ⟨0, m + 1, 1, (n : Int), by omega, by omega, by omega, by go_num, rfl, rfl, by omega, by omega, by show _ = _; have := HM.out; omega, rfl, fun _ => by omega, fun l hl => by rw [HN1.out l hl]; rfl⟩
          case round =>
            obtain ⟨t, m2, P, v, ht, hm2, hP, rfl, rfl, rfl, hv1, hv2, HM2, HP, HV0, HV⟩ := hrel
            have hm26 : m2 ≤ 1000000 := by omega
            by_cases htk : t < k
            · have hbr := bitAt_range s.data.toList m2
              have HTK : Hid (t + 1 ≤ k ∧ m2 + 1 ≤ 4900) := by
                have := HM2.out
                have := HM.out
                exact ⟨htk, by omega⟩
              have HP2 : Hid (2 * P = 2 ^ (t + 1)) := by show _ = _; rw [HP.out, Nat.pow_succ]; omega
              have HP3 : Hid (2 * P ≤ 256) := by
                show _ ≤ _
                rw [HP2.out]
                exact Nat.pow_le_pow_right (n := 2) (by decide) (show t + 1 ≤ 8 by omega)
              have HV2 : Hid (∀ l, Writes k many s.data.toList l → v * 2 + bitAt s.data.toList m2 = ((l.getD j 0 / 2 ^ (k - (t + 1)) : Nat) : Int)) := by
                intro l hl
                have := low_step hl j hlt t htk v (HV.out l hl)
                rw [HPL.out l hl, ← HN1.out l hl, ← HM2.out] at this
                exact this
              have HV3 : Hid (m2 + 1 ≤ S8 → 0 ≤ v * 2 + bitAt s.data.toList m2) := by
                intro h
                have h1 := HV0.out (by omega)
                have h2 := bitAt_nonneg (o := s.data.toList) (p := m2) (by rw [HS8.out]; omega)
                omega
              have hnext : 1 - ((2 * P : Nat) : Int) ≤ v * 2 + bitAt s.data.toList m2 ∧ v * 2 + bitAt s.data.toList m2 ≤ 5000 * ((2 * P : Nat) : Int) - 1 := by omega
              generalize hbb : bitAt s.data.toList m2 = bt at hbr HV2 HV3 hnext
              have HBB : Hid (bitAt s.data.toList m2 = bt) := hbb
              clear hbb
              go_wp2_with (go_at_call 46; refine (specBit s m2 _ hs hm26).mono ?_; rw [HBB.out]; rintro e w1 ⟨rfl, rfl⟩)
              go_round
              case rel => exact ⟨t + 1, m2 + 1, 2 * P, v * 2 + bt, HTK.out.1, HTK.out.2, HP3.out, by go_num, by go_num, by go_num, hnext.1, hnext.2, by show _ = _; have := HM2.out; omega, HP2, HV3, HV2⟩
              case measure => have := HTK.out.1; simp [intOf]; omega
            · have HVE : Hid (∀ l, Writes k many s.data.toList l → v = ((l.getD out.length 0 : Nat) : Int) ∧ m2 = placeOf k l (out.length + 1)) := by
                intro l hl
                have h1 := HV.out l hl
                have hjl : out.length < l.length := by rw [hl.1, ← HJ.out]; exact hlt
                rw [show k - t = 0 from by omega] at h1
                refine ⟨by rw [h1, ← HJ.out]; simp, ?_⟩
                rw [placeOf_succ k l out.length hjl, numB_length, ← HJ.out, HPL.out l hl, ← HN1.out l hl, HM2.out]
                omega
              have HJM : Hid (out.length < many) := by show _ < _; rw [← HJ.out]; exact hlt
              by_cases hbad : S8 < m2 ∨ 60000 < v
              · have HNO : Hid (∀ l, ¬ Writes k many s.data.toList l) := readTo_none HT.out HJM.out HVE.out (by rw [HS8.out]; exact hbad)
                by_cases hb2 : (S8 : Int) < (m2 : Int)
                · go_wp2_with fail
                  go_ret2
                  exact ⟨.inl ⟨rfl, HNO.out⟩, HB.out⟩
                · have hb3 : 60000 < v := by omega
                  go_wp2_with fail
                  go_ret2
                  exact ⟨.inl ⟨rfl, HNO.out⟩, HB.out⟩
              · have hv0 : 0 ≤ v := HV0.out (by omega)
                obtain ⟨vn, rfl⟩ := Int.eq_ofNat_of_zero_le hv0
                have hb2 : ¬ (S8 : Int) < (m2 : Int) := by omega
                have hb3 : ¬ (60000 : Int) < (vn : Int) := by omega
                have HNX : Hid (ReadTo k many s.data.toList (out ++ [vn]) m2) := readTo_next HT.out HJM.out HVE.out (by omega)
                have hrow := HR.out.2
                have HM28 : Hid (m2 ≤ S8) := by show _ ≤ _; omega
                clear hbad
                go_wp2_with (at_builtin; refine wp_app1 rfl _ _ 22 rfl w.heap.size 3 i1 (.int .i64 0) 8 Try.underlying22 hi1 hz1 hz2 hz3 rfl _ out.length (intCells out) ?ca hrow (.int .i64 (vn : Int)) rfl rfl ?c3 ?c4 ?c5 ?_)
                case c3 => have := HJM.out; unfold maxLen; omega
                case c4 => have := HJM.out; omega
                case c5 => exact HB.out.size
                intro g2 cap2 w2 hown2 hb4 hoth
                have HJ2 : Hid (out.length + 1 = (out ++ [vn]).length) := by show _ = _; simp
                have HR2 : Hid (OutRow w.heap.size (.slice (some ⟨g2, 0, none⟩) (out.length + 1) cap2) (out ++ [vn]) w2) := by
                  refine ⟨⟨g2, cap2, by rw [HJ2.out]⟩, ?_⟩
                  have e : intCells (out ++ [vn]) = intCells out ++ [.int .i64 (vn : Int)] := by simp [intCells]
                  rw [e, ← HJ2.out]
                  exact hown2
                have HB2 : Hid (Below w.heap.size w w2) := HB.out.trans hb4
                clear hown2 hb4 hoth hrow
                go_wp2_with fail
                go_roundw
                case rel => exact ⟨out ++ [vn], m2, by rw [← HJ2.out]; exact HJM.out, HM28.out, rfl, HR2, HNX, HB2⟩
                case measure => have h1 := HJM.out; have h2 := HJ.out; simp only [sliceLen]; omega
    · have HE : Hid (out.length = many) := by have := HJ.out; show _ = _; omega
      go_wp2_with fail
      go_ret2
      refine ⟨.inr ⟨_, out, p, rfl, ?_, HE.out, HT.out⟩, HB.out⟩
      have := HR.out
      exact this

end Go.Proofs.Yteihpdnbehnnhaa

set_option linter.unusedVariables false
namespace Go.Proofs.Yteihpdnbehnnhaa
open Go.Shelf Go.RowKit

/-- What comes back: nothing, or a row of the call's own that holds the numbers. -/
def GotRow (B : Nat) (v : Value) (w : World) : Option (List Nat) → Prop
  | none => v = .slice none 0 0
  | some l => OutRow B v l w
theorem toNat_map (l : List Nat) : (l.map fun n : Nat => (n : Int)).map Int.toNat = l := by
  rw [List.map_map]
  conv => rhs; rw [← List.map_id l]
  apply List.map_congr_left
  intro x _
  simp
theorem outRow_at {B : Nat} {g n cap : Nat} {l : List Nat} {w : World} (h : OutRow B (.slice (some ⟨g, 0, none⟩) n cap) l w) : At w g (l.map fun n : Nat => (n : Int)) := by
  obtain ⟨⟨g', cap', hv⟩, hrow⟩ := h
  simp only [Value.slice.injEq, Option.some.injEq, Addr.mk.injEq, and_true] at hv
  obtain ⟨rfl, rfl, rfl⟩ := hv
  obtain ⟨cur, hc, hlt⟩ := ownsRow_type hrow g rfl
  refine ⟨hlt, fun i hi => ?_⟩
  have hil : i < l.length := by simpa using hi
  rw [intCell_at hrow i hil]
  simp [List.getElem?_eq_getElem hil]

set_option maxHeartbeats 1000000 in
set_option maxRecDepth 100000 in
theorem specRiceGet (s : ByteArray) (many k : Int) (w : World) (hsm : s.size ≤ 1048576) :
    Calls Try.prog 13 #[.string s, .int .i64 many, .int .i64 k] w fun e w' => ∃ v, e = .returned (.tuple #[v, .bool (riceGet s.data.toList many k).isSome]) ∧ GotRow w.heap.size v w' (riceGet s.data.toList many k) ∧ Below w.heap.size w w' := by
  cases h1 : inB many 0 40 with
  | false =>
    have HG : Hid (riceGet s.data.toList many k = none) := riceGet_bad (by
      have : decide (0 ≤ many ∧ many ≤ 40) = false := h1
      simp only [getOk, this, Bool.false_and])
    rw [HG.out]
    go_enter Try.func13, Try.ntmps13
    go_wp2_with (go_at_call 25; refine (specIn _ _ _ _).mono ?_; rintro e w1 ⟨rfl, rfl⟩)
    go_ret2
    exact ⟨_, rfl, rfl, Below.refl _ _⟩
  | true =>
    cases h2 : inB k 0 8 with
    | false =>
      have HG : Hid (riceGet s.data.toList many k = none) := riceGet_bad (by
        have : decide (0 ≤ k ∧ k ≤ 8) = false := h2
        simp only [getOk, this, Bool.and_false, Bool.false_and])
      rw [HG.out]
      go_enter Try.func13, Try.ntmps13
      go_wp2_with (go_at_call 25; refine (specIn _ _ _ _).mono ?_; rintro e w1 ⟨rfl, rfl⟩)
      go_ret2
      exact ⟨_, rfl, rfl, Below.refl _ _⟩
    | true =>
      by_cases h3 : (600 : Int) < (s.size : Int)
      · have HG : Hid (riceGet s.data.toList many k = none) := riceGet_bad (by
          have : decide (s.data.toList.length ≤ 600) = false := decide_eq_false (by simp; omega)
          simp only [getOk, this, Bool.and_false])
        rw [HG.out]
        go_enter Try.func13, Try.ntmps13
        go_wp2_with (go_at_call 25; refine (specIn _ _ _ _).mono ?_; rintro e w1 ⟨rfl, rfl⟩)
        go_ret2
        exact ⟨_, rfl, rfl, Below.refl _ _⟩
      · have hm := of_decide_eq_true h1
        have hk := of_decide_eq_true h2
        obtain ⟨mn, rfl⟩ := Int.eq_ofNat_of_zero_le hm.1
        obtain ⟨kn, rfl⟩ := Int.eq_ofNat_of_zero_le hk.1
        have hs6 : s.size ≤ 600 := by omega
        have hok : getOk s.data.toList (mn : Int) (kn : Int) = true := by
          have e1 : decide (0 ≤ (mn : Int) ∧ (mn : Int) ≤ 40) = true := h1
          have e2 : decide (0 ≤ (kn : Int) ∧ (kn : Int) ≤ 8) = true := h2
          have e3 : decide (s.data.toList.length ≤ 600) = true := decide_eq_true (by simp; omega)
          simp only [getOk, e1, e2, e3, Bool.and_self]
        have HOK : Hid (getOk s.data.toList (mn : Int) (kn : Int) = true) := hok
        have hm40 : mn ≤ 40 := by omega
        have hk8 : kn ≤ 8 := by omega
        clear hok hm hk
        go_enter Try.func13, Try.ntmps13
        go_wp2_with (go_at_call 25; refine (specIn _ _ _ _).mono ?_; rintro e w1 ⟨rfl, rfl⟩)
        refine (specRead s mn kn _ hs6 hm40 hk8).mono ?_
        rintro e w1 ⟨⟨rfl, hno⟩ | ⟨v, out, p, rfl, hrow, hlen, hrd⟩, hb1⟩
        · have HG : Hid (riceGet s.data.toList (mn : Int) (kn : Int) = none) := riceGet_no (fun l => by simpa using hno l)
          have HB1 : Hid (Below w.heap.size w w1) := hb1
          clear hno hb1
          go_wp2_with fail
          go_ret2
          rw [HG.out]
          exact ⟨_, rfl, rfl, HB1.out⟩
        · obtain ⟨g, cap, rfl⟩ := hrow.1
          have HR : Hid (OutRow w.heap.size (.slice (some ⟨g, 0, none⟩) out.length cap) out w1) := hrow
          have HB1 : Hid (Below w.heap.size w w1) := hb1
          have HRD : Hid (ReadTo kn mn s.data.toList out p) := hrd
          have HLN : Hid (out.length = mn) := hlen
          have HAT : Hid (At w1 g (out.map fun n : Nat => (n : Int))) := outRow_at hrow
          clear hrow hb1 hrd hlen
          go_wp2_with fail
          refine (specRice g out.length cap (out.map fun n : Nat => (n : Int)) kn _ HAT.out (by simp) hk8 (by simp [HLN.out]; exact hm40) (by
            intro i hi
            have hil : i < out.length := by simpa using hi
            have := HRD.out.1 (out[i]) (List.getElem_mem hil)
            simp [List.getElem?_eq_getElem hil]
            omega)).mono ?_
          rintro e w2 ⟨rfl, hb2⟩
          rw [toNat_map]
          have HB2 : Hid (Below w.heap.size w w2) := HB1.out.trans (hb2.mono HB1.out.size)
          have HR2 : Hid (OutRow w.heap.size (.slice (some ⟨g, 0, none⟩) out.length cap) out w2) := by
            refine ⟨HR.out.1, ownsRow_keep HR.out.2 (fun g' hg' => ?_)⟩
            obtain ⟨cur, hc, hlt⟩ := ownsRow_type HR.out.2 g' hg'
            exact hb2.block g' hlt
          clear hb2
          by_cases he : riceB kn out = s.data.toList
          · have HG : Hid (riceGet s.data.toList (mn : Int) (kn : Int) = some out) := riceGet_yes HOK.out ⟨HLN.out, HRD.out.1, he⟩
            go_wp2_with fail
            go_ret2
            rw [HG.out]
            exact ⟨_, rfl, HR2.out, HB2.out⟩
          · have HG : Hid (riceGet s.data.toList (mn : Int) (kn : Int) = none) := riceGet_no (fun l hl => by
              have hl' : Writes kn mn s.data.toList l := hl
              have h1 := (HRD.out.2 l hl').1
              rw [HLN.out, ← hl'.1, List.take_length] at h1
              exact he (by rw [← h1]; exact hl'.2.2))
            have hne : (riceB kn out == s.toList) = false := by
              rw [ByteArray.toList_eq]
              simpa using he
            clear he
            go_wp2_with fail
            go_ret2
            rw [HG.out]
            exact ⟨_, rfl, rfl, HB2.out⟩

end Go.Proofs.Yteihpdnbehnnhaa

set_option linter.unusedVariables false
namespace Go.Proofs.Yteihpdnbehnnhaa
open Go.RowKit

theorem ownsRow_mono {B C : Nat} {e : TypeId} {v : Value} {n : Nat} {xs : List Value} {w : World} (h : w.ownsRow C e 1 v n xs) (hB : B ≤ C) : w.ownsRow B e 1 v n xs := by
  refine ⟨h.1, ?_⟩
  rcases h.2 with h2 | ⟨g, cap, cur, hv, h2, h3⟩
  · exact .inl h2
  · exact .inr ⟨g, cap, cur, hv, by omega, h3⟩

theorem OutRow.keep {B g n cap C : Nat} {l : List Nat} {w w' : World} (h : OutRow B (.slice (some ⟨g, 0, none⟩) n cap) l w) (hb : Below C w w') (hg : g < C) : OutRow B (.slice (some ⟨g, 0, none⟩) n cap) l w' :=
  ⟨h.1, ownsRow_keep h.2 (fun g' hg' => by obtain rfl : g = g' := by simpa [Value.ownBlock] using hg'
                                           exact hb.block g hg)⟩
theorem OutRow.lt {B g n cap : Nat} {l : List Nat} {w : World} (h : OutRow B (.slice (some ⟨g, 0, none⟩) n cap) l w) : B ≤ g ∧ g < w.heap.size := by
  obtain ⟨⟨g', cap', hv⟩, hrow⟩ := h
  simp only [Value.slice.injEq, Option.some.injEq, Addr.mk.injEq, and_true] at hv
  obtain ⟨rfl, rfl, rfl⟩ := hv
  obtain ⟨cur, hc, hlt⟩ := ownsRow_type hrow g rfl
  refine ⟨?_, hlt⟩
  rcases hrow.2 with ⟨h2, _⟩ | ⟨g', cap', cur, hv, h2, _⟩
  · cases h2
  · simp only [Value.slice.injEq, Option.some.injEq, Addr.mk.injEq, and_true] at hv
    rw [hv.1]
    exact h2

end Go.Proofs.Yteihpdnbehnnhaa

set_option linter.unusedVariables false
namespace Go.Proofs.Yteihpdnbehnnhaa
open Go.RowKit Go.Shelf
attribute [local go_sem] Oper.semAt_some

theorem ownFrom_cells {β : Type} (B b : Nat) (f : β → Array Value) (t : TypeId) : OwnFrom B (fun s W => W.heap[b]? = some (.cells (f s) t (0, 0))) := by
  intro s X Y row hs hg hr
  refine (hg.block b (Array.getElem?_eq_some_iff.1 hs).1 (fun e => ?_)).trans hs
  obtain ⟨_, o, ho, hc⟩ := hr b e.symm
  rw [hs] at ho
  cases ho
  cases hc
/-- Another block than the row and the box lies as it lay, behind the append and the store. -/
theorem append_other {W w1 : World} {n₀ B b : Nat} {t e : TypeId} {c : Array Value} {fz : Nat × Nat} {v v' : Value} {k : Nat} {xs : List Value} {tmp : Obj}
    (h : W.heap[b]? = some (.cells c t fz)) (hte : t ≠ e) (hrow : W.ownsRow n₀ e 1 v k xs) (hgrow : (W.alloc tmp).grownBy w1 v.ownBlock) (hB : b ≠ B) : (w1.setCell ⟨B, 0, none⟩ v').heap[b]? = W.heap[b]? := by
  have hlt : b < W.heap.size := (Array.getElem?_eq_some_iff.1 h).1
  rw [Below.heap_setCell _ _ _ b (fun e => hB (by rw [e]))]
  rw [hgrow.block b (by simp; omega) ?_]
  · exact Below.heap_alloc _ _ _ hlt
  · rcases hrow.2 with ⟨rfl, _⟩ | ⟨g, cap, cur, rfl, _, hgb, _⟩
    · simp [Value.ownBlock]
    · intro e'
      obtain rfl : b = g := by simpa [Value.ownBlock] using e'
      rw [h] at hgb
      simp at hgb
      exact hte hgb.2.1
theorem Only.keepsOthers {b : Nat} {w w' : World} {c : Array Value} {t : TypeId} {fz : Nat × Nat} (h : Only b w w') (hb : w.heap[b]? = some (.cells c t fz)) : KeepsOthers w w' :=
  ⟨by rw [h.size]; exact Nat.le_refl _, fun k o hk ho => by
    rw [h.block k (fun e => ?_)]
    · exact hk
    · subst e
      rw [hb] at hk
      cases hk
      cases ho⟩

/-- Between two rounds: the list in its box, how many are wanted, the reader; in blocks from h on. -/
def NumL (h kn mn : Nat) (pre : List Bit) (W : World) : Prop := ∃ v, Boxed W (h + 1 + 1) 22 v ∧ W.ownsRow (h + 1) 3 1 v (runT kn pre).2.length (intCells (runT kn pre).2) ∧ (∃ g cap, v = .slice (some ⟨g, 0, none⟩) (runT kn pre).2.length cap)
def NumM (h kn mn : Nat) (pre : List Bit) (W : World) : Prop := Boxed W h 3 (.int .i64 (mn : Int)) ∧ RR (h + 1 + 1 + 1) kn (runT kn pre).1 W
theorem numL_own (h kn mn B : Nat) : OwnFrom B (NumL h kn mn) := Own.from (holdsRow_own (h + 1) (h + 1 + 1) 22 3 1 (fun pre => (runT kn pre).2.length) (fun pre => intCells (runT kn pre).2) (fun pre v => ∃ g cap, v = .slice (some ⟨g, 0, none⟩) (runT kn pre).2.length cap)) B
theorem numM_own (h kn mn B : Nat) : OwnFrom B (NumM h kn mn) := OwnFrom.and (Own.from (boxed_own h 3 (fun _ => .int .i64 (mn : Int))) B) (ownFrom_cells B (h + 1 + 1 + 1) (fun pre => #[.int .i64 (kn : Int), .int .i64 ((runT kn pre).1.1 : Int), .bool (runT kn pre).1.2.1, .int .i64 ((runT kn pre).1.2.2 : Int)]) 74)

theorem Only.row {b : Nat} {w w' : World} {c : Array Value} {t e : TypeId} {fz : Nat × Nat} {n k : Nat} {v : Value} {xs : List Value} (h : Only b w w') (hb : w.heap[b]? = some (.cells c t fz)) (hte : t ≠ e) (hr : w.ownsRow n e 1 v k xs) : w'.ownsRow n e 1 v k xs := by
  refine ownsRow_keep hr (fun g hg => h.block g (fun e' => ?_))
  subst e'
  obtain ⟨cur, hc, _⟩ := ownsRow_type hr g hg
  rw [hb] at hc
  simp at hc
  exact hte hc.2.1

def numW (s : ByteArray) (mn kn : Nat) (w : World) : World :=
  ((((w.alloc (.cells #[.int .i64 (mn : Int)] 3)).alloc (.cells (madeCells #[.int .i64 0] mn) 3)).alloc (.cells #[.slice (some ⟨w.heap.size + 1, 0, none⟩) 0 mn] 22)).alloc
    (.cells #[.int .i64 (kn : Int), .int .i64 0, .bool false, .int .i64 0] 74)).alloc (.cells #[.string s] 9)
theorem numW_size (s : ByteArray) (mn kn : Nat) (w : World) : (numW s mn kn w).heap.size = w.heap.size + 5 := by simp [numW]
theorem madeCells_size0 (n : Nat) : (madeCells #[.int .i64 0] n).size = n := by rw [madeCells_zero]; simp [zerosN]
theorem alloc_new {w : World} {n : Nat} (o : Obj) (h : w.heap.size = n) : (w.alloc o).heap[n]? = some o := by subst h; exact World.alloc_heap_new w o
theorem numW_h1 (s : ByteArray) (mn kn : Nat) (w : World) : (numW s mn kn w).heap[w.heap.size + 1]? = some (.cells (madeCells #[.int .i64 0] mn) 3 (0, 0)) := by
  unfold numW
  rw [Below.heap_alloc _ _ _ (by simp), Below.heap_alloc _ _ _ (by simp), Below.heap_alloc _ _ _ (by simp)]
  exact alloc_new _ (by simp)
theorem numW_h4 (s : ByteArray) (mn kn : Nat) (w : World) : (numW s mn kn w).heap[w.heap.size + 1 + 1 + 1 + 1]? = some (.cells #[.string s] 9 (0, 0)) := by
  unfold numW
  exact alloc_new _ (by simp)
theorem numW_L (s : ByteArray) (mn kn : Nat) (w : World) (hm : mn ≤ 40) : NumL w.heap.size kn mn [] (numW s mn kn w) := by
  refine ⟨.slice (some ⟨w.heap.size + 1, 0, none⟩) 0 mn, ?_, ⟨rfl, .inr ⟨_, _, _, rfl, Nat.le_refl _, numW_h1 s mn kn w, Nat.zero_le _, by unfold maxLen; omega, by rw [madeCells_size0]; omega, rfl⟩⟩, ⟨_, _, rfl⟩⟩
  unfold numW Boxed
  rw [Below.heap_alloc _ _ _ (by simp), Below.heap_alloc _ _ _ (by simp)]
  exact alloc_new _ (by simp)
theorem numW_M (s : ByteArray) (mn kn : Nat) (w : World) : NumM w.heap.size kn mn [] (numW s mn kn w) := by
  refine ⟨?_, ?_⟩
  · unfold numW
    exact (((((Boxed.new w 3 (.int .i64 (mn : Int))).alloc _).alloc _).alloc _).alloc _)
  · unfold numW RR
    rw [Below.heap_alloc _ _ _ (by simp)]
    exact alloc_new _ (by simp)
theorem numW_below (s : ByteArray) (mn kn : Nat) (w : World) : Below w.heap.size w (numW s mn kn w) :=
  ((((((Below.refl _ w).alloc (Nat.le_refl _) _).alloc (by simp) _).alloc (by simp; omega) _).alloc (by simp; omega) _).alloc (by simp; omega) _)

set_option maxHeartbeats 4000000 in
set_option maxRecDepth 100000 in
theorem implNumbers (s : ByteArray) (mn kn : Nat) (w : World) (hs : s.size ≤ 600) (hm : mn ≤ 40) (hk : kn ≤ 8) :
    Calls Try.prog 33 #[.string s, .int .i64 (mn : Int), .int .i64 (kn : Int)] w fun e w' => ∃ v, e = .returned v ∧ OutRow w.heap.size v (readT kn mn (unpack s.data.toList) (0, false, 0) []) w' ∧ Below w.heap.size w w' := by
  refine (callsIn_wide (n := 8)).1 ?_
  obtain ⟨i0, hi, hz0, hz1, hz2⟩ := info_parts infoIntG
  refine callsIn_of_wp_marks Try.func33 rfl trivial ?_ rfl
  simp only [Try.ntmps33, List.size_toArray, List.length_cons, List.length_nil, Nat.reduceAdd, Nat.reduceSub, Array.replicate_succ, Array.replicate_zero, List.push_toArray, List.append_toArray, List.nil_append, List.cons_append]
  have hmk := makeCap mn (by omega)
  gi_wp2_with (refine ⟨trivial, ?_⟩; gi_at_call 47; refine (bitsMake Fence.wide (8 - 1) trivial rfl _ _).mono ?_; rintro e w' ⟨rfl, rfl⟩)
  clear hmk
  have hL0 := numW_L s mn kn w hm
  have hM0 := numW_M s mn kn w
  have hB0 := numW_below s mn kn w
  have hZ0 := numW_size s mn kn w
  have hT0 := numW_h4 s mn kn w
  show Code.wpIn Fence.wide 8 Try.prog _ _ _ (numW s mn kn w)
  generalize numW s mn kn w = W0 at hL0 hM0 hB0 hZ0 hT0 ⊢
  refine wpIn_rangeFunc_ownF rfl (by omega) (gf := 56) (lb := #[.pointer (some ⟨w.heap.size + 1 + 1 + 1 + 1, 0, none⟩)]) rfl trivial (enters_of Try.func56 (by kernel_rfl) rfl)
    (bits_stops Fence.wide (8 - 1) trivial rfl (by omega) (w.heap.size + 1 + 1 + 1 + 1) s hs W0 (by omega) (by rw [Lib.cell_of_heap hT0]; rfl)) (fun h k => KeepsAt.t h k) (KeepsAt.b (by omega)) (Below.refl _ _) (fun _ => rfl)
    (fun pre W => (NumL w.heap.size kn mn pre W ∧ NumM w.heap.size kn mn pre W) ∧ (OpenT kn mn pre ∧ W.heap[w.heap.size + 1 + 1 + 1 + 1]? = some (.cells #[.string s] 9 (0, 0))) ∧ Below w.heap.size w W)
    (fun c pre W => NumL w.heap.size kn mn pre.dropLast W ∧ (c = .exit 0 ∧ OpenT kn mn pre.dropLast ∧ (runT kn pre.dropLast).2.length = mn) ∧ Below w.heap.size w W)
    (OwnFrom.and (OwnFrom.and (numL_own w.heap.size kn mn _) (numM_own w.heap.size kn mn _)) (OwnFrom.and (OwnFrom.and (ownFrom_pure _ _) (ownFrom_cells _ _ (fun _ => #[.string s]) _)) (ownFrom_below (by omega) (by omega))))
    (fun c => OwnFrom.and (fun pre X Y row hs hg hr => numL_own w.heap.size kn mn W0.heap.size pre.dropLast X Y row hs hg hr) (OwnFrom.and (ownFrom_pure _ _) (ownFrom_below (by omega) (by omega))))
    ⟨⟨hL0, hM0⟩, ⟨openT_nil kn mn, hT0⟩, hB0⟩
    (fun x => { tmps := #[.string s, .int .i64 (mn : Int), .int .i64 (kn : Int), undef, .pointer (some ⟨w.heap.size, 0, none⟩), undef, .slice none 0 0, .pointer (some ⟨w.heap.size + 1 + 1, 0, none⟩), .pointer (some ⟨w.heap.size + 1 + 1 + 1, 0, none⟩), .int .i64 ((x.1 : Nat) : Int), undef, undef, .int .i64 (mn : Int), .slice (some ⟨w.heap.size + 1, 0, none⟩) 0 mn, .int .i64 (kn : Int), .agg #[.int .i64 (kn : Int), .int .i64 0, .bool false, .int .i64 0], .string s, .func (.func 56) #[] #[.pointer (some ⟨w.heap.size + 1 + 1 + 1 + 1, 0, none⟩)], .int .i64 ((x.1 : Nat) : Int), undef, undef, undef, undef, undef, undef, undef, undef, undef, undef, undef, undef, undef, undef, undef], defers := [] }) ?assign ?body ?done ?stop
  case assign =>
    intro l x W K hK
    gi_wp2
    exact hK
  case body =>
    rintro l pre x W ⟨⟨⟨v, bL, rL, g, cap, rfl⟩, bM, hR⟩, ⟨hO, hT⟩, hB⟩ hlt
    have hst0 : runT kn (pre ++ [x]) = stepT kn (runT kn pre) x.1 := runT_snoc kn pre x
    obtain ⟨nn, rr, ll, out, hst⟩ : ∃ nn rr ll out, runT kn pre = ((nn, rr, ll), out) := ⟨_, _, _, _, rfl⟩
    have HK : Hid (OpenT kn mn pre ∧ W.heap[w.heap.size + 1 + 1 + 1 + 1]? = some (.cells #[.string s] 9 (0, 0)) ∧ Below w.heap.size w W) := ⟨hO, hT, hB⟩
    have hsm := okT_small hO.2.2 hk (by omega)
    have hle := hO.2.1
    rw [hst] at rL bL hR hst0 hsm hle
    have HR : Hid (RR (w.heap.size + 1 + 1 + 1) kn (nn, rr, ll) W) := hR
    have HL : Hid (Boxed W (w.heap.size + 1 + 1) 22 (.slice (some ⟨g, 0, none⟩) out.length cap) ∧ W.ownsRow (w.heap.size + 1) 3 1 (.slice (some ⟨g, 0, none⟩) out.length cap) out.length (intCells out)) := ⟨bL, rL⟩
    have HM : Hid (Boxed W w.heap.size 3 (.int .i64 (mn : Int))) := bM
    have cL := bL.cell
    have cM := bM.cell
    dsimp only at cL
    have HS : Hid (runT kn pre = ((nn, rr, ll), out)) := hst
    have HS0 : Hid (runT kn (pre ++ [x]) = stepT kn ((nn, rr, ll), out) x.1) := hst0
    have HSM : Hid (nn < 1000000000000 ∧ ll ≤ 8 ∧ (rr = true → 1 ≤ ll)) := hsm
    have HLE : Hid (out.length ≤ mn) := hle
    clear hO hR hT hB bL rL bM hst hst0 hsm hle
    by_cases hfull : out.length = mn
    · have hq : (((out.length : Nat) : Int) == ((mn : Nat) : Int)) = true := by simp [hfull]
      gi_wp2
      refine ⟨KeepsOthers.refl _, ?_⟩
      dsimp only
      rw [List.dropLast_concat]
      refine ⟨⟨_, HL.out.1, by rw [HS.out]; exact HL.out.2, ⟨g, cap, by rw [HS.out]⟩⟩, ⟨rfl, HK.out.1, by rw [HS.out]; exact hfull⟩, HK.out.2.2⟩
    · have hq : (((out.length : Nat) : Int) == ((mn : Nat) : Int)) = false := by simp; omega
      have HN : Hid (OpenT kn mn (pre ++ [x])) := openT_snoc HK.out.1 (by rw [HS.out]; exact hfull) x
      have HF : Hid (¬ out.length = mn) := hfull
      clear hfull
      obtain ⟨st', o, htk⟩ : ∃ st' o, takeM kn (nn, rr, ll) x.1 = (st', o) := ⟨_, _, rfl⟩
      have htake := takeI (w.heap.size + 1 + 1 + 1) kn nn ll x.1 rr W HR.out x.2 HSM.out.1 hk HSM.out.2.1 HSM.out.2.2
      rw [htk] at htake
      have HTK : Hid (takeM kn (nn, rr, ll) x.1 = (st', o)) := htk
      clear htk
      cases o with
      | none =>
        dsimp only [Option.getD, Option.isSome] at htake
        gi_wp2_with (refine ⟨trivial, ?_⟩; gi_at_call 48; refine (CallsIn.inRound l (callsIn_wide.2 htake)).mono ?_; rintro e w1 ⟨rfl, hR1, hO1⟩)
        have hst : runT kn (pre ++ [x]) = (st', out) := by rw [HS0.out]; simp [stepT, HTK.out]
        have hb1 : w1.heap[w.heap.size + 1 + 1 + 1 + 1]? = W.heap[w.heap.size + 1 + 1 + 1 + 1]? := hO1.block _ (by omega)
        refine ⟨hO1.keepsOthers HR.out, World.cell?_of_block hb1, ⟨⟨.slice (some ⟨g, 0, none⟩) out.length cap, ?_, ?_, ⟨g, cap, ?_⟩⟩, ?_, ?_⟩, ⟨HN.out, hb1.trans HK.out.2.1⟩, HK.out.2.2.trans (hO1.below (by omega))⟩
        · exact (hO1.block _ (by omega)).trans HL.out.1
        · rw [hst]
          exact hO1.row HR.out (by decide) HL.out.2
        · rw [hst]
        · exact (hO1.block _ (by omega)).trans HM.out
        · rw [hst]
          exact hR1
      | some n =>
        dsimp only [Option.getD, Option.isSome] at htake
        gi_wp2_with first
          | (refine ⟨trivial, ?_⟩; gi_at_call 48; refine (CallsIn.inRound l (callsIn_wide.2 htake)).mono ?_; rintro e w1 ⟨rfl, hR1, hO1⟩; have bL1 : Boxed w1 (w.heap.size + 1 + 1) 22 (.slice (some ⟨g, 0, none⟩) out.length cap) := (hO1.block _ (by omega)).trans HL.out.1; have rL1 := hO1.row HR.out (by decide) HL.out.2; have cL1 := bL1.cell; have hsz : w.heap.size + 1 ≤ w1.heap.size := by have := bL1.lt; omega)
          | (gi_at_builtin; refine wpListIn_append_own _ rfl _ _ 22 rfl (w.heap.size + 1) 3 i0 (.int .i64 0) 1 8 Try.underlying22 hi hz0 hz1 hz2 rfl (by decide) _ _ _ rfl (rL1.alloc _) ⟨w1.heap.size, 0, none⟩ 1 1 [.int .i64 (n : Int)] rfl rfl (cell_one_new _ _ _) (by simp [Value.oneCell']) (by have := HLE.out; unfold maxLen; omega) (by have := HLE.out; omega) (by simp; omega) ?_; intro v' w2 hown' hgrow _; obtain ⟨g', cap', rfl⟩ := ownsRow_succ hown'; obtain ⟨hv1, hv2, hr2, hk2, hb2⟩ := bL1.appended (by decide) rL1 hsz (by omega) hown' hgrow; have hc1 := hv1.cell; have hf1 := hv1.frozen)
        have hst : runT kn (pre ++ [x]) = (st', out ++ [n]) := by rw [HS0.out]; simp [stepT, HTK.out]
        have hb1 : w1.heap[w.heap.size + 1 + 1 + 1 + 1]? = W.heap[w.heap.size + 1 + 1 + 1 + 1]? := hO1.block _ (by omega)
        have hb3 := append_other (B := w.heap.size + 1 + 1) (v' := .slice (some ⟨g', 0, none⟩) (out.length + 1) cap') (hb1.trans HK.out.2.1) (by decide) rL1 hgrow (by omega)
        have hb4 := append_other (B := w.heap.size + 1 + 1) (v' := .slice (some ⟨g', 0, none⟩) (out.length + 1) cap') hR1 (by decide) rL1 hgrow (by omega)
        refine ⟨(hO1.keepsOthers HR.out).trans hk2, World.cell?_of_block (hb3.trans hb1), ⟨⟨_, hv2, ?_, ⟨g', cap', ?_⟩⟩, ?_, ?_⟩, ⟨HN.out, hb3.trans (hb1.trans HK.out.2.1)⟩, (HK.out.2.2.trans (hO1.below (by omega))).trans (hb2.mono (by omega))⟩
        · rw [hst]
          simpa [intCells] using hr2
        · rw [hst]
          simp
        · exact (hb2.block _ (by omega)).trans ((hO1.block _ (by omega)).trans HM.out)
        · rw [hst]
          exact hb4.trans hR1
  case done =>
    rintro D ys W hD rfl ⟨⟨⟨v, bL, rL, g, cap, rfl⟩, bM, hR⟩, ⟨hO, hT⟩, hB⟩ hK
    have cL := bL.cell
    gi_wp2
    refine ⟨by simp, .inl ⟨_, _, rfl, run_takeDeferred hK, ?_⟩⟩
    refine ⟨_, results_tmp rfl _ _ _, _, rfl, ?_, hB.trans (belowK_b (w := w) (Nat.le_refl _) W D _ _ (by omega) hK rfl rfl)⟩
    have e : readT kn mn (unpack s.data.toList) (0, false, 0) [] = (runT kn (bitsTo s (8 * s.size))).2 := by rw [unpack_bits]; exact openT_end hO
    rw [e]
    exact ⟨⟨g, cap, rfl⟩, ownsRow_putObj (ownsRow_mono rL (Nat.le_succ _)) _ hK rfl⟩
  case stop =>
    rintro D c pre W hD ⟨q, hq, rfl⟩ ⟨⟨v, bL, rL, g, cap, rfl⟩, ⟨rfl, hO, hfull⟩, hB⟩ hK
    have cL := bL.cell
    have HF : Hid ((runT kn (bitsTo s q).dropLast).2.length = mn) := hfull
    clear hfull
    gi_wp2
    refine ⟨by simp, .inl ⟨_, _, rfl, run_takeDeferred hK, ?_⟩⟩
    refine ⟨_, results_tmp rfl _ _ _, _, rfl, ?_, hB.trans (belowK_b (w := w) (Nat.le_refl _) W D _ _ (by omega) hK rfl rfl)⟩
    have e : readT kn mn (unpack s.data.toList) (0, false, 0) [] = (runT kn (bitsTo s q).dropLast).2 := by
      obtain ⟨rest, hr⟩ := bitsTo_split s (q - 1) (by omega)
      have hd : (bitsTo s q).dropLast = bitsTo s (q - 1) := by
        cases q with
        | zero => rfl
        | succ q => rw [bitsTo_succ, List.dropLast_concat]; rfl
      have hfull := HF.out
      rw [hd] at hO hfull ⊢
      rw [hr]
      exact openT_full hO hfull rest
    rw [e]
    exact ⟨⟨g, cap, rfl⟩, ownsRow_putObj (ownsRow_mono rL (Nat.le_succ _)) _ hK rfl⟩

end Go.Proofs.Yteihpdnbehnnhaa

set_option linter.unusedVariables false
namespace Go.Proofs.Yteihpdnbehnnhaa
open Go.Shelf Go.RowKit

theorem sizeBuilderR : (Try.prog.info? 46).map (fun i => i.size) = some 2 := by kernel_rfl
theorem liesWriter : liesAt Try.prog Try.prog.depth 48 (4 / Try.prog.cellsOf 48) 0 46 1 = true := by kernel_rfl
theorem infoByteR : (Try.prog.info? 5).map (fun i => (i.zero, i.size, i.bytes)) = some (some (.int .u8 0), 1, 1) := by kernel_rfl

/-- The writer's block. -/
def WAt (b : Nat) (p v x y : Value) (w : World) : Prop := w.heap[b]? = some (.cells #[p, v, x, y] 48 (0, 0))
theorem WAt.c0 {b : Nat} {p v x y : Value} {w : World} (h : WAt b p v x y w) : w.cell? ⟨b, 0, none⟩ = some p := by rw [Lib.cell_of_heap h]; rfl
theorem WAt.c1 {b : Nat} {p v x y : Value} {w : World} (h : WAt b p v x y w) : w.cell? ⟨b, 1, none⟩ = some v := by rw [Lib.cell_of_heap h]; rfl
theorem WAt.c2 {b : Nat} {p v x y : Value} {w : World} (h : WAt b p v x y w) : w.cell? ⟨b, 2, none⟩ = some x := by rw [Lib.cell_of_heap h]; rfl
theorem WAt.c3 {b : Nat} {p v x y : Value} {w : World} (h : WAt b p v x y w) : w.cell? ⟨b, 3, none⟩ = some y := by rw [Lib.cell_of_heap h]; rfl
theorem WAt.fz {b : Nat} {p v x y : Value} {w : World} (h : WAt b p v x y w) (i : Nat) : w.frozen? ⟨b, i, none⟩ = false := Lib.frozen_of_heap h i
theorem WAt.lt {b : Nat} {p v x y : Value} {w : World} (h : WAt b p v x y w) : b < w.heap.size := by
  rcases Nat.lt_or_ge b w.heap.size with h' | h'
  · exact h'
  · simp [WAt, Array.getElem?_eq_none h'] at h
theorem WAt.set0 {b : Nat} {p v x y : Value} {w : World} (h : WAt b p v x y w) (u : Value) : WAt b u v x y (w.setCell ⟨b, 0, none⟩ u) := by
  unfold WAt at h ⊢
  simp only [World.setCell, Array.getElem?_modify, h]
  simp
theorem WAt.set1 {b : Nat} {p v x y : Value} {w : World} (h : WAt b p v x y w) (u : Value) : WAt b p u x y (w.setCell ⟨b, 1, none⟩ u) := by
  unfold WAt at h ⊢
  simp only [World.setCell, Array.getElem?_modify, h]
  simp
theorem WAt.set2 {b : Nat} {p v x y : Value} {w : World} (h : WAt b p v x y w) (u : Value) : WAt b p v u y (w.setCell ⟨b, 2, none⟩ u) := by
  unfold WAt at h ⊢
  simp only [World.setCell, Array.getElem?_modify, h]
  simp
theorem WAt.set3 {b : Nat} {p v x y : Value} {w : World} (h : WAt b p v x y w) (u : Value) : WAt b p v x u (w.setCell ⟨b, 3, none⟩ u) := by
  unfold WAt at h ⊢
  simp only [World.setCell, Array.getElem?_modify, h]
  simp
theorem WAt.drew {b : Nat} {p v x y : Value} {w : World} (h : WAt b p v x y w) : WAt b p v x y w.drew := h

/-- A row of bytes that the call has made stands, whatever is written into another block. -/
theorem ownsRow_setCell {base : Nat} {e : TypeId} {v : Value} {n : Nat} {xs : List Value} {w : World} (h : w.ownsRow base e 1 v n xs) (b i : Nat) (u : Value) (hne : v.ownBlock ≠ some b) : (w.setCell ⟨b, i, none⟩ u).ownsRow base e 1 v n xs := by
  refine ⟨h.1, ?_⟩
  rcases h.2 with h2 | ⟨g, cap, cur, hv, h2⟩
  · exact .inl h2
  · refine .inr ⟨g, cap, cur, hv, h2.1, ?_, h2.2.2⟩
    have : g ≠ b := by
      intro he
      rw [hv] at hne
      exact hne (by simp [Value.ownBlock, he])
    rw [Below.heap_setCell w ⟨b, i, none⟩ u g this]
    exact h2.2.1

/-- The writer: its bytes so far, and the two cells behind the builder. -/
def WB (B b : Nat) (o : List UInt8) (x y : Value) (w : World) : Prop :=
  B ≤ b ∧ ∃ p v, (p = .pointer none ∨ p = .pointer (some ⟨b, 0, none⟩)) ∧ WAt b p v x y w ∧ w.ownsRow B 5 1 v o.length (Lib.byteCells o) ∧ v.ownBlock ≠ some b ∧ (o = [] → v = .slice none 0 0)
theorem WB.lt {B b : Nat} {o : List UInt8} {x y : Value} {w : World} (h : WB B b o x y w) : b < w.heap.size := by
  obtain ⟨_, p, v, _, h, _⟩ := h; exact h.lt
theorem WB.set2 {B b : Nat} {o : List UInt8} {x y : Value} {w : World} (h : WB B b o x y w) (u : Value) : WB B b o u y (w.setCell ⟨b, 2, none⟩ u) := by
  obtain ⟨hB, p, v, hp, hw, ho, hne, h0⟩ := h
  exact ⟨hB, p, v, hp, hw.set2 u, ownsRow_setCell ho b 2 u hne, hne, h0⟩
theorem WB.set3 {B b : Nat} {o : List UInt8} {x y : Value} {w : World} (h : WB B b o x y w) (u : Value) : WB B b o x u (w.setCell ⟨b, 3, none⟩ u) := by
  obtain ⟨hB, p, v, hp, hw, ho, hne, h0⟩ := h
  exact ⟨hB, p, v, hp, hw.set3 u, ownsRow_setCell ho b 3 u hne, hne, h0⟩
theorem WB.drew {B b : Nat} {o : List UInt8} {x y : Value} {w : World} (h : WB B b o x y w) : WB B b o x y w.drew := h

set_option maxHeartbeats 1000000 in
set_option maxRecDepth 100000 in
theorem copyCheck_usedW (b : Nat) (w : World) (h0 : w.cell? ⟨b, 0, none⟩ = some (.pointer (some ⟨b, 0, none⟩))) :
    Calls Try.prog 62 #[.pointer (some ⟨b, 0, none⟩)] w fun e w' => e = .returned (.tuple #[]) ∧ w' = w := by
  obtain ⟨j, hj, _⟩ := Option.map_eq_some_iff.1 sizeBuilderR
  go_enter Try.func62, Try.ntmps62
  go_wp2
  rw [Lib.run_neq_ptr_same w _ Try.underlying44 hj]
  go_wp2
  go_end0
  exact ⟨rfl, rfl⟩

set_option maxHeartbeats 1000000 in
set_option maxRecDepth 100000 in
theorem copyCheck_freshW (b : Nat) (w : World) (h0 : w.cell? ⟨b, 0, none⟩ = some (.pointer none)) (hsh : w.shape? b = some (48, 4)) (hfz : w.frozen? ⟨b, 0, none⟩ = false) :
    Calls Try.prog 62 #[.pointer (some ⟨b, 0, none⟩)] w fun e w' => e = .returned (.tuple #[]) ∧ w' = w.setCell ⟨b, 0, none⟩ (.pointer (some ⟨b, 0, none⟩)) := by
  obtain ⟨j, hj, hjs⟩ := Option.map_eq_some_iff.1 sizeBuilderR
  go_enter Try.func62, Try.ntmps62
  go_wp2
  rw [Lib.run_to_unsafe w ⟨b, 0, none⟩ Try.underlying44 Try.underlying100 hj (by rw [hjs]; decide) hsh (Nat.zero_lt_succ 3)]
  simp only [Result.andThen]
  rw [Oper.upon_value]
  go_wp2
  rw [run_callFunc_extern Try.func73 (by kernel_rfl) (by kernel_rfl) (by kernel_rfl) (e := Extern.AbiNoEscape.same) (by kernel_rfl)]
  rw [Lib.run_noEscape]
  simp only [Result.andThen]
  rw [Oper.upon_value]
  go_wp2
  rw [Lib.run_from_unsafe w ⟨b, 0, none⟩ Try.underlying100 Try.underlying44 hj hsh liesWriter]
  simp only [Result.andThen]
  rw [Oper.upon_value]
  go_wp2
  go_end0
  exact ⟨rfl, rfl⟩

theorem copyCheckW (B b : Nat) (p v x y : Value) (n : Nat) (xs : List Value) (w : World) (hB : B ≤ b) (hp : p = .pointer none ∨ p = .pointer (some ⟨b, 0, none⟩)) (h : WAt b p v x y w) (ho : w.ownsRow B 5 1 v n xs) (hne : v.ownBlock ≠ some b) :
    Calls Try.prog 62 #[.pointer (some ⟨b, 0, none⟩)] w fun e w' => e = .returned (.tuple #[]) ∧ WAt b (.pointer (some ⟨b, 0, none⟩)) v x y w' ∧ w'.ownsRow B 5 1 v n xs ∧ Below B w w' ∧ w'.heap.size = w.heap.size := by
  rcases hp with rfl | rfl
  · refine (copyCheck_freshW b w h.c0 (by unfold WAt at h; simp [World.shape?, h]) (h.fz 0)).mono ?_
    rintro e w' ⟨rfl, rfl⟩
    exact ⟨rfl, h.set0 _, ownsRow_setCell ho b 0 _ hne, (Below.refl B w).setCell (p := ⟨b, 0, none⟩) hB _, by simp [World.setCell]⟩
  · refine (copyCheck_usedW b w h.c0).mono ?_
    rintro e w' ⟨rfl, rfl⟩
    exact ⟨rfl, h, ho, Below.refl B _, rfl⟩

set_option maxHeartbeats 2000000 in
set_option maxRecDepth 100000 in
theorem writeByteW (B b : Nat) (o : List UInt8) (c : UInt8) (x y : Value) (w : World) (h : WB B b o x y w) (hlen : o.length + 1 ≤ 140737488355328) :
    Calls Try.prog 55 #[.pointer (some ⟨b, 0, none⟩), .int .u8 (c.toNat : Int)] w fun e w' => e = .returned .nilIface ∧ WB B b (o ++ [c]) x y w' ∧ Below B w w' := by
  obtain ⟨i0, hi, hz0, hz1, hz2⟩ := info_parts infoByteR
  obtain ⟨hB, p, v, hp, hw, ho, hne, _⟩ := h
  have hlt := hw.lt
  go_enter Try.func55, Try.ntmps55
  go_wp2_with (go_at_call 62; refine (copyCheckW B b p v x y o.length (Lib.byteCells o) _ hB hp hw ho hne).mono ?_)
  rintro e w1 ⟨rfl, hw1, ho1, hb1, hs1⟩
  have Hs1 : Hid (w1.heap.size = w.heap.size) := hs1
  have Hw1 : Hid (WAt b (.pointer (some ⟨b, 0, none⟩)) v x y w1) := hw1
  have c0 := hw1.c0
  have c1 := hw1.c1
  clear hs1 hw hw1 ho
  go_wp2_with (at_builtin; refine wp_app1 rfl _ _ 31 rfl B 5 i0 (.int .u8 0) 1 Try.underlying31 hi hz0 hz1 hz2 rfl _ o.length (Lib.byteCells o) rfl ho1 (.int .u8 (c.toNat : Int)) rfl rfl ?c3 ?c4 ?c5 ?_)
  case c3 => unfold maxLen; omega
  case c4 => omega
  case c5 => rw [Hs1.out]; omega
  intro g cap w2 hown hb2 hoth
  have hw2 : WAt b (.pointer (some ⟨b, 0, none⟩)) v x y w2 := by
    unfold WAt
    rw [hoth b (by rw [Hs1.out]; exact hlt) hne]
    exact Hw1.out
  have d0 := hw2.c0
  have d1 := hw2.c1
  have f1 := hw2.fz 1
  have HW2 : Hid (WAt b (.pointer (some ⟨b, 0, none⟩)) v x y w2) := hw2
  have hgb : g ≠ b := by
    intro he
    rcases hown.2 with ⟨h1, _⟩ | ⟨g', cap', cur, hv, _, hc, _⟩
    · cases h1
    · simp only [Value.slice.injEq, Option.some.injEq, Addr.mk.injEq, and_true, true_and] at hv
      obtain ⟨rfl, _⟩ := hv
      rw [he] at hc
      rw [HW2.out] at hc
      simp only [Option.some.injEq, Obj.cells.injEq] at hc
      exact absurd hc.2.1 (by decide)
  have HO : Hid (w2.ownsRow B 5 1 (.slice (some ⟨g, 0, none⟩) (o.length + 1) cap) (o.length + 1) (Lib.byteCells o ++ [.int .u8 (c.toNat : Int)])) := hown
  have HB2 : Hid (Below B w1 w2) := hb2
  clear hw2 hown hoth hb2
  go_wp2
  go_ret
  have hne2 : (Value.slice (some ⟨g, 0, none⟩) (o.length + 1) cap).ownBlock ≠ some b := by simp [Value.ownBlock, hgb]
  refine ⟨rfl, ⟨hB, _, _, .inr rfl, HW2.out.set1 _, ?_, hne2, fun h => by simp at h⟩, (hb1.trans HB2.out).setCell (p := ⟨b, 1, none⟩) hB _⟩
  have := ownsRow_setCell HO.out b 1 (.slice (some ⟨g, 0, none⟩) (o.length + 1) cap) hne2
  simpa [Lib.byteCells] using this

theorem cellsByte : Try.prog.cellsOf 5 = 1 := by kernel_rfl

set_option maxHeartbeats 2000000 in
set_option maxRecDepth 100000 in
theorem stringW (B b : Nat) (o : List UInt8) (x y : Value) (w : World) (h : WB B b o x y w) :
    Calls Try.prog 30 #[.pointer (some ⟨b, 0, none⟩)] w fun e w' => e = .returned (.string ⟨o.toArray⟩) ∧ Below B w w' := by
  obtain ⟨hB, p, v, hp, hw, ho, hne, h0⟩ := h
  by_cases he : o = []
  · have hv := h0 he
    subst hv
    subst he
    have hUS : ∀ (W : World) (q : Option Addr), (Builtin.unsafeString_ #[71, 3] 9 #[.pointer q, .int .i64 0]).run Try.prog W = .ok (.string .empty) W := fun W q => Lib.run_unsafeString_none W _ _ _ q
    have c1 : w.drew.cell? ⟨b, 1, none⟩ = some (.slice none 0 0) := hw.c1
    have hSD : (Builtin.unsafeSliceData_ #[31] 71 #[.slice none 0 0]).run Try.prog w.drew = .ok (.pointer none) w.drew := rfl
    go_enter Try.func30, Try.ntmps30
    go_wp2
    go_region
    all_goals (go_wp2; go_ret; exact ⟨rfl, Below.drew (Below.refl B w)⟩)
  · have hl0 : o.length ≠ 0 := by simpa using he
    obtain ⟨g, cap, cur, rfl, hbg, hg, hnc, hcm, hcs, htake⟩ : ∃ g cap cur, v = .slice (some ⟨g, 0, none⟩) o.length cap ∧ B ≤ g ∧ w.heap[g]? = some (.cells cur 5 (0, 0)) ∧ o.length ≤ cap ∧ cap ≤ maxLen ∧ cur.size = cap * 1 ∧ cur.toList.take (o.length * 1) = Lib.byteCells o := by
      rcases ho.2 with ⟨_, hz⟩ | ⟨g, cap, cur, hv, r⟩
      · exact absurd hz hl0
      · exact ⟨g, cap, cur, hv, r⟩
    have c1 : w.drew.cell? ⟨b, 1, none⟩ = some (.slice (some ⟨g, 0, none⟩) o.length cap) := hw.c1
    have hSD : (Builtin.unsafeSliceData_ #[31] 71 #[.slice (some ⟨g, 0, none⟩) o.length cap]).run Try.prog w.drew = .ok (.pointer (some ⟨g, 0, none⟩)) w.drew :=
      Lib.run_unsafeSliceData_row _ _ _ _ _ _ (by omega)
    have hUS : (Builtin.unsafeString_ #[71, 3] 9 #[.pointer (some ⟨g, 0, none⟩), .int .i64 o.length]).run Try.prog w.drew = .ok (.string ⟨o.toArray⟩) (w.drew.freeze ⟨g, 0, none⟩ o.length) := by
      refine Lib.run_unsafeString_row w.drew 71 3 9 5 Try.underlying71 cellsByte g cur.size (by have hg' : w.drew.heap[g]? = some (.cells cur 5 (0, 0)) := hg; simp [World.shape?, hg']) o he (by omega) (by unfold maxLen at hcm; omega) ?_
      intro j z hz
      have hj : j < o.length := by
        rcases Nat.lt_or_ge j o.length with h' | h'
        · exact h'
        · simp [List.getElem?_eq_none h'] at hz
      have hg' : w.drew.heap[g]? = some (.cells cur 5 (0, 0)) := hg
      have hcell : w.drew.cell? ⟨g, j, none⟩ = cur[j]? := Lib.cell_of_heap hg' j
      have h3 : cur.toList[j]? = (Lib.byteCells o)[j]? := by rw [← htake, List.getElem?_take]; simp [hj]
      have : w.drew.cell? ⟨g, j, none⟩ = some (.int .u8 z.toNat) := by
        rw [hcell, ← Array.getElem?_toList, h3]
        simp [Lib.byteCells, hz]
      rw [Addr.add_mid, Nat.zero_add]
      exact this
    have HB : Hid (Below B w (w.drew.freeze ⟨g, 0, none⟩ o.length)) := Lib.below_freeze (Below.drew (Below.refl B w)) (p := ⟨g, 0, none⟩) hbg _
    clear hw ho htake hcs hg
    go_enter Try.func30, Try.ntmps30
    go_wp2
    go_region
    all_goals (go_wp2; go_ret; exact ⟨rfl, HB.out⟩)

end Go.Proofs.Yteihpdnbehnnhaa

set_option linter.unusedVariables false
namespace Go.Proofs.Yteihpdnbehnnhaa
open Go.RowKit

def WR (B b : Nat) (s : List UInt8 × List Nat) (w : World) : Prop := WB B b s.1 (.int .u8 (valB s.2 : Int)) (.int .i64 (s.2.length : Int)) w

theorem or8 (q b : Nat) (hq : q < 128) (hb : b ≤ 1) : bits .or .u8 ((q : Int) * 2 % 256) (b : Int) = ((q * 2 + b : Nat) : Int) := by
  have e : (q : Int) * 2 % 256 = ((q * 2 : Nat) : Int) := by omega
  rw [e, (bits_nat .u8 8 (by decide) (fun m h0 h1 => by rw [IntKind.wrap_u8]; omega) (q * 2) b (by omega) (by omega)).2]
  have := (Nat.two_pow_add_eq_or_of_lt (i := 1) (by omega : b < 2 ^ 1) q).symm
  rw [show (2 : Nat) ^ 1 * q = q * 2 from by omega] at this
  rw [this]
theorem writeByteN (B b : Nat) (o : List UInt8) (v : Nat) (hv : v < 256) (x y : Value) (w : World) (h : WB B b o x y w) (hlen : o.length + 1 ≤ 140737488355328) :
    Calls Try.prog 55 #[.pointer (some ⟨b, 0, none⟩), .int .u8 (v : Int)] w fun e w' => e = .returned .nilIface ∧ WB B b (o ++ [UInt8.ofNat v]) x y w' ∧ Below B w w' := by
  have := writeByteW B b o (UInt8.ofNat v) x y w h hlen
  rw [show ((UInt8.ofNat v).toNat : Int) = (v : Int) from by simp; omega] at this
  exact this

set_option maxHeartbeats 1000000 in
set_option maxRecDepth 100000 in
theorem bitI (B b : Nat) (s : List UInt8 × List Nat) (bit : Nat) (w : World) (h : WR B b s w) (hok : okB s) (hb : bit ≤ 1) (hlen : s.1.length + 1 ≤ 140737488355328) :
    Calls Try.prog 45 #[.pointer (some ⟨b, 0, none⟩), .int .i64 (bit : Int)] w fun e w' => e = .returned (.tuple #[]) ∧ WR B b (stepB s bit) w' ∧ Below B w w' := by
  obtain ⟨o, l⟩ := s
  have hv := valB_lt l hok.2
  have hl8 : l.length < 8 := hok.1
  have HWB : Hid (WB B b o (.int .u8 (valB l : Int)) (.int .i64 (l.length : Int)) w) := h
  have hB := h.1
  obtain ⟨_, p, v, hp, hw, ho, hne⟩ := h
  have c2 := hw.c2
  have c3 := hw.c3
  have f2 := hw.fz 2
  have f3 := hw.fz 3
  clear hw ho hne hp
  have hsn := valB_snoc l bit
  have hq : valB l < 128 := by
    have : 2 ^ l.length ≤ 2 ^ 7 := Nat.pow_le_pow_right (by decide) (by omega)
    omega
  have ror := or8 (valB l) bit hq hb
  rw [← hsn] at ror
  have HV : Hid (valB (l ++ [bit]) < 256) := by show _ < _; rw [hsn]; omega
  generalize hqv : valB l = q at c2 ror HWB
  have HVV : Hid (∃ u, u = valB (l ++ [bit])) := ⟨_, rfl⟩
  obtain ⟨u, hu⟩ := HVV.out
  rw [← hu] at ror HV
  have HU : Hid (u = valB (l ++ [bit])) := hu
  clear hsn hu HVV hqv hv
  by_cases h7 : l.length = 7
  · have HS : Hid (stepB (o, l) bit = (o ++ [UInt8.ofNat u], [])) := by
      show _ = _
      rw [HU.out]
      simp [stepB, h7]
    have c3' : w.cell? ⟨b, 3, none⟩ = some (.int .i64 7) := by rw [c3, h7]; rfl
    rw [h7] at HWB
    clear c3 h7
    go_enter Try.func45, Try.ntmps45
    go_wp2_with fail
    have HW1 : Hid (WB B b o (.int .u8 (u : Int)) (.int .i64 8) ((w.setCell ⟨b, 2, none⟩ (.int .u8 (u : Int))).setCell ⟨b, 3, none⟩ (.int .i64 8))) := (HWB.out.set2 _).set3 _
    have HB1 : Hid (Below B w ((w.setCell ⟨b, 2, none⟩ (.int .u8 (u : Int))).setCell ⟨b, 3, none⟩ (.int .i64 8))) := ((Below.refl B w).setCell (p := ⟨b, 2, none⟩) hB _).setCell (p := ⟨b, 3, none⟩) hB _
    go_region_with (go_at_call 55; refine (writeByteN B b o u HV.out (.int .u8 (u : Int)) (.int .i64 8) _ ?_ hlen).mono ?_; exact HW1.out.drew; rintro e w2 ⟨rfl, hw2, hb2⟩)
    all_goals
      obtain ⟨_, p2, v2, hp2, hwa2, ho2, hne2⟩ := id hw2
      have d2 := hwa2.fz 2
      have d3 := hwa2.fz 3
      have e2 := hwa2.c2
      have e3 := hwa2.c3
      have HW2 : Hid (WB B b (o ++ [UInt8.ofNat u]) (.int .u8 (u : Int)) (.int .i64 8) w2) := hw2
      have HB2 : Hid (Below B w w2) := HB1.out.drew.trans hb2
      clear hwa2 ho2 hne2 hp2 hw2 hb2 HB1 HW1
      go_wp2_with fail
      go_end0
      refine ⟨rfl, ?_, (HB2.out.setCell (p := ⟨b, 2, none⟩) hB _).setCell (p := ⟨b, 3, none⟩) hB _⟩
      rw [HS.out]
      exact (HW2.out.set2 _).set3 _
  · have HS : Hid (stepB (o, l) bit = (o, l ++ [bit])) := by
      show _ = _
      simp [stepB, h7]
    obtain ⟨m, hm⟩ : ∃ m : Nat, m = l.length := ⟨_, rfl⟩
    rw [← hm] at c3 HWB h7
    have HM : Hid (m = l.length) := hm
    have hm7 : m < 7 := by omega
    clear hm hl8 h7
    go_enter Try.func45, Try.ntmps45
    go_wp2_with fail
    go_end0
    refine ⟨rfl, ?_, ((Below.refl B w).setCell (p := ⟨b, 2, none⟩) hB _).setCell (p := ⟨b, 3, none⟩) hB _⟩
    rw [HS.out]
    show WB B b o (.int .u8 ((valB (l ++ [bit]) : Nat) : Int)) (.int .i64 (((l ++ [bit]).length : Nat) : Int)) _
    rw [← HU.out, List.length_append, ← HM.out]
    exact (HWB.out.set2 _).set3 _

end Go.Proofs.Yteihpdnbehnnhaa

set_option linter.unusedVariables false
namespace Go.Proofs.Yteihpdnbehnnhaa
open Go.RowKit

set_option maxHeartbeats 1000000 in
set_option maxRecDepth 100000 in
theorem numberI (B b : Nat) (s : List UInt8 × List Nat) (n k : Nat) (w : World) (h : WR B b s w) (hok : okB s) (hn : n ≤ 60000) (hk : k ≤ 8) (hlen : s.1.length ≤ 1000000000) :
    Calls Try.prog 28 #[.pointer (some ⟨b, 0, none⟩), .int .i64 (n : Int), .int .i64 (k : Int)] w fun e w' => e = .returned (.tuple #[]) ∧ WR B b (runB s (numB k n)) w' ∧ Below B w w' := by
  obtain ⟨N, hN⟩ : ∃ N : Nat, N = n / 2 ^ k := ⟨_, rfl⟩
  have hNn : N ≤ 60000 := by rw [hN]; exact Nat.le_trans (Nat.div_le_self _ _) hn
  have HF : Hid (runB s (List.replicate N 1 ++ 0 :: lowB n k) = runB s (numB k n)) := by show _ = _; rw [hN]; rfl
  obtain ⟨F, hF⟩ : ∃ F, F = runB s (numB k n) := ⟨_, rfl⟩
  rw [← hF] at HF ⊢
  have rsh : (n : Int) / 2 ^ k = (N : Int) := by rw [hN]; simp
  clear hF hN
  go_enter Try.func28, Try.ntmps28
  have HS : Hid (WR B b s w ∧ okB s ∧ s.1.length ≤ 1000000000) := ⟨h, hok, hlen⟩
  clear h hok hlen
  go_wp2_with fail
  go_loopw [10] (fun i wr => ∃ (j : Nat) (c : List UInt8 × List Nat), j ≤ N ∧ i = .int .i64 (j : Int) ∧ Hid (runB c (List.replicate (N - j) 1 ++ 0 :: lowB n k) = F) ∧ Hid (okB c) ∧ Hid (c.1.length ≤ 1000000000 + j) ∧ Hid (WR B b c wr) ∧ Hid (Below B w wr)) (fun i _ => N - (intOf i).toNat)
  case atStart => exact ⟨0, s, by omega, rfl, HF, HS.out.2.1, HS.out.2.2, HS.out.1, Below.refl B w⟩
  case round =>
    obtain ⟨j, c, hj, rfl, HF, HO, HL, HW, HB⟩ := hrel
    by_cases hlt : j < N
    · go_wp2_with fail
      refine (bitI B b c 1 _ HW.out HO.out (by omega) (by have := HL.out; omega)).mono ?_
      rintro e w1 ⟨rfl, hw1, hb1⟩
      have HW1 : Hid (WR B b (stepB c 1) w1) := hw1
      have HB1 : Hid (Below B w w1) := HB.out.trans hb1
      clear hw1 hb1
      go_wp2_with fail
      go_roundw
      case rel =>
        refine ⟨j + 1, stepB c 1, by omega, by go_num, ?_, stepB_ok HO.out (by omega), ?_, HW1, HB1⟩
        · show _ = _
          rw [← HF.out, show N - j = (N - (j + 1)) + 1 from by omega, List.replicate_succ]
          rfl
        · have h1 := stepB_len c 1
          have h2 := HL.out
          show _ ≤ _
          omega
      case measure => simp [intOf]; omega
    · have HF1 : Hid (runB (stepB c 0) (lowB n k) = F) := by
        show _ = _
        rw [← HF.out, show N - j = 0 from by omega]
        rfl
      go_wp2_with fail
      refine (bitI B b c 0 _ HW.out HO.out (by omega) (by have := HL.out; omega)).mono ?_
      rintro e w1 ⟨rfl, hw1, hb1⟩
      have HW1 : Hid (WR B b (stepB c 0) w1) := hw1
      have HB1 : Hid (Below B w w1) := HB.out.trans hb1
      have HO1 : Hid (okB (stepB c 0)) := stepB_ok HO.out (by omega)
      have HL1 : Hid ((stepB c 0).1.length ≤ 1000000000 + 60001) := by
        have h1 := stepB_len c 0
        have h2 := HL.out
        show _ ≤ _
        omega
      clear hw1 hb1 HF HW HB HO HL
      obtain ⟨c1, hc1⟩ : ∃ c1, c1 = stepB c 0 := ⟨_, rfl⟩
      rw [← hc1] at HF1 HW1 HO1 HL1
      clear hc1 rsh hj hlt
      go_wp2_with fail
      go_loopw [6] (fun i wr => ∃ (r : Nat) (x : Int) (c : List UInt8 × List Nat), r ≤ k ∧ i = .int .i64 x ∧ Hid (x = (r : Int) - 1) ∧ Hid (runB c (lowB n r) = F) ∧ Hid (okB c) ∧ Hid (c.1.length ≤ 1000070001 - r) ∧ Hid (WR B b c wr) ∧ Hid (Below B w wr)) (fun i _ => (intOf i + 1).toNat)
      case atStart => exact ⟨k, _, c1, by omega, rfl, rfl, HF1, HO1, by have := HL1.out; show _ ≤ _; omega, HW1, HB1⟩
      case round =>
        clear HF1 HO1 HL1 HW1 HB1
        obtain ⟨r, x, c, hr, rfl, HX, HF, HO, HL, HW, HB⟩ := hrel
        rcases r with _ | m
        · have hx : ¬ (0 : Int) ≤ x := by have := HX.out; omega
          have HE : Hid (c = F) := HF.out
          go_wp2_with fail
          go_end0
          rw [← HE.out]
          exact ⟨rfl, HW.out, HB.out⟩
        · obtain rfl : x = (m : Int) := by have := HX.out; omega
          obtain ⟨q, hq⟩ : ∃ q : Nat, q = n / 2 ^ m := ⟨_, rfl⟩
          have rq : (n : Int) / 2 ^ m = (q : Int) := by rw [hq]; simp
          have hqn : q ≤ 60000 := by rw [hq]; exact Nat.le_trans (Nat.div_le_self _ _) hn
          obtain ⟨bt, hbt⟩ : ∃ bt : Nat, bt = q % 2 := ⟨_, rfl⟩
          have hb1 : bt ≤ 1 := by omega
          have rb : bits .and .i64 (q : Int) 1 = (bt : Int) := by
            have := (bits_nat .i64 63 (by decide) (fun m h0 h1 => by rw [IntKind.wrap_i64]; omega) q 1 (by omega) (by omega)).1
            rw [Nat.and_one_is_mod, ← hbt] at this
            exact this
          have rb2 : (q : Int) % 2 = (bt : Int) := by omega
          have HF2 : Hid (runB (stepB c bt) (lowB n m) = F) := by
            show _ = _
            rw [← HF.out, hbt, hq]
            rfl
          have hm0 : (0 : Int) ≤ (m : Int) := by omega
          clear hq hbt HX
          go_wp2_with fail
          refine (bitI B b c bt _ HW.out HO.out hb1 (by have := HL.out; omega)).mono ?_
          rintro e w2 ⟨rfl, hw2, hb2⟩
          have HW2 : Hid (WR B b (stepB c bt) w2) := hw2
          have HB2 : Hid (Below B w w2) := HB.out.trans hb2
          clear hw2 hb2
          go_wp2_with fail
          go_roundw
          case rel =>
            refine ⟨m, _, stepB c bt, by omega, rfl, ?_, HF2, stepB_ok HO.out hb1, ?_, HW2, HB2⟩
            · show _ = _
              first | rfl | omega
            · have h1 := stepB_len c bt
              have h2 := HL.out
              show _ ≤ _
              omega
          case measure => simp [intOf]

end Go.Proofs.Yteihpdnbehnnhaa

set_option linter.unusedVariables false
namespace Go.Proofs.Yteihpdnbehnnhaa
open Go.RowKit

def manyOf (b : Nat) (w : World) : Nat := match w.cell? ⟨b, 3, none⟩ with
  | some (.int _ z) => if z = 0 then 0 else (8 - z).toNat
  | _ => 0
theorem manyOf_eq {b : Nat} {w : World} {m : Nat} (h : w.cell? ⟨b, 3, none⟩ = some (.int .i64 (m : Int))) : manyOf b w = if m = 0 then 0 else 8 - m := by
  simp only [manyOf, h]
  by_cases h0 : m = 0
  · simp [h0]
  · rw [if_neg (by omega), if_neg h0]; omega
theorem WR.c3 {B b : Nat} {s : List UInt8 × List Nat} {w : World} (h : WR B b s w) : w.cell? ⟨b, 3, none⟩ = some (.int .i64 (s.2.length : Int)) := by
  obtain ⟨_, p, v, _, hw, _⟩ := h
  exact hw.c3

set_option maxHeartbeats 1000000 in
set_option maxRecDepth 100000 in
theorem fillI (B b : Nat) (s : List UInt8 × List Nat) (w : World) (h : WR B b s w) (hok : okB s) (hlen : s.1.length ≤ 1000000000) :
    Calls Try.prog 29 #[.pointer (some ⟨b, 0, none⟩)] w fun e w' => e = .returned (.tuple #[]) ∧ WR B b (fillB s, []) w' ∧ Below B w w' := by
  have HS : Hid (WR B b s w ∧ okB s ∧ s.1.length ≤ 1000000000) := ⟨h, hok, hlen⟩
  clear h hok hlen
  go_enter Try.func29, Try.ntmps29
  go_wp2_with fail
  go_loopw [] (fun wr => ∃ c : List UInt8 × List Nat, Hid (fillB c = fillB s) ∧ Hid (okB c) ∧ Hid (c.1.length ≤ 1000000009 - manyOf b wr) ∧ Hid (WR B b c wr) ∧ Hid (Below B w wr)) (fun wr => manyOf b wr)
  case atStart =>
    refine ⟨s, rfl, HS.out.2.1, ?_, HS.out.1, Below.refl B w⟩
    have h1 := manyOf_eq HS.out.1.c3
    have h2 := HS.out.2.2
    show _ ≤ _
    split at h1 <;> omega
  case round =>
    obtain ⟨c, HF, HO, HL, HW, HB⟩ := hrel
    have c3 := HW.out.c3
    have Hm := manyOf_eq c3
    by_cases h0 : c.2.length = 0
    · have hx : ¬ (0 : Int) < (c.2.length : Int) := by omega
      have HE : Hid (c = (fillB s, [])) := by
        show _ = _
        have h1 : c.2 = [] := List.length_eq_zero_iff.1 h0
        rw [← HF.out, fillB_end h1, ← h1]
      clear h0 Hm
      go_wp2_with fail
      go_end0
      rw [← HE.out]
      exact ⟨rfl, HW.out, HB.out⟩
    · have hx : (0 : Int) < (c.2.length : Int) := by omega
      have HM : Hid (manyOf b wr = 8 - c.2.length) := by show _ = _; rw [Hm, if_neg h0]
      have HN : Hid (¬ c.2.length = 0) := h0
      clear h0 Hm
      go_wp2_with fail
      refine (bitI B b c 0 _ HW.out HO.out (by omega) (by have := HL.out; omega)).mono ?_
      rintro e w1 ⟨rfl, hw1, hb1⟩
      have HW1 : Hid (WR B b (stepB c 0) w1) := hw1
      have HB1 : Hid (Below B w w1) := HB.out.trans hb1
      have HM1 : Hid (manyOf b w1 < 8 - c.2.length) := by
        show _ < _
        have h8 := HO.out.1
        have hn := HN.out
        rw [manyOf_eq hw1.c3]
        unfold stepB
        split
        · simp; omega
        · simp; omega
      have HL1 : Hid ((stepB c 0).1.length ≤ 1000000009 - manyOf b w1) := by
        have h1 := stepB_len c 0
        have h2 := HL.out
        have h3 := HM.out
        have h4 := HM1.out
        show _ ≤ _
        omega
      clear hw1 hb1 c3 hx
      go_wp2_with fail
      go_roundw
      case rel =>
        refine ⟨stepB c 0, ?_, stepB_ok HO.out (by omega), HL1, HW1, HB1⟩
        show _ = _
        rw [← HF.out]
        exact fillB_step HO.out.1 (fun e => HN.out (by rw [e]; rfl))
      case measure => rw [HM.out]; exact HM1.out

end Go.Proofs.Yteihpdnbehnnhaa

set_option linter.unusedVariables false
namespace Go.Proofs.Yteihpdnbehnnhaa
open Go.RowKit

set_option maxHeartbeats 1000000 in
set_option maxRecDepth 100000 in
theorem bitsOkI (k : Int) (w : World) :
    Calls Try.prog 32 #[.int .i64 k] w fun e w' => e = .returned (.bool (bitsOk k)) ∧ w = w' := by
  by_cases h1 : (0 : Int) ≤ k
  · by_cases h2 : k ≤ 8
    · have h3 : bitsOk k = true := decide_eq_true ⟨h1, h2⟩
      rw [h3]
      go_enter Try.func32, Try.ntmps32
      go_wp2
      go_ret
      exact ⟨rfl, rfl⟩
    · have h3 : bitsOk k = false := decide_eq_false (fun h => h2 h.2)
      have h4 : decide (k ≤ 8) = false := decide_eq_false h2
      rw [h3]
      go_enter Try.func32, Try.ntmps32
      go_wp2
      go_ret
      exact ⟨rfl, rfl⟩
  · have h3 : bitsOk k = false := decide_eq_false (fun h => h1 h.1)
    have h4 : decide ((0 : Int) ≤ k) = false := decide_eq_false h1
    rw [h3]
    go_enter Try.func32, Try.ntmps32
    go_wp2
    go_ret
    exact ⟨rfl, rfl⟩

set_option maxHeartbeats 1000000 in
set_option maxRecDepth 100000 in
theorem riceOkI (g n cap : Nat) (zs : List Int) (k : Int) (w : World) (h : At w g zs) (hn : n = zs.length) :
    Calls Try.prog 27 #[.slice (some ⟨g, 0, none⟩) n cap, .int .i64 k] w fun e w' => e = .returned (.bool (riceOkB zs k)) ∧ w = w' := by
  have HA : Hid (At w g zs) := h
  have HN : Hid (n = zs.length) := hn
  clear h hn
  by_cases h40 : (40 : Int) < (n : Int)
  · have HF : Hid (riceOkB zs k = false) := by
      show _ = _
      cases hh : riceOkB zs k with
      | false => rfl
      | true => have := riceOk_len hh; have := HN.out; omega
    rw [HF.out]
    go_enter Try.func27, Try.ntmps27
    go_wp2
    go_ret
    exact ⟨rfl, rfl⟩
  · cases hb : bitsOk k with
    | false =>
      have HF : Hid (riceOkB zs k = false) := by show _ = _; simp [riceOkB, hb]
      rw [HF.out]
      go_enter Try.func27, Try.ntmps27
      go_wp2_with (go_at_call 32; refine (bitsOkI _ _).mono ?_; rintro e w1 ⟨rfl, rfl⟩)
      go_ret
      exact ⟨rfl, rfl⟩
    | true =>
      have hk := of_decide_eq_true hb
      go_enter Try.func27, Try.ntmps27
      go_wp2_with (go_at_call 32; refine (bitsOkI _ _).mono ?_; rintro e w1 ⟨rfl, rfl⟩)
      go_loop [17] (fun i => ∃ j : Nat, j ≤ n ∧ i = .int .i64 (j : Int) ∧ Hid (∀ m, m < zs.length → m < j → 0 ≤ zs.getD m 0 ∧ zs.getD m 0 ≤ 60000)) (fun i => n - (intOf i).toNat)
      case atStart => exact ⟨0, by omega, rfl, fun m _ h => by omega⟩
      case round =>
        obtain ⟨j, hj, rfl, HALL⟩ := hrel
        by_cases hlt : j < n
        · have hjz : j < zs.length := by rw [← HN.out]; exact hlt
          have cj := HA.out.2 j hjz
          by_cases hz : 0 ≤ zs.getD j 0 ∧ zs.getD j 0 ≤ 60000
          · have HZ2 : Hid (0 ≤ zs.getD j 0 ∧ zs.getD j 0 ≤ 60000) := hz
            generalize zs.getD j 0 = z at cj hz
            have hz0 : ¬ z < 0 := by omega
            have hz1 : ¬ 60000 < z := by omega
            clear hz hjz
            go_wp2
            go_round
            case rel =>
              refine ⟨j + 1, by omega, by go_num, ?_⟩
              intro m hm hmj
              rcases Nat.lt_or_ge m j with h | h
              · exact HALL.out m hm h
              · obtain rfl : m = j := by omega
                exact HZ2.out
            case measure => simp [intOf]; omega
          · have HNO : Hid (riceOkB zs k = false) := riceOk_no j hjz hz
            generalize zs.getD j 0 = z at cj hz
            by_cases hz0 : z < 0
            · go_wp2
              go_ret
              rw [HNO.out]
              exact ⟨rfl, rfl⟩
            · have hz1 : 60000 < z := by omega
              go_wp2
              go_ret
              rw [HNO.out]
              exact ⟨rfl, rfl⟩
        · have HY : Hid (riceOkB zs k = true) := riceOk_yes (by rw [← HN.out]; omega) hk (fun m hm => HALL.out m hm (by have := HN.out; omega))
          go_wp2
          go_ret
          rw [HY.out]
          exact ⟨rfl, rfl⟩

theorem writerNew (w : World) : WR w.heap.size w.heap.size ([], []) (w.alloc (.cells #[.pointer none, .slice none 0 0, .int .u8 0, .int .i64 0] 48)) :=
  ⟨Nat.le_refl _, _, _, .inl rfl, heap_alloc_new w _, ⟨rfl, .inl ⟨rfl, rfl⟩⟩, by simp [Value.ownBlock], fun _ => rfl⟩

set_option maxHeartbeats 1000000 in
set_option maxRecDepth 100000 in
theorem implRicePut (g n cap : Nat) (zs : List Int) (k : Int) (w : World) (h : At w g zs) (hn : n = zs.length) :
    Calls Try.prog 11 #[.slice (some ⟨g, 0, none⟩) n cap, .int .i64 k] w fun e w' => e = .returned (.string ⟨(ricePut zs k).toArray⟩) ∧ Below w.heap.size w w' := by
  have HA : Hid (At w g zs) := h
  have HN : Hid (n = zs.length) := hn
  have hgs := h.1
  clear h hn
  cases hr : riceOkB zs k with
  | false =>
    rw [ricePut_no hr]
    go_enter Try.func11, Try.ntmps11
    go_wp2_with (go_at_call 27; refine (riceOkI g n cap zs k _ HA.out HN.out).mono ?_; rintro e w1 ⟨rfl, rfl⟩)
    go_ret
    exact ⟨rfl, Below.refl _ _⟩
  | true =>
    rw [ricePut_yes hr]
    have hb := riceOk_bits hr
    obtain ⟨kn, rfl⟩ := Int.eq_ofNat_of_zero_le hb.1
    have hk8 : kn ≤ 8 := by omega
    have hl40 := riceOk_len hr
    have HZ : Hid (∀ i, i < zs.length → 0 ≤ zs.getD i 0 ∧ zs.getD i 0 ≤ 60000) := fun i hi => riceOk_at hr i hi
    have HE : Hid (fillB (upTo kn zs zs.length) = riceB ((kn : Int)).toNat (zs.map Int.toNat)) := by show _ = _; rw [upTo_end, Int.toNat_natCast]
    obtain ⟨R, hR⟩ : ∃ R, R = riceB ((kn : Int)).toNat (zs.map Int.toNat) := ⟨_, rfl⟩
    rw [← hR] at HE ⊢
    have HW0 : Hid (WR w.heap.size w.heap.size (upTo kn zs 0) (w.alloc (.cells #[.pointer none, .slice none 0 0, .int .u8 0, .int .i64 0] 48))) := by rw [upTo_zero]; exact writerNew w
    have HB0 : Hid (Below w.heap.size w (w.alloc (.cells #[.pointer none, .slice none 0 0, .int .u8 0, .int .i64 0] 48))) := (Below.refl _ w).alloc (Nat.le_refl _) _
    clear hR hb
    go_enter Try.func11, Try.ntmps11
    go_wp2_with (go_at_call 27; refine (riceOkI g n cap zs _ _ HA.out HN.out).mono ?_; rintro e w1 ⟨rfl, rfl⟩)
    clear hr
    have hn40 : n ≤ 40 := by rw [HN.out]; exact hl40
    have HL : Hid (∀ i, (upTo kn zs i).1.length ≤ 10000000) := fun i => upTo_len hk8 hl40 HZ.out i
    go_loopw [14] (fun i wr => ∃ j : Nat, j ≤ n ∧ i = .int .i64 (j : Int) ∧ Hid (WR w.heap.size w.heap.size (upTo kn zs j) wr) ∧ Hid (Below w.heap.size w wr)) (fun i _ => n - (intOf i).toNat)
    case atStart => exact ⟨0, by omega, rfl, HW0, HB0⟩
    case round =>
      clear HW0 HB0
      obtain ⟨j, hj, rfl, HW, HB⟩ := hrel
      by_cases hlt : j < n
      · have hjz : j < zs.length := by rw [← HN.out]; exact hlt
        have HJN : Hid (j + 1 ≤ n) := hlt
        have cj := (HA.out.below HB.out hgs).2 j hjz
        have hz := HZ.out j hjz
        have HS : Hid (upTo kn zs (j + 1) = runB (upTo kn zs j) (numB kn (zs.getD j 0).toNat)) := upTo_succ kn zs j hjz
        generalize zs.getD j 0 = z at cj hz HS
        obtain ⟨zn, rfl⟩ := Int.eq_ofNat_of_zero_le hz.1
        rw [Int.toNat_natCast] at HS
        have hzn : zn ≤ 60000 := by omega
        clear hz hjz
        go_wp2_with fail
        refine (numberI w.heap.size w.heap.size (upTo kn zs j) zn kn _ HW.out (upTo_ok _ _ _) hzn hk8 (by have := HL.out j; omega)).mono ?_
        rintro e w2 ⟨rfl, hw2, hb2⟩
        have HW2 : Hid (WR w.heap.size w.heap.size (upTo kn zs (j + 1)) w2) := by rw [HS.out]; exact hw2
        have HB2 : Hid (Below w.heap.size w w2) := HB.out.trans hb2
        clear hw2 hb2 cj
        go_wp2_with fail
        go_roundw
        case rel => exact ⟨j + 1, HJN.out, by go_num, HW2, HB2⟩
        case measure => have := HJN.out; simp [intOf]; omega
      · have HJ : Hid (upTo kn zs j = upTo kn zs zs.length) := by
          show _ = _
          rw [show j = zs.length from by rw [← HN.out]; omega]
        go_wp2_with fail
        refine (fillI w.heap.size w.heap.size (upTo kn zs j) _ HW.out (upTo_ok _ _ _) (by have := HL.out j; omega)).mono ?_
        rintro e w2 ⟨rfl, hw2, hb2⟩
        rw [HJ.out, HE.out] at hw2
        have HW2 : Hid (WR w.heap.size w.heap.size (R, []) w2) := hw2
        have HB2 : Hid (Below w.heap.size w w2) := HB.out.trans hb2
        clear hw2 hb2
        go_wp2_with fail
        refine (stringW w.heap.size w.heap.size R _ _ _ HW2.out).mono ?_
        rintro e w3 ⟨rfl, hb3⟩
        go_wp2_with fail
        go_ret
        exact ⟨rfl, HB2.out.trans hb3⟩

end Go.Proofs.Yteihpdnbehnnhaa

set_option linter.unusedVariables false
namespace Go.Proofs.Yteihpdnbehnnhaa
open Go.Shelf Go.RowKit

theorem put_writes {kn mn : Nat} {o : List UInt8} {out : List Nat} (hk : kn ≤ 8) (hm : mn ≤ 40) (hl : out.length = mn) (hr : readT kn mn (unpack o) (0, false, 0) [] = out) :
    ricePut (out.map fun n : Nat => (n : Int)) (kn : Int) = o ↔ Writes kn mn o out := by
  constructor
  · intro h
    cases hk2 : riceOkB (out.map fun n : Nat => (n : Int)) (kn : Int) with
    | true =>
      rw [ricePut_yes hk2, toNat_map, Int.toNat_natCast] at h
      refine ⟨hl, ?_, h⟩
      intro x hx
      obtain ⟨i, hi, rfl⟩ := List.mem_iff_getElem.1 hx
      have := riceOk_at hk2 i (by simpa using hi)
      rw [List.getD_eq_getElem?_getD, List.getElem?_map, List.getElem?_eq_getElem hi] at this
      simp at this
      omega
    | false =>
      rw [ricePut_no hk2] at h
      subst h
      have e : out = [] := by rw [← hr]; rfl
      subst e
      rw [riceOk_yes (by simp) (by omega) (by simp)] at hk2
      cases hk2
  · rintro ⟨h1, h2, h3⟩
    rw [ricePut_yes (riceOk_yes (by simp; omega) (by omega) ?_), toNat_map, Int.toNat_natCast]
    · exact h3
    · intro i hi
      have hil : i < out.length := by simpa using hi
      have := h2 (out[i]) (List.getElem_mem hil)
      rw [List.getD_eq_getElem?_getD, List.getElem?_map, List.getElem?_eq_getElem hil]
      simp
      omega

set_option maxHeartbeats 1000000 in
set_option maxRecDepth 100000 in
theorem implRiceGet (s : ByteArray) (many k : Int) (w : World) :
    Calls Try.prog 14 #[.string s, .int .i64 many, .int .i64 k] w fun e w' => ∃ v, e = .returned (.tuple #[v, .bool (riceGet s.data.toList many k).isSome]) ∧ GotRow w.heap.size v w' (riceGet s.data.toList many k) ∧ Below w.heap.size w w' := by
  cases hok : getOk s.data.toList many k with
  | false =>
    have HG : Hid (riceGet s.data.toList many k = none) := riceGet_bad hok
    rw [HG.out]
    by_cases h1 : (600 : Int) < (s.size : Int)
    · clear hok
      go_enter Try.func14, Try.ntmps14
      go_wp2_with fail
      go_ret2
      exact ⟨_, rfl, rfl, Below.refl _ _⟩
    · by_cases h2 : many < 0
      · clear hok
        go_enter Try.func14, Try.ntmps14
        go_wp2_with fail
        go_ret2
        exact ⟨_, rfl, rfl, Below.refl _ _⟩
      · by_cases h3 : (40 : Int) < many
        · clear hok
          go_enter Try.func14, Try.ntmps14
          go_wp2_with fail
          go_ret2
          exact ⟨_, rfl, rfl, Below.refl _ _⟩
        · have h4 : bitsOk k = false := by
            cases hb : bitsOk k with
            | false => rfl
            | true =>
              have e1 : decide (0 ≤ many ∧ many ≤ 40) = true := decide_eq_true (by omega)
              have e2 : decide (0 ≤ k ∧ k ≤ 8) = true := hb
              have e3 : decide (s.data.toList.length ≤ 600) = true := decide_eq_true (by simp; omega)
              simp only [getOk, e1, e2, e3, Bool.and_self] at hok
              cases hok
          clear hok
          go_enter Try.func14, Try.ntmps14
          go_wp2_with (go_at_call 32; refine (bitsOkI _ _).mono ?_; rintro e w1 ⟨rfl, rfl⟩)
          go_ret2
          exact ⟨_, rfl, rfl, Below.refl _ _⟩
  | true =>
    have hok2 := hok
    simp only [getOk, Bool.and_eq_true, decide_eq_true_eq] at hok2
    obtain ⟨⟨⟨hm0, hm40⟩, hk0, hk8⟩, hs6⟩ := hok2
    have hb : bitsOk k = true := decide_eq_true ⟨hk0, hk8⟩
    have HOK : Hid (getOk s.data.toList many k = true) := hok
    have hs6' : s.size ≤ 600 := by simpa using hs6
    obtain ⟨mn, rfl⟩ := Int.eq_ofNat_of_zero_le hm0
    obtain ⟨kn, rfl⟩ := Int.eq_ofNat_of_zero_le hk0
    have hm2 : mn ≤ 40 := by omega
    have hk2 : kn ≤ 8 := by omega
    have h1 : ¬ (600 : Int) < (s.size : Int) := by omega
    have h2 : ¬ (mn : Int) < 0 := by omega
    have h3 : ¬ (40 : Int) < (mn : Int) := by omega
    clear hok hs6
    go_enter Try.func14, Try.ntmps14
    go_wp2_with first
      | (go_at_call 32; refine (bitsOkI _ _).mono ?_; rintro e w1 ⟨rfl, rfl⟩)
    refine (implNumbers s mn kn _ hs6' hm2 hk2).mono ?_
    rintro e w1 ⟨v, rfl, hrow, hb1⟩
    obtain ⟨out, hout⟩ : ∃ out, readT kn mn (unpack s.data.toList) (0, false, 0) [] = out := ⟨_, rfl⟩
    rw [hout] at hrow
    obtain ⟨g, cap, rfl⟩ := hrow.1
    have HR : Hid (OutRow w.heap.size (.slice (some ⟨g, 0, none⟩) out.length cap) out w1) := hrow
    have HB1 : Hid (Below w.heap.size w w1) := hb1
    have HO : Hid (readT kn mn (unpack s.data.toList) (0, false, 0) [] = out) := hout
    clear hrow hb1 hout
    by_cases hl : out.length = mn
    · have hq : ((out.length : Nat) : Int) = ((mn : Nat) : Int) := by omega
      have HL : Hid (out.length = mn) := hl
      have HAT : Hid (At w1 g (out.map fun n : Nat => (n : Int))) := outRow_at HR.out
      clear hl
      have HPW := put_writes hk2 hm2 HL.out HO.out
      obtain ⟨pt, hpt⟩ : ∃ pt, ricePut (out.map fun n : Nat => (n : Int)) (kn : Int) = pt := ⟨_, rfl⟩
      have hput := implRicePut g out.length cap (out.map fun n : Nat => (n : Int)) (kn : Int) w1 HAT.out (by simp)
      rw [hpt] at hput HPW
      have HW : Hid (pt = s.data.toList ↔ Writes kn mn s.data.toList out) := HPW
      clear HPW hpt
      by_cases he : pt = s.data.toList
      · have hee : (pt == s.toList) = true := by rw [ByteArray.toList_eq]; simpa using he
        have HG : Hid (riceGet s.data.toList (mn : Int) (kn : Int) = some out) := riceGet_yes HOK.out (HW.out.1 he)
        clear he
        go_wp2_with (go_at_call 11; refine hput.mono ?_; rintro e w2 ⟨rfl, hb2⟩)
        go_ret2
        rw [HG.out]
        refine ⟨_, rfl, ⟨HR.out.1, ownsRow_keep HR.out.2 (fun g' hg' => ?_)⟩, HB1.out.trans (hb2.mono HB1.out.size)⟩
        obtain ⟨cur, hc, hlt⟩ := ownsRow_type HR.out.2 g' hg'
        exact hb2.block g' hlt
      · have hee : (pt == s.toList) = false := by rw [ByteArray.toList_eq]; simpa using he
        have HG : Hid (riceGet s.data.toList (mn : Int) (kn : Int) = none) := riceGet_no (fun l hl' => by
          have hl2 : Writes kn mn s.data.toList l := hl'
          have h1 := writes_one hl2
          rw [HO.out] at h1
          subst h1
          exact he (HW.out.2 hl2))
        clear he
        go_wp2_with (go_at_call 11; refine hput.mono ?_; rintro e w2 ⟨rfl, hb2⟩)
        go_ret2
        rw [HG.out]
        exact ⟨_, rfl, rfl, HB1.out.trans (hb2.mono HB1.out.size)⟩
    · have hq : ¬ ((out.length : Nat) : Int) = ((mn : Nat) : Int) := by omega
      have HG : Hid (riceGet s.data.toList (mn : Int) (kn : Int) = none) := riceGet_no (fun l hl' => by
        have hl2 : Writes kn mn s.data.toList l := hl'
        have := writes_one hl2
        rw [HO.out] at this
        subst this
        exact hl hl2.1)
      clear hl
      go_wp2_with fail
      go_ret2
      rw [HG.out]
      exact ⟨_, rfl, rfl, HB1.out⟩

end Go.Proofs.Yteihpdnbehnnhaa

