/-
  Texts that the last part needs, joined.
-/
import Derived.Test.YtifpidhoeikdjaaGreatDoorPart1
import Derived.Test.YtifpidhoeikdjaaGreatDoorPart2
import Derived.Test.YtifpidhoeikdjaaGreatDoorPart3
import Derived.RangeFuncNested
import Derived.RangeFuncBound
import Derived.RangeFuncCalls
import Derived.RangeFuncLeaves
import Derived.Shelf.Abstract
import Derived.Shelf.RegionOpen
import Derived.WalkKit
import Derived.OwnWalkIn
import Derived.TacticsInMore
import Derived.LoopNIn
import Derived.LoopIn
import Derived.Test.YtifpidhoeikdjaaGreatDoorProg
import Derived.BigRegion
import Derived.Deep.OwnRows
import Derived.Shelf.Small.Bits
import Derived.Shelf.Strconv.Itoa0
import Derived.Shelf.Sort.Plain
import Derived.Ground.Names2Prog
import Derived.Shelf.Slices.Clone
import Derived.Shelf.Slices.CompactS
import Derived.Sort.OwnSortedInts
import Derived.WalkSpells
import Derived.Below
import Derived.ArgAppend
import Derived.Laws.IdiomStrings
import Derived.Lib.Builder
import Derived.Lib.UnsafeStr
import Derived.RegionTactic
import Derived.Deep.RegionWith
import Derived.Deep.RegionHeld2
import Derived.Deep.Cut
import Derived.BigQuiet
import Derived.Deep.QuietTactic
import Derived.ChangeAlike
set_option linter.unusedVariables false
namespace Go.Proofs.YtifpidhoeikdjaaGreatDoor
open Go.RowKit Go.Shelf
attribute [local go_sem] Oper.semAt_some

abbrev Bit := { b : Nat // b ≤ 1 }
def bitOf (s : ByteArray) (q : Nat) : Bit := ⟨(s.data.toList.getD (q / 8) 0).toNat / 2 ^ (7 - q % 8) % 2, by omega⟩
def bitsTo (s : ByteArray) (k : Nat) : List Bit := (List.range k).map (bitOf s)
theorem bitsTo_succ (s : ByteArray) (k : Nat) : bitsTo s (k + 1) = bitsTo s k ++ [bitOf s k] := by simp [bitsTo, List.range_succ]
theorem bitsTo_length (s : ByteArray) (k : Nat) : (bitsTo s k).length = k := by simp [bitsTo]

set_option maxHeartbeats 2000000 in
set_option maxRecDepth 100000 in
theorem bitsIter (F : Fence) (n : Nat) (hf : F.fn 122) (hro : F.round = none) (hn : 1 ≤ n) (l Bs : Nat) (s : ByteArray) (hs : s.size ≤ 600) (J Jx : List Bit → World → Prop)
    (hY : ∀ pre x W, J pre W → pre.length < 8 * s.size → YieldAt F (n - 1) Tryz.prog l #[.int .i64 ((x.1 : Nat) : Int)] W fun e W' =>
      (e = .returned (.bool true) ∧ J (pre ++ [x]) W' ∧ W'.cell? ⟨Bs, 0, none⟩ = W.cell? ⟨Bs, 0, none⟩) ∨ (e = .returned (.bool false) ∧ Jx (pre ++ [x]) W'))
    (W : World) (hBs : W.cell? ⟨Bs, 0, none⟩ = some (.string s)) (h0 : J [] W) :
    CallsIn F n Tryz.prog 122 #[.func (.yield l) #[] #[], .pointer (some ⟨Bs, 0, none⟩)] W fun e W' => (∃ v, e = .returned v) ∧
      ((∃ ys, ys = bitsTo s (8 * s.size) ∧ J ys W') ∨ (∃ pre, (∃ k, k ≤ 8 * s.size ∧ pre = bitsTo s k) ∧ Jx pre W')) := by
  refine callsIn_of_wp Tryz.func122 rfl hf ?_ hro
  simp only [Tryz.ntmps122, List.size_toArray, List.length_cons, List.length_nil, Nat.reduceAdd, Nat.reduceSub, Array.replicate_succ, Array.replicate_zero, List.push_toArray, List.append_toArray, List.nil_append, List.cons_append]
  have HY : Hid (∀ pre x W, J pre W → pre.length < 8 * s.size → YieldAt F (n - 1) Tryz.prog l #[.int .i64 ((x.1 : Nat) : Int)] W fun e W' =>
      (e = .returned (.bool true) ∧ J (pre ++ [x]) W' ∧ W'.cell? ⟨Bs, 0, none⟩ = W.cell? ⟨Bs, 0, none⟩) ∨ (e = .returned (.bool false) ∧ Jx (pre ++ [x]) W')) := hY
  clear hY
  gi_wp2
  gi_loopw [7] (fun i wr => ∃ k : Nat, k ≤ s.size ∧ i = .int .i64 (k : Int) ∧ Hid (J (bitsTo s (8 * k)) wr) ∧ Hid (wr.cell? ⟨Bs, 0, none⟩ = some (.string s))) (fun i _ => s.size - (intOf i).toNat)
  case atStart => exact ⟨0, by omega, rfl, h0, hBs⟩
  case round =>
    clear h0 hBs
    obtain ⟨k, hk, rfl, HJ, HC⟩ := hrel
    by_cases hlt : k < s.size
    · have HK : Hid (k + 1 ≤ s.size) := hlt
      gi_wp2
      gi_loopw [4] (fun i wr => ∃ (r : Nat) (x : Int), r ≤ 8 ∧ i = .int .i64 x ∧ Hid (x = (r : Int) - 1) ∧ Hid (J (bitsTo s (8 * k + (8 - r))) wr) ∧ Hid (wr.cell? ⟨Bs, 0, none⟩ = some (.string s))) (fun i _ => (intOf i + 1).toNat)
      case atStart => exact ⟨8, 7, by omega, rfl, rfl, HJ, HC⟩
      case round =>
        clear HJ HC
        obtain ⟨r, x, hr, rfl, HX, HJ, HC⟩ := hrel
        rcases r with _ | m
        · have hx : ¬ (0 : Int) ≤ x := by have := HX.out; omega
          gi_wp2
          go_roundw
          case rel => exact ⟨k + 1, HK.out, by go_num, by rw [show 8 * (k + 1) = 8 * k + (8 - 0) from by omega]; exact HJ, HC⟩
          case measure => have := HK.out; simp [intOf]; omega
        · obtain rfl : x = (m : Int) := by have := HX.out; omega
          obtain ⟨q, hq⟩ : ∃ q : Nat, q = (s[k]'hlt).toNat / 2 ^ m := ⟨_, rfl⟩
          have rq : ((s[k]'hlt).toNat : Int) / 2 ^ m = (q : Int) := by rw [hq]; simp
          have hby := (s[k]'hlt).toNat_lt
          have hq8 : q < 256 := by rw [hq]; exact Nat.lt_of_le_of_lt (Nat.div_le_self _ _) hby
          obtain ⟨bt, hbt⟩ : ∃ bt : Nat, bt = q % 2 := ⟨_, rfl⟩
          have hb1 : bt ≤ 1 := by omega
          have rb : bits .and .i64 (q : Int) 1 = (bt : Int) := by
            have := (bits_nat .i64 63 (by decide) (fun m h0 h1 => by rw [IntKind.wrap_i64]; omega) q 1 (by omega) (by omega)).1
            rw [Nat.and_one_is_mod, ← hbt] at this
            exact this
          have rb2 : (q : Int) % 2 = (bt : Int) := by omega
          have HBT : Hid (bitOf s (8 * k + (7 - m)) = ⟨bt, hb1⟩) := by
            show _ = _
            have e : s.data.toList.getD k 0 = s[k]'hlt := by
              rw [List.getD_eq_getElem?_getD, List.getElem?_eq_getElem (by simpa using hlt)]
              rfl
            simp only [bitOf, show (8 * k + (7 - m)) / 8 = k from by omega, show (8 * k + (7 - m)) % 8 = 7 - m from by omega, e, show 7 - (7 - m) = m from by omega, ← hq, ← hbt]
          have HNX : Hid (bitsTo s (8 * k + (8 - (m + 1))) ++ [⟨bt, hb1⟩] = bitsTo s (8 * k + (8 - m))) := by
            show _ = _
            rw [← HBT.out, show 8 - (m + 1) = 7 - m from by omega, show 8 * k + (8 - m) = 8 * k + (7 - m) + 1 from by omega, bitsTo_succ]
          have hcell := HC.out
          have hYY := HY.out _ ⟨bt, hb1⟩ wr HJ.out (by rw [bitsTo_length]; omega)
          dsimp only at hYY
          obtain ⟨fn, tmps, assign, body, hy, hR⟩ := hYY
          have hm0 : (0 : Int) ≤ (m : Int) := by omega
          have hm7 : m ≤ 7 := by omega
          have lk : (k : Int) < (s.size : Int) := by omega
          clear hq hbt
          gi_wp2
          refine hR.mono ?_
          rintro e W3 (⟨rfl, hJ3, hk3⟩ | ⟨rfl, hJx3⟩)
          · have HJ3 : Hid (J (bitsTo s (8 * k + (8 - m))) W3) := by rw [← HNX.out]; exact hJ3
            have HC3 : Hid (W3.cell? ⟨Bs, 0, none⟩ = some (.string s)) := hk3.trans HC.out
            clear hJ3 hk3
            gi_wp2
            go_roundw
            case rel => exact ⟨m, _, by omega, rfl, by show _ = _; first | rfl | omega, HJ3, HC3⟩
            case measure => simp [intOf]
          · have HJ3 : Hid (Jx (bitsTo s (8 * k + (8 - m))) W3) := by rw [← HNX.out]; exact hJx3
            clear hJx3
            gi_wp2
            refine bodyPost_ret (results_none rfl _ _ _) rfl ?_
            exact ⟨⟨_, rfl⟩, .inr ⟨_, ⟨8 * k + (8 - m), by have := HK.out; omega, rfl⟩, HJ3.out⟩⟩
    · obtain rfl : k = s.size := by omega
      gi_wp2
      go_end0
      exact ⟨⟨_, rfl⟩, .inl ⟨_, rfl, HJ.out⟩⟩

end Go.Proofs.YtifpidhoeikdjaaGreatDoor

set_option linter.unusedVariables false
namespace Go.Proofs.YtifpidhoeikdjaaGreatDoor
open Go.RowKit Go.Shelf
attribute [local go_sem] Oper.semAt_some

def KeepsAt (Bs : Nat) (W W' : World) : Prop := W'.cell? ⟨Bs, 0, none⟩ = W.cell? ⟨Bs, 0, none⟩
theorem KeepsAt.t {Bs : Nat} {A B C : World} (h : KeepsAt Bs A B) (k : KeepsAt Bs B C) : KeepsAt Bs A C := Eq.trans k h
theorem KeepsAt.b {Bs : Nat} {w : World} (hb : Bs < w.heap.size) (W : World) (l : Nat) (o o' : Obj) (hl : w.heap.size ≤ l) (h : W.heap[l]? = some o) (_ : o.isCells = false) (_ : o.isWalk = false) : KeepsAt Bs W (W.putObj l o') := by
  have hB : Below (Bs + 1) W (W.putObj l o') := belowK_b (w := w) (by omega) W l o o' hl h (by assumption) (by assumption)
  exact hB.cell (p := ⟨Bs, 0, none⟩) (by show Bs < Bs + 1; omega)

theorem bits_stops (F : Fence) (n : Nat) (hf : F.fn 122) (hro : F.round = none) (hn : 1 ≤ n) (Bs : Nat) (s : ByteArray) (hs : s.size ≤ 600) (w : World) (hBs : Bs < w.heap.size) (hc : w.cell? ⟨Bs, 0, none⟩ = some (.string s)) :
    SeqStopsK F n Tryz.prog 122 #[.pointer (some ⟨Bs, 0, none⟩)] (fun x : Bit => #[Value.int .i64 ((x.1 : Nat) : Int)]) (KeepsAt Bs) (fun ys => ys = bitsTo s (8 * s.size)) (fun pre => ∃ k, k ≤ 8 * s.size ∧ pre = bitsTo s k) (8 * s.size) w := fun l J Jx W hW _ _ hY h0 => by
  have hc' := (hW.cell (p := ⟨Bs, 0, none⟩) hBs).trans hc
  exact bitsIter F n hf hro hn l Bs s hs J Jx hY W hc' h0

set_option maxHeartbeats 2000000 in
set_option maxRecDepth 100000 in
/-- riceBits: the closure over the text, which lies in a box. -/
theorem bitsMake (F : Fence) (n : Nat) (hf : F.fn 116) (hro : F.round = none) (s : ByteArray) (w : World) :
    CallsIn F n Tryz.prog 116 #[.string s] w fun e w' => e = .returned (.func (.func 122) #[] #[.pointer (some ⟨w.heap.size, 0, none⟩)]) ∧ w' = w.alloc (.cells #[.string s] 9) := by
  refine callsIn_of_wp Tryz.func116 rfl hf ?_ hro
  simp only [Tryz.ntmps116, List.size_toArray, List.length_cons, List.length_nil, Nat.reduceAdd, Nat.reduceSub, Array.replicate_succ, Array.replicate_zero, List.push_toArray, List.append_toArray, List.nil_append, List.cons_append]
  gi_wp2
  go_ret
  exact ⟨rfl, rfl⟩

end Go.Proofs.YtifpidhoeikdjaaGreatDoor

set_option linter.unusedVariables false
namespace Go.Proofs.YtifpidhoeikdjaaGreatDoor
open Go.RowKit

def RR (b k : Nat) (st : Nat × Bool × Nat) (w : World) : Prop := w.heap[b]? = some (.cells #[.int .i64 (k : Int), .int .i64 (st.1 : Int), .bool st.2.1, .int .i64 (st.2.2 : Int)] 127 (0, 0))
theorem RR.c0 {b k : Nat} {st : Nat × Bool × Nat} {w : World} (h : RR b k st w) : w.cell? ⟨b, 0, none⟩ = some (.int .i64 (k : Int)) := by rw [Lib.cell_of_heap h]; rfl
theorem RR.c1 {b k : Nat} {st : Nat × Bool × Nat} {w : World} (h : RR b k st w) : w.cell? ⟨b, 1, none⟩ = some (.int .i64 (st.1 : Int)) := by rw [Lib.cell_of_heap h]; rfl
theorem RR.c2 {b k : Nat} {st : Nat × Bool × Nat} {w : World} (h : RR b k st w) : w.cell? ⟨b, 2, none⟩ = some (.bool st.2.1) := by rw [Lib.cell_of_heap h]; rfl
theorem RR.c3 {b k : Nat} {st : Nat × Bool × Nat} {w : World} (h : RR b k st w) : w.cell? ⟨b, 3, none⟩ = some (.int .i64 (st.2.2 : Int)) := by rw [Lib.cell_of_heap h]; rfl
theorem RR.fz {b k : Nat} {st : Nat × Bool × Nat} {w : World} (h : RR b k st w) (i : Nat) : w.frozen? ⟨b, i, none⟩ = false := Lib.frozen_of_heap h i
def R4 (b : Nat) (x0 x1 x2 x3 : Value) (w : World) : Prop := w.heap[b]? = some (.cells #[x0, x1, x2, x3] 127 (0, 0))
theorem R4.set0 {b : Nat} {x0 x1 x2 x3 : Value} {w : World} (h : R4 b x0 x1 x2 x3 w) (v : Value) : R4 b v x1 x2 x3 (w.setCell ⟨b, 0, none⟩ v) := by
  unfold R4 at h ⊢
  simp only [World.setCell, Array.getElem?_modify, h]
  simp
theorem R4.set1 {b : Nat} {x0 x1 x2 x3 : Value} {w : World} (h : R4 b x0 x1 x2 x3 w) (v : Value) : R4 b x0 v x2 x3 (w.setCell ⟨b, 1, none⟩ v) := by
  unfold R4 at h ⊢
  simp only [World.setCell, Array.getElem?_modify, h]
  simp
theorem R4.set2 {b : Nat} {x0 x1 x2 x3 : Value} {w : World} (h : R4 b x0 x1 x2 x3 w) (v : Value) : R4 b x0 x1 v x3 (w.setCell ⟨b, 2, none⟩ v) := by
  unfold R4 at h ⊢
  simp only [World.setCell, Array.getElem?_modify, h]
  simp
theorem R4.set3 {b : Nat} {x0 x1 x2 x3 : Value} {w : World} (h : R4 b x0 x1 x2 x3 w) (v : Value) : R4 b x0 x1 x2 v (w.setCell ⟨b, 3, none⟩ v) := by
  unfold R4 at h ⊢
  simp only [World.setCell, Array.getElem?_modify, h]
  simp
theorem or1 (n b : Nat) (hn : n < 1000000000000) (hb : b ≤ 1) : bits .or .i64 ((n : Int) * 2) (b : Int) = ((n * 2 + b : Nat) : Int) := by
  have e : (n : Int) * 2 = ((n * 2 : Nat) : Int) := by omega
  rw [e, (bits_nat .i64 63 (by decide) (fun m h0 h1 => by rw [IntKind.wrap_i64]; omega) (n * 2) b (by omega) (by omega)).2]
  have := (Nat.two_pow_add_eq_or_of_lt (i := 1) (by omega : b < 2 ^ 1) n).symm
  rw [show (2 : Nat) ^ 1 * n = n * 2 from by omega] at this
  rw [this]

set_option maxHeartbeats 1000000 in
set_option maxRecDepth 100000 in
theorem takeI (b k n left bit : Nat) (rest : Bool) (w : World) (h : RR b k (n, rest, left) w) (hb : bit ≤ 1) (hn : n < 1000000000000) (hk : k ≤ 8) (hl : left ≤ 8) (h1 : rest = true → 1 ≤ left) :
    Calls Tryz.prog 117 #[.pointer (some ⟨b, 0, none⟩), .int .i64 (bit : Int)] w fun e w' =>
      e = .returned (.tuple #[.int .i64 (((takeM k (n, rest, left) bit).2.getD 0 : Nat) : Int), .bool (takeM k (n, rest, left) bit).2.isSome]) ∧ RR b k (takeM k (n, rest, left) bit).1 w' ∧ Only b w w' := by
  have HR : Hid (RR b k (n, rest, left) w) := h
  have c0 := h.c0
  have c1 := h.c1
  have c2 := h.c2
  have c3 := h.c3
  have f0 := h.fz 0
  have f1 := h.fz 1
  have f2 := h.fz 2
  have f3 := h.fz 3
  have ror := or1 n bit hn hb
  clear h
  have H4 : Hid (R4 b (.int .i64 (k : Int)) (.int .i64 (n : Int)) (.bool rest) (.int .i64 (left : Int)) w) := HR.out
  cases rest with
  | true =>
    have hl1 := h1 rfl
    have en : ((n * 2 + bit : Nat) : Int) = (n : Int) * 2 + (bit : Int) := by omega
    by_cases hl2 : 1 < left
    · have hgt : (0 : Int) < (left : Int) - 1 := by omega
      have el : ((left - 1 : Nat) : Int) = (left : Int) - 1 := by omega
      have HM : Hid (takeM k (n, true, left) bit = ((n * 2 + bit, true, left - 1), none)) := by show _ = _; simp [takeM, hl2]
      have HEN : Hid (_ ∧ _) := And.intro en el
      rw [HM.out]
      clear en el
      go_enter Tryz.func117, Tryz.ntmps117
      go_wp2_with fail
      go_ret2
      refine ⟨rfl, ?_, (Only.setCell b 1 _ w).trans (Only.setCell b 3 _ _)⟩
      show R4 b (.int .i64 (k : Int)) (.int .i64 ((n * 2 + bit : Nat) : Int)) (.bool true) (.int .i64 ((left - 1 : Nat) : Int)) _
      rw [HEN.out.1, HEN.out.2]
      exact (H4.out.set1 _).set3 _
    · have hgt : ¬ (0 : Int) < (left : Int) - 1 := by omega
      have HM : Hid (takeM k (n, true, left) bit = ((0, false, 0), some (n * 2 + bit))) := by show _ = _; simp [takeM, hl2]
      have HEN : Hid (((n * 2 + bit : Nat) : Int) = (n : Int) * 2 + (bit : Int)) := en
      rw [HM.out]
      clear en
      go_enter Tryz.func117, Tryz.ntmps117
      go_wp2_with fail
      go_ret2
      refine ⟨?_, ?_, ?_⟩
      · simp
      · exact (((((H4.out.set1 _).set3 _).set0 _).set1 _).set2 _).set3 _
      · exact (((((Only.setCell b 1 _ w).trans (Only.setCell b 3 _ _)).trans (Only.setCell b 0 _ _)).trans (Only.setCell b 1 _ _)).trans (Only.setCell b 2 _ _)).trans (Only.setCell b 3 _ _)
  | false =>
    by_cases hb1 : bit = 1
    · subst hb1
      have HM : Hid (takeM k (n, false, left) 1 = ((n + 1, false, left), none)) := by show _ = _; simp [takeM]
      have HEN : Hid (((n + 1 : Nat) : Int) = (n : Int) + 1) := by show _ = _; omega
      rw [HM.out]
      go_enter Tryz.func117, Tryz.ntmps117
      go_wp2_with fail
      go_ret2
      refine ⟨rfl, ?_, Only.setCell b 1 _ w⟩
      show R4 b (.int .i64 (k : Int)) (.int .i64 ((n + 1 : Nat) : Int)) (.bool false) (.int .i64 (left : Int)) _
      rw [HEN.out]
      exact H4.out.set1 _
    · obtain rfl : bit = 0 := by omega
      by_cases hk0 : 0 < k
      · have hgt : (0 : Int) < (k : Int) := by omega
        have HM : Hid (takeM k (n, false, left) 0 = ((n, true, k), none)) := by show _ = _; simp [takeM, hk0]
        rw [HM.out]
        go_enter Tryz.func117, Tryz.ntmps117
        go_wp2_with fail
        go_ret2
        refine ⟨rfl, ?_, (Only.setCell b 2 _ w).trans (Only.setCell b 3 _ _)⟩
        exact (H4.out.set2 _).set3 _
      · have hgt : ¬ (0 : Int) < (k : Int) := by omega
        have HM : Hid (takeM k (n, false, left) 0 = ((0, false, 0), some n)) := by show _ = _; simp [takeM, hk0]
        rw [HM.out]
        go_enter Tryz.func117, Tryz.ntmps117
        go_wp2_with fail
        go_ret2
        refine ⟨?_, ?_, ?_⟩
        · simp
        · exact (((((H4.out.set2 _).set3 _).set0 _).set1 _).set2 _).set3 _
        · exact (((((Only.setCell b 2 _ w).trans (Only.setCell b 3 _ _)).trans (Only.setCell b 0 _ _)).trans (Only.setCell b 1 _ _)).trans (Only.setCell b 2 _ _)).trans (Only.setCell b 3 _ _)

end Go.Proofs.YtifpidhoeikdjaaGreatDoor

set_option linter.unusedVariables false
namespace Go.Proofs.YtifpidhoeikdjaaGreatDoor
open Go.RowKit Go.Shelf
attribute [local go_sem] Oper.semAt_some

theorem infoIntG : (Tryz.prog.info? 3).map (fun i => (i.zero, i.size, i.bytes)) = some (some (.int .i64 0), 1, 8) := by kernel_rfl
theorem makeCap (n : Nat) (hn : n ≤ 1099511627776) (w : World) : (Instr.makeSlice 36 (.int .i64 0) (.int .i64 (n : Int))).run Tryz.prog w = .ok (.slice (some ⟨w.heap.size, 0, none⟩) 0 n) (w.alloc (.cells (madeCells #[.int .i64 0] n) 3)) := by
  obtain ⟨i, hi, hz, hs, hb⟩ := info_parts infoIntG
  have hb' : (i.bytes : Int) * (n : Int) ≤ 281474976710656 := by rw [hb]; omega
  have hr := run_make (P := Tryz.prog) w 36 3 i (.int .i64 0) Tryz.underlying36 hi hz .i64 .i64 0 (n : Int) (by omega) (by omega) hb' (by omega)
  simp only [Int.toNat_natCast, hs, Nat.mul_one, Value.cells, Int.toNat_zero] at hr
  exact hr

end Go.Proofs.YtifpidhoeikdjaaGreatDoor

set_option linter.unusedVariables false
namespace Go.Proofs.YtifpidhoeikdjaaGreatDoor
open Go.RowKit

set_option maxHeartbeats 1000000 in
set_option maxRecDepth 100000 in
theorem implSteps (g n cap : Nat) (so : List Int) (w : World) (h : At w g so) (hn : n = so.length) (hm : n ≤ 40) (hin : ∀ x ∈ so, 0 ≤ x ∧ x ≤ 1480) :
    Calls Tryz.prog 24 #[.slice (some ⟨g, 0, none⟩) n cap] w fun e w' => ∃ v, e = .returned v ∧ ZRow w.heap.size v (gapsZ 0 so) w' ∧ Below w.heap.size w w' := by
  obtain ⟨i0, hi, hz0, hz1, hz2⟩ := info_parts infoIntG
  have HA : Hid (At w g so) := h
  have HN : Hid (n = so.length) := hn
  have HPI : Hid (∀ x ∈ so, 0 ≤ x ∧ x ≤ 1480) := hin
  have hmk := makeCap n (by omega)
  clear h hn hin
  go_enter Tryz.func24, Tryz.ntmps24
  go_wp2_with fail
  have HG0 : Hid (ZRow w.heap.size (.slice (some ⟨w.heap.size, 0, none⟩) 0 n) (gapsZ 0 (so.take 0)) (w.alloc (.cells (madeCells #[.int .i64 0] n) 3))) :=
    ⟨⟨_, _, rfl⟩, rfl, .inr ⟨_, _, _, rfl, Nat.le_refl _, World.alloc_heap_new w _, Nat.zero_le _, by unfold maxLen; omega, by rw [size_madeCells]; omega, rfl⟩⟩
  have HB0 : Hid (Below w.heap.size w (w.alloc (.cells (madeCells #[.int .i64 0] n) 3))) := (Below.refl _ w).alloc (Nat.le_refl _) _
  clear hmk
  go_loopw [3, 4, 12] (fun v l i wx => ∃ (p g6 c6 : Nat) (y : Int), p ≤ n ∧ i = .int .i64 (p : Int) ∧ l = .int .i64 y ∧ 0 ≤ y ∧ y ≤ 1480 ∧ v = .slice (some ⟨g6, 0, none⟩) p c6 ∧ Hid (y = lastZ 0 (so.take p)) ∧ Hid (ZRow w.heap.size v (gapsZ 0 (so.take p)) wx) ∧ Hid (Below w.heap.size w wx)) (fun _ _ i _ => n - (intOf i).toNat)
  case atStart => exact ⟨0, w.heap.size, n, 0, by omega, rfl, rfl, by omega, by omega, rfl, rfl, HG0, HB0⟩
  case round =>
    clear HG0 HB0
    obtain ⟨p, g6, c6, y, hp, rfl, rfl, hy0, hy1, rfl, HY, HR, HB⟩ := hrel
    have hszr := HB.out.size
    have HGLN : Hid ((gapsZ 0 (so.take p)).length = p) := by show _ = _; rw [gapsZ_length, List.length_take, ← HN.out]; omega
    by_cases hlt2 : p < n
    · have hpl : p < so.length := by rw [← HN.out]; exact hlt2
      have hc : wr.cell? ⟨g, p, none⟩ = some (.int .i64 (so.getD p 0)) := by
        rw [HB.out.cell (p := ⟨g, p, none⟩) HA.out.1]
        exact HA.out.2 p hpl
      have hin := HPI.out (so.getD p 0) (by simp [List.getElem?_eq_getElem hpl])
      have e1 : so.take (p + 1) = so.take p ++ [so.getD p 0] := by
        rw [List.take_add_one, List.getElem?_eq_getElem hpl, List.getD_eq_getElem?_getD, List.getElem?_eq_getElem hpl]
        rfl
      have HE : Hid (gapsZ 0 (so.take (p + 1)) = gapsZ 0 (so.take p) ++ [so.getD p 0 - y] ∧ so.getD p 0 = lastZ 0 (so.take (p + 1))) := by
        rw [e1, gapsZ_snoc, lastZ_snoc, ← HY.out]
        exact ⟨rfl, rfl⟩
      generalize so.getD p 0 = x at hc hin HE
      obtain ⟨hin0, hin1⟩ := hin
      have HRW : Hid (wr.ownsRow w.heap.size 3 1 (.slice (some ⟨g6, 0, none⟩) p c6) p ((gapsZ 0 (so.take p)).map (Value.int .i64))) := by
        have h5 := HR.out.2
        rw [HGLN.out] at h5
        exact h5
      have HP : Hid (p + 1 ≤ n) := hlt2
      have lp : (p : Int) < (n : Int) := by omega
      have lp0 : (0 : Int) ≤ (p : Int) := by omega
      have hx1 : p + 1 ≤ maxLen := by unfold maxLen; omega
      have hx2 : (p + 1) * 8 ≤ 140737488355328 := by omega
      clear hpl e1
      go_wp2_with (at_builtin; refine wp_app1 rfl _ _ 36 rfl w.heap.size 3 i0 (.int .i64 0) 8 Tryz.underlying36 hi hz0 hz1 hz2 rfl _ _ _ rfl HRW.out (.int .i64 (x - y)) rfl rfl hx1 hx2 hszr ?_; intro g4 c4 w4 hown4 hb4 _)
      have HR4 : Hid (ZRow w.heap.size (.slice (some ⟨g4, 0, none⟩) (p + 1) c4) (gapsZ 0 (so.take (p + 1))) w4) := by
        refine ZRow.of ?_ (by rw [gapsZ_length, List.length_take, ← HN.out]; have := HP.out; omega)
        rw [HE.out.1, List.map_append]
        exact hown4
      clear hown4
      go_roundw
      case rel => exact ⟨p + 1, g4, c4, x, HP.out, by go_num, rfl, hin0, hin1, rfl, HE.out.2, HR4, HB.out.trans hb4⟩
      case measure => have := HP.out; simp [intOf]; omega
    · obtain rfl : p = n := by omega
      have HR5 : Hid (ZRow w.heap.size (.slice (some ⟨g6, 0, none⟩) p c6) (gapsZ 0 so) wr) := by
        have h5 := HR.out
        rw [List.take_of_length_le (by rw [← HN.out]; exact Nat.le_refl _)] at h5
        exact h5
      clear hszr HR
      go_wp2_with fail
      go_ret
      exact ⟨_, rfl, HR5.out, HB.out⟩

end Go.Proofs.YtifpidhoeikdjaaGreatDoor

namespace Go.Proofs.YtifpidhoeikdjaaGreatDoor

theorem sortIns_perm (o : List Int) (z : Int) : (sortIns o z).Perm (z :: o) := by
  have e := List.takeWhile_append_dropWhile (p := fun y => decide (y ≤ z)) (l := o)
  refine (List.perm_middle).trans ?_
  rw [e]
theorem sortL_perm (l : List Int) : (sortL l).Perm l := by
  have : ∀ (l o : List Int), (l.foldl sortIns o).Perm (o ++ l) := by
    intro l
    induction l with
    | nil => intro o; simp
    | cons a r ih =>
      intro o
      rw [List.foldl_cons]
      refine (ih _).trans ?_
      exact ((sortIns_perm o a).append_right r).trans (List.perm_middle.symm)
  simpa [sortL] using this l []
theorem sortIns_pair (z : Int) : ∀ (o : List Int), o.Pairwise (· ≤ ·) → (sortIns o z).Pairwise (· ≤ ·)
  | [], _ => by simp [sortIns]
  | x :: r, h => by
    have h1 := List.pairwise_cons.1 h
    by_cases hx : x ≤ z
    · have e : sortIns (x :: r) z = x :: sortIns r z := by simp [sortIns, hx]
      rw [e]
      refine List.pairwise_cons.2 ⟨?_, sortIns_pair z r h1.2⟩
      intro y hy
      rcases sortIns_mem.1 hy with rfl | hy
      · exact hx
      · exact h1.1 y hy
    · have e : sortIns (x :: r) z = z :: x :: r := by simp [sortIns, hx]
      rw [e]
      refine List.pairwise_cons.2 ⟨?_, h⟩
      intro y hy
      rcases List.mem_cons.1 hy with rfl | hy
      · omega
      · have := h1.1 y hy; omega
theorem sortL_pair (l : List Int) : (sortL l).Pairwise (· ≤ ·) := by
  have : ∀ (l o : List Int), o.Pairwise (· ≤ ·) → (l.foldl sortIns o).Pairwise (· ≤ ·) := by
    intro l
    induction l with
    | nil => intro o h; exact h
    | cons a r ih => intro o h; exact ih _ (sortIns_pair a o h)
  exact this l [] List.Pairwise.nil
theorem perm_pair_eq : ∀ {a b : List Int}, a.Perm b → a.Pairwise (· ≤ ·) → b.Pairwise (· ≤ ·) → a = b
  | [], b, hp, _, _ => (List.nil_perm.1 hp).symm
  | x :: r, [], hp, _, _ => by simp at hp
  | x :: r, y :: s, hp, ha, hb => by
    have h1 := List.pairwise_cons.1 ha
    have h2 := List.pairwise_cons.1 hb
    have hxy : x = y := by
      have hx : x ∈ y :: s := hp.subset (by simp)
      have hy : y ∈ x :: r := hp.symm.subset (by simp)
      rcases List.mem_cons.1 hx with h | hx
      · exact h
      · rcases List.mem_cons.1 hy with h | hy
        · exact h.symm
        · have := h1.1 y hy
          have := h2.1 x hx
          omega
    subst hxy
    rw [perm_pair_eq ((List.perm_cons x).1 hp) h1.2 h2.2]
theorem merge_sortL (l : List Int) : (l.mergeSort fun x y => decide (x ≤ y)) = sortL l := by
  refine perm_pair_eq ((List.mergeSort_perm l _).trans (sortL_perm l).symm) ?_ (sortL_pair l)
  have := List.pairwise_mergeSort (le := fun x y : Int => decide (x ≤ y)) (by intro a b c; simp; omega) (by intro a b; simp; omega) l
  exact this.imp (by intro a b h; simpa using h)

end Go.Proofs.YtifpidhoeikdjaaGreatDoor

namespace Go.Proofs
open Go.Shelf
open Go.RowKit in
open Go.RowKit in
open Go.RowKit in
def Tryz.lays128_ren : Go.Shelf.Ren := ⟨fun | 128 => 73 | n => n, fun | 51 => 91 | 3 => 3 | 4 => 4 | 46 => 55 | 5 => 5 | 9 => 9 | n => n, fun | n => n⟩
theorem Tryz.lays128 : Go.Proofs.Lays.n128 Tryz.prog Tryz.lays128_ren := {
  mixed := by kernel_rfl
  f128 := Tryz.func73.trans (congrArg some (by kernel_rfl))
  t3 := Tryz.underlying3
  a3 := Tryz.isAgg3
  z3 := Tryz.sizeOf3
  v3 := Tryz.zeroValue3
  t4 := Tryz.underlying4
  a4 := Tryz.isAgg4
  z4 := Tryz.sizeOf4
  v4 := Tryz.zeroValue4
  t5 := Tryz.underlying5
  a5 := Tryz.isAgg5
  z5 := Tryz.sizeOf5
  v5 := Tryz.zeroValue5
  t9 := Tryz.underlying9
  a9 := Tryz.isAgg9
  z9 := Tryz.sizeOf9
  v9 := Tryz.zeroValue9
  t46 := Tryz.underlying55
  a46 := Tryz.isAgg55
  z46 := Tryz.sizeOf55
  v46 := Tryz.zeroValue55
  t51 := Tryz.underlying91
  a51 := Tryz.isAgg91
  z51 := Tryz.sizeOf91
  v51 := Tryz.zeroValue91 }
theorem Tryz.bits_Len32 (x : Int) (w : World) (h0 : 0 ≤ x) (h1 : x ≤ 4294967295) :
    Calls Tryz.prog 73 #[.int .u32 x] w fun e w' => e = .returned (.int .i64 (Lib.bitLen x.toNat)) ∧ w' = w := Any.bits_Len32 Tryz.lays128 x w h0 h1
def Tryz.lays125_ren : Go.Shelf.Ren := ⟨fun | 125 => 43 | 128 => 73 | 129 => 74 | n => n, fun | 46 => 55 | 3 => 3 | 51 => 91 | 53 => 93 | 4 => 4 | 5 => 5 | 9 => 9 | n => n, fun | n => n⟩
theorem Tryz.lays125 : Go.Proofs.Lays.n125 Tryz.prog Tryz.lays125_ren := {
  mixed := by kernel_rfl
  f125 := Tryz.func43.trans (congrArg some (by kernel_rfl))
  f128 := Tryz.func73.trans (congrArg some (by kernel_rfl))
  f129 := Tryz.func74.trans (congrArg some (by kernel_rfl))
  t3 := Tryz.underlying3
  a3 := Tryz.isAgg3
  z3 := Tryz.sizeOf3
  v3 := Tryz.zeroValue3
  t4 := Tryz.underlying4
  a4 := Tryz.isAgg4
  z4 := Tryz.sizeOf4
  v4 := Tryz.zeroValue4
  t5 := Tryz.underlying5
  a5 := Tryz.isAgg5
  z5 := Tryz.sizeOf5
  v5 := Tryz.zeroValue5
  t9 := Tryz.underlying9
  a9 := Tryz.isAgg9
  z9 := Tryz.sizeOf9
  v9 := Tryz.zeroValue9
  t46 := Tryz.underlying55
  a46 := Tryz.isAgg55
  z46 := Tryz.sizeOf55
  v46 := Tryz.zeroValue55
  t51 := Tryz.underlying91
  a51 := Tryz.isAgg91
  z51 := Tryz.sizeOf91
  v51 := Tryz.zeroValue91
  t53 := Tryz.underlying93
  a53 := Tryz.isAgg93
  z53 := Tryz.sizeOf93
  v53 := Tryz.zeroValue93 }
theorem Tryz.bits_Len (x : Int) (w : World) (h0 : 0 ≤ x) (h1 : x ≤ 18446744073709551615) :
    Calls Tryz.prog 43 #[.int .u64 x] w fun e w' => e = .returned (.int .i64 (Lib.bitLen x.toNat)) ∧ w' = w := Any.bits_Len Tryz.lays125 x w h0 h1
open Go.RowKit in
open Go.RowKit in
open Go.RowKit in
open Go.RowKit in
open Go.RowKit in
open Go.RowKit in
open Go.RowKit in
def Tryz.lays129_ren : Go.Shelf.Ren := ⟨fun | 129 => 74 | n => n, fun | 53 => 93 | 3 => 3 | 4 => 4 | 46 => 55 | 5 => 5 | 9 => 9 | n => n, fun | n => n⟩
theorem Tryz.lays129 : Go.Proofs.Lays.n129 Tryz.prog Tryz.lays129_ren := {
  mixed := by kernel_rfl
  f129 := Tryz.func74.trans (congrArg some (by kernel_rfl))
  t3 := Tryz.underlying3
  a3 := Tryz.isAgg3
  z3 := Tryz.sizeOf3
  v3 := Tryz.zeroValue3
  t4 := Tryz.underlying4
  a4 := Tryz.isAgg4
  z4 := Tryz.sizeOf4
  v4 := Tryz.zeroValue4
  t5 := Tryz.underlying5
  a5 := Tryz.isAgg5
  z5 := Tryz.sizeOf5
  v5 := Tryz.zeroValue5
  t9 := Tryz.underlying9
  a9 := Tryz.isAgg9
  z9 := Tryz.sizeOf9
  v9 := Tryz.zeroValue9
  t46 := Tryz.underlying55
  a46 := Tryz.isAgg55
  z46 := Tryz.sizeOf55
  v46 := Tryz.zeroValue55
  t53 := Tryz.underlying93
  a53 := Tryz.isAgg93
  z53 := Tryz.sizeOf93
  v53 := Tryz.zeroValue93 }
theorem Tryz.bits_Len64 (x : Int) (w : World) (h0 : 0 ≤ x) (h1 : x ≤ 18446744073709551615) :
    Calls Tryz.prog 74 #[.int .u64 x] w fun e w' => e = .returned (.int .i64 (Lib.bitLen x.toNat)) ∧ w' = w := Any.bits_Len64 Tryz.lays129 x w h0 h1
open Go.RowKit Go.Lib in
def Tryz.lays189_ren : Go.Shelf.Ren := ⟨fun | 189 => 21 | 125 => 43 | 257 => 46 | 128 => 73 | 129 => 74 | 294 => 79 | 295 => 80 | 296 => 81 | 297 => 82 | 298 => 83 | 299 => 84 | 216 => 85 | 300 => 86 | 301 => 87 | 328 => 107 | 329 => 96 | 330 => 97 | 331 => 108 | 332 => 109 | 215 => 110 | 343 => 120 | n => n, fun | 28 => 36 | 3 => 3 | 46 => 55 | 0 => 0 | 51 => 91 | 53 => 93 | 4 => 4 | 183 => 83 | 182 => 82 | 131 => 88 | 5 => 5 | 9 => 9 | 218 => 111 | 222 => 115 | 228 => 132 | 229 => 72 | n => n, fun | n => n⟩
theorem Tryz.lays189 : Go.Proofs.Lays.n189 Tryz.prog Tryz.lays189_ren := {
  mixed := by kernel_rfl
  f125 := Tryz.func43.trans (congrArg some (by kernel_rfl))
  f128 := Tryz.func73.trans (congrArg some (by kernel_rfl))
  f129 := Tryz.func74.trans (congrArg some (by kernel_rfl))
  f189 := Tryz.func21.trans (congrArg some (by kernel_rfl))
  f215 := Tryz.func110.trans (congrArg some (by kernel_rfl))
  f216 := Tryz.func85.trans (congrArg some (by kernel_rfl))
  f257 := Tryz.func46.trans (congrArg some (by kernel_rfl))
  f294 := Tryz.func79.trans (congrArg some (by kernel_rfl))
  f295 := Tryz.func80.trans (congrArg some (by kernel_rfl))
  f296 := Tryz.func81.trans (congrArg some (by kernel_rfl))
  f297 := Tryz.func82.trans (congrArg some (by kernel_rfl))
  f298 := Tryz.func83.trans (congrArg some (by kernel_rfl))
  f299 := Tryz.func84.trans (congrArg some (by kernel_rfl))
  f300 := Tryz.func86.trans (congrArg some (by kernel_rfl))
  f301 := Tryz.func87.trans (congrArg some (by kernel_rfl))
  f328 := Tryz.func107.trans (congrArg some (by kernel_rfl))
  f329 := Tryz.func96.trans (congrArg some (by kernel_rfl))
  f330 := Tryz.func97.trans (congrArg some (by kernel_rfl))
  f331 := Tryz.func108.trans (congrArg some (by kernel_rfl))
  f332 := Tryz.func109.trans (congrArg some (by kernel_rfl))
  f343 := Tryz.func120.trans (congrArg some (by kernel_rfl))
  t0 := Tryz.underlying0
  a0 := Tryz.isAgg0
  z0 := Tryz.sizeOf0
  v0 := Tryz.zeroValue0
  t3 := Tryz.underlying3
  a3 := Tryz.isAgg3
  z3 := Tryz.sizeOf3
  v3 := Tryz.zeroValue3
  t4 := Tryz.underlying4
  a4 := Tryz.isAgg4
  z4 := Tryz.sizeOf4
  v4 := Tryz.zeroValue4
  t5 := Tryz.underlying5
  a5 := Tryz.isAgg5
  z5 := Tryz.sizeOf5
  v5 := Tryz.zeroValue5
  t9 := Tryz.underlying9
  a9 := Tryz.isAgg9
  z9 := Tryz.sizeOf9
  v9 := Tryz.zeroValue9
  t28 := Tryz.underlying36
  a28 := Tryz.isAgg36
  z28 := Tryz.sizeOf36
  v28 := Tryz.zeroValue36
  t46 := Tryz.underlying55
  a46 := Tryz.isAgg55
  z46 := Tryz.sizeOf55
  v46 := Tryz.zeroValue55
  t51 := Tryz.underlying91
  a51 := Tryz.isAgg91
  z51 := Tryz.sizeOf91
  v51 := Tryz.zeroValue91
  t53 := Tryz.underlying93
  a53 := Tryz.isAgg93
  z53 := Tryz.sizeOf93
  v53 := Tryz.zeroValue93
  t131 := Tryz.underlying88
  a131 := Tryz.isAgg88
  z131 := Tryz.sizeOf88
  v131 := Tryz.zeroValue88
  t182 := Tryz.underlying82
  a182 := Tryz.isAgg82
  z182 := Tryz.sizeOf82
  v182 := Tryz.zeroValue82
  t183 := Tryz.underlying83
  a183 := Tryz.isAgg83
  z183 := Tryz.sizeOf83
  v183 := Tryz.zeroValue83
  t218 := Tryz.underlying111
  a218 := Tryz.isAgg111
  z218 := Tryz.sizeOf111
  v218 := Tryz.zeroValue111
  t222 := Tryz.underlying115
  a222 := Tryz.isAgg115
  z222 := Tryz.sizeOf115
  v222 := Tryz.zeroValue115
  t228 := Tryz.underlying132
  a228 := Tryz.isAgg132
  z228 := Tryz.sizeOf132
  v228 := Tryz.zeroValue132
  t229 := Tryz.underlying72
  a229 := Tryz.isAgg72
  z229 := Tryz.sizeOf72
  v229 := Tryz.zeroValue72 }
open Go.Sort Go.RowKit in
theorem Tryz.slices_Sort_int (blk off cap : Nat) (zs : List Int) (w : World) (hH : Holds (Value.int .i64) w blk off zs.toArray) (hblk : blk < w.heap.size) (hsz : zs.length < 4611686018427387904) :
    Calls Tryz.prog 21 #[.slice (some ⟨blk, off, none⟩) zs.length cap] w fun e w' =>
      e = .returned (.tuple #[]) ∧ ∃ n os, w' = grow (putRow (Value.int .i64) (Sort.ahead w n) blk off (zs.mergeSort fun x y => decide (x ≤ y)).toArray) os := Any.slices_Sort_int Tryz.lays189 blk off cap zs w hH hblk hsz
def Tryz.lays190_ren : Go.Shelf.Ren := ⟨fun | 190 => 18 | 125 => 43 | 258 => 42 | 128 => 73 | 129 => 74 | 302 => 64 | 303 => 65 | 304 => 66 | 305 => 67 | 306 => 68 | 307 => 69 | 308 => 70 | 309 => 71 | 310 => 72 | 333 => 95 | 329 => 96 | 330 => 97 | 334 => 98 | 335 => 99 | 336 => 100 | 344 => 118 | n => n, fun | 31 => 22 | 9 => 9 | 3 => 3 | 46 => 55 | 0 => 0 | 51 => 91 | 53 => 93 | 4 => 4 | 183 => 83 | 182 => 82 | 131 => 88 | 5 => 5 | 218 => 111 | 222 => 115 | 228 => 132 | 229 => 72 | n => n, fun | n => n⟩
theorem Tryz.lays190 : Go.Proofs.Lays.n190 Tryz.prog Tryz.lays190_ren := {
  mixed := by kernel_rfl
  f125 := Tryz.func43.trans (congrArg some (by kernel_rfl))
  f128 := Tryz.func73.trans (congrArg some (by kernel_rfl))
  f129 := Tryz.func74.trans (congrArg some (by kernel_rfl))
  f190 := Tryz.func18.trans (congrArg some (by kernel_rfl))
  f258 := Tryz.func42.trans (congrArg some (by kernel_rfl))
  f302 := Tryz.func64.trans (congrArg some (by kernel_rfl))
  f303 := Tryz.func65.trans (congrArg some (by kernel_rfl))
  f304 := Tryz.func66.trans (congrArg some (by kernel_rfl))
  f305 := Tryz.func67.trans (congrArg some (by kernel_rfl))
  f306 := Tryz.func68.trans (congrArg some (by kernel_rfl))
  f307 := Tryz.func69.trans (congrArg some (by kernel_rfl))
  f308 := Tryz.func70.trans (congrArg some (by kernel_rfl))
  f309 := Tryz.func71.trans (congrArg some (by kernel_rfl))
  f310 := Tryz.func72.trans (congrArg some (by kernel_rfl))
  f329 := Tryz.func96.trans (congrArg some (by kernel_rfl))
  f330 := Tryz.func97.trans (congrArg some (by kernel_rfl))
  f333 := Tryz.func95.trans (congrArg some (by kernel_rfl))
  f334 := Tryz.func98.trans (congrArg some (by kernel_rfl))
  f335 := Tryz.func99.trans (congrArg some (by kernel_rfl))
  f336 := Tryz.func100.trans (congrArg some (by kernel_rfl))
  f344 := Tryz.func118.trans (congrArg some (by kernel_rfl))
  t0 := Tryz.underlying0
  a0 := Tryz.isAgg0
  z0 := Tryz.sizeOf0
  v0 := Tryz.zeroValue0
  t3 := Tryz.underlying3
  a3 := Tryz.isAgg3
  z3 := Tryz.sizeOf3
  v3 := Tryz.zeroValue3
  t4 := Tryz.underlying4
  a4 := Tryz.isAgg4
  z4 := Tryz.sizeOf4
  v4 := Tryz.zeroValue4
  t5 := Tryz.underlying5
  a5 := Tryz.isAgg5
  z5 := Tryz.sizeOf5
  v5 := Tryz.zeroValue5
  t9 := Tryz.underlying9
  a9 := Tryz.isAgg9
  z9 := Tryz.sizeOf9
  v9 := Tryz.zeroValue9
  t31 := Tryz.underlying22
  a31 := Tryz.isAgg22
  z31 := Tryz.sizeOf22
  v31 := Tryz.zeroValue22
  t46 := Tryz.underlying55
  a46 := Tryz.isAgg55
  z46 := Tryz.sizeOf55
  v46 := Tryz.zeroValue55
  t51 := Tryz.underlying91
  a51 := Tryz.isAgg91
  z51 := Tryz.sizeOf91
  v51 := Tryz.zeroValue91
  t53 := Tryz.underlying93
  a53 := Tryz.isAgg93
  z53 := Tryz.sizeOf93
  v53 := Tryz.zeroValue93
  t131 := Tryz.underlying88
  a131 := Tryz.isAgg88
  z131 := Tryz.sizeOf88
  v131 := Tryz.zeroValue88
  t182 := Tryz.underlying82
  a182 := Tryz.isAgg82
  z182 := Tryz.sizeOf82
  v182 := Tryz.zeroValue82
  t183 := Tryz.underlying83
  a183 := Tryz.isAgg83
  z183 := Tryz.sizeOf83
  v183 := Tryz.zeroValue83
  t218 := Tryz.underlying111
  a218 := Tryz.isAgg111
  z218 := Tryz.sizeOf111
  v218 := Tryz.zeroValue111
  t222 := Tryz.underlying115
  a222 := Tryz.isAgg115
  z222 := Tryz.sizeOf115
  v222 := Tryz.zeroValue115
  t228 := Tryz.underlying132
  a228 := Tryz.isAgg132
  z228 := Tryz.sizeOf132
  v228 := Tryz.zeroValue132
  t229 := Tryz.underlying72
  a229 := Tryz.isAgg72
  z229 := Tryz.sizeOf72
  v229 := Tryz.zeroValue72 }
open Go.Sort Go.RowKit in
theorem Tryz.slices_Sort_string (blk off cap : Nat) (ss : List (List UInt8)) (w : World) (hH : Holds encStr w blk off ss.toArray) (hblk : blk < w.heap.size) (hsz : ss.length < 4611686018427387904) :
    Calls Tryz.prog 18 #[.slice (some ⟨blk, off, none⟩) ss.length cap] w fun e w' =>
      e = .returned (.tuple #[]) ∧ ∃ n os, w' = grow (putRow encStr (Sort.ahead w n) blk off (ss.mergeSort fun x y => decide (x ≤ y)).toArray) os := Any.slices_Sort_string Tryz.lays190 blk off cap ss w hH hblk hsz
def Tryz.laysNm216_ren : Go.Shelf.Ren := ⟨fun | 16 => 17 | n => n, fun | 24 => 22 | 9 => 9 | 4 => 4 | n => n, fun | n => n⟩
theorem Tryz.laysNm216 : Go.Proofs.Lays2.n16 Tryz.prog Tryz.laysNm216_ren := {
  mixed := by kernel_rfl
  f16 := Tryz.func17.trans (congrArg some (by kernel_rfl))
  t4 := Tryz.underlying4
  a4 := Tryz.isAgg4
  z4 := Tryz.sizeOf4
  v4 := Tryz.zeroValue4
  t9 := Tryz.underlying9
  a9 := Tryz.isAgg9
  z9 := Tryz.sizeOf9
  v9 := Tryz.zeroValue9
  t24 := Tryz.underlying22
  a24 := Tryz.isAgg22
  z24 := Tryz.sizeOf22
  v24 := Tryz.zeroValue22
  i9 := by kernel_rfl }
open Go.RowKit Go.Lib in
theorem Tryz.slices_Clone_string (b off n c : Nat) (zs : List ByteArray) (w : World) (hz : n ≤ zs.length) (hbig : n * 16 ≤ 140737488355328) (hc : ∀ j, j < zs.length → w.cell? ⟨b, off + j, none⟩ = some (.string (zs.getD j ByteArray.empty))) :
    Calls Tryz.prog 17 #[.slice (some ⟨b, off, none⟩) n c] w fun e w' => ∃ v', e = .returned v' ∧ w'.ownsRow w.heap.size 9 1 v' n ((zs.take n).map (Value.string)) ∧ v' ≠ .slice none 0 0 ∧ Below w.heap.size w w' := Any.slices_Clone_string Tryz.laysNm216 b off n c zs w hz hbig hc
open Go.RowKit Go.Lib in
theorem Tryz.slices_Clone_string_nil (n c : Nat) (w : World) :
    Calls Tryz.prog 17 #[.slice none n c] w fun e w' => e = .returned (.slice none 0 0) ∧ w' = w := Any.slices_Clone_string_nil Tryz.laysNm216 n c w
open Go.RowKit Go.Lib in
theorem Tryz.slices_Clone_string_zero (a : Addr) (c : Nat) (w : World) :
    Calls Tryz.prog 17 #[.slice (some a) 0 c] w fun e w' => ∃ v', e = .returned v' ∧ w'.ownsRow w.heap.size 9 1 v' 0 [] ∧ v' ≠ .slice none 0 0 ∧ Below w.heap.size w w' := Any.slices_Clone_string_zero Tryz.laysNm216 a c w
def Tryz.lays194_ren : Go.Shelf.Ren := ⟨fun | 194 => 19 | n => n, fun | 31 => 22 | 9 => 9 | 3 => 3 | 4 => 4 | 0 => 0 | n => n, fun | n => n⟩
theorem Tryz.lays194 : Go.Proofs.Lays.n194 Tryz.prog Tryz.lays194_ren := {
  mixed := by kernel_rfl
  f194 := Tryz.func19.trans (congrArg some (by kernel_rfl))
  t0 := Tryz.underlying0
  a0 := Tryz.isAgg0
  z0 := Tryz.sizeOf0
  v0 := Tryz.zeroValue0
  t3 := Tryz.underlying3
  a3 := Tryz.isAgg3
  z3 := Tryz.sizeOf3
  v3 := Tryz.zeroValue3
  t4 := Tryz.underlying4
  a4 := Tryz.isAgg4
  z4 := Tryz.sizeOf4
  v4 := Tryz.zeroValue4
  t9 := Tryz.underlying9
  a9 := Tryz.isAgg9
  z9 := Tryz.sizeOf9
  v9 := Tryz.zeroValue9
  t31 := Tryz.underlying22
  a31 := Tryz.isAgg22
  z31 := Tryz.sizeOf22
  v31 := Tryz.zeroValue22 }
open Go.RowKit Go.Lib Go.Sort in
theorem Tryz.slices_Compact_string_arr (blk off cap : Nat) (d : Array (List UInt8)) (w : World) (hH : Holds encStr w blk off d) (hsz : d.size ≤ 9223372036854775807) (hcap : d.size ≤ cap) :
    Calls Tryz.prog 19 #[.slice (some ⟨blk, off, none⟩) d.size cap] w fun e w' => e = .returned (.slice (some ⟨blk, off, none⟩) (compactUpTo d d.size).length cap) ∧ ∃ q, w' = putRow encStr (Sort.ahead w q) blk off (compactUpTo d d.size ++ List.replicate (d.size - (compactUpTo d d.size).length) []).toArray := Any.slices_Compact_string_arr Tryz.lays194 blk off cap d w hH hsz hcap
open Go.RowKit Go.Lib Go.Sort in
theorem Tryz.slices_Compact_string (blk off cap : Nat) (zs : List (List UInt8)) (w : World) (hH : Holds encStr w blk off zs.toArray) (hsz : zs.length ≤ 9223372036854775807) (hcap : zs.length ≤ cap) :
    Calls Tryz.prog 19 #[.slice (some ⟨blk, off, none⟩) zs.length cap] w fun e w' => e = .returned (.slice (some ⟨blk, off, none⟩) (Lib.compact zs).length cap) ∧ ∃ q, w' = putRow encStr (Sort.ahead w q) blk off (Lib.compact zs ++ List.replicate (zs.length - (Lib.compact zs).length) []).toArray := Any.slices_Compact_string Tryz.lays194 blk off cap zs w hH hsz hcap
open Go.RowKit Go.Lib Go.Sort in
theorem Tryz.slices_Compact_string_empty (a : Option Addr) (cap : Nat) (w : World) :
    Calls Tryz.prog 19 #[.slice a 0 cap] w fun e w' => e = .returned (.slice a 0 cap) ∧ w' = w := Any.slices_Compact_string_empty Tryz.lays194 a cap w
end Go.Proofs

set_option linter.unusedVariables false
namespace Go.Proofs.YtifpidhoeikdjaaGreatDoor
open Go.RowKit Go.Sort

def Cloned (B g n c : Nat) (ss : List ByteArray) (w w' : World) : Prop := w'.ownsRow B 9 1 (.slice (some ⟨g, 0, none⟩) n c) n (ss.map Value.string) ∧ Below B w w' ∧ B ≤ g
def SortedS (g : Nat) (ss : List ByteArray) (w1 w2 : World) : Prop := ∃ nn os, w2 = grow (putRow encStr (Sort.ahead w1 nn) g 0 ((ss.map fun s => s.data.toList).mergeSort fun x y => decide (x ≤ y)).toArray) os

theorem cloneS (g n c : Nat) (ss : List ByteArray) (w : World) (h : AtS w g ss) (hn : n = ss.length) (hm : n ≤ 40) :
    Calls Tryz.prog 17 #[.slice (some ⟨g, 0, none⟩) n c] w fun e w' => ∃ g1 c1, e = .returned (.slice (some ⟨g1, 0, none⟩) n c1) ∧ Cloned w.heap.size g1 n c1 ss w w' := by
  refine (Tryz.slices_Clone_string g 0 n c ss w (by omega) (by omega) (fun j hj => by rw [Nat.zero_add]; exact h.2 j hj)).mono ?_
  rintro e w' ⟨v', rfl, hown, hnn, hb⟩
  rw [List.take_of_length_le (by omega)] at hown
  obtain ⟨g1, c1, rfl, h1, h2, _⟩ := Lib.holds_of_ownsRow (enc := Value.string) hown hnn
  exact ⟨g1, c1, rfl, hown, hb, h1⟩
theorem sortS (B g n c : Nat) (ss : List ByteArray) (w w1 : World) (h : Cloned B g n c ss w w1) (hm : n ≤ 40) :
    Calls Tryz.prog 18 #[.slice (some ⟨g, 0, none⟩) n c] w1 fun e w2 => e = .returned (.tuple #[]) ∧ SortedS g ss w1 w2 := by
  have hown := h.1
  rw [← enc_data] at hown
  obtain ⟨g', c', hv, h1, h2, h3, h4, h5, hH⟩ := Lib.holds_of_ownsRow hown (by simp)
  cases hv
  have hs := Tryz.slices_Sort_string g 0 c (ss.map fun s => s.data.toList) w1 hH h2 (by omega)
  rw [h5] at hs
  exact hs
theorem compactS (g n c : Nat) (ss : List ByteArray) (w w1 w2 : World) (h : Cloned w.heap.size g n c ss w w1) (hs : SortedS g ss w1 w2) :
    Calls Tryz.prog 19 #[.slice (some ⟨g, 0, none⟩) n c] w2 fun e w3 => e = .returned (.slice (some ⟨g, 0, none⟩) (setL ss).length c) ∧ w3.ownsRow w.heap.size 9 1 (.slice (some ⟨g, 0, none⟩) (setL ss).length c) (setL ss).length ((setL ss).map Value.string) ∧ Below w.heap.size w w3 := by
  obtain ⟨nn, os, rfl⟩ := hs
  have hown := h.1
  have hn : ss.length = n := by simpa using hown.1
  rw [← enc_data] at hown
  obtain ⟨g', c', hv, h1, h2, h3, h4, h5, hH⟩ := Lib.holds_of_ownsRow hown (by simp)
  cases hv
  have hl2 : ((ss.map fun s => s.data.toList).mergeSort fun x y => decide (x ≤ y)).length = n := by rw [List.length_mergeSort]; exact h5
  have hcs : Lib.compact ((ss.map fun s => s.data.toList).mergeSort fun x y => decide (x ≤ y)) = (setL ss).map fun s => s.data.toList := compact_set ss
  have hcl : (Lib.compact ((ss.map fun s => s.data.toList).mergeSort fun x y => decide (x ≤ y))).length = (setL ss).length := by rw [hcs, List.length_map]
  have hsl := fun nn q os => set_left (nn := nn) (q := q) (os := os) (ss := ss) (w := w) (w1 := w1) (g := g) (cap := c) (by rw [hn]; exact h.1) h.2.1 h.2.2
  dsimp only at hsl
  generalize ((ss.map fun s => s.data.toList).mergeSort fun x y => decide (x ≤ y)) = so at hl2 hsl hcl
  have hH2 : Holds encStr (grow (putRow encStr (Sort.ahead w1 nn) g 0 so.toArray) os) g 0 so.toArray :=
    holds_grow encStr _ os g 0 _ (by simpa [putRow, mapBlock, Sort.ahead] using h2) (holds_putRow encStr _ g 0 _ _ (holds_ahead encStr w1 nn g 0 _ hH) (by simp [hl2, h5]))
  have hc := Tryz.slices_Compact_string g 0 c so _ hH2 (by unfold maxLen at h4; omega) (by omega)
  rw [hl2] at hc
  refine hc.mono ?_
  rintro e w3 ⟨rfl, q, rfl⟩
  refine ⟨by rw [hcl], ?_⟩
  have := hsl nn q os
  rw [hl2] at this
  exact this
theorem sortI (B g n c : Nat) (zs : List Int) (w : World) (h : ZRow B (.slice (some ⟨g, 0, none⟩) n c) zs w) (hB : B ≤ w.heap.size) (hm : n ≤ 40) :
    Calls Tryz.prog 21 #[.slice (some ⟨g, 0, none⟩) n c] w fun e w' => e = .returned (.tuple #[]) ∧ ZRow B (.slice (some ⟨g, 0, none⟩) n c) (sortL zs) w' ∧ Below B w w' := by
  have hn : n = zs.length := h.at.2
  subst hn
  rcases h.2.2 with ⟨h0, _⟩ | ⟨g', cap', cur, hv, hbase, hb, h1, h2, h3, h4⟩
  · cases h0
  cases hv
  have hH : Holds (Value.int .i64) w g 0 zs.toArray := holds_of_blockI hb (by simpa using h4)
  have hs := Tryz.slices_Sort_int g 0 c zs w hH (Array.getElem?_eq_some_iff.1 hb).1 (by omega)
  refine hs.mono ?_
  rintro e w' ⟨rfl, nn, os, rfl⟩
  refine ⟨rfl, ?_, (Below.refl _ w).grown (grownBy_sortedI _) hB (fun j hj => by cases hj; exact hbase)⟩
  have hl : (zs.mergeSort fun x y => decide (x ≤ y)).length = zs.length := List.length_mergeSort zs
  have ho := ownsRow_sortedI (n := nn) (os := os) (ts := zs.mergeSort fun x y => decide (x ≤ y)) hl hbase hb h1 h2 h3
  rw [merge_sortL] at ho ⊢
  exact ZRow.of ho (sortL_length zs).symm

end Go.Proofs.YtifpidhoeikdjaaGreatDoor

set_option linter.unusedVariables false
namespace Go.Proofs.YtifpidhoeikdjaaGreatDoor
open Go.RowKit

theorem figIndex (b : UInt8) (w : World) :
    Calls Tryz.prog 41 #[.string ⟨#[48, 49, 50, 51, 52, 53, 54, 55, 56, 57, 97, 98, 99, 100, 101, 102]⟩, .int .u8 b.toNat] w fun e w' => e = .returned (.int .i64 (figAt b)) ∧ w = w' := by
  refine (Tryz.strings_IndexByte _ _ _).mono ?_
  rintro e w' ⟨rfl, rfl⟩
  refine ⟨?_, rfl⟩
  have : ((b.toNat : Int).toNat).toUInt8 = b := by simp
  rw [this]
  exact congrArg (fun x => Ending.returned (Value.int .i64 x)) (figAt_eq b)

set_option maxHeartbeats 2000000 in
set_option maxRecDepth 100000 in
theorem implSumOk (s : ByteArray) (w : World) :
    Calls Tryz.prog 15 #[.string s] w fun e w' => e = .returned (.bool (isSum s.data.toList)) ∧ w = w' := by
  by_cases hl : s.size = 16
  · have hl' : ((s.size : Int) != 16) = false := by simp [hl]
    go_enter Tryz.func15, Tryz.ntmps15
    go_wp2
    go_loop [9] (fun i => ∃ k : Nat, k ≤ s.size ∧ i = .int .i64 k ∧ Hid (∀ j (hj : j < s.size), j < k → hexB s[j] = true)) (fun i => s.size - (intOf i).toNat)
    case atStart => exact ⟨0, by omega, rfl, fun j hj h => by omega⟩
    case round =>
      obtain ⟨k, hk, rfl, hall⟩ := hrel
      by_cases hlt : k < s.size
      · cases hx : hexB s[k] with
        | true =>
          have hf : ¬ figAt s[k] < 0 := by rw [figAt_yes _ hx]; omega
          go_wp2_with (go_at_call 41; refine (figIndex _ _).mono ?_; rintro e w1 ⟨rfl, rfl⟩)
          go_round
          case rel =>
            refine ⟨k + 1, by omega, by go_num, ?_⟩
            intro j hj hjk
            rcases Nat.lt_or_ge j k with h | h
            · exact hall.out j hj h
            · obtain rfl : j = k := by omega
              exact hx
          case measure => simp [intOf]; omega
        | false =>
          have hf : figAt s[k] < 0 := by rw [figAt_no _ hx]; decide
          have hno := isSum_no k hlt hx
          go_wp2_with (go_at_call 41; refine (figIndex _ _).mono ?_; rintro e w1 ⟨rfl, rfl⟩)
          go_ret
          rw [hno]
          exact ⟨rfl, rfl⟩
      · have hyes := isSum_yes hl (fun j hj => hall.out j hj (by omega))
        go_wp2
        go_ret
        exact ⟨rfl, rfl⟩
  · have hl' : ((s.size : Int) != 16) = true := by simp; omega
    have hno : isSum s.data.toList = false := by
      cases hh : isSum s.data.toList with
      | false => rfl
      | true => exact absurd (by simpa using isSum_len hh) hl
    go_enter Tryz.func15, Tryz.ntmps15
    go_wp2
    go_ret
    rw [hno]
    exact ⟨rfl, rfl⟩

set_option maxHeartbeats 2000000 in
set_option maxRecDepth 100000 in
theorem implSumHead (s : ByteArray) (w : World) :
    Calls Tryz.prog 44 #[.string s] w fun e w' => e = .returned (.int .i64 (sumHead s.data.toList)) ∧ w = w' := by
  cases hx : isSum s.data.toList with
  | false =>
    have hv : sumHead s.data.toList = -1 := by simp [sumHead, hx]
    rw [hv]
    go_enter Tryz.func44, Tryz.ntmps44
    go_wp2_with (go_at_call 15; refine (implSumOk _ _).mono ?_; rintro e w1 ⟨rfl, rfl⟩)
    go_ret
    exact ⟨rfl, rfl⟩
  | true =>
    have HV : Hid (sumHead s.data.toList = ((hexN (s.data.toList.take 8) / 2 : Nat) : Int)) := by simp [Hid, sumHead, hx]
    have hsz : s.size = 16 := by simpa using isSum_len hx
    have HX : Hid (isSum s.data.toList = true) := hx
    go_enter Tryz.func44, Tryz.ntmps44
    go_wp2_with (go_at_call 15; refine (implSumOk _ _).mono ?_; rintro e w1 ⟨rfl, rfl⟩)
    clear hx
    go_loop [3, 8] (fun h i => ∃ k n : Nat, k ≤ 8 ∧ i = .int .i64 k ∧ h = .int .u32 n ∧ Hid (n = hexN (s.data.toList.take k))) (fun _ i => 8 - (intOf i).toNat)
    case atStart => exact ⟨0, 0, by omega, rfl, rfl, rfl⟩
    case round =>
      obtain ⟨k, n, hk, rfl, rfl, hn⟩ := hrel
      by_cases hlt : k < 8
      · have hks : k < s.size := by omega
        have hxk := isSum_at HX.out k hks
        have hf : figAt s[k] = (hexV s[k] : Int) := figAt_yes _ hxk
        have hvl := hexV_lt _ hxk
        have hall : (s.data.toList.take k).all hexB = true := by
          rw [List.all_eq_true]
          intro b hb
          have := HX.out
          simp only [isSum, Bool.and_eq_true, List.all_eq_true] at this
          exact this.2 b (List.mem_of_mem_take hb)
        have hle := hexN_le _ hall
        rw [take_len s k (by omega), ← hn.out] at hle
        have h7 : 16 ^ k ≤ 16 ^ 7 := Nat.pow_le_pow_right (by decide) (by omega)
        have hor := or16 n (hexV s[k]) (by omega) hvl
        have HN : Hid (n * 16 + hexV s[k] = hexN (s.data.toList.take (k + 1))) := by
          have := hexN_snoc (s.data.toList.take k) s[k]
          rw [← take_snoc s k hks, ← hn.out] at this
          exact this.symm
        clear hall hle h7
        go_wp2_with (go_at_call 41; refine (figIndex _ _).mono ?_; rintro e w1 ⟨rfl, rfl⟩)
        go_round
        case rel => exact ⟨k + 1, _, by omega, by go_num, rfl, HN⟩
        case measure => simp [intOf]; omega
      · obtain rfl : k = 8 := by omega
        have hall : (s.data.toList.take 8).all hexB = true := by
          rw [List.all_eq_true]
          intro b hb
          have := HX.out
          simp only [isSum, Bool.and_eq_true, List.all_eq_true] at this
          exact this.2 b (List.mem_of_mem_take hb)
        have hle := hexN_le _ hall
        rw [take_len s 8 (by omega), ← hn.out] at hle
        clear hall
        go_wp2
        go_ret
        rw [HV.out, ← hn.out]
        exact ⟨by simp, rfl⟩

end Go.Proofs.YtifpidhoeikdjaaGreatDoor

set_option linter.unusedVariables false
namespace Go.Proofs.YtifpidhoeikdjaaGreatDoor
open Go.RowKit

theorem turn32_eq (x j : Nat) (hx : x < 4294967296) (hj : j ≤ 31) : bits .or .u32 ((x : Int) / 2 ^ j) ((x : Int) * 2 ^ (32 - j) % 4294967296) = ((rotr x j : Nat) : Int) := by
  have e1 : (x : Int) * 2 ^ (32 - j) % 4294967296 = ((x * 2 ^ (32 - j) % 4294967296 : Nat) : Int) := by simp
  have e2 : (x : Int) / 2 ^ j = ((x / 2 ^ j : Nat) : Int) := by simp
  rw [e1, e2, or32 _ _ (Nat.lt_of_le_of_lt (Nat.div_le_self _ _) hx) (Nat.mod_lt _ (by decide))]
  rfl

set_option maxHeartbeats 400000 in
set_option maxRecDepth 100000 in
theorem turnI (x : Nat) (k : Int) (w : World) (hx : x < 4294967296) (hk : 1 ≤ k) (hk' : k ≤ 31) :
    Calls Tryz.prog 119 #[.int .u32 x, .int .u64 k] w fun e w' => e = .returned (.int .u32 (rotr x k.toNat : Nat)) ∧ w = w' := by
  obtain ⟨j, rfl⟩ := Int.eq_ofNat_of_zero_le (show 0 ≤ k by omega)
  go_enter Tryz.func119, Tryz.ntmps119
  go_wp2
  go_ret
  rw [Int.toNat_natCast, ← turn32_eq x j hx (by omega)]
  exact ⟨rfl, rfl⟩

theorem x332 (p q r v : Nat) (hp : p < 4294967296) (hq : q < 4294967296) (hr : r < 4294967296) (hv : v = p ^^^ q ^^^ r) : bits .xor .u32 (bits .xor .u32 (p : Int) (q : Int)) (r : Int) = (v : Int) := by
  rw [xor32 _ _ hp hq, xor32 _ _ (xor_lt hp hq) hr, hv]

set_option maxHeartbeats 400000 in
set_option maxRecDepth 100000 in
theorem firstI (x : Nat) (w : World) (hx : x < 4294967296) :
    Calls Tryz.prog 103 #[.int .u32 x] w fun e w' => e = .returned (.int .u32 (big0 x : Nat)) ∧ w = w' := by
  have r := x332 (rotr x 2) (rotr x 13) (rotr x 22) (big0 x) (rotr_lt _ _ hx) (rotr_lt _ _ hx) (rotr_lt _ _ hx) rfl
  go_enter Tryz.func103, Tryz.ntmps103
  go_wp2_with (go_at_call 119; refine (turnI _ _ _ hx (by omega) (by omega)).mono ?_; rintro e w1 ⟨rfl, rfl⟩)
  go_ret
  exact ⟨rfl, rfl⟩

set_option maxHeartbeats 400000 in
set_option maxRecDepth 100000 in
theorem fifthI (x : Nat) (w : World) (hx : x < 4294967296) :
    Calls Tryz.prog 101 #[.int .u32 x] w fun e w' => e = .returned (.int .u32 (big1 x : Nat)) ∧ w = w' := by
  have r := x332 (rotr x 6) (rotr x 11) (rotr x 25) (big1 x) (rotr_lt _ _ hx) (rotr_lt _ _ hx) (rotr_lt _ _ hx) rfl
  go_enter Tryz.func101, Tryz.ntmps101
  go_wp2_with (go_at_call 119; refine (turnI _ _ _ hx (by omega) (by omega)).mono ?_; rintro e w1 ⟨rfl, rfl⟩)
  go_ret
  exact ⟨rfl, rfl⟩

set_option maxHeartbeats 400000 in
set_option maxRecDepth 100000 in
theorem nearI (x : Nat) (w : World) (hx : x < 4294967296) :
    Calls Tryz.prog 105 #[.int .u32 x] w fun e w' => e = .returned (.int .u32 (sig0 x : Nat)) ∧ w = w' := by
  have r := x332 (rotr x 7) (rotr x 18) (x / 8) (sig0 x) (rotr_lt _ _ hx) (rotr_lt _ _ hx) (by omega) rfl
  rw [show ((x / 8 : Nat) : Int) = (x : Int) / 8 from by simp] at r
  go_enter Tryz.func105, Tryz.ntmps105
  go_wp2_with (go_at_call 119; refine (turnI _ _ _ hx (by omega) (by omega)).mono ?_; rintro e w1 ⟨rfl, rfl⟩)
  go_ret
  exact ⟨rfl, rfl⟩

set_option maxHeartbeats 400000 in
set_option maxRecDepth 100000 in
theorem farI (x : Nat) (w : World) (hx : x < 4294967296) :
    Calls Tryz.prog 106 #[.int .u32 x] w fun e w' => e = .returned (.int .u32 (sig1 x : Nat)) ∧ w = w' := by
  have r := x332 (rotr x 17) (rotr x 19) (x / 1024) (sig1 x) (rotr_lt _ _ hx) (rotr_lt _ _ hx) (by omega) rfl
  rw [show ((x / 1024 : Nat) : Int) = (x : Int) / 1024 from by simp] at r
  go_enter Tryz.func106, Tryz.ntmps106
  go_wp2_with (go_at_call 119; refine (turnI _ _ _ hx (by omega) (by omega)).mono ?_; rintro e w1 ⟨rfl, rfl⟩)
  go_ret
  exact ⟨rfl, rfl⟩

set_option maxHeartbeats 400000 in
set_option maxRecDepth 100000 in
theorem chooseI (e f g : Nat) (w : World) (he : e < 4294967296) (hf : f < 4294967296) (hg : g < 4294967296) :
    Calls Tryz.prog 102 #[.int .u32 e, .int .u32 f, .int .u32 g] w fun r w' => r = .returned (.int .u32 (chs e f g : Nat)) ∧ w = w' := by
  have h1 : bits .xor .u32 IntKind.u32.max (e : Int) = ((4294967295 ^^^ e : Nat) : Int) := by
    have hm : IntKind.u32.max = ((4294967295 : Nat) : Int) := by decide
    rw [hm]
    exact xor32 4294967295 e (by decide) he
  have h2 : 4294967295 ^^^ e < 4294967296 := xor_lt (by decide) he
  have r : bits .xor .u32 (bits .and .u32 (e : Int) (f : Int)) (bits .and .u32 (bits .xor .u32 IntKind.u32.max (e : Int)) (g : Int)) = ((chs e f g : Nat) : Int) := by
    rw [h1, and32 _ _ he hf, and32 _ _ h2 hg, xor32 _ _ (and_lt hf) (and_lt hg)]
    rfl
  clear h1 h2
  go_enter Tryz.func102, Tryz.ntmps102
  go_wp2
  go_ret
  exact ⟨rfl, rfl⟩

set_option maxHeartbeats 400000 in
set_option maxRecDepth 100000 in
theorem mostI (a b c : Nat) (w : World) (ha : a < 4294967296) (hb : b < 4294967296) (hc : c < 4294967296) :
    Calls Tryz.prog 104 #[.int .u32 a, .int .u32 b, .int .u32 c] w fun r w' => r = .returned (.int .u32 (maj a b c : Nat)) ∧ w = w' := by
  have r : bits .xor .u32 (bits .xor .u32 (bits .and .u32 (a : Int) (b : Int)) (bits .and .u32 (a : Int) (c : Int))) (bits .and .u32 (b : Int) (c : Int)) = ((maj a b c : Nat) : Int) := by
    rw [and32 _ _ ha hb, and32 _ _ ha hc, and32 _ _ hb hc]
    exact x332 _ _ _ _ (and_lt hb) (and_lt hc) (and_lt hc) rfl
  go_enter Tryz.func104, Tryz.ntmps104
  go_wp2
  go_ret
  exact ⟨rfl, rfl⟩

end Go.Proofs.YtifpidhoeikdjaaGreatDoor

namespace Go.Proofs.YtifpidhoeikdjaaGreatDoor
open Go.RowKit

/-- A row of bytes of the call's own: none of its places is frozen. -/
def ByteRow (e : TypeId) (base : Nat) (w : World) (v : Value) (l : List UInt8) : Prop :=
  ∃ g cap cur fz, v = .slice (some ⟨g, 0, none⟩) l.length cap ∧ base ≤ g ∧ w.heap[g]? = some (.cells cur e fz) ∧ (fz = (0, 0) ∨ cap ≤ fz.1) ∧ l.length ≤ cap ∧ cap ≤ maxLen ∧ cur.size = cap ∧ cur.toList.take l.length = Lib.byteCells l

theorem ByteRow.cells {e : TypeId} {base : Nat} {w : World} {g n cap : Nat} {l : List UInt8} (h : ByteRow e base w (.slice (some ⟨g, 0, none⟩) n cap) l) (j : Nat) (hj : j < l.length) : w.cell? ⟨g, j, none⟩ = some (.int .u8 (l[j].toNat : Int)) := by
  obtain ⟨g', cap', cur, fz, hv, _, hb, _, _, _, hs, ht⟩ := h
  simp only [Value.slice.injEq, Option.some.injEq, Addr.mk.injEq, and_true] at hv
  obtain ⟨rfl, _, rfl⟩ := hv
  rw [Lib.cell_of_heap hb]
  have : cur.toList[j]? = (Lib.byteCells l)[j]? := by rw [← ht, List.getElem?_take]; simp [hj]
  rw [← Array.getElem?_toList, this]
  simp [Lib.byteCells, List.getElem?_eq_getElem hj]

theorem ByteRow.frozen {e : TypeId} {base : Nat} {w : World} {g n cap : Nat} {l : List UInt8} (h : ByteRow e base w (.slice (some ⟨g, 0, none⟩) n cap) l) (j : Nat) (hj : j < cap) : w.frozen? ⟨g, j, none⟩ = false ∧ (w.cell? ⟨g, j, none⟩).isSome = true := by
  obtain ⟨g', cap', cur, fz, hv, _, hb, hfz, _, _, hs, _⟩ := h
  simp only [Value.slice.injEq, Option.some.injEq, Addr.mk.injEq, and_true] at hv
  obtain ⟨rfl, _, rfl⟩ := hv
  refine ⟨?_, ?_⟩
  · unfold World.frozen?
    rw [hb]
    rcases hfz with rfl | hfz
    · simp
    · obtain ⟨lo, hi⟩ := fz
      simp only [Bool.and_eq_false_iff, decide_eq_false_iff_not]
      left
      simp at hfz
      omega
  · rw [Lib.cell_of_heap hb]
    simp
    omega

theorem ByteRow.keep {e : TypeId} {base B : Nat} {w w' : World} {v : Value} {l : List UInt8} (h : ByteRow e base w v l) (hb : Below B w w') (hlt : ∀ g n cap, v = .slice (some ⟨g, 0, none⟩) n cap → g < B) : ByteRow e base w' v l := by
  obtain ⟨g, cap, cur, fz, hv, h1, h2, h3⟩ := h
  exact ⟨g, cap, cur, fz, hv, h1, by rw [hb.block g (hlt _ _ _ hv)]; exact h2, h3⟩
theorem ByteRow.lt {e : TypeId} {base : Nat} {w : World} {g n cap : Nat} {l : List UInt8} (h : ByteRow e base w (.slice (some ⟨g, 0, none⟩) n cap) l) : base ≤ g ∧ g < w.heap.size := by
  obtain ⟨g', cap', cur, fz, hv, h1, hb, _⟩ := h
  simp only [Value.slice.injEq, Option.some.injEq, Addr.mk.injEq, and_true] at hv
  obtain ⟨rfl, _, rfl⟩ := hv
  refine ⟨h1, ?_⟩
  rcases Nat.lt_or_ge g w.heap.size with h' | h'
  · exact h'
  · simp [Array.getElem?_eq_none h'] at hb

/-- 'append(bs, b)' of one byte. -/
theorem wp_appB {P : Program} {w : World} {ops : Array Oper} {rest : List Oper} {o : Oper} {a : Act} {Q : Exit → Act → World → Prop} (hgd : o.guard = none) (s x : Operand) (t : TypeId)
    (ho : o.op = .call { callee := .builtin .append, args := #[s, x], argTypes := #[t, t] })
    (base : Nat) (e : TypeId) (i : TypeInfo) (ht : P.underlying t = some (.slice e)) (hi : P.info? e = some i) (hz : i.zero = some (.int .u8 0)) (hsize : i.size = 1) (hby : i.bytes = 1)
    (g n cap : Nat) (l : List UInt8) (hn : n = l.length) (hs : a.eval s = .slice (some ⟨g, 0, none⟩) n cap) (hrow : ByteRow e base w (.slice (some ⟨g, 0, none⟩) n cap) l)
    (b : UInt8) (c : Int) (hc : c = (b.toNat : Int)) (hx : a.eval x = .slice (some ⟨w.heap.size, 0, none⟩) 1 1)
    (h63 : n + 1 ≤ 140737488355328) (hbase : base ≤ w.heap.size)
    (h : ∀ g' cap' w', ByteRow e base w' (.slice (some ⟨g', 0, none⟩) (n + 1) cap') (l ++ [b]) → Below base w w' →
      wpList P ops Q rest (a.put o.dst (.slice (some ⟨g', 0, none⟩) (n + 1) cap')) w') :
    wpList P ops Q (o :: rest) a (w.alloc (.cells #[.int .u8 c] e)) := by
  subst hc
  subst hn
  have hlt := hrow.lt
  have hk : (w.alloc (.cells #[.int .u8 (b.toNat : Int)] e)).heap[g]? = w.heap[g]? := Below.heap_alloc _ _ _ hlt.2
  have hrow' : ByteRow e base (w.alloc (.cells #[.int .u8 (b.toNat : Int)] e)) (.slice (some ⟨g, 0, none⟩) l.length cap) l :=
    hrow.keep ((Below.refl w.heap.size w).alloc (Nat.le_refl _) _) (fun g' n' c' hv => by simp only [Value.slice.injEq, Option.some.injEq, Addr.mk.injEq, and_true] at hv; rw [← hv.1]; exact hlt.2)
  refine wpList_append_arg _ hgd s x t ho e i (.int .u8 0) 1 1 ht hi hz hsize hby rfl (by decide) g 0 l.length cap (Lib.byteCells l) hs (by rw [Lib.byteCells_length]; omega) ?_ ⟨w.heap.size, 0, none⟩ 1 1 [.int .u8 (b.toNat : Int)] hx rfl (cell_one_new _ _ _) ?_ ?_ (by unfold maxLen; omega) (by omega) ?_ ?_
  · intro j u hu
    have hj : j < l.length := by have := (List.getElem?_eq_some_iff.1 hu).1; rwa [Lib.byteCells_length] at this
    rw [Nat.zero_add, hrow'.cells j hj]
    simpa [Lib.byteCells, List.getElem?_eq_getElem hj] using hu
  · intro u hu
    simp at hu
    subst hu
    rfl
  · intro hroom j hj
    obtain rfl : j = 0 := by simpa using hj
    have := hrow'.frozen l.length (by omega)
    refine ⟨?_, ?_⟩
    · simpa using this.2
    · simpa using this.1
  · intro hroom
    have hset : (w.alloc (.cells #[.int .u8 (b.toNat : Int)] e)).setCells g (0 + l.length * 1) [.int .u8 (b.toNat : Int)] = (w.alloc (.cells #[.int .u8 (b.toNat : Int)] e)).setCell ⟨g, l.length, none⟩ (.int .u8 (b.toNat : Int)) := by
      simp [World.setCells]
    rw [hset]
    refine h g cap _ ?_ (((Below.refl base w).alloc hbase _).setCell (p := ⟨g, l.length, none⟩) hlt.1 _)
    obtain ⟨g', cap', cur, fz, hv, h1, hb, hfz, hle, hm, hsz, htk⟩ := hrow'
    simp only [Value.slice.injEq, Option.some.injEq, Addr.mk.injEq, and_true] at hv
    obtain ⟨rfl, _, rfl⟩ := hv
    refine ⟨g, cap, cur.setIfInBounds l.length (.int .u8 (b.toNat : Int)), fz, by simp, h1, ?_, hfz, by simp; omega, hm, by simp [hsz], ?_⟩
    · simp only [World.setCell, Array.getElem?_modify, hb]
      simp
    · rw [Lib.byteCells_append, List.length_append]
      show List.take (l.length + 1) _ = _
      rw [Array.toList_setIfInBounds]
      have hlc : l.length < cur.toList.length := by simp; omega
      rw [List.take_succ_eq_append_getElem (by simpa using hlc)]
      rw [List.take_set_of_le (Nat.le_refl _), htk]
      simp [Lib.byteCells]
  · intro hgrow v' w' hown hg
    obtain ⟨g', cap', cur, rfl, h1, hb, hle, hm, hsz, htk⟩ : ∃ g' cap' cur, v' = .slice (some ⟨g', 0, none⟩) (l.length + 1) cap' ∧ (w.alloc (.cells #[.int .u8 (b.toNat : Int)] e)).heap.size ≤ g' ∧ w'.heap[g']? = some (.cells cur e (0, 0)) ∧ l.length + 1 ≤ cap' ∧ cap' ≤ maxLen ∧ cur.size = cap' * 1 ∧ cur.toList.take ((l.length + 1) * 1) = Lib.byteCells l ++ [.int .u8 (b.toNat : Int)] := by
      rcases hown.2 with ⟨_, h0⟩ | ⟨g', cap', cur, hv, r⟩
      · omega
      · exact ⟨g', cap', cur, hv, r⟩
    refine h g' cap' w' ⟨g', cap', cur, (0, 0), by simp, by simp at h1; omega, hb, Or.inl rfl, by simp; omega, hm, by omega, ?_⟩ (((Below.refl base w).alloc hbase _).grown hg (by simp; omega) (fun k hk => by simp at hk))
    rw [Lib.byteCells_append, List.length_append]
    simpa [Lib.byteCells] using htk

end Go.Proofs.YtifpidhoeikdjaaGreatDoor

set_option linter.unusedVariables false
namespace Go.Proofs.YtifpidhoeikdjaaGreatDoor
open Go.RowKit

def lenB (n : Nat) : List UInt8 := (List.range 8).map fun j => UInt8.ofNat (n / 2 ^ (8 * (7 - j)) % 256)
def padZ (n : Nat) : Nat := padLen n - n - 9
def padB (t : List UInt8) : List UInt8 := t ++ 128 :: List.replicate (padZ t.length) 0 ++ lenB (t.length * 8)
theorem lenB_take (n j : Nat) (h : j < 8) : (lenB n).take (j + 1) = (lenB n).take j ++ [UInt8.ofNat (n / 2 ^ (8 * (7 - j)) % 256)] := by
  have hl : j < (lenB n).length := by simp [lenB]; omega
  rw [List.take_succ_eq_append_getElem hl]
  simp [lenB]
theorem len_digit (n j : Nat) (hn : n < 18446744073709551616) (hj : j < 8) : n * 256 ^ j % 18446744073709551616 / 72057594037927936 = n / 2 ^ (8 * (7 - j)) % 256 := by
  match j, hj with
  | 0, _ => simp; omega
  | 1, _ => simp; omega
  | 2, _ => simp; omega
  | 3, _ => simp; omega
  | 4, _ => simp; omega
  | 5, _ => simp; omega
  | 6, _ => simp; omega
  | 7, _ => simp; omega
theorem padB_length (t : List UInt8) : (padB t).length = padLen t.length := by
  simp [padB, lenB, padZ, padLen]
  omega

theorem infoU8i : (Tryz.prog.info? 5).map (fun i => (i.zero, i.size, i.bytes)) = some (some (.int .u8 0), 1, 1) := by kernel_rfl

theorem byteRow_of_text (e : TypeId) (w : World) (s : ByteArray) (hs : s.size ≤ 1073741824) :
    ByteRow e w.heap.size (w.drew.alloc (.cells (bytesRow s (grownCap w s.size 0 e)) e ((bytesRow s (grownCap w s.size 0 e)).size, (bytesRow s (grownCap w s.size 0 e)).size + 1))) (.slice (some ⟨w.heap.size, 0, none⟩) s.size (grownCap w s.size 0 e)) s.data.toList := by
  have hge := grownCap_ge w s.size 0 e
  have hcm := grownCap_le_maxLen w s.size 0 e (by unfold maxLen; omega)
  have hsz : (bytesRow s (grownCap w s.size 0 e)).size = grownCap w s.size 0 e := by
    simp [bytesRow]
    have : s.data.size = s.size := rfl
    omega
  refine ⟨w.heap.size, _, _, _, by simp, Nat.le_refl _, heap_alloc_new w.drew _, Or.inr (by rw [hsz]; exact Nat.le_refl _), by simpa using hge, hcm, hsz, ?_⟩
  simp [bytesRow, Lib.byteCells]

def lenOf : Value → Nat
  | .slice _ n _ => n
  | _ => 0

set_option maxHeartbeats 1000000 in
set_option maxRecDepth 100000 in
theorem paddedI (s : ByteArray) (w : World) (hs : s.size ≤ 1073741824) :
    Calls Tryz.prog 75 #[.string s] w fun e w' => ∃ g cap, e = .returned (.slice (some ⟨g, 0, none⟩) (padLen s.size) cap) ∧ ByteRow 5 w.heap.size w' (.slice (some ⟨g, 0, none⟩) (padLen s.size) cap) (padB s.data.toList) ∧ Below w.heap.size w w' := by
  obtain ⟨i0, hi, hz0, hz1, hz2⟩ := info_parts infoU8i
  have hcv := run_bytes_of_string (P := Tryz.prog) w 9 28 5 s Tryz.underlying9 Tryz.underlying28 Tryz.underlying5
  have hrow0 := byteRow_of_text 5 w s hs
  have hb0 : Below w.heap.size w (w.drew.alloc (.cells (bytesRow s (grownCap w s.size 0 5)) 5 ((bytesRow s (grownCap w s.size 0 5)).size, (bytesRow s (grownCap w s.size 0 5)).size + 1))) := (Below.drew (Below.refl _ w)).alloc (Nat.le_refl _) _
  generalize (w.drew.alloc (.cells (bytesRow s (grownCap w s.size 0 5)) 5 ((bytesRow s (grownCap w s.size 0 5)).size, (bytesRow s (grownCap w s.size 0 5)).size + 1))) = w1 at hcv hrow0 hb0
  generalize grownCap w s.size 0 5 = cap0 at hcv hrow0
  have hsz0 := hb0.size
  have hlen0 : s.size = s.data.toList.length := by simp
  have HL0 : Hid (s.size = s.data.toList.length) := hlen0
  clear hlen0
  go_enter Tryz.func75, Tryz.ntmps75
  go_wp2_with (at_builtin; refine wp_appB rfl _ _ 28 rfl w.heap.size 5 i0 Tryz.underlying28 hi hz0 hz1 hz2 w.heap.size s.size cap0 s.data.toList HL0.out rfl hrow0 128 128 rfl rfl (by omega) hsz0 ?_)
  intro g1 cap1 w2 hrow1 hb1
  clear hcv hrow0
  have hb2 := hb0.trans hb1
  have HZ : Hid (padLen s.size = s.size + 9 + padZ s.size ∧ padLen s.size % 64 = 0 ∧ padZ s.size ≤ 63) := by
    show _ ∧ _ ∧ _
    unfold padZ padLen
    omega
  have HPB : Hid (padB s.data.toList = s.data.toList ++ 128 :: List.replicate (padZ s.size) 0 ++ lenB (s.size * 8)) := by
    show _ = _
    rw [padB, ← HL0.out]
  obtain ⟨t, ht⟩ : ∃ t, t = s.data.toList := ⟨_, rfl⟩
  obtain ⟨L, hL⟩ : ∃ L, L = padLen s.size := ⟨_, rfl⟩
  rw [← ht] at hrow1 HL0 HPB
  rw [← hL] at HZ
  generalize padZ s.size = Z at HZ HPB
  have HTT : Hid (t = s.data.toList) := ht
  have HLL : Hid (L = padLen s.size) := hL
  clear ht hL
  go_wp2
  go_loopw [3] (fun v wr => ∃ k n g cap : Nat, k ≤ Z ∧ Hid (n = s.size + 1 + k) ∧ n ≤ 1073741900 ∧ v = .slice (some ⟨g, 0, none⟩) n cap ∧ ByteRow 5 w.heap.size wr (.slice (some ⟨g, 0, none⟩) n cap) (t ++ 128 :: List.replicate k 0) ∧ Below w.heap.size w wr) (fun v _ => L - lenOf v)
  case atStart => exact ⟨0, s.size + 1, g1, cap1, by omega, rfl, by omega, rfl, hrow1, hb2⟩
  case round =>
    clear hrow1 hb1 hb2
    obtain ⟨k, n, g, cap, hk, hn, hn2, rfl, hrow, hbw⟩ := hrel
    have hsz := hbw.size
    have hln : n = (t ++ 128 :: List.replicate k 0).length := by rw [hn.out]; simp; rw [← HL0.out]; omega
    by_cases hlt : k < Z
    · have hne : (((n : Int) % 64) != 56) = true := by
        have h1 := HZ.out; have h2 := hn.out
        rw [bne_iff_ne]
        omega
      have HLN : Hid (n = (t ++ 128 :: List.replicate k 0).length) := hln
      clear hln
      go_wp2_with (at_builtin; refine wp_appB rfl _ _ 28 rfl w.heap.size 5 i0 Tryz.underlying28 hi hz0 hz1 hz2 g n cap (t ++ 128 :: List.replicate k 0) HLN.out rfl hrow 0 0 rfl rfl (by omega) hsz ?_)
      intro g2 cap2 w3 hrow3 hb3
      have hrow4 : ByteRow 5 w.heap.size w3 (.slice (some ⟨g2, 0, none⟩) (n + 1) cap2) (t ++ 128 :: List.replicate (k + 1) 0) := by
        rw [List.replicate_succ']
        simpa using hrow3
      clear hrow3
      go_wp2
      go_roundw
      case rel => exact ⟨k + 1, n + 1, g2, cap2, by omega, by show n + 1 = _; have := hn.out; omega, by have := hn.out; have := HZ.out; omega, rfl, hrow4, hbw.trans hb3⟩
      case measure => show L - (n + 1) < L - n; have := hn.out; have := HZ.out; omega
    · have hkz : k = Z := by omega
      have hne : (((n : Int) % 64) != 56) = false := by
        have h1 := HZ.out; have h2 := hn.out
        rw [bne_eq_false_iff_eq]
        omega
      have HN : Hid (n + 8 = L) := by show _ = _; have := HZ.out; have := hn.out; omega
      have HLN : Hid (n = (t ++ 128 :: List.replicate k 0).length) := hln
      have HKZ : Hid (k = Z) := hkz
      obtain ⟨w0, rfl⟩ : ∃ w0 : World, w0 = wr := ⟨_, rfl⟩
      obtain ⟨T, hT⟩ : ∃ T, T = t ++ 128 :: List.replicate k 0 := ⟨_, rfl⟩
      rw [← hT] at hrow HLN
      have HT : Hid (T = t ++ 128 :: List.replicate k 0) := hT
      clear hln hkz hT hk hlt hn
      go_wp2
      go_loopw [3, 4, 20] (fun v m i wr => ∃ j y g cap : Nat, j ≤ 8 ∧ i = .int .i64 j ∧ m = .int .u64 y ∧ Hid (y = s.size * 8 * 256 ^ j % 18446744073709551616) ∧ v = .slice (some ⟨g, 0, none⟩) (n + j) cap ∧ ByteRow 5 w.heap.size wr (.slice (some ⟨g, 0, none⟩) (n + j) cap) (T ++ (lenB (s.size * 8)).take j) ∧ Below w.heap.size w wr) (fun _ _ i _ => 8 - (intOf i).toNat)
      case atStart => exact ⟨0, s.size * 8, g, cap, by omega, rfl, by go_num, by show _ = _; simp; omega, rfl, by simpa using hrow, hbw⟩
      case round =>
        clear hrow hbw hsz
        obtain ⟨j, y, g2, cap2, hj, rfl, rfl, hy, rfl, hrow, hbw⟩ := hrel
        have hsz := hbw.size
        have hyl : y < 18446744073709551616 := by rw [hy.out]; exact Nat.mod_lt _ (by decide)
        by_cases hjlt : j < 8
        · obtain ⟨d, hd⟩ : ∃ d : Nat, d = y / 72057594037927936 := ⟨_, rfl⟩
          have rd : (y : Int) / 72057594037927936 = (d : Int) := by rw [hd]; simp
          have hd256 : d < 256 := by rw [hd]; omega
          have HD : Hid (UInt8.ofNat d = UInt8.ofNat (s.size * 8 / 2 ^ (8 * (7 - j)) % 256)) := by
            show _ = _
            rw [hd, hy.out, len_digit _ _ (by omega) hjlt]
          have HDN : Hid ((d : Int) = ((UInt8.ofNat d).toNat : Int)) := by show _ = _; simp; omega
          have HY : Hid (y * 256 % 18446744073709551616 = s.size * 8 * 256 ^ (j + 1) % 18446744073709551616) := by
            show _ = _
            rw [hy.out, Nat.pow_succ, ← Nat.mul_assoc, Nat.mod_mul_mod]
          have HLJ : Hid (n + j = (T ++ (lenB (s.size * 8)).take j).length) := by
            show _ = _
            rw [List.length_append, ← HLN.out]
            simp [lenB]
            omega
          clear hd
          go_wp2_with (at_builtin; refine wp_appB rfl _ _ 28 rfl w.heap.size 5 i0 Tryz.underlying28 hi hz0 hz1 hz2 g2 (n + j) cap2 (T ++ (lenB (s.size * 8)).take j) HLJ.out rfl hrow (UInt8.ofNat d) (d : Int) HDN.out rfl (by omega) hsz ?_)
          intro g3 cap3 w3 hrow3 hb3
          have hrow4 : ByteRow 5 w.heap.size w3 (.slice (some ⟨g3, 0, none⟩) (n + j + 1) cap3) (T ++ (lenB (s.size * 8)).take (j + 1)) := by
            rw [lenB_take _ _ hjlt, ← HD.out]
            first | exact hrow3 | (rw [← List.append_assoc]; exact hrow3)
          clear hrow3
          go_wp2
          go_roundw
          case rel => exact ⟨j + 1, y * 256 % 18446744073709551616, g3, cap3, by omega, by go_num, by go_num, HY, rfl, hrow4, hbw.trans hb3⟩
          case measure => simp [intOf]; omega
        · have hfin : ByteRow 5 w.heap.size wr (.slice (some ⟨g2, 0, none⟩) L cap2) (t ++ 128 :: List.replicate Z 0 ++ lenB (s.size * 8)) := by
            have hj8 : j = 8 := by omega
            rw [List.take_of_length_le (by simp [lenB]; omega), HT.out, HKZ.out] at hrow
            have hnl : n + j = L := by have := HN.out; omega
            rw [← hnl]
            exact hrow
          have HL8 : Hid (n + j = L) := by show _ = _; have := HN.out; omega
          clear hrow
          go_wp2
          go_ret
          rw [← HTT.out, ← HLL.out, HPB.out]
          exact ⟨g2, cap2, by rw [← HL8.out]; rfl, hfin, hbw⟩

end Go.Proofs.YtifpidhoeikdjaaGreatDoor

set_option linter.unusedVariables false
namespace Go.Proofs.YtifpidhoeikdjaaGreatDoor
open Go.RowKit

theorem size64 : (Tryz.prog.info? 98).map (·.size) = some 64 := by kernel_rfl
theorem keepO {w : World} {G i j : Nat} {v u : Value} (h : w.cell? ⟨G, j, none⟩ = some u) (hne : ¬ i = j) : (w.setCell ⟨G, i, none⟩ v).drew.cell? ⟨G, j, none⟩ = some u := by
  have : (w.setCell ⟨G, i, none⟩ v).cell? ⟨G, j, none⟩ = w.cell? ⟨G, j, none⟩ := by
    apply World.cell?_setCell_other
    intro he
    simp only [Addr.mk.injEq, true_and, and_true] at he
    exact hne he
  exact this.trans h

set_option maxHeartbeats 1000000 in
set_option maxRecDepth 100000 in
theorem scheduleI (bs : List Nat) (g o cap : Nat) (w : World) (hn : ∀ i, i < bs.length → w.cell? ⟨g, o + i, none⟩ = some (.int .u8 ((bs.getD i 0 : Nat) : Int))) (hl : bs.length = 64) (hbb : ∀ x ∈ bs, x < 256) (hg : g < w.heap.size) :
    Calls Tryz.prog 77 #[.slice (some ⟨g, o, none⟩) 64 cap] w fun e w' => e = .returned (.agg (uCells (schedTo bs 48))) ∧ Below w.heap.size w w' := by
  have z1 : RowU 98 ((w.alloc (.cells (uCells (List.replicate 64 0)) 98)).alloc (.cells (uCells (List.replicate 64 0)) 98)) w.heap.size (List.replicate 64 0) := by
    show _ = _
    rw [Below.heap_alloc _ _ _ (by simp)]
    exact heap_alloc_new w _
  have z2 : RowU 98 ((w.alloc (.cells (uCells (List.replicate 64 0)) 98)).alloc (.cells (uCells (List.replicate 64 0)) 98)) (w.heap.size + 1) (fillTo bs 0) := by
    have := heap_alloc_new (w.alloc (.cells (uCells (List.replicate 64 0)) 98)) (.cells (uCells (List.replicate 64 0)) 98)
    rw [show (w.alloc (.cells (uCells (List.replicate 64 0)) 98)).heap.size = w.heap.size + 1 from by simp] at this
    exact this
  have z3 : Below w.heap.size w ((w.alloc (.cells (uCells (List.replicate 64 0)) 98)).alloc (.cells (uCells (List.replicate 64 0)) 98)) := ((Below.refl _ w).alloc (Nat.le_refl _) _).alloc (by simp) _
  go_enter Tryz.func77, Tryz.ntmps77
  go_wp2
  go_loopw [9] (fun i wr => ∃ k : Nat, k ≤ 64 ∧ i = .int .i64 k ∧ RowU 98 wr w.heap.size (List.replicate 64 0) ∧ RowU 98 wr (w.heap.size + 1) (fillTo bs k) ∧ Below w.heap.size w wr) (fun i _ => 64 - (intOf i).toNat)
  case atStart => exact ⟨0, by omega, rfl, z1, z2, z3⟩
  case round =>
    clear z1 z2 z3
    obtain ⟨k, hk, rfl, hr0, hr1, hbw⟩ := hrel
    by_cases hlt : k < 64
    · obtain ⟨q, hq⟩ : ∃ q : Nat, q = k / 4 := ⟨_, rfl⟩
      have rq : (k : Int) / 4 = (q : Int) := by rw [hq]; simp
      have hq16 : q < 16 := by omega
      obtain ⟨b, hb⟩ : ∃ b, b = bs.getD k 0 := ⟨_, rfl⟩
      have cb : wr.cell? ⟨g, o + k, none⟩ = some (.int .u8 (b : Int)) := by
        rw [hbw.cell (p := ⟨g, o + k, none⟩) hg, hn k (by omega), hb]
      have hb256 : b < 256 := by rw [hb]; exact byte_getD hbb k
      obtain ⟨old, hold⟩ : ∃ x, x = (fillTo bs k).getD q 0 := ⟨_, rfl⟩
      have cq := hr1.cell q (by rw [fillTo_length]; omega)
      rw [← hold] at cq
      have hfz := hr1.frozen q
      obtain ⟨v, hv⟩ : ∃ v : Nat, v = old * 256 % 4294967296 ||| b := ⟨_, rfl⟩
      have rv : bits .or .u32 ((old : Int) * 256 % 4294967296) (b : Int) = (v : Int) := by
        rw [hv, ← or32 _ _ (Nat.mod_lt _ (by decide)) (by omega)]
        simp
      have HV : Hid ((fillTo bs k).set q v = fillTo bs (k + 1)) := by
        show _ = _
        rw [fillTo, hv, hold, hq, hb]
      have H0 : Hid (RowU 98 wr w.heap.size (List.replicate 64 0)) := hr0
      have H1 : Hid (RowU 98 wr (w.heap.size + 1) (fillTo bs k)) := hr1
      have HB : Hid (Below w.heap.size w wr) := hbw
      clear hq hb hold hv hr0 hr1 hbw hn
      go_wp2
      go_roundw
      case rel =>
        refine ⟨k + 1, by omega, by go_num, ?_, ?_, HB.out.setCell (p := ⟨w.heap.size + 1, q, none⟩) (by show w.heap.size ≤ w.heap.size + 1; omega) _⟩
        · exact H0.out.keep (Below.heap_setCell wr ⟨w.heap.size + 1, q, none⟩ (.int .u32 (v : Int)) w.heap.size (by show w.heap.size ≠ w.heap.size + 1; omega))
        · have := H1.out.set q v
          rw [HV.out] at this
          exact this
      case measure => simp [intOf]; omega
    · have hk64 : k = 64 := by omega
      have hrow0 : RowU 98 wr (w.heap.size + 1) (schedTo bs 0 ++ List.replicate 48 0) := by
        rw [hk64, fill_sched bs hbb] at hr1; exact hr1
      obtain ⟨w0, rfl⟩ : ∃ w0 : World, w0 = wr := ⟨_, rfl⟩
      obtain ⟨k0, hk0⟩ : ∃ k0 : Nat, k0 = k := ⟨_, rfl⟩
      rw [← hk0] at hlt ⊢
      clear hk0 hk64 hk hr1 hn
      go_wp2
      go_loopw [6] (fun i wr => ∃ k ii : Nat, k ≤ 48 ∧ ii ≤ 64 ∧ Hid (ii = 16 + k) ∧ i = .int .i64 (ii : Int) ∧ RowU 98 wr w.heap.size (List.replicate 64 0) ∧ RowU 98 wr (w.heap.size + 1) (schedTo bs k ++ List.replicate (48 - k) 0) ∧ Below w.heap.size w wr) (fun i _ => 64 - (intOf i).toNat)
      case atStart => exact ⟨0, 16, by omega, by omega, rfl, rfl, hr0, hrow0, hbw⟩
      case round =>
        clear hbw hrow0 hr0
        obtain ⟨k, ii, hk, hii, HI, rfl, hr0, hrow, hbw⟩ := hrel
        by_cases hklt : k < 48
        · have hlen := schedTo_length bs k
          have hall := schedTo_lt bs hbb k
          obtain ⟨p, hp⟩ : ∃ x, x = (schedTo bs k).getD k 0 := ⟨_, rfl⟩
          obtain ⟨x, hx⟩ : ∃ x, x = (schedTo bs k).getD (k + 1) 0 := ⟨_, rfl⟩
          obtain ⟨q, hq⟩ : ∃ x, x = (schedTo bs k).getD (k + 9) 0 := ⟨_, rfl⟩
          obtain ⟨y, hy⟩ : ∃ x, x = (schedTo bs k).getD (k + 14) 0 := ⟨_, rfl⟩
          have cp := hrow.cell k (by simp; omega)
          have cx := hrow.cell (k + 1) (by simp; omega)
          have cq := hrow.cell (k + 9) (by simp; omega)
          have cy := hrow.cell (k + 14) (by simp; omega)
          rw [sched_at bs k _ _ (by omega), ← hp] at cp
          rw [sched_at bs k _ _ (by omega), ← hx] at cx
          rw [sched_at bs k _ _ (by omega), ← hq] at cq
          rw [sched_at bs k _ _ (by omega), ← hy] at cy
          have lp : p < 4294967296 := by rw [hp]; exact getD_lt hall _
          have lx : x < 4294967296 := by rw [hx]; exact getD_lt hall _
          have lq : q < 4294967296 := by rw [hq]; exact getD_lt hall _
          have ly : y < 4294967296 := by rw [hy]; exact getD_lt hall _
          have hfz := hrow.frozen ii
          have hck := hrow.cell ii (by rw [HI.out]; simp; omega)
          generalize (schedTo bs k ++ List.replicate (48 - k) 0).getD ii 0 = old at hck
          have hi64 : ii < 64 := by rw [HI.out]; omega
          obtain ⟨m1, hm1⟩ : ∃ m, m = k + 1 := ⟨_, rfl⟩
          obtain ⟨m9, hm9⟩ : ∃ m, m = k + 9 := ⟨_, rfl⟩
          obtain ⟨m14, hm14⟩ : ∃ m, m = k + 14 := ⟨_, rfl⟩
          rw [← hm1] at cx
          rw [← hm9] at cq
          rw [← hm14] at cy
          have s16 : IntKind.i64.wrap ((ii : Int) - 16) = (k : Int) := by rw [IntKind.wrap_i64, HI.out]; omega
          have s15 : IntKind.i64.wrap ((ii : Int) - 15) = (m1 : Int) := by rw [IntKind.wrap_i64, HI.out, hm1]; omega
          have s7 : IntKind.i64.wrap ((ii : Int) - 7) = (m9 : Int) := by rw [IntKind.wrap_i64, HI.out, hm9]; omega
          have s2 : IntKind.i64.wrap ((ii : Int) - 2) = (m14 : Int) := by rw [IntKind.wrap_i64, HI.out, hm14]; omega
          have lk : (k : Int) < 64 := by omega
          have l1 : (m1 : Int) < 64 := by omega
          have l9 : (m9 : Int) < 64 := by omega
          have l14 : (m14 : Int) < 64 := by omega
          have li : (ii : Int) < 64 := by omega
          have n0 : ¬ ii = k := by rw [HI.out]; omega
          have n1 : ¬ ii = m1 := by rw [HI.out, hm1]; omega
          have n9 : ¬ ii = m9 := by rw [HI.out, hm9]; omega
          have n14 : ¬ ii = m14 := by rw [HI.out, hm14]; omega
          have n0' : ¬ k = ii := by rw [HI.out]; omega
          have n1' : ¬ m1 = ii := by rw [HI.out, hm1]; omega
          have n9' : ¬ m9 = ii := by rw [HI.out, hm9]; omega
          have n14' : ¬ m14 = ii := by rw [HI.out, hm14]; omega
          obtain ⟨v, hv⟩ : ∃ v : Nat, v = (p + sig0 x + q + sig1 y) % 4294967296 := ⟨_, rfl⟩
          have HV : Hid ((schedTo bs k ++ List.replicate (48 - k) 0).set ii v = schedTo bs (k + 1) ++ List.replicate (48 - (k + 1)) 0) := by
            show _ = _
            rw [HI.out]
            refine sched_set bs k hklt v ?_
            rw [hv, hp, hx, hq, hy]
          have HROW : Hid (RowU 98 wr (w.heap.size + 1) (schedTo bs k ++ List.replicate (48 - k) 0)) := hrow
          have H0 : Hid (RowU 98 wr w.heap.size (List.replicate 64 0)) := hr0
          have HB : Hid (Below w.heap.size w wr) := hbw
          have rsum : IntKind.u32.wrap (IntKind.u32.wrap (IntKind.u32.wrap ((p : Int) + ((sig0 x : Nat) : Int)) + (q : Int)) + ((sig1 y : Nat) : Int)) = (v : Int) := by
            rw [hv]
            simp only [IntKind.wrap_u32]
            omega
          clear hm1 hm9 hm14 hp hx hq hy hrow hr0 hbw hlen hall hv hlt
          go_wp2_with fail
          go_region_held2 (fun W => W.cell? ⟨w.heap.size + 1, k, none⟩ = some (.int .u32 (p : Int)) ∧ W.cell? ⟨w.heap.size + 1, m1, none⟩ = some (.int .u32 (x : Int)) ∧ W.cell? ⟨w.heap.size + 1, m9, none⟩ = some (.int .u32 (q : Int)) ∧ W.cell? ⟨w.heap.size + 1, m14, none⟩ = some (.int .u32 (y : Int))) (first | exact ⟨cp, cx, cq, cy⟩ | exact ⟨keepO cp n0, keepO cx n1, keepO cq n9, keepO cy n14⟩) (first | (go_at_call 105; refine (nearI _ _ lx).mono ?_; rintro e w1 ⟨rfl, rfl⟩) | (go_at_call 106; refine (farI _ _ ly).mono ?_; rintro e w1 ⟨rfl, rfl⟩))
          go_wp2
          go_roundw
          case rel =>
            refine ⟨k + 1, ii + 1, by omega, by omega, by show ii + 1 = 16 + (k + 1); have := HI.out; omega, by go_num, ?_, ?_, (HB.out.setCell (p := ⟨w.heap.size + 1, ii, none⟩) (by show w.heap.size ≤ w.heap.size + 1; omega) _).drew⟩
            · exact (H0.out.keep (Below.heap_setCell wr ⟨w.heap.size + 1, ii, none⟩ (.int .u32 (v : Int)) w.heap.size (by show w.heap.size ≠ w.heap.size + 1; omega))).drew
            · have := (HROW.out.set ii v).drew
              rw [HV.out] at this
              exact this
          case measure => simp [intOf]; omega
        · have hi64 : ¬ ii < 64 := by rw [HI.out]; omega
          have hfin : RowU 98 wr (w.heap.size + 1) (schedTo bs 48) := by
            have h48 : k = 48 := by omega
            rw [h48] at hrow
            simpa using hrow
          have hlen := schedTo_length bs 48
          clear hrow
          obtain ⟨L, hL⟩ : ∃ L, L = schedTo bs 48 := ⟨_, rfl⟩
          rw [← hL] at hfin hlen
          have HL : Hid (L = schedTo bs 48) := hL
          clear hL
          have hlen : L.length = 64 := hlen
          have hld := run_loadAt_mid (P := Tryz.prog) wr (w.heap.size + 1) 0 98 (uCells L).toList _ hfin.range Tryz.underlying98 rfl (by rw [size64, Array.length_toList, uCells_size, hlen])
          have hst := run_storeAt_mid (P := Tryz.prog) wr w.heap.size 0 98 (uCells L) (hr0.there _ (by rw [uCells_size, hlen]; simp)) (by rw [size64, uCells_size, hlen]) (uCells_one _)
          rw [Array.toArray_toList] at hld
          have hout : RowU 98 (wr.setCells w.heap.size 0 (uCells L).toList) w.heap.size L := hr0.over (by rw [hlen]; simp)
          have hbo : Below w.heap.size w (wr.setCells w.heap.size 0 (uCells L).toList) := Below.setCells hbw (Nat.le_refl _) _ 0
          have hlv := run_loadVar_mid (P := Tryz.prog) (wr.setCells w.heap.size 0 (uCells L).toList) w.heap.size 0 98 (uCells L).toList _ hout.range Tryz.underlying98 rfl (by rw [size64, Array.length_toList, uCells_size, hlen])
          rw [Array.toArray_toList] at hlv
          clear hout hld hst
          go_upto_region 11 with fail
          refine wp_region_list ?_
          refine wpList_load_mid rfl 98 _ rfl (w.heap.size + 1) 0 rfl (uCells L).toList _ hfin.range Tryz.underlying98 rfl (by rw [size64, Array.length_toList, uCells_size, hlen]) ?_
          rw [Array.toArray_toList]
          refine wpList_store_mid rfl 98 _ _ rfl w.heap.size 0 (uCells L) rfl rfl (hr0.there _ (by rw [uCells_size, hlen]; simp)) (by rw [size64, uCells_size, hlen]) (uCells_one _) ?_
          go_wp2
          rw [← HL.out]
          exact bodyPost_ret (v := .agg (uCells L)) (results_cell1 (p := 2) (b := w.heap.size) rfl _ _ _ rfl hlv) rfl ⟨rfl, hbo⟩

end Go.Proofs.YtifpidhoeikdjaaGreatDoor


set_option linter.unusedVariables false
namespace Go.Proofs.YtifpidhoeikdjaaGreatDoor
open Go.RowKit

theorem size8 : (Tryz.prog.info? 95).map (·.size) = some 8 := by kernel_rfl
theorem run_storeCellsU {P : Program} {T : TypeId} {w : World} {g : Nat} {m : List Nat} (h : RowU T w g m) (l : List Nat) (hl : l.length = m.length) :
    (storeCells ⟨g, 0, none⟩ (uCells l).toList).run P w = .ok () (w.setCells g 0 (uCells l).toList) := by
  have ht := h.there _ hl
  have := run_storeCells_cells (P := P) g 0 (uCells l).toList 0 w (fun j hj => by simpa using (ht j (by simpa [uCells_size] using hj)).1) (fun j hj => by simpa using (ht j (by simpa [uCells_size] using hj)).2)
    (fun v hv => (Array.all_eq_true_iff_forall_mem.1 (uCells_one l)) v (by simpa using hv))
  simpa using this
theorem zerosU8 : #[Value.int .u32 0, Value.int .u32 0, Value.int .u32 0, Value.int .u32 0, Value.int .u32 0, Value.int .u32 0, Value.int .u32 0, Value.int .u32 0] = uCells (List.replicate 8 0) := rfl
theorem sizeW : (Tryz.prog.info? 94).map (·.size) = some 1 := by kernel_rfl
theorem indexU (ws : List Nat) (hl : ws.length = 64) (k : Nat) (hk : k < 64) (w : World) : (Instr.index 98 (.agg (uCells ws)) (.int .i64 (k : Int))).run Tryz.prog w = .ok (.int .u32 ((ws.getD k 0 : Nat) : Int)) w := by
  have hat := uCells_at ws k (by omega)
  cases hq : Tryz.prog.info? 94 with
  | none => have := sizeW; simp [hq] at this
  | some i =>
    have hs : i.size = 1 := by have := sizeW; simpa [hq] using this
    simp [Instr.index, asIntOf, Sem.run_bind, run_underlying Tryz.underlying98, part, isAgg, run_underlying Tryz.underlying94, sizeOf, typeInfo, hq, hs, hat]
    intro h64; omega
/-- The four blocks that the call lays: the state, the words, the answer's place, the state at work. -/
def Laid4 (T8 T64 : TypeId) (n : Nat) (s : St) (ws : List Nat) (t : St) (w w' : World) : Prop :=
  RowU T8 w' n s.toL ∧ RowU T8 w' (n + 1 + 1) (List.replicate 8 0) ∧ RowU T8 w' (n + 1 + 1 + 1) t.toL ∧ Below n w w'
theorem laid4 (T8 T64 : TypeId) (s : St) (ws : List Nat) (w : World) :
    RowU T8 ((((w.alloc (.cells (uCells s.toL) T8)).alloc (.cells (uCells ws) T64)).alloc (.cells (uCells (List.replicate 8 0)) T8)).alloc (.cells (uCells (List.replicate 8 0)) T8)) (w.heap.size + 1 + 1 + 1) (List.replicate 8 0) ∧
    Laid4 T8 T64 w.heap.size s ws s w (((((w.alloc (.cells (uCells s.toL) T8)).alloc (.cells (uCells ws) T64)).alloc (.cells (uCells (List.replicate 8 0)) T8)).alloc (.cells (uCells (List.replicate 8 0)) T8)).setCells (w.heap.size + 1 + 1 + 1) 0 (uCells s.toL).toList) ∧
    RowU T64 (((((w.alloc (.cells (uCells s.toL) T8)).alloc (.cells (uCells ws) T64)).alloc (.cells (uCells (List.replicate 8 0)) T8)).alloc (.cells (uCells (List.replicate 8 0)) T8)).setCells (w.heap.size + 1 + 1 + 1) 0 (uCells s.toL).toList) (w.heap.size + 1) ws ∧
    RowU T8 (((w.alloc (.cells (uCells s.toL) T8)).alloc (.cells (uCells ws) T64)).alloc (.cells (uCells (List.replicate 8 0)) T8)) w.heap.size s.toL := by
  obtain ⟨w1, h1⟩ : ∃ x, x = w.alloc (.cells (uCells s.toL) T8) := ⟨_, rfl⟩
  have s1 : w1.heap.size = w.heap.size + 1 := by rw [h1]; simp
  have r1 : RowU T8 w1 w.heap.size s.toL := by rw [h1]; exact heap_alloc_new w _
  have b1 : Below w.heap.size w w1 := by rw [h1]; exact (Below.refl _ w).alloc (Nat.le_refl _) _
  rw [← h1]
  obtain ⟨w2, h2⟩ : ∃ x, x = w1.alloc (.cells (uCells ws) T64) := ⟨_, rfl⟩
  have s2 : w2.heap.size = w.heap.size + 1 + 1 := by rw [h2]; simp [s1]
  have r2 : RowU T64 w2 (w.heap.size + 1) ws := by rw [h2, ← s1]; exact heap_alloc_new w1 _
  have r21 : RowU T8 w2 w.heap.size s.toL := by rw [h2]; exact r1.keep (Below.heap_alloc _ _ _ (by omega))
  have b2 : Below w.heap.size w w2 := by rw [h2]; exact b1.alloc (by omega) _
  rw [← h2]
  obtain ⟨w3, h3⟩ : ∃ x, x = w2.alloc (.cells (uCells (List.replicate 8 0)) T8) := ⟨_, rfl⟩
  have s3 : w3.heap.size = w.heap.size + 1 + 1 + 1 := by rw [h3]; simp [s2]
  have r3 : RowU T8 w3 (w.heap.size + 1 + 1) (List.replicate 8 0) := by rw [h3, ← s2]; exact heap_alloc_new w2 _
  have r32 : RowU T64 w3 (w.heap.size + 1) ws := by rw [h3]; exact r2.keep (Below.heap_alloc _ _ _ (by omega))
  have r31 : RowU T8 w3 w.heap.size s.toL := by rw [h3]; exact r21.keep (Below.heap_alloc _ _ _ (by omega))
  have b3 : Below w.heap.size w w3 := by rw [h3]; exact b2.alloc (by omega) _
  rw [← h3]
  obtain ⟨w4, h4⟩ : ∃ x, x = w3.alloc (.cells (uCells (List.replicate 8 0)) T8) := ⟨_, rfl⟩
  have r4 : RowU T8 w4 (w.heap.size + 1 + 1 + 1) (List.replicate 8 0) := by rw [h4, ← s3]; exact heap_alloc_new w3 _
  have r43 : RowU T8 w4 (w.heap.size + 1 + 1) (List.replicate 8 0) := by rw [h4]; exact r3.keep (Below.heap_alloc _ _ _ (by omega))
  have r42 : RowU T64 w4 (w.heap.size + 1) ws := by rw [h4]; exact r32.keep (Below.heap_alloc _ _ _ (by omega))
  have r41 : RowU T8 w4 w.heap.size s.toL := by rw [h4]; exact r31.keep (Below.heap_alloc _ _ _ (by omega))
  have b4 : Below w.heap.size w w4 := by rw [h4]; exact b3.alloc (by omega) _
  rw [← h4]
  refine ⟨r4, ⟨r41.keep (heap_setCells_other _ _ _ _ _ (by omega)), r43.keep (heap_setCells_other _ _ _ _ _ (by omega)), r4.over (by simp [St.toL]), Below.setCells b4 (by omega) _ _⟩, r42.keep (heap_setCells_other _ _ _ _ _ (by omega)), r31⟩

theorem Rows3.set {T8 : TypeId} {n : Nat} {ls l lz : List Nat} {w wr : World} (h : RowU T8 wr n ls ∧ RowU T8 wr (n + 1 + 1) lz ∧ RowU T8 wr (n + 1 + 1 + 1) l ∧ Below n w wr) (i v : Nat) :
    RowU T8 (wr.setCell ⟨n + 1 + 1 + 1, i, none⟩ (.int .u32 (v : Int))) n ls ∧ RowU T8 (wr.setCell ⟨n + 1 + 1 + 1, i, none⟩ (.int .u32 (v : Int))) (n + 1 + 1) lz ∧ RowU T8 (wr.setCell ⟨n + 1 + 1 + 1, i, none⟩ (.int .u32 (v : Int))) (n + 1 + 1 + 1) (l.set i v) ∧ Below n w (wr.setCell ⟨n + 1 + 1 + 1, i, none⟩ (.int .u32 (v : Int))) :=
  ⟨h.1.keep (Below.heap_setCell _ _ _ _ (by show _ ≠ n + 1 + 1 + 1; omega)), h.2.1.keep (Below.heap_setCell _ _ _ _ (by show _ ≠ n + 1 + 1 + 1; omega)), h.2.2.1.set i v, h.2.2.2.setCell (p := ⟨n + 1 + 1 + 1, i, none⟩) (by show n ≤ n + 1 + 1 + 1; omega) _⟩
theorem Laid4.over {T8 T64 : TypeId} {n : Nat} {s t : St} {ws : List Nat} {w wr : World} (h : Laid4 T8 T64 n s ws t w wr) (v0 v1 v2 v3 v4 v5 v6 v7 : Nat) :
    Laid4 T8 T64 n s ws ⟨v0, v1, v2, v3, v4, v5, v6, v7⟩ w ((((((((wr.setCell ⟨n + 1 + 1 + 1, 0, none⟩ (.int .u32 (v0 : Int))).setCell ⟨n + 1 + 1 + 1, 1, none⟩ (.int .u32 (v1 : Int))).setCell ⟨n + 1 + 1 + 1, 2, none⟩ (.int .u32 (v2 : Int))).setCell ⟨n + 1 + 1 + 1, 3, none⟩ (.int .u32 (v3 : Int))).setCell ⟨n + 1 + 1 + 1, 4, none⟩ (.int .u32 (v4 : Int))).setCell ⟨n + 1 + 1 + 1, 5, none⟩ (.int .u32 (v5 : Int))).setCell ⟨n + 1 + 1 + 1, 6, none⟩ (.int .u32 (v6 : Int))).setCell ⟨n + 1 + 1 + 1, 7, none⟩ (.int .u32 (v7 : Int))).drew.drew := by
  have := Rows3.set (Rows3.set (Rows3.set (Rows3.set (Rows3.set (Rows3.set (Rows3.set (Rows3.set h 0 v0) 1 v1) 2 v2) 3 v3) 4 v4) 5 v5) 6 v6) 7 v7
  exact ⟨this.1.drew.drew, this.2.1.drew.drew, this.2.2.1.drew.drew, this.2.2.2.drew.drew⟩

def plusTo (s t : St) (k : Nat) : List Nat := (s.plus t).toL.take k ++ s.toL.drop k
theorem plusTo_length (s t : St) (k : Nat) (h : k ≤ 8) : (plusTo s t k).length = 8 := by
  simp [plusTo, St.toL]; omega
theorem plusTo_at (s t : St) (k : Nat) (h : k < 8) : (plusTo s t k).getD k 0 = s.toL.getD k 0 := by
  match k, h with
  | 0, _ | 1, _ | 2, _ | 3, _ | 4, _ | 5, _ | 6, _ | 7, _ => rfl
theorem plusTo_set (s t : St) (k : Nat) (h : k < 8) (v : Nat) (hv : v = (s.toL.getD k 0 + t.toL.getD k 0) % 4294967296) : (plusTo s t k).set k v = plusTo s t (k + 1) := by
  subst hv
  match k, h with
  | 0, _ | 1, _ | 2, _ | 3, _ | 4, _ | 5, _ | 6, _ | 7, _ => rfl

set_option maxHeartbeats 1000000 in
set_option maxRecDepth 100000 in
theorem nextI (ms ws : List Nat) (s : St) (hs : s.ok) (w : World) (hms : RowG w ms) (hml : ms.length = 64) (hmm : ∀ x ∈ ms, x < 4294967296) (hwl : ws.length = 64) (hww : ∀ x ∈ ws, x < 4294967296) :
    Calls Tryz.prog 76 #[.agg (uCells s.toL), .agg (uCells ws)] w fun e w' => e = .returned (.agg (uCells (s.plus (rounds ms ws s 64)).toL)) ∧ Below w.heap.size w w' := by
  have Z : Hid (_ ∧ _ ∧ _ ∧ _) := laid4 95 98 s ws w
  go_enter Tryz.func76, Tryz.ntmps76
  go_upto_region 1 with fail
  refine wp_region_list ?_
  refine wpList_load_mid rfl 95 _ rfl w.heap.size 0 rfl (uCells s.toL).toList _ ?_ Tryz.underlying95 rfl (by rw [size8, Array.length_toList, uCells_size]; rfl) ?_
  · exact Z.out.2.2.2.range
  rw [Array.toArray_toList]
  go_wp2
  obtain ⟨z1, z2, z3, z4⟩ := Z.out
  rw [zerosU8, run_storeCellsU z1 s.toL rfl]
  obtain ⟨W, hW⟩ : ∃ W, W = (((((w.alloc (.cells (uCells s.toL) 95)).alloc (.cells (uCells ws) 98)).alloc (.cells (uCells (List.replicate 8 0)) 95)).alloc (.cells (uCells (List.replicate 8 0)) 95)).setCells (w.heap.size + 1 + 1 + 1) 0 (uCells s.toL).toList) := ⟨_, rfl⟩
  rw [← hW] at z2 z3 ⊢
  clear hW z1 z4 Z
  have Hmm : Hid (∀ x ∈ ms, x < 4294967296) := hmm
  have Hww : Hid (∀ x ∈ ws, x < 4294967296) := hww
  have HZ : Hid (Laid4 95 98 w.heap.size s ws s w W) := z2
  clear hmm hww z2
  go_upto_region 2 with fail
  refine wp_region_list ?_
  refine wpList_load_mid rfl 98 _ rfl (w.heap.size + 1) 0 rfl (uCells ws).toList _ z3.range Tryz.underlying98 rfl (by rw [size64, Array.length_toList, uCells_size, hwl]) ?_
  rw [Array.toArray_toList]
  clear z3
  go_wp2
  go_loopw [13] (fun i wr => ∃ k : Nat, k ≤ 64 ∧ i = .int .i64 (k : Int) ∧ Hid (Laid4 95 98 w.heap.size s ws (rounds ms ws s k) w wr)) (fun i _ => 64 - (intOf i).toNat)
  case atStart => exact ⟨0, by omega, rfl, HZ⟩
  case round =>
    clear HZ
    obtain ⟨k, hk, rfl, HR⟩ := hrel
    by_cases hlt : k < 64
    · have hok := rounds_ok ms ws s hs k
      obtain ⟨t, ht⟩ : ∃ t, t = rounds ms ws s k := ⟨_, rfl⟩
      rw [← ht] at HR hok
      have HT : Hid (t = rounds ms ws s k) := ht
      clear ht
      obtain ⟨a, b, c, d, e, f, g, h⟩ := t
      obtain ⟨la, lb, lc, ld, le, lf, lg, lh⟩ := hok
      simp only at la lb lc ld le lf lg lh
      have hr := HR.out.2.2.1
      have c0 : wr.cell? ⟨w.heap.size + 1 + 1 + 1, 0, none⟩ = some (.int .u32 (a : Int)) := hr.cell 0 (by show _ < 8; decide)
      have c1 : wr.cell? ⟨w.heap.size + 1 + 1 + 1, 1, none⟩ = some (.int .u32 (b : Int)) := hr.cell 1 (by show _ < 8; decide)
      have c2 : wr.cell? ⟨w.heap.size + 1 + 1 + 1, 2, none⟩ = some (.int .u32 (c : Int)) := hr.cell 2 (by show _ < 8; decide)
      have c3 : wr.cell? ⟨w.heap.size + 1 + 1 + 1, 3, none⟩ = some (.int .u32 (d : Int)) := hr.cell 3 (by show _ < 8; decide)
      have c4 : wr.cell? ⟨w.heap.size + 1 + 1 + 1, 4, none⟩ = some (.int .u32 (e : Int)) := hr.cell 4 (by show _ < 8; decide)
      have c5 : wr.cell? ⟨w.heap.size + 1 + 1 + 1, 5, none⟩ = some (.int .u32 (f : Int)) := hr.cell 5 (by show _ < 8; decide)
      have c6 : wr.cell? ⟨w.heap.size + 1 + 1 + 1, 6, none⟩ = some (.int .u32 (g : Int)) := hr.cell 6 (by show _ < 8; decide)
      have c7 : wr.cell? ⟨w.heap.size + 1 + 1 + 1, 7, none⟩ = some (.int .u32 (h : Int)) := hr.cell 7 (by show _ < 8; decide)
      have f0 := hr.frozen 0
      have f1 := hr.frozen 1
      have f2 := hr.frozen 2
      have f3 := hr.frozen 3
      have f4 := hr.frozen 4
      have f5 := hr.frozen 5
      have f6 := hr.frozen 6
      have f7 := hr.frozen 7
      clear hr
      obtain ⟨m, hm⟩ : ∃ m, m = ms.getD k 0 := ⟨_, rfl⟩
      obtain ⟨x, hx⟩ : ∃ x, x = ws.getD k 0 := ⟨_, rfl⟩
      have lm : m < 4294967296 := by rw [hm]; exact getD_lt Hmm.out _
      have lx : x < 4294967296 := by rw [hx]; exact getD_lt Hww.out _
      have cm : wr.cell? ⟨0, k, none⟩ = some (.int .u32 (m : Int)) := by
        rw [HR.out.2.2.2.cell (p := ⟨0, k, none⟩) hms.lt, hm]
        exact hms.cell k (by omega)
      have cx : ∀ w : World, (Instr.index 98 (.agg (uCells ws)) (.int .i64 (k : Int))).run Tryz.prog w = .ok (.int .u32 (x : Int)) w := by intro w; rw [hx]; exact indexU ws hwl k hlt w
      have lk : (k : Int) < 64 := by omega
      obtain ⟨v1, hv1⟩ : ∃ v : Nat, v = (h + big1 e + chs e f g + m + x) % 4294967296 := ⟨_, rfl⟩
      obtain ⟨v2, hv2⟩ : ∃ v : Nat, v = (big0 a + maj a b c) % 4294967296 := ⟨_, rfl⟩
      obtain ⟨v3, hv3⟩ : ∃ v : Nat, v = (v1 + v2) % 4294967296 := ⟨_, rfl⟩
      obtain ⟨v4, hv4⟩ : ∃ v : Nat, v = (d + v1) % 4294967296 := ⟨_, rfl⟩
      have r1 : IntKind.u32.wrap (IntKind.u32.wrap (IntKind.u32.wrap (IntKind.u32.wrap ((h : Int) + ((big1 e : Nat) : Int)) + ((chs e f g : Nat) : Int)) + (m : Int)) + (x : Int)) = (v1 : Int) := by
        rw [hv1]; simp only [IntKind.wrap_u32]; omega
      have r2 : IntKind.u32.wrap (((big0 a : Nat) : Int) + ((maj a b c : Nat) : Int)) = (v2 : Int) := by
        rw [hv2]; simp only [IntKind.wrap_u32]; omega
      have r3 : IntKind.u32.wrap ((v1 : Int) + (v2 : Int)) = (v3 : Int) := by
        rw [hv3]; simp only [IntKind.wrap_u32]; omega
      have r4 : IntKind.u32.wrap ((d : Int) + (v1 : Int)) = (v4 : Int) := by
        rw [hv4]; simp only [IntKind.wrap_u32]; omega
      have HN : Hid ((⟨v3, a, b, c, v4, e, f, g⟩ : St) = rounds ms ws s (k + 1)) := by
        show _ = _
        rw [rounds, ← HT.out, St.step, ← hm, ← hx, hv3, hv4, hv1, hv2]
        simp only [St.mk.injEq, true_and, and_true]
        omega
      clear hv1 hv2 hv3 hv4 hm hx hms HT
      go_wp2_with fail
      go_region_held2 (fun W => W.cell? ⟨w.heap.size + 1 + 1 + 1, 7, none⟩ = some (.int .u32 (h : Int)) ∧ W.cell? ⟨w.heap.size + 1 + 1 + 1, 4, none⟩ = some (.int .u32 (e : Int)) ∧ W.cell? ⟨w.heap.size + 1 + 1 + 1, 5, none⟩ = some (.int .u32 (f : Int)) ∧ W.cell? ⟨w.heap.size + 1 + 1 + 1, 6, none⟩ = some (.int .u32 (g : Int)) ∧ W.cell? ⟨0, k, none⟩ = some (.int .u32 (m : Int))) (exact ⟨c7, c4, c5, c6, cm⟩) (first | (go_at_call 101; refine (fifthI _ _ le).mono ?_; rintro e w1 ⟨rfl, rfl⟩) | (go_at_call 102; refine (chooseI _ _ _ _ le lf lg).mono ?_; rintro e w1 ⟨rfl, rfl⟩))
      go_wp2_with fail
      go_region_held2 (fun W => W.cell? ⟨w.heap.size + 1 + 1 + 1, 0, none⟩ = some (.int .u32 (a : Int)) ∧ W.cell? ⟨w.heap.size + 1 + 1 + 1, 1, none⟩ = some (.int .u32 (b : Int)) ∧ W.cell? ⟨w.heap.size + 1 + 1 + 1, 2, none⟩ = some (.int .u32 (c : Int))) (exact ⟨c0, c1, c2⟩) (first | (go_at_call 103; refine (firstI _ _ la).mono ?_; rintro e w1 ⟨rfl, rfl⟩) | (go_at_call 104; refine (mostI _ _ _ _ la lb lc).mono ?_; rintro e w1 ⟨rfl, rfl⟩))
      go_wp2
      go_roundw
      case rel =>
        refine ⟨k + 1, by omega, by go_num, ?_⟩
        have := HR.out.over v3 a b c v4 e f g
        rw [HN.out] at this
        exact this
      case measure => simp [intOf]; omega
    · obtain ⟨t, ht⟩ : ∃ t, t = rounds ms ws s 64 := ⟨_, rfl⟩
      have hk64 : k = 64 := by omega
      rw [hk64, ← ht] at HR
      have HT : Hid (t = rounds ms ws s 64) := ht
      obtain ⟨k0, hk0⟩ : ∃ k0 : Nat, k0 = k := ⟨_, rfl⟩
      rw [← hk0] at hlt ⊢
      clear ht hk0 hk64 hk
      go_wp2
      go_loopw [69] (fun i wr => ∃ k : Nat, k ≤ 8 ∧ i = .int .i64 (k : Int) ∧ Hid (RowU 95 wr w.heap.size (plusTo s t k) ∧ RowU 95 wr (w.heap.size + 1 + 1) (List.replicate 8 0) ∧ RowU 95 wr (w.heap.size + 1 + 1 + 1) t.toL ∧ Below w.heap.size w wr)) (fun i _ => 8 - (intOf i).toNat)
      case atStart => exact ⟨0, by omega, rfl, HR.out⟩
      case round =>
        clear HR
        obtain ⟨k, hk, rfl, HR⟩ := hrel
        by_cases hk8 : k < 8
        · obtain ⟨x, hx⟩ : ∃ x, x = s.toL.getD k 0 := ⟨_, rfl⟩
          obtain ⟨y, hy⟩ : ∃ y, y = t.toL.getD k 0 := ⟨_, rfl⟩
          have cx : wr.cell? ⟨w.heap.size, k, none⟩ = some (.int .u32 (x : Int)) := by
            rw [hx, ← plusTo_at s t k hk8]; exact HR.out.1.cell k (by rw [plusTo_length _ _ _ hk]; exact hk8)
          have cy : wr.cell? ⟨w.heap.size + 1 + 1 + 1, k, none⟩ = some (.int .u32 (y : Int)) := by
            rw [hy]; exact HR.out.2.2.1.cell k (by show k < 8; exact hk8)
          have hfz := HR.out.1.frozen k
          obtain ⟨v, hv⟩ : ∃ v : Nat, v = (x + y) % 4294967296 := ⟨_, rfl⟩
          have rv : IntKind.u32.wrap ((x : Int) + (y : Int)) = (v : Int) := by
            rw [hv]; simp only [IntKind.wrap_u32]; omega
          have HV : Hid ((plusTo s t k).set k v = plusTo s t (k + 1)) := by
            show _ = _
            refine plusTo_set s t k hk8 v ?_
            rw [hv, hx, hy]
          have lk : (k : Int) < 8 := by omega
          clear hx hy hv hlt hk
          go_wp2
          go_region
          go_wp2
          go_roundw
          case rel =>
            refine ⟨k + 1, by omega, by go_num, ?_⟩
            have h1 := HR.out.1.set k v
            rw [HV.out] at h1
            exact ⟨h1, HR.out.2.1.keep (Below.heap_setCell _ _ _ _ (by show _ ≠ w.heap.size; omega)), HR.out.2.2.1.keep (Below.heap_setCell _ _ _ _ (by show _ ≠ w.heap.size; omega)), (HR.out.2.2.2.setCell (p := ⟨w.heap.size, k, none⟩) (Nat.le_refl _) _).drew⟩
          case measure => simp [intOf]; omega
        · have HF : Hid (RowU 95 wr w.heap.size (s.plus t).toL) := by
            show RowU _ _ _ _
            have := HR.out.1
            rw [show k = 8 from by omega] at this
            exact this
          obtain ⟨L, hL⟩ : ∃ L, L = (s.plus t).toL := ⟨_, rfl⟩
          have hlen : L.length = 8 := by rw [hL]; rfl
          rw [← hL] at HF
          have HL : Hid (L = (s.plus (rounds ms ws s 64)).toL) := by show _ = _; rw [← HT.out]; exact hL
          have hout : RowU 95 (wr.setCells (w.heap.size + 1 + 1) 0 (uCells L).toList) (w.heap.size + 1 + 1) L := HR.out.2.1.over (by rw [hlen]; rfl)
          have hbo : Below w.heap.size w (wr.setCells (w.heap.size + 1 + 1) 0 (uCells L).toList) := Below.setCells HR.out.2.2.2 (by omega) _ 0
          have hlv := run_loadVar_mid (P := Tryz.prog) (wr.setCells (w.heap.size + 1 + 1) 0 (uCells L).toList) (w.heap.size + 1 + 1) 0 95 (uCells L).toList _ hout.range Tryz.underlying95 rfl (by rw [size8, Array.length_toList, uCells_size, hlen])
          rw [Array.toArray_toList] at hlv
          have Hlv : Hid (_ = _) := hlv
          have Hbo : Hid (Below w.heap.size w (wr.setCells (w.heap.size + 1 + 1) 0 (uCells L).toList)) := hbo
          clear hL hlv hout hbo
          go_upto_region 14 with fail
          refine wp_region_list ?_
          refine wpList_load_mid rfl 95 _ rfl w.heap.size 0 rfl (uCells L).toList _ HF.out.range Tryz.underlying95 rfl (by rw [size8, Array.length_toList, uCells_size, hlen]) ?_
          rw [Array.toArray_toList]
          refine wpList_store_mid rfl 95 _ _ rfl (w.heap.size + 1 + 1) 0 (uCells L) rfl rfl (HR.out.2.1.there _ (by rw [uCells_size, hlen]; simp)) (by rw [size8, uCells_size, hlen]) (uCells_one _) ?_
          go_wp2
          rw [← HL.out]
          exact bodyPost_ret (v := .agg (uCells L)) (results_cell1 (p := 4) (b := w.heap.size + 1 + 1) rfl _ _ _ rfl Hlv) rfl ⟨rfl, Hbo.out⟩

end Go.Proofs.YtifpidhoeikdjaaGreatDoor

