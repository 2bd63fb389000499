/-
  The program's walk through the bits of a text: an iterator.
-/
import Derived.RangeFuncNested
import Derived.RangeFuncBound
import Derived.RangeFuncCalls
import Derived.RangeFuncLeaves
import Derived.Shelf.Abstract
import Derived.Shelf.RegionOpen
import Derived.WalkKit
import Derived.OwnWalkIn
import Derived.TacticsInMore
import Derived.LoopNIn
import Derived.LoopIn
import Derived.Test.YtcaejndpmagfaaaDoorProg
import Derived.Test.YtcaejndpmagfaaaDoorVarGetM
set_option linter.unusedVariables false
namespace Go.Proofs.YtcaejndpmagfaaaDoor
open Go.RowKit Go.Shelf
attribute [local go_sem] Oper.semAt_some

abbrev Bit := { b : Nat // b ≤ 1 }
def bitOf (s : ByteArray) (q : Nat) : Bit := ⟨(s.data.toList.getD (q / 8) 0).toNat / 2 ^ (7 - q % 8) % 2, by omega⟩
def bitsTo (s : ByteArray) (k : Nat) : List Bit := (List.range k).map (bitOf s)
theorem bitsTo_succ (s : ByteArray) (k : Nat) : bitsTo s (k + 1) = bitsTo s k ++ [bitOf s k] := by simp [bitsTo, List.range_succ]
theorem bitsTo_length (s : ByteArray) (k : Nat) : (bitsTo s k).length = k := by simp [bitsTo]

set_option maxHeartbeats 2000000 in
set_option maxRecDepth 100000 in
theorem bitsIter (F : Fence) (n : Nat) (hf : F.fn 86) (hro : F.round = none) (hn : 1 ≤ n) (l Bs : Nat) (s : ByteArray) (hs : s.size ≤ 600) (J Jx : List Bit → World → Prop)
    (hY : ∀ pre x W, J pre W → pre.length < 8 * s.size → YieldAt F (n - 1) Tryd.prog l #[.int .i64 ((x.1 : Nat) : Int)] W fun e W' =>
      (e = .returned (.bool true) ∧ J (pre ++ [x]) W' ∧ W'.cell? ⟨Bs, 0, none⟩ = W.cell? ⟨Bs, 0, none⟩) ∨ (e = .returned (.bool false) ∧ Jx (pre ++ [x]) W'))
    (W : World) (hBs : W.cell? ⟨Bs, 0, none⟩ = some (.string s)) (h0 : J [] W) :
    CallsIn F n Tryd.prog 86 #[.func (.yield l) #[] #[], .pointer (some ⟨Bs, 0, none⟩)] W fun e W' => (∃ v, e = .returned v) ∧
      ((∃ ys, ys = bitsTo s (8 * s.size) ∧ J ys W') ∨ (∃ pre, (∃ k, k ≤ 8 * s.size ∧ pre = bitsTo s k) ∧ Jx pre W')) := by
  refine callsIn_of_wp Tryd.func86 rfl hf ?_ hro
  simp only [Tryd.ntmps86, List.size_toArray, List.length_cons, List.length_nil, Nat.reduceAdd, Nat.reduceSub, Array.replicate_succ, Array.replicate_zero, List.push_toArray, List.append_toArray, List.nil_append, List.cons_append]
  have HY : Hid (∀ pre x W, J pre W → pre.length < 8 * s.size → YieldAt F (n - 1) Tryd.prog l #[.int .i64 ((x.1 : Nat) : Int)] W fun e W' =>
      (e = .returned (.bool true) ∧ J (pre ++ [x]) W' ∧ W'.cell? ⟨Bs, 0, none⟩ = W.cell? ⟨Bs, 0, none⟩) ∨ (e = .returned (.bool false) ∧ Jx (pre ++ [x]) W')) := hY
  clear hY
  gi_wp2
  gi_loopw [7] (fun i wr => ∃ k : Nat, k ≤ s.size ∧ i = .int .i64 (k : Int) ∧ Hid (J (bitsTo s (8 * k)) wr) ∧ Hid (wr.cell? ⟨Bs, 0, none⟩ = some (.string s))) (fun i _ => s.size - (intOf i).toNat)
  case atStart => exact ⟨0, by omega, rfl, h0, hBs⟩
  case round =>
    clear h0 hBs
    obtain ⟨k, hk, rfl, HJ, HC⟩ := hrel
    by_cases hlt : k < s.size
    · have HK : Hid (k + 1 ≤ s.size) := hlt
      gi_wp2
      gi_loopw [4] (fun i wr => ∃ (r : Nat) (x : Int), r ≤ 8 ∧ i = .int .i64 x ∧ Hid (x = (r : Int) - 1) ∧ Hid (J (bitsTo s (8 * k + (8 - r))) wr) ∧ Hid (wr.cell? ⟨Bs, 0, none⟩ = some (.string s))) (fun i _ => (intOf i + 1).toNat)
      case atStart => exact ⟨8, 7, by omega, rfl, rfl, HJ, HC⟩
      case round =>
        clear HJ HC
        obtain ⟨r, x, hr, rfl, HX, HJ, HC⟩ := hrel
        rcases r with _ | m
        · have hx : ¬ (0 : Int) ≤ x := by have := HX.out; omega
          gi_wp2
          go_roundw
          case rel => exact ⟨k + 1, HK.out, by go_num, by rw [show 8 * (k + 1) = 8 * k + (8 - 0) from by omega]; exact HJ, HC⟩
          case measure => have := HK.out; simp [intOf]; omega
        · obtain rfl : x = (m : Int) := by have := HX.out; omega
          obtain ⟨q, hq⟩ : ∃ q : Nat, q = (s[k]'hlt).toNat / 2 ^ m := ⟨_, rfl⟩
          have rq : ((s[k]'hlt).toNat : Int) / 2 ^ m = (q : Int) := by rw [hq]; simp
          have hby := (s[k]'hlt).toNat_lt
          have hq8 : q < 256 := by rw [hq]; exact Nat.lt_of_le_of_lt (Nat.div_le_self _ _) hby
          obtain ⟨bt, hbt⟩ : ∃ bt : Nat, bt = q % 2 := ⟨_, rfl⟩
          have hb1 : bt ≤ 1 := by omega
          have rb : bits .and .i64 (q : Int) 1 = (bt : Int) := by
            have := (bits_nat .i64 63 (by decide) (fun m h0 h1 => by rw [IntKind.wrap_i64]; omega) q 1 (by omega) (by omega)).1
            rw [Nat.and_one_is_mod, ← hbt] at this
            exact this
          have rb2 : (q : Int) % 2 = (bt : Int) := by omega
          have HBT : Hid (bitOf s (8 * k + (7 - m)) = ⟨bt, hb1⟩) := by
            show _ = _
            have e : s.data.toList.getD k 0 = s[k]'hlt := by
              rw [List.getD_eq_getElem?_getD, List.getElem?_eq_getElem (by simpa using hlt)]
              rfl
            simp only [bitOf, show (8 * k + (7 - m)) / 8 = k from by omega, show (8 * k + (7 - m)) % 8 = 7 - m from by omega, e, show 7 - (7 - m) = m from by omega, ← hq, ← hbt]
          have HNX : Hid (bitsTo s (8 * k + (8 - (m + 1))) ++ [⟨bt, hb1⟩] = bitsTo s (8 * k + (8 - m))) := by
            show _ = _
            rw [← HBT.out, show 8 - (m + 1) = 7 - m from by omega, show 8 * k + (8 - m) = 8 * k + (7 - m) + 1 from by omega, bitsTo_succ]
          have hcell := HC.out
          have hYY := HY.out _ ⟨bt, hb1⟩ wr HJ.out (by rw [bitsTo_length]; omega)
          dsimp only at hYY
          obtain ⟨fn, tmps, assign, body, hy, hR⟩ := hYY
          have hm0 : (0 : Int) ≤ (m : Int) := by omega
          have hm7 : m ≤ 7 := by omega
          have lk : (k : Int) < (s.size : Int) := by omega
          clear hq hbt
          gi_wp2
          refine hR.mono ?_
          rintro e W3 (⟨rfl, hJ3, hk3⟩ | ⟨rfl, hJx3⟩)
          · have HJ3 : Hid (J (bitsTo s (8 * k + (8 - m))) W3) := by rw [← HNX.out]; exact hJ3
            have HC3 : Hid (W3.cell? ⟨Bs, 0, none⟩ = some (.string s)) := hk3.trans HC.out
            clear hJ3 hk3
            gi_wp2
            go_roundw
            case rel => exact ⟨m, _, by omega, rfl, by show _ = _; first | rfl | omega, HJ3, HC3⟩
            case measure => simp [intOf]
          · have HJ3 : Hid (Jx (bitsTo s (8 * k + (8 - m))) W3) := by rw [← HNX.out]; exact hJx3
            clear hJx3
            gi_wp2
            refine bodyPost_ret (results_none rfl _ _ _) rfl ?_
            exact ⟨⟨_, rfl⟩, .inr ⟨_, ⟨8 * k + (8 - m), by have := HK.out; omega, rfl⟩, HJ3.out⟩⟩
    · obtain rfl : k = s.size := by omega
      gi_wp2
      go_end0
      exact ⟨⟨_, rfl⟩, .inl ⟨_, rfl, HJ.out⟩⟩

end Go.Proofs.YtcaejndpmagfaaaDoor
