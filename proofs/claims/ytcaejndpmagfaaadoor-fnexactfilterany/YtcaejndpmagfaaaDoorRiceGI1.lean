/-
  The program's reader of bits: one bit more.
-/
import Derived.Test.YtcaejndpmagfaaaDoorRiceR
import Derived.Test.YtcaejndpmagfaaaDoorReader
import Derived.Test.YtcaejndpmagfaaaDoorVarGetM
import Derived.Test.YtcaejndpmagfaaaDoorProg
import Derived.BigRegion
set_option linter.unusedVariables false
namespace Go.Proofs.YtcaejndpmagfaaaDoor
open Go.RowKit

def RR (b k : Nat) (st : Nat × Bool × Nat) (w : World) : Prop := w.heap[b]? = some (.cells #[.int .i64 (k : Int), .int .i64 (st.1 : Int), .bool st.2.1, .int .i64 (st.2.2 : Int)] 84 (0, 0))
theorem RR.c0 {b k : Nat} {st : Nat × Bool × Nat} {w : World} (h : RR b k st w) : w.cell? ⟨b, 0, none⟩ = some (.int .i64 (k : Int)) := by rw [Lib.cell_of_heap h]; rfl
theorem RR.c1 {b k : Nat} {st : Nat × Bool × Nat} {w : World} (h : RR b k st w) : w.cell? ⟨b, 1, none⟩ = some (.int .i64 (st.1 : Int)) := by rw [Lib.cell_of_heap h]; rfl
theorem RR.c2 {b k : Nat} {st : Nat × Bool × Nat} {w : World} (h : RR b k st w) : w.cell? ⟨b, 2, none⟩ = some (.bool st.2.1) := by rw [Lib.cell_of_heap h]; rfl
theorem RR.c3 {b k : Nat} {st : Nat × Bool × Nat} {w : World} (h : RR b k st w) : w.cell? ⟨b, 3, none⟩ = some (.int .i64 (st.2.2 : Int)) := by rw [Lib.cell_of_heap h]; rfl
theorem RR.fz {b k : Nat} {st : Nat × Bool × Nat} {w : World} (h : RR b k st w) (i : Nat) : w.frozen? ⟨b, i, none⟩ = false := Lib.frozen_of_heap h i
def R4 (b : Nat) (x0 x1 x2 x3 : Value) (w : World) : Prop := w.heap[b]? = some (.cells #[x0, x1, x2, x3] 84 (0, 0))
theorem R4.set0 {b : Nat} {x0 x1 x2 x3 : Value} {w : World} (h : R4 b x0 x1 x2 x3 w) (v : Value) : R4 b v x1 x2 x3 (w.setCell ⟨b, 0, none⟩ v) := by
  unfold R4 at h ⊢
  simp only [World.setCell, Array.getElem?_modify, h]
  simp
theorem R4.set1 {b : Nat} {x0 x1 x2 x3 : Value} {w : World} (h : R4 b x0 x1 x2 x3 w) (v : Value) : R4 b x0 v x2 x3 (w.setCell ⟨b, 1, none⟩ v) := by
  unfold R4 at h ⊢
  simp only [World.setCell, Array.getElem?_modify, h]
  simp
theorem R4.set2 {b : Nat} {x0 x1 x2 x3 : Value} {w : World} (h : R4 b x0 x1 x2 x3 w) (v : Value) : R4 b x0 x1 v x3 (w.setCell ⟨b, 2, none⟩ v) := by
  unfold R4 at h ⊢
  simp only [World.setCell, Array.getElem?_modify, h]
  simp
theorem R4.set3 {b : Nat} {x0 x1 x2 x3 : Value} {w : World} (h : R4 b x0 x1 x2 x3 w) (v : Value) : R4 b x0 x1 x2 v (w.setCell ⟨b, 3, none⟩ v) := by
  unfold R4 at h ⊢
  simp only [World.setCell, Array.getElem?_modify, h]
  simp
theorem or1 (n b : Nat) (hn : n < 1000000000000) (hb : b ≤ 1) : bits .or .i64 ((n : Int) * 2) (b : Int) = ((n * 2 + b : Nat) : Int) := by
  have e : (n : Int) * 2 = ((n * 2 : Nat) : Int) := by omega
  rw [e, (bits_nat .i64 63 (by decide) (fun m h0 h1 => by rw [IntKind.wrap_i64]; omega) (n * 2) b (by omega) (by omega)).2]
  have := (Nat.two_pow_add_eq_or_of_lt (i := 1) (by omega : b < 2 ^ 1) n).symm
  rw [show (2 : Nat) ^ 1 * n = n * 2 from by omega] at this
  rw [this]

set_option maxHeartbeats 1000000 in
set_option maxRecDepth 100000 in
theorem takeI (b k n left bit : Nat) (rest : Bool) (w : World) (h : RR b k (n, rest, left) w) (hb : bit ≤ 1) (hn : n < 1000000000000) (hk : k ≤ 8) (hl : left ≤ 8) (h1 : rest = true → 1 ≤ left) :
    Calls Tryd.prog 65 #[.pointer (some ⟨b, 0, none⟩), .int .i64 (bit : Int)] w fun e w' =>
      e = .returned (.tuple #[.int .i64 (((takeM k (n, rest, left) bit).2.getD 0 : Nat) : Int), .bool (takeM k (n, rest, left) bit).2.isSome]) ∧ RR b k (takeM k (n, rest, left) bit).1 w' ∧ Only b w w' := by
  have HR : Hid (RR b k (n, rest, left) w) := h
  have c0 := h.c0
  have c1 := h.c1
  have c2 := h.c2
  have c3 := h.c3
  have f0 := h.fz 0
  have f1 := h.fz 1
  have f2 := h.fz 2
  have f3 := h.fz 3
  have ror := or1 n bit hn hb
  clear h
  have H4 : Hid (R4 b (.int .i64 (k : Int)) (.int .i64 (n : Int)) (.bool rest) (.int .i64 (left : Int)) w) := HR.out
  cases rest with
  | true =>
    have hl1 := h1 rfl
    have en : ((n * 2 + bit : Nat) : Int) = (n : Int) * 2 + (bit : Int) := by omega
    by_cases hl2 : 1 < left
    · have hgt : (0 : Int) < (left : Int) - 1 := by omega
      have el : ((left - 1 : Nat) : Int) = (left : Int) - 1 := by omega
      have HM : Hid (takeM k (n, true, left) bit = ((n * 2 + bit, true, left - 1), none)) := by show _ = _; simp [takeM, hl2]
      have HEN : Hid (_ ∧ _) := And.intro en el
      rw [HM.out]
      clear en el
      go_enter Tryd.func65, Tryd.ntmps65
      go_wp2_with fail
      go_ret2
      refine ⟨rfl, ?_, (Only.setCell b 1 _ w).trans (Only.setCell b 3 _ _)⟩
      show R4 b (.int .i64 (k : Int)) (.int .i64 ((n * 2 + bit : Nat) : Int)) (.bool true) (.int .i64 ((left - 1 : Nat) : Int)) _
      rw [HEN.out.1, HEN.out.2]
      exact (H4.out.set1 _).set3 _
    · have hgt : ¬ (0 : Int) < (left : Int) - 1 := by omega
      have HM : Hid (takeM k (n, true, left) bit = ((0, false, 0), some (n * 2 + bit))) := by show _ = _; simp [takeM, hl2]
      have HEN : Hid (((n * 2 + bit : Nat) : Int) = (n : Int) * 2 + (bit : Int)) := en
      rw [HM.out]
      clear en
      go_enter Tryd.func65, Tryd.ntmps65
      go_wp2_with fail
      go_ret2
      refine ⟨?_, ?_, ?_⟩
      · simp
      · exact (((((H4.out.set1 _).set3 _).set0 _).set1 _).set2 _).set3 _
      · exact (((((Only.setCell b 1 _ w).trans (Only.setCell b 3 _ _)).trans (Only.setCell b 0 _ _)).trans (Only.setCell b 1 _ _)).trans (Only.setCell b 2 _ _)).trans (Only.setCell b 3 _ _)
  | false =>
    by_cases hb1 : bit = 1
    · subst hb1
      have HM : Hid (takeM k (n, false, left) 1 = ((n + 1, false, left), none)) := by show _ = _; simp [takeM]
      have HEN : Hid (((n + 1 : Nat) : Int) = (n : Int) + 1) := by show _ = _; omega
      rw [HM.out]
      go_enter Tryd.func65, Tryd.ntmps65
      go_wp2_with fail
      go_ret2
      refine ⟨rfl, ?_, Only.setCell b 1 _ w⟩
      show R4 b (.int .i64 (k : Int)) (.int .i64 ((n + 1 : Nat) : Int)) (.bool false) (.int .i64 (left : Int)) _
      rw [HEN.out]
      exact H4.out.set1 _
    · obtain rfl : bit = 0 := by omega
      by_cases hk0 : 0 < k
      · have hgt : (0 : Int) < (k : Int) := by omega
        have HM : Hid (takeM k (n, false, left) 0 = ((n, true, k), none)) := by show _ = _; simp [takeM, hk0]
        rw [HM.out]
        go_enter Tryd.func65, Tryd.ntmps65
        go_wp2_with fail
        go_ret2
        refine ⟨rfl, ?_, (Only.setCell b 2 _ w).trans (Only.setCell b 3 _ _)⟩
        exact (H4.out.set2 _).set3 _
      · have hgt : ¬ (0 : Int) < (k : Int) := by omega
        have HM : Hid (takeM k (n, false, left) 0 = ((0, false, 0), some n)) := by show _ = _; simp [takeM, hk0]
        rw [HM.out]
        go_enter Tryd.func65, Tryd.ntmps65
        go_wp2_with fail
        go_ret2
        refine ⟨?_, ?_, ?_⟩
        · simp
        · exact (((((H4.out.set2 _).set3 _).set0 _).set1 _).set2 _).set3 _
        · exact (((((Only.setCell b 2 _ w).trans (Only.setCell b 3 _ _)).trans (Only.setCell b 0 _ _)).trans (Only.setCell b 1 _ _)).trans (Only.setCell b 2 _ _)).trans (Only.setCell b 3 _ _)

end Go.Proofs.YtcaejndpmagfaaaDoor
