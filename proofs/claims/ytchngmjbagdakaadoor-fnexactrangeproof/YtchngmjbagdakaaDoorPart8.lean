/-
  RangeProof answers as the specification at every list of heads and every place, field by field, writes into no argument, and its answer owns its memory; for every input, no condition; the tables of the program as its text lays them.
-/
import Derived.Test.YtchngmjbagdakaaDoorPart1
import Derived.Test.YtchngmjbagdakaaDoorPart2
import Derived.Test.YtchngmjbagdakaaDoorPart3
import Derived.Test.YtchngmjbagdakaaDoorPart4
import Derived.Test.YtchngmjbagdakaaDoorPart5
import Derived.Test.YtchngmjbagdakaaDoorPart6
import Derived.Test.YtchngmjbagdakaaDoorPart7
import Derived.Deep.Cut
import Derived.Test.YtchngmjbagdakaaDoorCards
import Derived.Test.YtchngmjbagdakaaDoorTie
import Derived.WalkKit
import Derived.ProofKit
import Derived.OpenShut
import Derived.ShutString
import Derived.ChangeOld
import Derived.ChangeVars
import Derived.Below
import Derived.Carry
import Derived.Deep.DeepHandedRow
import Derived.Lib.LaidTab
set_option linter.unusedVariables false
namespace Go.Proofs.YtchngmjbagdakaaDoor
open Go.RowKit Go.Deep

/-- A block of heads that may be written. -/
def HdBk (w : World) (g n : Nat) : Prop := ∃ cur : Array Value, w.heap[g]? = some (.cells cur 44 (0, 0)) ∧ n * 5 ≤ cur.size
theorem HdBk.lt {w : World} {g n : Nat} (h : HdBk w g n) : g < w.heap.size := by
  obtain ⟨cur, h1, _⟩ := h
  rcases Nat.lt_or_ge g w.heap.size with h' | h'
  · exact h'
  · simp [Array.getElem?_eq_none h'] at h1
theorem HdBk.keep {w w' : World} {g n : Nat} (h : HdBk w g n) (hk : w'.heap[g]? = w.heap[g]?) : HdBk w' g n := by
  obtain ⟨cur, h1, h2⟩ := h
  exact ⟨cur, hk.trans h1, h2⟩
theorem HdBk.below {w w' : World} {g n B : Nat} (h : HdBk w g n) (hb : Below B w w') (hg : g < B) : HdBk w' g n := h.keep (hb.block g hg)
theorem HdBk.cell {w : World} {g n : Nat} (h : HdBk w g n) (i : Nat) (hi : i < n * 5) : (∃ v, w.cell? ⟨g, i, none⟩ = some v) ∧ w.frozen? ⟨g, i, none⟩ = false := by
  obtain ⟨cur, h1, h2⟩ := h
  refine ⟨?_, Lib.frozen_of_heap h1 i⟩
  rw [Lib.cell_of_heap h1]
  have hic : i < cur.size := by omega
  exact ⟨cur[i], Array.getElem?_eq_getElem hic⟩
theorem HdBk.set {w : World} {g n : Nat} (h : HdBk w g n) (i : Nat) (v : Value) : HdBk (w.setCell ⟨g, i, none⟩ v) g n := by
  obtain ⟨cur, h1, h2⟩ := h
  exact ⟨cur.setIfInBounds i v, by simp [World.setCell, Array.getElem?_modify, h1], by simpa using h2⟩
theorem HdBk.of {w : World} {g : Nat} {l : List HeadV} (h : RowHead w g l) : HdBk w g l.length := ⟨_, h, by simp [flat_length 5 enHead enHead_len]⟩
def MHPost (g n k : Nat) (w : World) (e : Ending) (w' : World) : Prop := e = .returned (.int .i64 ((k + 5 * n : Nat) : Int)) ∧ (∀ c, c < w.heap.size → c ≠ g → w'.heap[c]? = w.heap[c]?) ∧ Below 0 w w'
set_option maxHeartbeats 2000000 in
set_option maxRecDepth 100000 in
theorem markHeads (g n cap k : Nat) (w : World) (h : HdBk w g n) (hn : n ≤ 1048576) (hk : k ≤ 1000000000) :
    Calls Tryd.prog 11 #[.slice (some ⟨g, 0, none⟩) n cap, .int .i64 (k : Int)] w fun e w' => MHPost g n k w e w' := by
  have H0 : Hid (HdBk w g n) := h
  clear h
  have HQ : Hid (∀ e w', e = .returned (.int .i64 ((k + 5 * n : Nat) : Int)) → (∀ c, c < w.heap.size → c ≠ g → w'.heap[c]? = w.heap[c]?) → Below 0 w w' → MHPost g n k w e w') := fun e w' h1 h2 h3 => ⟨h1, h2, h3⟩
  generalize MHPost g n k w = Q at HQ ⊢
  go_enter Tryd.func11, Tryd.ntmps11
  go_wp2_with fail
  go_loopw [1, 5] (fun m i wr => ∃ j : Nat, j ≤ n ∧ i = .int .i64 (j : Int) ∧ m = .int .i64 ((k + 5 * j : Nat) : Int) ∧ Hid (HdBk wr g n ∧ (∀ c, c < w.heap.size → c ≠ g → wr.heap[c]? = w.heap[c]?) ∧ Below 0 w wr)) (fun _ i _ => n - (intOf i).toNat)
  case atStart => exact ⟨0, by omega, rfl, rfl, H0.out, fun c _ _ => rfl, Below.refl _ _⟩
  case round =>
    clear H0
    obtain ⟨j, hj, rfl, rfl, HS⟩ := hrel
    by_cases hlt : j < n
    · have hmk := fun (w' : World) => markText (k + 5 * j) (by omega) w'
      have hmk2 := fun (w' : World) => markText (k + 5 * j + 1) (by omega) w'
      have lj : (j : Int) < (n : Int) := by omega
      have lj0 : (0 : Int) ≤ (j : Int) := by omega
      have HK1 : Hid (j + 1 ≤ n) := hlt
      have hgl := HS.out.1.lt
      obtain ⟨m, hm⟩ : ∃ m, m = k + 5 * j := ⟨_, rfl⟩
      have HM1 : Hid (((m : Int) + 1 + 1 + 1 + 1 + 1) = ((k + 5 * (j + 1) : Nat) : Int)) := by show _ = _; omega
      rw [← hm] at hmk hmk2 ⊢
      have e1 : ((m + 1 : Nat) : Int) = (m : Int) + 1 := by omega
      rw [e1] at hmk2
      have wk : IntKind.i64.wrap ((m : Int) + 1) = (m : Int) + 1 := by rw [IntKind.wrap_i64]; omega
      have wk2 : IntKind.i64.wrap ((m : Int) + 1 + 1) = (m : Int) + 1 + 1 := by rw [IntKind.wrap_i64]; omega
      have wk3 : IntKind.i64.wrap ((m : Int) + 1 + 1 + 1) = (m : Int) + 1 + 1 + 1 := by rw [IntKind.wrap_i64]; omega
      have wk4 : IntKind.i64.wrap ((m : Int) + 1 + 1 + 1 + 1) = (m : Int) + 1 + 1 + 1 + 1 := by rw [IntKind.wrap_i64]; omega
      have wk5 : IntKind.i64.wrap ((m : Int) + 1 + 1 + 1 + 1 + 1) = (m : Int) + 1 + 1 + 1 + 1 + 1 := by rw [IntKind.wrap_i64]; omega
      have wj : IntKind.i64.wrap ((j : Int) + 1) = (j : Int) + 1 := by rw [IntKind.wrap_i64]; omega
      generalize mkS (m + 1) = ms2 at hmk2
      generalize mkS m = ms at hmk
      clear hm e1
      go_wp2_with fail
      refine (hmk _).mono ?_
      rintro e w1 ⟨rfl, b1⟩
      have HS1 : Hid (HdBk (w1.setCell ⟨g, j * 5, none⟩ (.string ms)) g n ∧ (∀ c, c < w.heap.size → c ≠ g → (w1.setCell ⟨g, j * 5, none⟩ (.string ms)).heap[c]? = w.heap[c]?) ∧ Below 0 w (w1.setCell ⟨g, j * 5, none⟩ (.string ms))) :=
        ⟨(HS.out.1.below b1 hgl).set _ _, setOff (fun c hc hne => (b1.block c (Nat.lt_of_lt_of_le hc HS.out.2.2.size)).trans (HS.out.2.1 c hc hne)), (HS.out.2.2.trans (b1.mono (Nat.zero_le _))).setCell (p := ⟨g, j * 5, none⟩) (Nat.zero_le _) _⟩
      obtain ⟨⟨v0, q0⟩, z0⟩ := (HS.out.1.below b1 hgl).cell (j * 5) (by omega)
      clear HS b1 hgl
      go_wp2_with fail
      clear q0 z0
      generalize w1.setCell ⟨g, j * 5, none⟩ (.string ms) = w2 at HS1 ⊢
      clear w1
      have hgl := HS1.out.1.lt
      refine (hmk2 _).mono ?_
      rintro e w3 ⟨rfl, b3⟩
      have HS3 : Hid (HdBk w3 g n ∧ (∀ c, c < w.heap.size → c ≠ g → w3.heap[c]? = w.heap[c]?) ∧ Below 0 w w3) :=
        ⟨HS1.out.1.below b3 hgl, fun c hc hne => (b3.block c (Nat.lt_of_lt_of_le hc HS1.out.2.2.size)).trans (HS1.out.2.1 c hc hne), HS1.out.2.2.trans (b3.mono (Nat.zero_le _))⟩
      obtain ⟨⟨v1, q1⟩, z1⟩ := HS3.out.1.cell (j * 5 + 1) (by omega)
      obtain ⟨⟨v2, q2⟩, z2⟩ := HS3.out.1.cell (j * 5 + 2) (by omega)
      obtain ⟨⟨v3, q3⟩, z3⟩ := HS3.out.1.cell (j * 5 + 3) (by omega)
      obtain ⟨⟨v4, q4⟩, z4⟩ := HS3.out.1.cell (j * 5 + 4) (by omega)
      have HN : Hid (HdBk ((((w3.setCell ⟨g, j * 5 + 1, none⟩ (.string ms2)).setCell ⟨g, j * 5 + 2, none⟩ (.int .i64 ((m : Int) + 1 + 1))).setCell ⟨g, j * 5 + 3, none⟩ (.int .i64 ((m : Int) + 1 + 1 + 1))).setCell ⟨g, j * 5 + 4, none⟩ (.int .i64 ((m : Int) + 1 + 1 + 1 + 1))) g n ∧ (∀ c, c < w.heap.size → c ≠ g → ((((w3.setCell ⟨g, j * 5 + 1, none⟩ (.string ms2)).setCell ⟨g, j * 5 + 2, none⟩ (.int .i64 ((m : Int) + 1 + 1))).setCell ⟨g, j * 5 + 3, none⟩ (.int .i64 ((m : Int) + 1 + 1 + 1))).setCell ⟨g, j * 5 + 4, none⟩ (.int .i64 ((m : Int) + 1 + 1 + 1 + 1))).heap[c]? = w.heap[c]?) ∧ Below 0 w ((((w3.setCell ⟨g, j * 5 + 1, none⟩ (.string ms2)).setCell ⟨g, j * 5 + 2, none⟩ (.int .i64 ((m : Int) + 1 + 1))).setCell ⟨g, j * 5 + 3, none⟩ (.int .i64 ((m : Int) + 1 + 1 + 1))).setCell ⟨g, j * 5 + 4, none⟩ (.int .i64 ((m : Int) + 1 + 1 + 1 + 1)))) :=
        ⟨(((HS3.out.1.set _ _).set _ _).set _ _).set _ _, setOff (setOff (setOff (setOff HS3.out.2.1))), (((HS3.out.2.2.setCell (p := ⟨g, j * 5 + 1, none⟩) (Nat.zero_le _) _).setCell (p := ⟨g, j * 5 + 2, none⟩) (Nat.zero_le _) _).setCell (p := ⟨g, j * 5 + 3, none⟩) (Nat.zero_le _) _).setCell (p := ⟨g, j * 5 + 4, none⟩) (Nat.zero_le _) _⟩
      clear HS1 HS3 b3 hgl hmk hmk2
      go_wp2_with fail
      go_roundw
      case rel => exact ⟨j + 1, HK1.out, by go_num, by show Value.int .i64 _ = Value.int .i64 _; rw [HM1.out], HN⟩
      case measure => have := HK1.out; simp [intOf]; omega
    · obtain rfl : j = n := by omega
      go_wp2_with fail
      exact HQ.out _ _ rfl HS.out.2.1 HS.out.2.2

end Go.Proofs.YtchngmjbagdakaaDoor

set_option linter.unusedVariables false
namespace Go.Proofs.YtchngmjbagdakaaDoor
open Go.ChangeShapes Go.WideShapes Go.ChangeAt Go.RowKit Go.Deep

set_option maxHeartbeats 2000000 in
set_option maxRecDepth 100000 in
theorem eqProofP {B C : Nat} {u1 u2 v1 v2 : Value} {p s : List PeakV} {w : World} (h1 : Pks B u1 p w) (h2 : Pks B u2 s w) (h3 : Pks C v1 p w) (h4 : Pks C v2 s w) (hp : p.length ≤ 1048576) (hs : s.length ≤ 1048576) :
    Calls Tryd.prog 9 #[.agg #[u1, u2], .agg #[v1, v2]] w fun e w' => e = .returned (.bool true) ∧ Below w.heap.size w w' := by
  obtain ⟨a1, n1, c1, rfl⟩ := pks_slice h1
  obtain ⟨a2, n2, c2, rfl⟩ := pks_slice h2
  obtain ⟨a3, n3, c3, rfl⟩ := pks_slice h3
  obtain ⟨a4, n4, c4, rfl⟩ := pks_slice h4
  have b0 : Below w.heap.size w ((w.alloc (.cells #[.slice a1 n1 c1, .slice a2 n2 c2] 26)).alloc (.cells #[.slice a3 n3 c3, .slice a4 n4 c4] 26)) := ((Below.refl _ w).alloc (Nat.le_refl _) _).alloc (by simp) _
  have k0 : CBk ((w.alloc (.cells #[.slice a1 n1 c1, .slice a2 n2 c2] 26)).alloc (.cells #[.slice a3 n3 c3, .slice a4 n4 c4] 26)) w.heap.size 26 #[.slice a1 n1 c1, .slice a2 n2 c2] := (CBk.new w _ _).alloc _
  have k1 : CBk ((w.alloc (.cells #[.slice a1 n1 c1, .slice a2 n2 c2] 26)).alloc (.cells #[.slice a3 n3 c3, .slice a4 n4 c4] 26)) (w.heap.size + 1) 26 #[.slice a3 n3 c3, .slice a4 n4 c4] := by
    have := CBk.new (w.alloc (.cells #[.slice a1 n1 c1, .slice a2 n2 c2] 26)) 26 #[.slice a3 n3 c3, .slice a4 n4 c4]
    rwa [show (w.alloc (.cells #[.slice a1 n1 c1, .slice a2 n2 c2] 26)).heap.size = w.heap.size + 1 from by simp] at this
  have heq := pksEq (h1.below b0) (h3.below b0) hp
  have H2 : Hid (∀ w', Below w.heap.size w w' → Calls Tryd.prog 16 #[.slice a2 n2 c2, .slice a4 n4 c4] w' fun e w'' => e = .returned (.bool true) ∧ Below w'.heap.size w' w'') := fun w' hb => pksEq (h2.below hb) (h4.below hb) hs
  have B0 : Hid _ := b0
  have K0 : Hid (CBk _ w.heap.size 26 #[.slice a1 n1 c1, .slice a2 n2 c2]) := k0
  have K1 : Hid (CBk _ (w.heap.size + 1) 26 #[.slice a3 n3 c3, .slice a4 n4 c4]) := k1
  clear b0 k0 k1 h1 h2 h3 h4
  go_enter Tryd.func9, Tryd.ntmps9
  go_wp2_with fail
  refine heq.mono ?_
  rintro e w1 ⟨rfl, b1⟩
  have B1 : Hid (Below w.heap.size w w1) := B0.out.trans (b1.mono B0.out.size)
  have M0 := (K0.out.call b1).cell 1
  have M1 := (K1.out.call b1).cell 1
  have m0 : w1.cell? ⟨w.heap.size, 1, none⟩ = some (.slice a2 n2 c2) := M0
  have m1 : w1.cell? ⟨w.heap.size + 1, 1, none⟩ = some (.slice a4 n4 c4) := M1
  have hq := H2.out w1 B1.out
  clear M0 M1 b1 heq H2 K0 K1 B0
  go_wp2_with fail
  refine hq.mono ?_
  rintro e w2 ⟨rfl, b2⟩
  have B2 : Hid (Below w.heap.size w w2) := B1.out.trans (b2.mono B1.out.size)
  clear b2 hq m0 m1
  go_wp2_with fail
  go_ret
  exact ⟨rfl, B2.out⟩
theorem markPeaksNilK (k : Nat) (w : World) : Calls Tryd.prog 17 #[.slice none 0 0, .int .i64 (k : Int)] w fun e w' => e = .returned (.int .i64 (k : Int)) ∧ w' = w := by
  go_enter Tryd.func17, Tryd.ntmps17
  go_wp2_with fail
  go_loopw [1, 5] (fun m i wr => m = .int .i64 (k : Int) ∧ i = .int .i64 0 ∧ Hid (wr = w)) (fun _ _ _ => 0)
  case atStart => exact ⟨rfl, rfl, rfl⟩
  case round =>
    obtain ⟨rfl, rfl, HW⟩ := hrel
    go_wp2_with fail
    go_ret
    exact ⟨rfl, HW.out⟩
theorem heldPeaksNilK (k : Nat) (w : World) : Calls Tryd.prog 18 #[.slice none 0 0, .int .i64 (k : Int)] w fun e w' => e = .returned (.int .i64 (k : Int)) ∧ w' = w := by
  go_enter Tryd.func18, Tryd.ntmps18
  go_wp2_with fail
  go_loopw [1, 5] (fun m i wr => m = .int .i64 (k : Int) ∧ i = .int .i64 0 ∧ Hid (wr = w)) (fun _ _ _ => 0)
  case atStart => exact ⟨rfl, rfl, rfl⟩
  case round =>
    obtain ⟨rfl, rfl, HW⟩ := hrel
    go_wp2_with fail
    go_ret
    exact ⟨rfl, HW.out⟩
/-- A list of peaks that holds its marks from k on. -/
def HeldK (v : Value) (n k : Nat) (w : World) : Prop := (v = .slice none 0 0 ∧ n = 0) ∨ ∃ g cap, v = .slice (some ⟨g, 0, none⟩) n cap ∧ g < w.heap.size ∧ MkP w g k n
theorem HeldK.below {v : Value} {n k : Nat} {w w' : World} (h : HeldK v n k w) (hb : Below w.heap.size w w') : HeldK v n k w' := by
  rcases h with h | ⟨g, cap, h1, h2, h3⟩
  · exact .inl h
  · exact .inr ⟨g, cap, h1, Nat.lt_of_lt_of_le h2 hb.size, h3.below hb h2⟩
theorem HeldK.keep {v : Value} {n k : Nat} {w w' : World} (h : HeldK v n k w) (hs : w.heap.size ≤ w'.heap.size) (hk : ∀ g, blkOf v g → w'.heap[g]? = w.heap[g]?) : HeldK v n k w' := by
  rcases h with h | ⟨g, cap, rfl, h2, h3⟩
  · exact .inl h
  · have hg := hk g rfl
    refine .inr ⟨g, cap, rfl, Nat.lt_of_lt_of_le h2 hs, fun i hi => ?_⟩
    obtain ⟨m1, m2, m3⟩ := h3 i hi
    exact ⟨(World.cell?_of_block (a := ⟨g, i * 3, none⟩) hg).trans m1, (World.cell?_of_block (a := ⟨g, i * 3 + 1, none⟩) hg).trans m2, (World.cell?_of_block (a := ⟨g, i * 3 + 2, none⟩) hg).trans m3⟩
theorem pksMarkK {B : Nat} {v : Value} {l : List PeakV} {w : World} (k : Nat) (hk : k ≤ 1000000000) (h : Pks B v l w) (hn : l.length ≤ 1048576) : Calls Tryd.prog 17 #[v, .int .i64 (k : Int)] w fun e w' => e = .returned (.int .i64 ((k + 3 * l.length : Nat) : Int)) ∧ HeldK v l.length k w' ∧ Below 0 w w' ∧ ∀ b, b < w.heap.size → ¬ blkOf v b → w'.heap[b]? = w.heap[b]? := by
  rcases h with ⟨rfl, rfl⟩ | ⟨g, cap, rfl, a, b, hB⟩
  · exact (markPeaksNilK k w).mono fun e w' ⟨he, hw⟩ => ⟨he, .inl ⟨rfl, rfl⟩, by rw [hw]; exact Below.refl _ _, fun b _ _ => by rw [hw]⟩
  · refine (markPeaks g l.length cap k w b (by omega) hk).mono ?_
    rintro e w' ⟨rfl, hc, hu, hfr, hb⟩
    exact ⟨rfl, .inr ⟨g, cap, rfl, hb.lt, hc⟩, hfr, fun c hc1 hc2 => hu c hc1 (fun he => hc2 (by rw [he]; rfl))⟩
theorem pksHeldK {v : Value} {n k : Nat} {w : World} (h : HeldK v n k w) (hn : n ≤ 1048576) (hk : k ≤ 1000000000) : Calls Tryd.prog 18 #[v, .int .i64 (k : Int)] w fun e w' => e = .returned (.int .i64 ((k + 3 * n : Nat) : Int)) ∧ Below w.heap.size w w' := by
  rcases h with ⟨rfl, rfl⟩ | ⟨g, cap, rfl, hg, hc⟩
  · exact (heldPeaksNilK k w).mono fun e w' ⟨he, hw⟩ => ⟨he, by rw [hw]; exact Below.refl _ _⟩
  · exact heldPeaks g n cap k w hg hc (by omega) hk
/-- A proof that holds its marks. -/
def HeldPf (u v : Value) (n m : Nat) (w : World) : Prop := HeldK u n 1 w ∧ HeldK v m (1 + 3 * n) w ∧ (∃ a c d, u = .slice a c d) ∧ (∃ a c d, v = .slice a c d)
theorem HeldPf.below {u v : Value} {n m : Nat} {w w' : World} (h : HeldPf u v n m w) (hb : Below w.heap.size w w') : HeldPf u v n m w' := ⟨h.1.below hb, h.2.1.below hb, h.2.2.1, h.2.2.2⟩
set_option maxHeartbeats 2000000 in
set_option maxRecDepth 100000 in
theorem markProofP {B : Nat} {u v : Value} {p s : List PeakV} {w : World} (h1 : Pks B u p w) (h2 : Pks B v s w) (hd : ∀ b, blkOf u b → ¬ blkOf v b) (hp : p.length ≤ 1048576) (hs : s.length ≤ 1048576) :
    Calls Tryd.prog 12 #[.agg #[u, v], .int .i64 1] w fun e w' => e = .returned (.int .i64 ((1 + 3 * p.length + 3 * s.length : Nat) : Int)) ∧ HeldPf u v p.length s.length w' ∧ Below 0 w w' ∧ ∀ b, b < w.heap.size → ¬ blkOf u b → ¬ blkOf v b → w'.heap[b]? = w.heap[b]? := by
  obtain ⟨a1, n1, c1, rfl⟩ := pks_slice h1
  obtain ⟨a2, n2, c2, rfl⟩ := pks_slice h2
  have b0 : Below w.heap.size w (w.alloc (.cells #[.slice a1 n1 c1, .slice a2 n2 c2] 26)) := (Below.refl _ w).alloc (Nat.le_refl _) _
  have k0 : CBk (w.alloc (.cells #[.slice a1 n1 c1, .slice a2 n2 c2] 26)) w.heap.size 26 #[.slice a1 n1 c1, .slice a2 n2 c2] := CBk.new w _ _
  have hmk := pksMarkK 1 (by omega) (h1.below b0) hp
  have HV1 : Hid (∀ b, blkOf (.slice a1 n1 c1) b → b < w.heap.size) := fun b hb => (h1.blk hb).1
  have HV2 : Hid (∀ b, blkOf (.slice a2 n2 c2) b → b < w.heap.size) := fun b hb => (h2.blk hb).1
  have HPS : Hid (Pks B (.slice a2 n2 c2) s w) := h2
  have HD : Hid (∀ b, blkOf (.slice a1 n1 c1) b → ¬ blkOf (.slice a2 n2 c2) b) := hd
  have HB0 : Hid (Below w.heap.size w (w.alloc (.cells #[.slice a1 n1 c1, .slice a2 n2 c2] 26))) := b0
  have HK0 : Hid (CBk (w.alloc (.cells #[.slice a1 n1 c1, .slice a2 n2 c2] 26)) w.heap.size 26 #[.slice a1 n1 c1, .slice a2 n2 c2]) := k0
  clear b0 k0 h1 h2 hd
  obtain ⟨np, hnp⟩ : ∃ np, np = p.length := ⟨_, rfl⟩
  rw [← hnp] at hmk hp ⊢
  clear hnp p
  have e1 : ((1 : Nat) : Int) = 1 := rfl
  rw [e1] at hmk
  obtain ⟨Q, hQ⟩ : ∃ Q : Ending → World → Prop, Q = fun e w' => e = .returned (.int .i64 ((1 + 3 * np + 3 * s.length : Nat) : Int)) ∧ HeldPf (.slice a1 n1 c1) (.slice a2 n2 c2) np s.length w' ∧ Below 0 w w' ∧ ∀ b, b < w.heap.size → ¬ blkOf (.slice a1 n1 c1) b → ¬ blkOf (.slice a2 n2 c2) b → w'.heap[b]? = w.heap[b]? := ⟨_, rfl⟩
  show Calls _ _ _ _ (fun e w' => e = .returned (.int .i64 ((1 + 3 * np + 3 * s.length : Nat) : Int)) ∧ HeldPf (.slice a1 n1 c1) (.slice a2 n2 c2) np s.length w' ∧ Below 0 w w' ∧ ∀ b, b < w.heap.size → ¬ blkOf (.slice a1 n1 c1) b → ¬ blkOf (.slice a2 n2 c2) b → w'.heap[b]? = w.heap[b]?)
  rw [← hQ]
  have HQ : Hid (Q = fun e w' => e = .returned (.int .i64 ((1 + 3 * np + 3 * s.length : Nat) : Int)) ∧ HeldPf (.slice a1 n1 c1) (.slice a2 n2 c2) np s.length w' ∧ Below 0 w w' ∧ ∀ b, b < w.heap.size → ¬ blkOf (.slice a1 n1 c1) b → ¬ blkOf (.slice a2 n2 c2) b → w'.heap[b]? = w.heap[b]?) := hQ
  clear hQ
  obtain ⟨k2, hk2⟩ : ∃ k2, k2 = 1 + 3 * np := ⟨_, rfl⟩
  have HK2 : Hid (k2 = 1 + 3 * np) := hk2
  have HKB : Hid (k2 ≤ 1000000000) := by show _ ≤ _; omega
  rw [← hk2] at hmk
  clear hk2 e1
  go_enter Tryd.func12, Tryd.ntmps12
  go_wp2_with fail
  refine hmk.mono ?_
  rintro e w1 ⟨rfl, h1, f1, u1⟩
  have HU1 : Hid (∀ b, b < w.heap.size → ¬ blkOf (.slice a1 n1 c1) b → w1.heap[b]? = w.heap[b]?) := fun b hb hn => (u1 b (Nat.lt_of_lt_of_le hb HB0.out.size) hn).trans (HB0.out.block b hb)
  have HF1 : Hid (Below 0 w w1) := (HB0.out.mono (Nat.zero_le _)).trans f1
  have HP1 : Hid (Pks B (.slice a2 n2 c2) s w1) := HPS.out.keep HF1.out.size (fun g hg => HU1.out g (HV2.out g hg) (fun hc => HD.out g hc hg))
  have HM1 : Hid (HeldK (.slice a1 n1 c1) np 1 w1) := h1
  have hc1 : CBk w1 w.heap.size 26 #[.slice a1 n1 c1, .slice a2 n2 c2] := (u1 w.heap.size HK0.out.lt (fun hb => by have := HV1.out _ hb; omega)).trans HK0.out
  have m0 : w1.cell? ⟨w.heap.size, 1, none⟩ = some (.slice a2 n2 c2) := hc1.cell 1
  have hmk2 := pksMarkK k2 HKB.out HP1.out hs
  clear hc1 h1 f1 u1 hmk HK0 HB0 HPS
  obtain ⟨ns, hns⟩ : ∃ ns, ns = s.length := ⟨_, rfl⟩
  have HNS : Hid (ns = s.length) := hns
  rw [← hns] at hmk2
  clear hns
  obtain ⟨k3, hk3⟩ : ∃ k3, k3 = k2 + 3 * ns := ⟨_, rfl⟩
  have HK3 : Hid (k3 = k2 + 3 * ns) := hk3
  rw [← hk3] at hmk2
  clear hk3
  go_wp2_with fail
  refine hmk2.mono ?_
  rintro e w2 ⟨rfl, h2, f2, u2⟩
  have HFQ : Hid (Q (.returned (.int .i64 (k3 : Int))) w2) := by
    rw [HQ.out]
    refine ⟨by rw [HK3.out, HK2.out, HNS.out], ⟨HM1.out.keep f2.size (fun g hg => u2 g (Nat.lt_of_lt_of_le (HV1.out g hg) HF1.out.size) (HD.out g hg)), ?_, ⟨_, _, _, rfl⟩, ⟨_, _, _, rfl⟩⟩, HF1.out.trans f2, fun b hb hn1 hn2 => (u2 b (Nat.lt_of_lt_of_le hb HF1.out.size) hn2).trans (HU1.out b hb hn1)⟩
    rw [← HK2.out, ← HNS.out]
    exact h2
  clear h2 f2 u2 hmk2 m0
  go_wp2_with fail
  exact HFQ.out
set_option maxHeartbeats 2000000 in
set_option maxRecDepth 100000 in
theorem heldProofP {u v : Value} {n m : Nat} {w : World} (h : HeldPf u v n m w) (hn : n ≤ 1048576) (hm : m ≤ 1048576) :
    Calls Tryd.prog 13 #[.agg #[u, v], .int .i64 1] w fun e w' => e = .returned (.int .i64 ((1 + 3 * n + 3 * m : Nat) : Int)) ∧ Below w.heap.size w w' := by
  obtain ⟨g1, g2, ⟨a1, n1, c1, rfl⟩, ⟨a2, n2, c2, rfl⟩⟩ := h
  have b0 : Below w.heap.size w (w.alloc (.cells #[.slice a1 n1 c1, .slice a2 n2 c2] 26)) := (Below.refl _ w).alloc (Nat.le_refl _) _
  have hh1 := pksHeldK (g1.below b0) hn (by omega)
  have HH2 : Hid (∀ w', Below w.heap.size w w' → Calls Tryd.prog 18 #[.slice a2 n2 c2, .int .i64 ((1 + 3 * n : Nat) : Int)] w' fun e w'' => e = .returned (.int .i64 ((1 + 3 * n + 3 * m : Nat) : Int)) ∧ Below w'.heap.size w' w'') := fun w' hb => pksHeldK (g2.below hb) hm (by omega)
  have HB0 : Hid (Below w.heap.size w (w.alloc (.cells #[.slice a1 n1 c1, .slice a2 n2 c2] 26))) := b0
  have HK0 : Hid (CBk (w.alloc (.cells #[.slice a1 n1 c1, .slice a2 n2 c2] 26)) w.heap.size 26 #[.slice a1 n1 c1, .slice a2 n2 c2]) := CBk.new w _ _
  clear b0 g1 g2
  obtain ⟨k2, hk2⟩ : ∃ k2, k2 = 1 + 3 * n := ⟨_, rfl⟩
  obtain ⟨k3, hk3⟩ : ∃ k3, k3 = 1 + 3 * n + 3 * m := ⟨_, rfl⟩
  rw [← hk3]
  rw [← hk3, ← hk2] at HH2
  rw [← hk2] at hh1
  have e1 : ((1 : Nat) : Int) = 1 := rfl
  rw [e1] at hh1
  have q2 : ¬ (k2 : Int) < 0 := by omega
  have q3 : ¬ (k3 : Int) < 0 := by omega
  clear hk2 hk3 e1
  go_enter Tryd.func13, Tryd.ntmps13
  go_wp2_with fail
  refine hh1.mono ?_
  rintro e w1 ⟨rfl, b1⟩
  have HB1 : Hid (Below w.heap.size w w1) := HB0.out.trans (b1.mono HB0.out.size)
  have m0 : w1.cell? ⟨w.heap.size, 1, none⟩ = some (.slice a2 n2 c2) := (HK0.out.call b1).cell 1
  have hh2 := HH2.out w1 HB1.out
  clear hh1 b1 HH2 HB0 HK0
  go_wp2_with fail
  refine hh2.mono ?_
  rintro e w2 ⟨rfl, b2⟩
  have HB2 : Hid (Below w.heap.size w w2) := HB1.out.trans (b2.mono HB1.out.size)
  clear hh2 b2 m0
  go_wp2_with fail
  go_ret
  exact ⟨rfl, HB2.out⟩
end Go.Proofs.YtchngmjbagdakaaDoor

set_option linter.unusedVariables false
namespace Go.Proofs.YtchngmjbagdakaaDoor
open Go.ChangeShapes Go.WideShapes Go.ChangeAt Go.RowKit Go.Deep

/-- An answer in its block. -/
structure Ans (w : World) (g B : Nat) (u v : Value) (p s : List PeakV) : Prop where
  k : CBk w g 26 #[u, v]
  p : Pks B u p w
  s : Pks B v s w
theorem Ans.below {w w' : World} {g B : Nat} {u v : Value} {p s : List PeakV} (h : Ans w g B u v p s) (hb : Below w.heap.size w w') : Ans w' g B u v p s := ⟨h.k.call hb, h.p.below hb, h.s.below hb⟩
theorem Ans.keep {w w' : World} {g B : Nat} {u v : Value} {p s : List PeakV} (h : Ans w g B u v p s) (hs : w.heap.size ≤ w'.heap.size) (hg : w'.heap[g]? = w.heap[g]?) (hu : ∀ b, blkOf u b → w'.heap[b]? = w.heap[b]?) (hv : ∀ b, blkOf v b → w'.heap[b]? = w.heap[b]?) : Ans w' g B u v p s := ⟨hg.trans h.k, h.p.keep hs hu, h.s.keep hs hv⟩
theorem Ans.new {w : World} {B : Nat} {u v : Value} {p s : List PeakV} (hu : Pks B u p w) (hv : Pks B v s w) : Ans (w.alloc (.cells #[u, v] 26)) w.heap.size B u v p s :=
  ⟨CBk.new w _ _, hu.below ((Below.refl _ w).alloc (Nat.le_refl _) _), hv.below ((Below.refl _ w).alloc (Nat.le_refl _) _)⟩
theorem Ans.two {w : World} {g B : Nat} {u v : Value} {p s : List PeakV} (h : Ans w g B u v p s) : w.cell? ⟨g, 0, none⟩ = some u ∧ w.cell? ⟨g, 1, none⟩ = some v := ⟨h.k.cell 0, h.k.cell 1⟩
theorem proofL_len (l : List HeadV) (x : Int) : (proofL l x).1.length ≤ 1048576 ∧ (proofL l x).2.length ≤ 1048576 := by
  unfold proofL
  split
  · rename_i h
    have h1 := heads_len h.1
    have h2 := ofP_len_le l l.length
    have h3 := notes_len (heads_at h.1) h1 x.toNat l.length (Nat.le_refl _)
    dsimp only
    omega
  · exact ⟨Nat.zero_le _, Nat.zero_le _⟩
set_option maxHeartbeats 8000000 in
set_option maxRecDepth 100000 in
theorem walk_FnExactRangeProof (a : Option Addr) (len cap : Nat) (ps : List HeadV) (x : Int) (w : World) (h0 : IsHeads w a len cap ps) (hK : RowG w shaK) (hP : TabP w) :
    Calls Tryd.prog 3 #[.slice a len cap, .int .i64 x] w fun e w' => e = .returned (.bool true) ∧ Below w.heap.size w w' := by
  have HLN : Hid (ps.length = len) := h0.len
  have hsz := szHeads a len cap ps w h0
  have HTO : Hid (len ≤ 1048576 → ∀ w1, Below w.heap.size w w1 → Calls Tryd.prog 7 #[.slice a len cap] w1 fun e w' => e = .returned (.slice (some ⟨w1.heap.size, 0, none⟩) len len) ∧ RowHead w' w1.heap.size ps ∧ Below w1.heap.size w1 w') := fun hn w1 hb => toHeads a len cap ps w1 w h0 hb hn
  have HSP : Hid (len ≤ 1048576 → (∀ i, i < len → smallHead (ps.getD i default)) → ∀ g w1, RowHead w1 g ps → Calls Tryd.prog 6 #[.slice (some ⟨g, 0, none⟩) len len, .int .i64 x] w1 fun e w' => PrfPost ps x w1 e w') := fun hn hs g w1 hr =>
    specRangeProof g len len ps x w1 (hr.at 5 enHead_len) HLN.out.symm hn (fun i hi => by have := hs i (by rw [← HLN.out]; exact hi); unfold smallHead at this; unfold maxLen; omega)
  have HIM : Hid (len ≤ 1048576 → ∀ g w1, RowHead w1 g ps → Below w.heap.size w w1 → Calls Tryd.prog 8 #[.slice (some ⟨g, 0, none⟩) len len, .int .i64 x] w1 fun e w' => PrfPost ps x w1 e w' ∧ Dis e) := fun hn g w1 hr hb =>
    implRangeProof g len len ps x w1 (hr.at 5 enHead_len) HLN.out.symm hn (hK.below hb hK.lt) (TabP.below hP hb (Nat.le_refl _))
  have HML : Hid ((proofL ps x).1.length ≤ 1048576 ∧ (proofL ps x).2.length ≤ 1048576) := proofL_len ps x
  unfold PrfPost at HSP HIM
  generalize (proofL ps x).1 = pl at HSP HIM HML
  generalize (proofL ps x).2 = sl at HSP HIM HML
  clear h0 hK hP
  go_enter Tryd.func3, Tryd.ntmps3
  go_wp2_with fail
  refine hsz.mono ?_
  rintro e w2 ⟨b2, rfl | ⟨r, rfl, hr, hn, hs⟩⟩
  · clear HTO HSP HIM
    go_wp2_with fail
    go_ret
    exact ⟨rfl, b2⟩
  have B2 : Hid (Below w.heap.size w w2) := b2
  have hsp := HSP.out hn hs
  have hto := HTO.out hn
  have him := HIM.out hn
  clear HSP HTO HIM
  have HSP : Hid _ := hsp
  have HTO : Hid _ := hto
  have HIM : Hid _ := him
  clear b2 hsz hsp hto him hs
  have hr0 : ¬ (r : Int) < 0 := by omega
  go_wp2_with fail
  refine (HTO.out _ B2.out).mono ?_
  rintro e w3 ⟨rfl, r3, b3⟩
  have B3 : Hid (Below w.heap.size w w3) := B2.out.trans (b3.mono B2.out.size)
  have hsp := HSP.out _ _ r3
  clear B2 b3 r3 HSP hr0
  go_wp2_with fail
  refine Calls.mono hsp ?_
  rintro e w5 ⟨u5, v5, rfl, p5, s5, b5⟩
  obtain ⟨ua, un, uc, rfl⟩ := pks_slice p5
  obtain ⟨va, vn, vc, rfl⟩ := pks_slice s5
  have B5 : Hid (Below w.heap.size w w5) := B3.out.trans (b5.mono B3.out.size)
  have A6 : Hid (Ans (w5.alloc (.cells #[.slice ua un uc, .slice va vn vc] 26)) w5.heap.size 0 (.slice ua un uc) (.slice va vn vc) pl sl) := Ans.new (p5.mono (Nat.zero_le _)) (s5.mono (Nat.zero_le _))
  have B6 : Hid (Below w.heap.size w (w5.alloc (.cells #[.slice ua un uc, .slice va vn vc] 26))) := B5.out.alloc B5.out.size _
  clear B3 b5 p5 s5 hsp
  go_upto_region 6 with fail
  generalize w5.alloc (.cells #[.slice ua un uc, .slice va vn vc] 26) = w6 at A6 B6 ⊢
  obtain ⟨g6, hg6⟩ : ∃ g6, g6 = w5.heap.size := ⟨_, rfl⟩
  rw [← hg6] at A6 ⊢
  clear hg6 B5 w5
  go_wp2_with fail
  refine (HTO.out _ B6.out).mono ?_
  rintro e w7 ⟨rfl, r7, b7⟩
  obtain ⟨g8, hg8⟩ : ∃ g8, g8 = w6.heap.size := ⟨_, rfl⟩
  have HV5 : Hid (g6 < g8 ∧ (∀ b, blkOf (.slice ua un uc) b → b < g8) ∧ (∀ b, blkOf (.slice va vn vc) b → b < g8)) := by
    rw [hg8]
    exact ⟨A6.out.k.lt, fun b hb => (A6.out.p.blk hb).1, fun b hb => (A6.out.s.blk hb).1⟩
  have HG5 : Hid (w.heap.size ≤ g8) := by show _ ≤ _; rw [hg8]; exact B6.out.size
  have B7 : Hid (Below w.heap.size w w7) := B6.out.trans (b7.mono B6.out.size)
  have A7 : Hid (Ans w7 g6 0 (.slice ua un uc) (.slice va vn vc) pl sl) := A6.out.below b7
  rw [← hg8] at r7 ⊢
  clear hg8
  have R7 : Hid (RowHead w7 g8 ps) := r7
  have him := HIM.out _ _ r7 B7.out
  clear B6 A6 b7 r7
  go_wp2_with fail
  refine Calls.mono him ?_
  rintro e w8 ⟨⟨u8, v8, rfl, p8, s8, b8⟩, d8⟩
  obtain ⟨ia, im, ic, rfl⟩ := pks_slice p8
  obtain ⟨ja, jm, jc, rfl⟩ := pks_slice s8
  have HD8 : Hid (∀ b, blkOf (.slice ia im ic) b → ¬ blkOf (.slice ja jm jc) b) := fun b h => d8 _ _ b rfl h
  have C8 : Hid (Below w.heap.size w w8) := B7.out.trans (b8.mono B7.out.size)
  have lt8 := R7.out.lt
  have B9 : Hid (Below w.heap.size w (w8.alloc (.cells #[.slice ia im ic, .slice ja jm jc] 26))) := C8.out.alloc C8.out.size _
  have X9 : Hid (Ans (w8.alloc (.cells #[.slice ia im ic, .slice ja jm jc] 26)) w8.heap.size (g8 + 1) (.slice ia im ic) (.slice ja jm jc) pl sl) := Ans.new (p8.mono lt8) (s8.mono lt8)
  have A9 : Hid (Ans (w8.alloc (.cells #[.slice ia im ic, .slice ja jm jc] 26)) g6 0 (.slice ua un uc) (.slice va vn vc) pl sl) := (A7.out.below b8).below ((Below.refl _ w8).alloc (Nat.le_refl _) _)
  have R9 : Hid (RowHead (w8.alloc (.cells #[.slice ia im ic, .slice ja jm jc] 26)) g8 ps) := (R7.out.below b8 R7.out.lt).below ((Below.refl _ w8).alloc (Nat.le_refl _) _) (Nat.lt_of_lt_of_le R7.out.lt b8.size)
  have HV8 : Hid (g8 < w8.heap.size ∧ (∀ b, blkOf (.slice ia im ic) b → g8 < b ∧ b < w8.heap.size) ∧ (∀ b, blkOf (.slice ja jm jc) b → g8 < b ∧ b < w8.heap.size)) := by
    refine ⟨Nat.lt_of_lt_of_le lt8 b8.size, fun b hb => ?_, fun b hb => ?_⟩
    · have := p8.blk hb; omega
    · have := s8.blk hb; omega
  clear B7 A7 R7 C8 lt8 b8 p8 s8 d8 him
  go_upto_region 8 with fail
  generalize w8.alloc (.cells #[.slice ia im ic, .slice ja jm jc] 26) = w9 at B9 X9 A9 R9 ⊢
  obtain ⟨g9, hg9⟩ : ∃ g9, g9 = w8.heap.size := ⟨_, rfl⟩
  rw [← hg9] at X9 HV8 ⊢
  clear hg9 w8
  obtain ⟨e0, e1⟩ := A9.out.two
  obtain ⟨f0, f1⟩ := X9.out.two
  have heq := eqProofP X9.out.p X9.out.s A9.out.p A9.out.s HML.out.1 HML.out.2
  go_wp2_with fail
  refine heq.mono ?_
  rintro e w10 ⟨rfl, b10⟩
  have B10 : Hid (Below w.heap.size w w10) := B9.out.trans (b10.mono B9.out.size)
  have X10 : Hid (Ans w10 g9 (g8 + 1) (.slice ia im ic) (.slice ja jm jc) pl sl) := X9.out.below b10
  have A10 : Hid (Ans w10 g6 0 (.slice ua un uc) (.slice va vn vc) pl sl) := A9.out.below b10
  have R10 : Hid (RowHead w10 g8 ps) := R9.out.below b10 R9.out.lt
  clear B9 X9 A9 R9 e0 e1 f0 f1 heq b10
  go_wp2_with fail
  refine (HTO.out _ B10.out).mono ?_
  rintro e w11 ⟨rfl, r11, b11⟩
  have B11 : Hid (Below w.heap.size w w11) := B10.out.trans (b11.mono B10.out.size)
  have X11 : Hid (Ans w11 g9 (g8 + 1) (.slice ia im ic) (.slice ja jm jc) pl sl) := X10.out.below b11
  have A11 : Hid (Ans w11 g6 0 (.slice ua un uc) (.slice va vn vc) pl sl) := A10.out.below b11
  have R11 : Hid (RowHead w11 g8 ps) := R10.out.below b11 R10.out.lt
  have heq := eqHeads g8 w10.heap.size len len len ps w11 (R11.out.at 5 enHead_len) (r11.at 5 enHead_len) HLN.out.symm (by omega)
  clear B10 X10 A10 R10 b11 r11
  go_wp2_with fail
  refine heq.mono ?_
  rintro e w12 ⟨rfl, b12⟩
  have B12 : Hid (Below w.heap.size w w12) := B11.out.trans (b12.mono B11.out.size)
  have X12 : Hid (Ans w12 g9 (g8 + 1) (.slice ia im ic) (.slice ja jm jc) pl sl) := X11.out.below b12
  have A12 : Hid (Ans w12 g6 0 (.slice ua un uc) (.slice va vn vc) pl sl) := A11.out.below b12
  have R12 : Hid (RowHead w12 g8 ps) := R11.out.below b12 R11.out.lt
  have hmk := markHeads g8 len len 1 w12 (by have := HdBk.of R12.out; rw [HLN.out] at this; exact this) hn (by decide)
  clear B11 X11 A11 R11 b12 heq
  go_wp2_with fail
  refine hmk.mono ?_
  rintro e w13 ⟨rfl, k13, f13⟩
  have B13 : Hid (Below w.heap.size w w13) := B12.out.trans ⟨f13.os, f13.tape, f13.output, f13.size, fun c hc => k13 c (Nat.lt_of_lt_of_le hc B12.out.size) (by have := HG5.out; omega)⟩
  have A13 : Hid (Ans w13 g6 0 (.slice ua un uc) (.slice va vn vc) pl sl) := A12.out.keep f13.size (k13 g6 A12.out.k.lt (by have := HV5.out.1; omega)) (fun b hb => k13 b (A12.out.p.blk hb).1 (by have := HV5.out.2.1 b hb; omega)) (fun b hb => k13 b (A12.out.s.blk hb).1 (by have := HV5.out.2.2 b hb; omega))
  have X13 : Hid (Ans w13 g9 (g8 + 1) (.slice ia im ic) (.slice ja jm jc) pl sl) := X12.out.keep f13.size (k13 g9 X12.out.k.lt (by have := HV8.out.1; omega)) (fun b hb => k13 b (X12.out.p.blk hb).1 (by have := HV8.out.2.1 b hb; omega)) (fun b hb => k13 b (X12.out.s.blk hb).1 (by have := HV8.out.2.2 b hb; omega))
  clear B12 A12 X12 R12 hmk k13 f13
  obtain ⟨kk, hkk⟩ : ∃ kk, kk = 1 + 5 * len := ⟨_, rfl⟩
  rw [← hkk]
  clear hkk
  have hk0 : ¬ (kk : Int) < 0 := by omega
  obtain ⟨e0, e1⟩ := A13.out.two
  obtain ⟨f0, f1⟩ := X13.out.two
  have heq := eqProofP X13.out.p X13.out.s A13.out.p A13.out.s HML.out.1 HML.out.2
  go_wp2_with fail
  refine heq.mono ?_
  rintro e w14 ⟨rfl, b14⟩
  have B14 : Hid (Below w.heap.size w w14) := B13.out.trans (b14.mono B13.out.size)
  have A14 : Hid (Ans w14 g6 0 (.slice ua un uc) (.slice va vn vc) pl sl) := A13.out.below b14
  have X14 : Hid (Ans w14 g9 (g8 + 1) (.slice ia im ic) (.slice ja jm jc) pl sl) := X13.out.below b14
  clear B13 A13 X13 e0 e1 f0 f1 heq b14 hk0
  obtain ⟨mm, hmm⟩ : ∃ mm, mm = 1 + 3 * pl.length + 3 * sl.length := ⟨_, rfl⟩
  have HMM : Hid (mm = 1 + 3 * pl.length + 3 * sl.length) := hmm
  have hmk := markProofP X14.out.p X14.out.s HD8.out HML.out.1 HML.out.2
  rw [← hmm] at hmk
  clear hmm
  obtain ⟨f0, f1⟩ := X14.out.two
  go_wp2_with fail
  refine hmk.mono ?_
  rintro e w15 ⟨rfl, h15, f15, k15⟩
  have B15 : Hid (Below w.heap.size w w15) := B14.out.trans ⟨f15.os, f15.tape, f15.output, f15.size, fun c hc => k15 c (Nat.lt_of_lt_of_le hc B14.out.size) (fun hb => by have := HV8.out.2.1 c hb; have := HG5.out; omega) (fun hb => by have := HV8.out.2.2 c hb; have := HG5.out; omega)⟩
  have hold : ∀ c, c ≤ g8 → c < w14.heap.size → w15.heap[c]? = w14.heap[c]? := fun c hc hlt => k15 c hlt (fun hb => by have := HV8.out.2.1 c hb; omega) (fun hb => by have := HV8.out.2.2 c hb; omega)
  have A15 : Hid (Ans w15 g6 0 (.slice ua un uc) (.slice va vn vc) pl sl) := A14.out.keep f15.size (hold g6 (by have := HV5.out.1; omega) A14.out.k.lt) (fun b hb => hold b (by have := HV5.out.2.1 b hb; omega) (A14.out.p.blk hb).1) (fun b hb => hold b (by have := HV5.out.2.2 b hb; omega) (A14.out.s.blk hb).1)
  have C15 : Hid (CBk w15 g9 26 #[.slice ia im ic, .slice ja jm jc]) := (k15 g9 X14.out.k.lt (fun hb => by have := HV8.out.2.1 g9 hb; omega) (fun hb => by have := HV8.out.2.2 g9 hb; omega)).trans X14.out.k
  have H15 : Hid (HeldPf (.slice ia im ic) (.slice ja jm jc) pl.length sl.length w15) := h15
  clear B14 A14 X14 hmk f0 f1 h15 f15 k15 hold
  have f0 : w15.cell? ⟨g9, 0, none⟩ = some (.slice ia im ic) := C15.out.cell 0
  have f1 : w15.cell? ⟨g9, 1, none⟩ = some (.slice ja jm jc) := C15.out.cell 1
  have hhe := heldProofP H15.out HML.out.1 HML.out.2
  rw [← HMM.out] at hhe
  go_wp2_with fail
  refine hhe.mono ?_
  rintro e w16 ⟨rfl, b16⟩
  have B16 : Hid (Below w.heap.size w w16) := B15.out.trans (b16.mono B15.out.size)
  have A16 : Hid (Ans w16 g6 0 (.slice ua un uc) (.slice va vn vc) pl sl) := A15.out.below b16
  have C16 : Hid (CBk w16 g9 26 #[.slice ia im ic, .slice ja jm jc]) := C15.out.call b16
  have H16 : Hid (HeldPf (.slice ia im ic) (.slice ja jm jc) pl.length sl.length w16) := H15.out.below b16
  have hm0 : ¬ (mm : Int) < 0 := by omega
  clear B15 A15 C15 H15 f0 f1 hhe b16
  go_wp2_with fail
  refine (HTO.out _ B16.out).mono ?_
  rintro e w17 ⟨rfl, r17, b17⟩
  have B17 : Hid (Below w.heap.size w w17) := B16.out.trans (b17.mono B16.out.size)
  have A17 : Hid (Ans w17 g6 0 (.slice ua un uc) (.slice va vn vc) pl sl) := A16.out.below b17
  have C17 : Hid (CBk w17 g9 26 #[.slice ia im ic, .slice ja jm jc]) := C16.out.call b17
  have H17 : Hid (HeldPf (.slice ia im ic) (.slice ja jm jc) pl.length sl.length w17) := H16.out.below b17
  have him := HIM.out _ _ r17 B17.out
  clear B16 A16 C16 H16 b17 r17
  go_wp2_with fail
  refine Calls.mono him ?_
  rintro e w18 ⟨⟨u18, v18, rfl, p18, s18, b18⟩, d18⟩
  obtain ⟨xa, xm, xc, rfl⟩ := pks_slice p18
  obtain ⟨ya, ym, yc, rfl⟩ := pks_slice s18
  have C18 : Hid (Below w.heap.size w w18) := B17.out.trans (b18.mono B17.out.size)
  have bnew : Below w18.heap.size w18 (w18.alloc (.cells #[.slice xa xm xc, .slice ya ym yc] 26)) := (Below.refl _ w18).alloc (Nat.le_refl _) _
  have B19 : Hid (Below w.heap.size w (w18.alloc (.cells #[.slice xa xm xc, .slice ya ym yc] 26))) := C18.out.alloc C18.out.size _
  have Y19 : Hid (Ans (w18.alloc (.cells #[.slice xa xm xc, .slice ya ym yc] 26)) w18.heap.size 0 (.slice xa xm xc) (.slice ya ym yc) pl sl) := Ans.new (p18.mono (Nat.zero_le _)) (s18.mono (Nat.zero_le _))
  have A19 : Hid (Ans (w18.alloc (.cells #[.slice xa xm xc, .slice ya ym yc] 26)) g6 0 (.slice ua un uc) (.slice va vn vc) pl sl) := (A17.out.below b18).below bnew
  have H19 : Hid (HeldPf (.slice ia im ic) (.slice ja jm jc) pl.length sl.length (w18.alloc (.cells #[.slice xa xm xc, .slice ya ym yc] 26))) := (H17.out.below b18).below bnew
  have C19 : Hid (CBk (w18.alloc (.cells #[.slice xa xm xc, .slice ya ym yc] 26)) g9 26 #[.slice ia im ic, .slice ja jm jc]) := (C17.out.call b18).call bnew
  clear B17 A17 C17 H17 him p18 s18 b18 d18 C18 bnew
  go_upto_region 25 with fail
  generalize w18.alloc (.cells #[.slice xa xm xc, .slice ya ym yc] 26) = w19 at B19 Y19 A19 H19 C19 ⊢
  obtain ⟨g19, hg19⟩ : ∃ g19, g19 = w18.heap.size := ⟨_, rfl⟩
  rw [← hg19] at Y19 ⊢
  clear hg19 w18
  obtain ⟨e0, e1⟩ := A19.out.two
  obtain ⟨f0, f1⟩ := Y19.out.two
  have heq := eqProofP Y19.out.p Y19.out.s A19.out.p A19.out.s HML.out.1 HML.out.2
  go_wp2_with fail
  refine heq.mono ?_
  rintro e w20 ⟨rfl, b20⟩
  have B20 : Hid (Below w.heap.size w w20) := B19.out.trans (b20.mono B19.out.size)
  have C20 : Hid (CBk w20 g9 26 #[.slice ia im ic, .slice ja jm jc]) := C19.out.call b20
  have hhe := heldProofP (H19.out.below b20) HML.out.1 HML.out.2
  rw [← HMM.out] at hhe
  clear B19 Y19 A19 H19 C19 e0 e1 f0 f1 heq b20
  have f0 : w20.cell? ⟨g9, 0, none⟩ = some (.slice ia im ic) := C20.out.cell 0
  have f1 : w20.cell? ⟨g9, 1, none⟩ = some (.slice ja jm jc) := C20.out.cell 1
  go_wp2_with fail
  refine hhe.mono ?_
  rintro e w21 ⟨rfl, b21⟩
  have B21 : Hid (Below w.heap.size w w21) := B20.out.trans (b21.mono B20.out.size)
  clear B20 C20 f0 f1 hhe b21
  go_wp2_with fail
  go_ret
  exact ⟨rfl, B21.out⟩
end Go.Proofs.YtchngmjbagdakaaDoor

namespace Go.Proofs.YtchngmjbagdakaaDoor
open Go.ChangeShapes Go.WideShapes Go.ChangeAt Go.RowKit
open Go.ChangeMaps (open_string shut_string)
set_option linter.unusedVariables false

theorem own_fnExactRangeProof : ownKnob Tryd.prog.godebug = none := by kernel_rfl
theorem laid_fnExactRangeProof : laidOutB Tryd.prog = true := by kernel_rfl
theorem table_fnExactRangeProof {W : World} (h : laidMetH Tryd.prog Rows.fnExactRangeProofRow.laid W) : RowG W shaK ∧ TabP W := tabs_of_laid h

theorem met_fnExactRangeProof (os : Os) : laidMet Tryd.prog Rows.fnExactRangeProofRow.laid ((laidWorld os).forCall (fun _ _ => 0) ⟨#[], #[.slice none 0 0, .int .i64 0], []⟩).memory :=
  laidMet_of_run' 8 (by kernel_rfl) (by kernel_rfl)
theorem reads_fnExactRangeProof (os : Os) {H : Type} (enc : TypeId × Value → H) : ∃ places, DataW.whole enc Tryd.prog ((laidWorld os).forCall (fun _ _ => 0) ⟨#[], #[.slice none 0 0, .int .i64 0], []⟩).memory Tryd.f3.params.toList Rows.fnExactRangeProofSpec.vars false (#[.slice none 0 0, .int .i64 0] : Array Value).toList 8 = some ([.nil, .lit (.int .i64 0)], [Rows.laid_loop_example_cordillera_impl_sumRounds], places) :=
  ⟨MemPlace.row ⟨0, 0, none⟩ 64, by kernel_rfl⟩

set_option maxRecDepth 100000 in
theorem lifted_fnExactRangeProof (os : Os) (started : os.Started) (H : Type) (enc : TypeId × Value → H) (F : Stop.Interp) :
    ReturnsInHanded {} Tryd.checked os 3 .any ((OpenSpec.ofChange Rows.fnExactRangeProofSpec).preRow enc Tryd.prog Tryd.f3 Rows.fnExactRangeProofRow.domain false Rows.fnExactRangeProofRow.laid) (((OpenSpec.ofChange Rows.fnExactRangeProofSpec).at F).post enc Tryd.prog Tryd.f3 false true false false) := by
  obtain ⟨places, hx⟩ := reads_fnExactRangeProof os enc
  refine returnsInHanded_of_row (C := Tryd.checked) (s := OpenSpec.ofChange Rows.fnExactRangeProofSpec) own_fnExactRangeProof started (by kernel_rfl) Tryd.func3
    (witness_row_at (enc := enc) (C := Tryd.checked) false (laidWorld os) #[.slice none 0 0, .int .i64 0] rfl (by kernel_rfl) (by kernel_rfl) (by kernel_rfl)
      (OpenSpec.preRow_of_cond 8 hx (by kernel_rfl) (fun k hk => by cases hk) (by kernel_rfl) (met_fnExactRangeProof os))) ?_
  intro W base args ds gs before hval0 hW _ _ _ hL _ _
  have hval : ∀ (j : Nat) t v, Tryd.f3.params[j]? = some t → args[j]? = some v → Value.okWide Tryd.prog W .any base t v := hval0
  have hW' := hW
  obtain ⟨p, q, hA0, hV, rfl, hfz, hnd⟩ := hW
  have hA : DataW.TrodAll enc Tryd.prog W 0 (fun _ => true) true Tryd.f3.params.toList args.toList ds p := hA0
  rw [Tryd.params3] at hA hval
  obtain ⟨v0, vs0, d0, ds0, p0, q0, hargs, rfl, rfl, h0, r0⟩ := trodAll_cons hA
  obtain ⟨v1, vs1, d1, ds1, p1, q1, rfl, rfl, rfl, h1, r1⟩ := trodAll_cons r0
  obtain ⟨rfl, rfl, rfl⟩ := trodAll_nil r1
  obtain rfl : args = #[v0, v1] := by cases args; simp_all
  obtain ⟨gv, tv, cv, fv, dv, pv, rfl, hgv, htv, hvv, hdv, rfl⟩ := trodVars_one hV
  obtain ⟨a0, len0, cap0, rfl⟩ := okWide_slice Tryd.underlying22 (hval 0 22 v0 rfl rfl)
  have k0 := h0
  have lt0 : ∀ x ∈ p0, x.block < W.heap.size := by obtain ⟨m, hm⟩ := k0; exact DataW.trod_lt m _ _ _ hm
  obtain ⟨z0, w0⟩ := open_heads h0
  obtain ⟨a1, rfl, rfl, rfl, w1⟩ := open_int Tryd.underlying3 (hval 1 3 v1 rfl rfl) h1
  clear hA0 hval0
  refine (walk_FnExactRangeProof a0 len0 cap0 z0 a1 W w0 (table_fnExactRangeProof hL).1 (table_fnExactRangeProof hL).2).mono fun e W' ⟨he, bel⟩ => ?_
  subst he
  obtain ⟨pv', hpv⟩ := varsBack laid_fnExactRangeProof hgv htv hvv hdv bel
  exact ⟨_, rfl, _, _, _, [], _, pv', hW', trodAll_mk1 (shut_bool Tryd.underlying4 _), (trodAll_cons_mk (Below.trod laid_fnExactRangeProof (by kernel_rfl) (of_decide_eq_true (by kernel_rfl)) k0 bel lt0) (trodAll_cons_mk (shut_int Tryd.underlying3 w1) trodAll_mk0)), hpv, bel.frame _, fun h => by cases h⟩

theorem fnExactRangeProof_said : Rows.FnExactRangeProofSaid :=
  OpenClaim.holds_of_cond 3 Tryd.f3 rfl rfl rfl rfl rfl rfl rfl ⟨rfl, rfl, rfl, rfl, rfl⟩ rfl rfl rfl rfl rfl (by kernel_rfl) Tryd.func3 (by kernel_rfl)
    (of_decide_eq_true (by kernel_rfl)) (by unfold Func.isWrapper; first | (rw [if_pos (by decide +kernel)]; kernel_rfl) | (rw [if_neg (by decide +kernel)]; exact ⟨rfl, rfl⟩))
    (fun os started H enc _ F => by rw [OpenClaim.pre_eq_preRow]; exact lifted_fnExactRangeProof os started H enc F)
theorem plain_fnExactRangeProof (f : FuncId) (fn : Func) (hf : Tryd.pinned.checked.prog.funcNamed "loop.example/cordillera/laws.FnExactRangeProof" = some f) (hfn : Tryd.pinned.checked.prog.funcs[f]? = some fn) :
    false = Tryd.pinned.checked.prog.looks [] ∧ ∀ (j : Nat) t, fn.params[j]? = some t → Tryd.pinned.checked.prog.wantsStandIn t = false := by
  obtain rfl : f = 3 := Option.some.inj ((show Tryd.prog.funcNamed "loop.example/cordillera/laws.FnExactRangeProof" = some 3 by kernel_rfl).symm.trans hf) |>.symm
  obtain rfl : fn = Tryd.f3 := (Option.some.inj (Tryd.func3.symm.trans hfn)).symm
  refine ⟨by kernel_rfl, fun j t ht => ?_⟩
  rw [Tryd.params3] at ht
  have hall : ∀ t ∈ (#[22, 3] : Array TypeId), Tryd.prog.wantsStandIn t = false := by
    intro t ht
    simp only [List.mem_toArray, List.mem_cons, List.not_mem_nil, or_false] at ht
    rcases ht with rfl | rfl <;> kernel_rfl
  exact hall t (Array.mem_of_getElem? ht)
theorem fnExactRangeProof_holds : Rows.FnExactRangeProofCardSaid :=
  Claim7.holds_tied_plain_at .later [] _ _ _ _ fnExactRangeProof_said (fun _ h => by cases h) (by kernel_rfl) (fun _ h => by cases h) fnExactRangeProof_row_tie rfl ⟨rfl, rfl⟩ (by kernel_rfl) rfl plain_fnExactRangeProof (by kernel_rfl)
#print axioms fnExactRangeProof_holds
end Go.Proofs.YtchngmjbagdakaaDoor

