/-
  Texts that the last part needs, joined.
-/
import Derived.Test.YtoifgpmbeicmnaaGreatDoorPart1
import Derived.Test.YtoifgpmbeicmnaaGreatDoorPart2
import Derived.Test.YtoifgpmbeicmnaaGreatDoorPart3
import Derived.Test.YtoifgpmbeicmnaaGreatDoorPart4
import Derived.Test.YtoifgpmbeicmnaaGreatDoorPart5
import Derived.Lib.AppendIntMem
import Derived.Deep.RegionWith
import Derived.Deep.AppendLies
import Derived.Deep.Cut
set_option linter.unusedVariables false
namespace Go.Proofs.YtoifgpmbeicmnaaGreatDoor
open Go.RowKit Go.Deep

def nodeVal (a : NodeV) : Value := .agg #[.string a.1.sum, .int .i64 a.1.work, .int .i64 a.1.count, .bool a.2]
/-- A node's block. -/
def NBk (w : World) (g : Nat) (a : NodeV) : Prop := CBk w g 73 #[.string a.1.sum, .int .i64 a.1.work, .int .i64 a.1.count, .bool a.2]
theorem NBk.cells {w : World} {g : Nat} {a : NodeV} (h : NBk w g a) : w.cell? ⟨g, 0, none⟩ = some (.string a.1.sum) ∧ w.cell? ⟨g, 1, none⟩ = some (.int .i64 a.1.work) ∧ w.cell? ⟨g, 2, none⟩ = some (.int .i64 a.1.count) ∧ w.cell? ⟨g, 3, none⟩ = some (.bool a.2) := ⟨CBk.cell h 0, CBk.cell h 1, CBk.cell h 2, CBk.cell h 3⟩

set_option maxHeartbeats 1000000 in
set_option maxRecDepth 100000 in
theorem implNodeAlike (a b : NodeV) (w : World) :
    Calls Tryz.prog 46 #[nodeVal a, nodeVal b] w fun e w' => e = .returned (.bool (a.1.count == b.1.count)) ∧ Below w.heap.size w w' := by
  unfold nodeVal
  have hal := fun w' => implPeakAlike a.1 b.1 w'
  unfold peakVal at hal
  obtain ⟨⟨xs, xw, xc⟩, xy⟩ := a
  obtain ⟨⟨ys, yw, yc⟩, yy⟩ := b
  dsimp only at hal ⊢
  have L0 : Hid (Below w.heap.size w ((w.alloc (.cells #[.string xs, .int .i64 xw, .int .i64 xc, .bool xy] 73)).alloc (.cells #[.string ys, .int .i64 yw, .int .i64 yc, .bool yy] 73))) := ((Below.refl _ w).alloc (Nat.le_refl _) _).alloc (by simp) _
  go_enter Tryz.func46, Tryz.ntmps46
  go_wp2_with fail
  refine (hal _).mono ?_
  rintro e w1 ⟨rfl, b1⟩
  have L1 : Hid (Below w.heap.size w w1) := L0.out.trans (b1.mono L0.out.size)
  clear L0 b1 hal
  go_wp2_with fail
  go_ret
  exact ⟨rfl, L1.out⟩
end Go.Proofs.YtoifgpmbeicmnaaGreatDoor

set_option linter.unusedVariables false
namespace Go.Proofs.YtoifgpmbeicmnaaGreatDoor
open Go.RowKit

def mkD : Nat → Nat → List UInt8 → List UInt8
  | 0, _, out => out
  | f + 1, k, out => if k = 0 then out else mkD f (k / 10) (UInt8.ofNat (48 + k % 10) :: out)
/-- The text of a number's mark. -/
def mkS (k : Nat) : ByteArray := if k = 0 then ⟨#[109, 48]⟩ else ⟨(109 :: mkD 19 k []).toArray⟩
theorem mkD_zero (f : Nat) (out : List UInt8) : mkD f 0 out = out := by cases f <;> simp [mkD]

set_option maxHeartbeats 1000000 in
set_option maxRecDepth 100000 in
theorem markText (k : Nat) (hk : k ≤ 1000000000000000000) (w : World) :
    Calls Tryz.prog 27 #[.int .i64 (k : Int)] w fun e w' => e = .returned (.string (mkS k)) ∧ Below w.heap.size w w' := by
  by_cases h0 : k = 0
  · subst h0
    have HV : Hid (mkS 0 = ⟨#[109, 48]⟩) := rfl
    generalize mkS 0 = R at HV ⊢
    go_enter Tryz.func27, Tryz.ntmps27
    go_wp2_with fail
    go_ret
    exact ⟨by rw [HV.out]; rfl, Below.refl _ _⟩
  have HV : Hid (∀ out, out = mkD 19 k [] → mkS k = (⟨#[109]⟩ : ByteArray) ++ ⟨out.toArray⟩) := by
    intro out ho
    rw [mkS, if_neg h0, ← ho]
    apply ByteArray.ext
    simp
  generalize mkS k = R at HV ⊢
  have hle : ¬ (k : Int) ≤ 0 := by omega
  have hk19 : k < 10 ^ 19 := by omega
  go_enter Tryz.func27, Tryz.ntmps27
  go_wp2_with fail
  go_loopw [0, 3] (fun i o wr => ∃ (f n : Nat) (out : List UInt8), i = .int .i64 (n : Int) ∧ o = .string ⟨out.toArray⟩ ∧ n ≤ 1000000000000000000 ∧ Hid (n < 10 ^ f ∧ out.length + f ≤ 19 ∧ mkD f n out = mkD 19 k []) ∧ Hid (Below w.heap.size w wr)) (fun i _ _ => (intOf i).toNat)
  case atStart => exact ⟨19, k, [], rfl, rfl, hk, ⟨hk19, by decide, rfl⟩, Below.refl _ _⟩
  case round =>
    obtain ⟨f, n, out, rfl, rfl, hn, HF, HB⟩ := hrel
    by_cases hz : n = 0
    · subst hz
      have HR : Hid (R = (⟨#[109]⟩ : ByteArray) ++ ⟨out.toArray⟩) := HV.out out (by have := HF.out.2.2; rw [mkD_zero] at this; exact this)
      have hol : out.length ≤ 19 := by have := HF.out.2.1; omega
      clear HV HF hk19 hle h0 hk
      go_wp2_with fail
      go_ret
      exact ⟨by rw [HR.out]; rfl, HB.out⟩
    · obtain ⟨f, rfl⟩ : ∃ f', f = f' + 1 := by
        cases f with
        | zero => have := HF.out.1; simp at this; omega
        | succ f' => exact ⟨f', rfl⟩
      have hn0 : (0 : Int) < (n : Int) := by omega
      have e1 : (n : Int).tdiv 10 = ((n / 10 : Nat) : Int) := by rw [Int.tdiv_eq_ediv_of_nonneg (by omega)]; omega
      have e3 : (n : Int) / 10 = ((n / 10 : Nat) : Int) := by omega
      have e4 : (n : Int) % 10 = ((n % 10 : Nat) : Int) := by omega
      have e2 : (n : Int).tmod 10 = ((n % 10 : Nat) : Int) := by rw [Int.tmod_eq_emod_of_nonneg (by omega)]; omega
      have hcv := convOne _ wr.heap.size (48 + n % 10) (by omega) (cellOne wr (.int .u8 ((48 + n % 10 : Nat) : Int)))
      have e5 : ((48 + n % 10 : Nat) : Int) = 48 + ((n % 10 : Nat) : Int) := by omega
      rw [e5] at hcv
      have HF2 : Hid (n / 10 < 10 ^ f ∧ (UInt8.ofNat (48 + n % 10) :: out).length + f ≤ 19 ∧ mkD f (n / 10) (UInt8.ofNat (48 + n % 10) :: out) = mkD 19 k []) := by
        refine ⟨?_, ?_, ?_⟩
        · have := HF.out.1
          rw [Nat.pow_succ] at this
          omega
        · have := HF.out.2.1
          simp
          omega
        · have := HF.out.2.2
          rw [mkD, if_neg hz] at this
          exact this
      have hq : n / 10 ≤ 1000000000000000000 := by omega
      have HME : Hid (n / 10 < n) := by show _ < _; omega
      have hol : out.length ≤ 19 := by have := HF.out.2.1; omega
      have lm : ((n % 10 : Nat) : Int) < 10 := by omega
      have lm0 : (0 : Int) ≤ ((n % 10 : Nat) : Int) := by omega
      generalize n / 10 = q at e1 e3 HF2 hq HME
      generalize n % 10 = r at e2 e4 e5 hcv HF2 lm lm0
      have hwq : IntKind.i64.wrap (q : Int) = (q : Int) := by rw [IntKind.wrap_i64]; omega
      have hw48 : IntKind.i64.wrap (48 + (r : Int)) = 48 + (r : Int) := by rw [IntKind.wrap_i64]; omega
      have hw8 : IntKind.u8.wrap (48 + (r : Int)) = 48 + (r : Int) := by rw [IntKind.wrap_u8]; omega
      generalize UInt8.ofNat (48 + r) = u at hcv HF2
      have HEQ : Hid ((⟨#[u]⟩ : ByteArray) ++ ⟨out.toArray⟩ = ⟨(u :: out).toArray⟩) := by
        show _ = _
        apply ByteArray.ext
        simp
      have HB2 : Hid (Below w.heap.size w (wr.alloc (.cells #[.int .u8 (48 + (r : Int))] 5))) := HB.out.alloc HB.out.size _
      clear HV HF hk19 hle h0 hk hz e5
      go_wp2_with fail
      go_roundw
      case rel => exact ⟨f, q, u :: out, rfl, by show Value.string _ = Value.string _; rw [← HEQ.out], hq, HF2, HB2⟩
      case measure => have := HME.out; simp [intOf]; omega

end Go.Proofs.YtoifgpmbeicmnaaGreatDoor

set_option linter.unusedVariables false
namespace Go.Proofs.YtoifgpmbeicmnaaGreatDoor
open Go.RowKit Go.Deep

/-- A block of peaks that may be written. -/
def PBk (w : World) (g n : Nat) : Prop := ∃ cur : Array Value, w.heap[g]? = some (.cells cur 71 (0, 0)) ∧ n * 3 ≤ cur.size
theorem PBk.lt {w : World} {g n : Nat} (h : PBk w g n) : g < w.heap.size := by
  obtain ⟨cur, h1, _⟩ := h
  rcases Nat.lt_or_ge g w.heap.size with h' | h'
  · exact h'
  · simp [Array.getElem?_eq_none h'] at h1
theorem PBk.keep {w w' : World} {g n : Nat} (h : PBk w g n) (hk : w'.heap[g]? = w.heap[g]?) : PBk w' g n := by
  obtain ⟨cur, h1, h2⟩ := h
  exact ⟨cur, hk.trans h1, h2⟩
theorem PBk.below {w w' : World} {g n B : Nat} (h : PBk w g n) (hb : Below B w w') (hg : g < B) : PBk w' g n := h.keep (hb.block g hg)
theorem PBk.cell {w : World} {g n : Nat} (h : PBk w g n) (i : Nat) (hi : i < n * 3) : (∃ v, w.cell? ⟨g, i, none⟩ = some v) ∧ w.frozen? ⟨g, i, none⟩ = false := by
  obtain ⟨cur, h1, h2⟩ := h
  refine ⟨?_, Lib.frozen_of_heap h1 i⟩
  rw [Lib.cell_of_heap h1]
  have hic : i < cur.size := by omega
  exact ⟨cur[i], Array.getElem?_eq_getElem hic⟩
theorem PBk.set {w : World} {g n : Nat} (h : PBk w g n) (i : Nat) (v : Value) : PBk (w.setCell ⟨g, i, none⟩ v) g n := by
  obtain ⟨cur, h1, h2⟩ := h
  exact ⟨cur.setIfInBounds i v, by simp [World.setCell, Array.getElem?_modify, h1], by simpa using h2⟩
theorem PBk.of {w : World} {g : Nat} {l : List PeakV} (h : RowP w g l) : PBk w g l.length := ⟨_, h, by simp [flat_length 3 pEnc pEnc_len]⟩
theorem PBk.frow {B : Nat} {v : Value} {l : List PeakV} {w : World} (h : PRow B v l w) : ∃ g cap, v = .slice (some ⟨g, 0, none⟩) l.length cap ∧ AtP w g l ∧ PBk w g l.length ∧ B ≤ g := by
  obtain ⟨g, cap, cur, rfl, h1, h2, h3, h4, h5⟩ := h.block
  refine ⟨g, cap, rfl, (FRow.at pEnc_len h).1, ⟨cur, h3, ?_⟩, h1⟩
  have := congrArg List.length h4
  rw [List.length_take, flat_length 3 pEnc pEnc_len] at this
  rw [← Array.length_toList]
  omega
theorem cellSetOther {w : World} {g i j : Nat} {v : Value} (h : i ≠ j) : (w.setCell ⟨g, i, none⟩ v).cell? ⟨g, j, none⟩ = w.cell? ⟨g, j, none⟩ := by
  simp [World.setCell, World.cell?, Array.getElem?_modify]
  cases hh : w.heap[g]? with
  | none => simp
  | some o => cases o <;> simp [h]
theorem PBk.cellSet {w : World} {g n : Nat} (h : PBk w g n) (i : Nat) (hi : i < n * 3) (v : Value) : (w.setCell ⟨g, i, none⟩ v).cell? ⟨g, i, none⟩ = some v := by
  obtain ⟨cur, h1, h2⟩ := h
  have : (w.setCell ⟨g, i, none⟩ v).heap[g]? = some (.cells (cur.setIfInBounds i v) 71 (0, 0)) := by simp [World.setCell, Array.getElem?_modify, h1]
  rw [Lib.cell_of_heap this]
  have : i < cur.size := by omega
  simp [this]
/-- A list that holds its marks, so far. -/
def MkP (w : World) (g k n : Nat) : Prop := ∀ i, i < n → w.cell? ⟨g, i * 3, none⟩ = some (.string (mkS (k + 3 * i))) ∧ w.cell? ⟨g, i * 3 + 1, none⟩ = some (.int .i64 (((k + 3 * i : Nat) : Int) + 1)) ∧ w.cell? ⟨g, i * 3 + 2, none⟩ = some (.int .i64 (((k + 3 * i : Nat) : Int) + 1 + 1))
theorem MkP.below {w w' : World} {g k n B : Nat} (h : MkP w g k n) (hb : Below B w w') (hg : g < B) : MkP w' g k n := fun i hi =>
  ⟨(hb.cell (p := ⟨g, i * 3, none⟩) hg).trans (h i hi).1, (hb.cell (p := ⟨g, i * 3 + 1, none⟩) hg).trans (h i hi).2.1, (hb.cell (p := ⟨g, i * 3 + 2, none⟩) hg).trans (h i hi).2.2⟩
theorem MkP.step {w : World} {g k j n : Nat} (h : MkP w g k j) (hb : PBk w g n) (hj : j < n) : MkP (((w.setCell ⟨g, j * 3, none⟩ (.string (mkS (k + 3 * j)))).setCell ⟨g, j * 3 + 1, none⟩ (.int .i64 (((k + 3 * j : Nat) : Int) + 1))).setCell ⟨g, j * 3 + 2, none⟩ (.int .i64 (((k + 3 * j : Nat) : Int) + 1 + 1))) g k (j + 1) := by
  intro i hi
  rcases Nat.lt_or_ge i j with h' | h'
  · obtain ⟨h1, h2, h3⟩ := h i h'
    refine ⟨?_, ?_, ?_⟩
    · rw [cellSetOther (by omega), cellSetOther (by omega), cellSetOther (by omega)]; exact h1
    · rw [cellSetOther (by omega), cellSetOther (by omega), cellSetOther (by omega)]; exact h2
    · rw [cellSetOther (by omega), cellSetOther (by omega), cellSetOther (by omega)]; exact h3
  · obtain rfl : i = j := by omega
    refine ⟨?_, ?_, ?_⟩
    · rw [cellSetOther (by omega), cellSetOther (by omega)]; exact hb.cellSet _ (by omega) _
    · rw [cellSetOther (by omega)]; exact (hb.set _ _).cellSet _ (by omega) _
    · exact ((hb.set _ _).set _ _).cellSet _ (by omega) _
/-- What writing marks leaves. -/
def MPPost (g n k : Nat) (w : World) (e : Ending) (w' : World) : Prop := e = .returned (.int .i64 ((k + 3 * n : Nat) : Int)) ∧ MkP w' g k n ∧ (∀ c, c < w.heap.size → c ≠ g → w'.heap[c]? = w.heap[c]?) ∧ Below 0 w w' ∧ PBk w' g n
theorem setOff {w wr : World} {g j : Nat} {v : Value} (h : ∀ c, c < w.heap.size → c ≠ g → wr.heap[c]? = w.heap[c]?) : ∀ c, c < w.heap.size → c ≠ g → (wr.setCell ⟨g, j, none⟩ v).heap[c]? = w.heap[c]? := fun c hc hne => by
  rw [← h c hc hne]
  simp [World.setCell, Array.getElem?_modify, Ne.symm hne]
set_option maxHeartbeats 2000000 in
set_option maxRecDepth 100000 in
theorem markPeaks (g n cap k : Nat) (w : World) (h : PBk w g n) (hn : n ≤ 1048576) (hk : k ≤ 1000000000) :
    Calls Tryz.prog 60 #[.slice (some ⟨g, 0, none⟩) n cap, .int .i64 (k : Int)] w fun e w' => MPPost g n k w e w' := by
  have H0 : Hid (PBk w g n) := h
  clear h
  have HQ : Hid (∀ e w', e = .returned (.int .i64 ((k + 3 * n : Nat) : Int)) → MkP w' g k n → (∀ c, c < w.heap.size → c ≠ g → w'.heap[c]? = w.heap[c]?) → Below 0 w w' → PBk w' g n → MPPost g n k w e w') := fun e w' h1 h2 h3 h4 h5 => ⟨h1, h2, h3, h4, h5⟩
  generalize MPPost g n k w = Q at HQ ⊢
  go_enter Tryz.func60, Tryz.ntmps60
  go_wp2_with fail
  go_loopw [1, 5] (fun m i wr => ∃ j : Nat, j ≤ n ∧ i = .int .i64 (j : Int) ∧ m = .int .i64 ((k + 3 * j : Nat) : Int) ∧ Hid (PBk wr g n ∧ MkP wr g k j ∧ (∀ c, c < w.heap.size → c ≠ g → wr.heap[c]? = w.heap[c]?) ∧ Below 0 w wr)) (fun _ i _ => n - (intOf i).toNat)
  case atStart => exact ⟨0, by omega, rfl, rfl, H0.out, fun i hi => by omega, fun c _ _ => rfl, Below.refl _ _⟩
  case round =>
    clear H0
    obtain ⟨j, hj, rfl, rfl, HS⟩ := hrel
    by_cases hlt : j < n
    · have hmk := markText (k + 3 * j) (by omega) wr
      have lj : (j : Int) < (n : Int) := by omega
      have lj0 : (0 : Int) ≤ (j : Int) := by omega
      have HK1 : Hid (j + 1 ≤ n) := hlt
      have hgl := HS.out.1.lt
      obtain ⟨m, hm⟩ : ∃ m, m = k + 3 * j := ⟨_, rfl⟩
      have HM : Hid (m = k + 3 * j) := hm
      have HM1 : Hid (((m : Int) + 1 + 1 + 1) = ((k + 3 * (j + 1) : Nat) : Int)) := by show _ = _; omega
      rw [← hm] at hmk ⊢
      have wk : IntKind.i64.wrap ((m : Int) + 1) = (m : Int) + 1 := by rw [IntKind.wrap_i64]; omega
      have wk2 : IntKind.i64.wrap ((m : Int) + 1 + 1) = (m : Int) + 1 + 1 := by rw [IntKind.wrap_i64]; omega
      have wk3 : IntKind.i64.wrap ((m : Int) + 1 + 1 + 1) = (m : Int) + 1 + 1 + 1 := by rw [IntKind.wrap_i64]; omega
      have wj : IntKind.i64.wrap ((j : Int) + 1) = (j : Int) + 1 := by rw [IntKind.wrap_i64]; omega
      clear hm
      go_wp2_with fail
      refine hmk.mono ?_
      rintro e w1 ⟨rfl, b1⟩
      have HS1 : Hid (PBk w1 g n) := HS.out.1.below b1 hgl
      obtain ⟨⟨v0, q0⟩, z0⟩ := HS1.out.cell (j * 3) (by omega)
      obtain ⟨⟨v1, q1⟩, z1⟩ := HS1.out.cell (j * 3 + 1) (by omega)
      obtain ⟨⟨v2, q2⟩, z2⟩ := HS1.out.cell (j * 3 + 2) (by omega)
      have HC1 : Hid (MkP w1 g k j) := HS.out.2.1.below b1 hgl
      have HU1 : Hid (∀ c, c < w.heap.size → c ≠ g → w1.heap[c]? = w.heap[c]?) := fun c hc hne => (b1.block c (Nat.lt_of_lt_of_le hc HS.out.2.2.2.size)).trans (HS.out.2.2.1 c hc hne)
      have HX1 : Hid (Below 0 w w1) := HS.out.2.2.2.trans (b1.mono (Nat.zero_le _))
      have HN : Hid (PBk (((w1.setCell ⟨g, j * 3, none⟩ (.string (mkS m))).setCell ⟨g, j * 3 + 1, none⟩ (.int .i64 ((m : Int) + 1))).setCell ⟨g, j * 3 + 2, none⟩ (.int .i64 ((m : Int) + 1 + 1))) g n ∧ MkP (((w1.setCell ⟨g, j * 3, none⟩ (.string (mkS m))).setCell ⟨g, j * 3 + 1, none⟩ (.int .i64 ((m : Int) + 1))).setCell ⟨g, j * 3 + 2, none⟩ (.int .i64 ((m : Int) + 1 + 1))) g k (j + 1) ∧ (∀ c, c < w.heap.size → c ≠ g → (((w1.setCell ⟨g, j * 3, none⟩ (.string (mkS m))).setCell ⟨g, j * 3 + 1, none⟩ (.int .i64 ((m : Int) + 1))).setCell ⟨g, j * 3 + 2, none⟩ (.int .i64 ((m : Int) + 1 + 1))).heap[c]? = w.heap[c]?) ∧ Below 0 w (((w1.setCell ⟨g, j * 3, none⟩ (.string (mkS m))).setCell ⟨g, j * 3 + 1, none⟩ (.int .i64 ((m : Int) + 1))).setCell ⟨g, j * 3 + 2, none⟩ (.int .i64 ((m : Int) + 1 + 1)))) := by
        refine ⟨((HS1.out.set _ _).set _ _).set _ _, ?_, setOff (setOff (setOff HU1.out)), ((HX1.out.setCell (p := ⟨g, j * 3, none⟩) (Nat.zero_le _) _).setCell (p := ⟨g, j * 3 + 1, none⟩) (Nat.zero_le _) _).setCell (p := ⟨g, j * 3 + 2, none⟩) (Nat.zero_le _) _⟩
        have := HC1.out.step HS1.out hlt
        rw [← HM.out] at this
        exact this
      clear hmk HS HS1 HC1 HU1 HX1 b1
      generalize mkS m = ms at HN ⊢
      go_wp2_with fail
      go_roundw
      case rel => exact ⟨j + 1, HK1.out, by go_num, by show Value.int .i64 _ = Value.int .i64 _; rw [HM1.out], HN⟩
      case measure => have := HK1.out; simp [intOf]; omega
    · obtain rfl : j = n := by omega
      go_wp2_with fail
      exact HQ.out _ _ rfl HS.out.2.1 HS.out.2.2.1 HS.out.2.2.2 HS.out.1

set_option maxHeartbeats 2000000 in
set_option maxRecDepth 100000 in
theorem heldPeaks (g n cap k : Nat) (w : World) (hg : g < w.heap.size) (h : MkP w g k n) (hn : n ≤ 1048576) (hk : k ≤ 1000000000) :
    Calls Tryz.prog 61 #[.slice (some ⟨g, 0, none⟩) n cap, .int .i64 (k : Int)] w fun e w' => e = .returned (.int .i64 ((k + 3 * n : Nat) : Int)) ∧ Below w.heap.size w w' := by
  have H0 : Hid (MkP w g k n) := h
  clear h
  obtain ⟨kn, hkn⟩ : ∃ kn, kn = k + 3 * n := ⟨_, rfl⟩
  rw [← hkn]
  have HKN : Hid (kn = k + 3 * n) := hkn
  clear hkn
  go_enter Tryz.func61, Tryz.ntmps61
  go_wp2_with fail
  go_loopw [1, 5] (fun m i wr => ∃ j : Nat, j ≤ n ∧ i = .int .i64 (j : Int) ∧ m = .int .i64 ((k + 3 * j : Nat) : Int) ∧ Hid (Below w.heap.size w wr)) (fun _ i _ => n - (intOf i).toNat)
  case atStart => exact ⟨0, by omega, rfl, rfl, Below.refl _ _⟩
  case round =>
    obtain ⟨j, hj, rfl, rfl, HB⟩ := hrel
    by_cases hlt : j < n
    · have HMK : Hid (MkP wr g k n) := H0.out.below HB.out hg
      have HGR : Hid (g < wr.heap.size) := Nat.lt_of_lt_of_le hg HB.out.size
      have c0 := (HMK.out j hlt).1
      have lj : (j : Int) < (n : Int) := by omega
      have lj0 : (0 : Int) ≤ (j : Int) := by omega
      have HK1 : Hid (j + 1 ≤ n) := hlt
      have hmk := fun w' => markText (k + 3 * j) (by omega) w'
      obtain ⟨m, hm⟩ : ∃ m, m = k + 3 * j := ⟨_, rfl⟩
      have HM1 : Hid (((m : Int) + 1 + 1 + 1) = ((k + 3 * (j + 1) : Nat) : Int)) := by show _ = _; omega
      have HCC : Hid (∀ w', Below wr.heap.size wr w' → w'.cell? ⟨g, j * 3, none⟩ = some (.string (mkS m)) ∧ w'.cell? ⟨g, j * 3 + 1, none⟩ = some (.int .i64 ((m : Int) + 1)) ∧ w'.cell? ⟨g, j * 3 + 2, none⟩ = some (.int .i64 ((m : Int) + 1 + 1))) := fun w' hb => by
        have := HMK.out.below hb HGR.out j hlt
        rw [← hm] at this
        exact this
      rw [← hm] at hmk c0 ⊢
      have wk : IntKind.i64.wrap ((m : Int) + 1) = (m : Int) + 1 := by rw [IntKind.wrap_i64]; omega
      have wk2 : IntKind.i64.wrap ((m : Int) + 1 + 1) = (m : Int) + 1 + 1 := by rw [IntKind.wrap_i64]; omega
      have wk3 : IntKind.i64.wrap ((m : Int) + 1 + 1 + 1) = (m : Int) + 1 + 1 + 1 := by rw [IntKind.wrap_i64]; omega
      have wj : IntKind.i64.wrap ((j : Int) + 1) = (j : Int) + 1 := by rw [IntKind.wrap_i64]; omega
      generalize mkS m = ms at hmk c0 HCC
      clear hm
      go_wp2_with fail
      go_region_with (go_at_call 27; refine (hmk _).mono ?_; rintro e w1 ⟨rfl, b1⟩; obtain ⟨q0, q1, q2⟩ := HCC.out w1 ((Below.refl _ wr).drew.trans b1))
      all_goals
        have HB1 : Hid (Below w.heap.size w w1) := HB.out.drew.trans (b1.mono HB.out.size)
        clear b1 HCC HMK
        go_wp2_with fail
        go_roundw
        case rel => exact ⟨j + 1, HK1.out, by go_num, by show Value.int .i64 _ = Value.int .i64 _; rw [HM1.out], HB1⟩
        case measure => have := HK1.out; simp [intOf]; omega
    · obtain rfl : j = n := by omega
      have hv := HKN.out
      rw [← hv]
      go_wp2_with fail
      go_ret
      exact ⟨rfl, HB.out⟩

theorem eqPeaksNil (w : World) : Calls Tryz.prog 57 #[.slice none 0 0, .slice none 0 0] w fun e w' => e = .returned (.bool true) ∧ w' = w := by
  go_enter Tryz.func57, Tryz.ntmps57
  go_wp2_with fail
  go_loopw [5] (fun i wr => i = .int .i64 0 ∧ Hid (wr = w)) (fun _ _ => 0)
  case atStart => exact ⟨rfl, rfl⟩
  case round =>
    obtain ⟨rfl, HW⟩ := hrel
    go_wp2_with fail
    go_ret
    exact ⟨rfl, HW.out⟩
theorem markPeaksNil (w : World) : Calls Tryz.prog 60 #[.slice none 0 0, .int .i64 1] w fun e w' => e = .returned (.int .i64 1) ∧ w' = w := by
  go_enter Tryz.func60, Tryz.ntmps60
  go_wp2_with fail
  go_loopw [1, 5] (fun m i wr => m = .int .i64 1 ∧ i = .int .i64 0 ∧ Hid (wr = w)) (fun _ _ _ => 0)
  case atStart => exact ⟨rfl, rfl, rfl⟩
  case round =>
    obtain ⟨rfl, rfl, HW⟩ := hrel
    go_wp2_with fail
    go_ret
    exact ⟨rfl, HW.out⟩
theorem heldPeaksNil (w : World) : Calls Tryz.prog 61 #[.slice none 0 0, .int .i64 1] w fun e w' => e = .returned (.int .i64 1) ∧ w' = w := by
  go_enter Tryz.func61, Tryz.ntmps61
  go_wp2_with fail
  go_loopw [1, 5] (fun m i wr => m = .int .i64 1 ∧ i = .int .i64 0 ∧ Hid (wr = w)) (fun _ _ _ => 0)
  case atStart => exact ⟨rfl, rfl, rfl⟩
  case round =>
    obtain ⟨rfl, rfl, HW⟩ := hrel
    go_wp2_with fail
    go_ret
    exact ⟨rfl, HW.out⟩
/-- A list of peaks that was handed back: nothing, or a row that stands in a block of its own. -/
def Pks (B : Nat) (v : Value) (l : List PeakV) (w : World) : Prop := (v = .slice none 0 0 ∧ l = []) ∨ ∃ g cap, v = .slice (some ⟨g, 0, none⟩) l.length cap ∧ AtP w g l ∧ PBk w g l.length ∧ B ≤ g
theorem Pks.below {B : Nat} {v : Value} {l : List PeakV} {w w' : World} (h : Pks B v l w) (hb : Below w.heap.size w w') : Pks B v l w' := by
  rcases h with h | ⟨g, cap, h1, h2, h3, h4⟩
  · exact .inl h
  · exact .inr ⟨g, cap, h1, h2.below hb h2.1, h3.below hb h3.lt, h4⟩
theorem Pks.mono {B C : Nat} {v : Value} {l : List PeakV} {w : World} (h : Pks B v l w) (hc : C ≤ B) : Pks C v l w := by
  rcases h with h | ⟨g, cap, h1, h2, h3, h4⟩
  · exact .inl h
  · exact .inr ⟨g, cap, h1, h2, h3, Nat.le_trans hc h4⟩
/-- The block of a value that is a row. -/
def blkOf : Value → Nat → Prop
  | .slice (some a) _ _, g => a.block = g
  | _, _ => False
theorem Pks.blk {B : Nat} {v : Value} {l : List PeakV} {w : World} (h : Pks B v l w) {g : Nat} (hv : blkOf v g) : g < w.heap.size ∧ B ≤ g := by
  rcases h with ⟨rfl, _⟩ | ⟨g', c', rfl, h2, _, h4⟩
  · exact absurd hv (by simp [blkOf])
  · have : g' = g := hv
    subst this
    exact ⟨h2.1, h4⟩
theorem Pks.keep {B : Nat} {v : Value} {l : List PeakV} {w w' : World} (h : Pks B v l w) (hs : w.heap.size ≤ w'.heap.size) (hk : ∀ g, blkOf v g → w'.heap[g]? = w.heap[g]?) : Pks B v l w' := by
  rcases h with h | ⟨g, cap, rfl, h2, h3, h4⟩
  · exact .inl h
  · refine .inr ⟨g, cap, rfl, ⟨Nat.lt_of_lt_of_le h2.1 hs, fun i j hi hj => ?_⟩, h3.keep (hk g rfl), h4⟩
    have := h2.2 i j hi hj
    rw [← this]
    exact World.cell?_of_block (a := ⟨g, i * 3 + j, none⟩) (hk g rfl)
theorem pksEq {B C : Nat} {u v : Value} {l : List PeakV} {w : World} (h1 : Pks B u l w) (h2 : Pks C v l w) (hn : l.length ≤ 1048576) : Calls Tryz.prog 57 #[u, v] w fun e w' => e = .returned (.bool true) ∧ Below w.heap.size w w' := by
  rcases h1 with ⟨rfl, hs⟩ | ⟨g1, c1, rfl, a1, b1, _⟩
  · rcases h2 with ⟨rfl, _⟩ | ⟨g2, c2, rfl, a2, b2, _⟩
    · exact (eqPeaksNil w).mono fun e w' ⟨he, hw⟩ => ⟨he, by rw [hw]; exact Below.refl _ _⟩
    · subst hs
      clear a2 b2
      go_enter Tryz.func57, Tryz.ntmps57
      go_wp2_with fail
      go_loopw [5] (fun i wr => i = .int .i64 0 ∧ Hid (wr = w)) (fun _ _ => 0)
      case atStart => exact ⟨rfl, rfl⟩
      case round =>
        obtain ⟨rfl, HW⟩ := hrel
        go_wp2_with fail
        go_ret
        exact ⟨rfl, by rw [HW.out]; exact Below.refl _ _⟩
  · rcases h2 with ⟨rfl, hs⟩ | ⟨g2, c2, rfl, a2, b2, _⟩
    · subst hs
      clear a1 b1
      go_enter Tryz.func57, Tryz.ntmps57
      go_wp2_with fail
      go_loopw [5] (fun i wr => i = .int .i64 0 ∧ Hid (wr = w)) (fun _ _ => 0)
      case atStart => exact ⟨rfl, rfl⟩
      case round =>
        obtain ⟨rfl, HW⟩ := hrel
        go_wp2_with fail
        go_ret
        exact ⟨rfl, by rw [HW.out]; exact Below.refl _ _⟩
    · exact eqPeaks g1 g2 l.length c1 c2 l w a1 a2 rfl (by omega)
/-- A list of peaks that holds its marks. -/
def HeldP (v : Value) (n : Nat) (w : World) : Prop := (v = .slice none 0 0 ∧ n = 0) ∨ ∃ g cap, v = .slice (some ⟨g, 0, none⟩) n cap ∧ g < w.heap.size ∧ MkP w g 1 n
theorem HeldP.below {v : Value} {n : Nat} {w w' : World} (h : HeldP v n w) (hb : Below w.heap.size w w') : HeldP v n w' := by
  rcases h with h | ⟨g, cap, h1, h2, h3⟩
  · exact .inl h
  · exact .inr ⟨g, cap, h1, Nat.lt_of_lt_of_le h2 hb.size, h3.below hb h2⟩
theorem pksMark {B : Nat} {v : Value} {l : List PeakV} {w : World} (h : Pks B v l w) (hn : l.length ≤ 1048576) : Calls Tryz.prog 60 #[v, .int .i64 1] w fun e w' => e = .returned (.int .i64 ((1 + 3 * l.length : Nat) : Int)) ∧ HeldP v l.length w' ∧ Below 0 w w' ∧ ∀ b, b < w.heap.size → b < B → w'.heap[b]? = w.heap[b]? := by
  rcases h with ⟨rfl, rfl⟩ | ⟨g, cap, rfl, a, b, hB⟩
  · exact (markPeaksNil w).mono fun e w' ⟨he, hw⟩ => ⟨he, .inl ⟨rfl, rfl⟩, by rw [hw]; exact Below.refl _ _, fun b _ _ => by rw [hw]⟩
  · refine (markPeaks g l.length cap 1 w b (by omega) (by omega)).mono ?_
    rintro e w' ⟨rfl, hc, hu, hfr, hb⟩
    exact ⟨rfl, .inr ⟨g, cap, rfl, hb.lt, hc⟩, hfr, fun c hc1 hc2 => hu c hc1 (by omega)⟩
theorem pksHeld {v : Value} {n : Nat} {w : World} (h : HeldP v n w) (hn : n ≤ 1048576) : Calls Tryz.prog 61 #[v, .int .i64 1] w fun e w' => e = .returned (.int .i64 ((1 + 3 * n : Nat) : Int)) ∧ Below w.heap.size w w' := by
  rcases h with ⟨rfl, rfl⟩ | ⟨g, cap, rfl, hg, hc⟩
  · exact (heldPeaksNil w).mono fun e w' ⟨he, hw⟩ => ⟨he, by rw [hw]; exact Below.refl _ _⟩
  · exact heldPeaks g n cap 1 w hg hc (by omega) (by omega)

end Go.Proofs.YtoifgpmbeicmnaaGreatDoor

set_option linter.unusedVariables false
namespace Go.Proofs.YtoifgpmbeicmnaaGreatDoor
open Go.RowKit Go.Deep

/-- The proof while it is made: its block, its row of steps. -/
structure PfW (w0 wr : World) (gp : Nat) (vs : Value) (ss : List PeakV) : Prop where
  k : CBk wr gp 28 #[.slice none 0 0, vs]
  row : wr.ownsRow w0.heap.size 71 3 vs ss.length (ss.flatMap pEnc)
  b : Below w0.heap.size w0 wr
  lo : w0.heap.size ≤ gp
def Pf (w0 wr : World) (gp : Nat) (ss : List PeakV) : Prop := ∃ vs, PfW w0 wr gp vs ss
/-- No block but the proof's own and those of peaks has changed. -/
def Off (gp : Nat) (w w' : World) : Prop := w.heap.size ≤ w'.heap.size ∧ ∀ c, c < w.heap.size → c ≠ gp → (∀ cur fr, w.heap[c]? ≠ some (.cells cur 71 fr)) → w'.heap[c]? = w.heap[c]?
theorem Off.refl (gp : Nat) (w : World) : Off gp w w := ⟨Nat.le_refl _, fun _ _ _ _ => rfl⟩
theorem Off.trans {gp : Nat} {w w1 w2 : World} (h : Off gp w w1) (h2 : Off gp w1 w2) : Off gp w w2 :=
  ⟨Nat.le_trans h.1 h2.1, fun c hc hne hp => by
    have e := h.2 c hc hne hp
    rw [← e]
    exact h2.2 c (Nat.lt_of_lt_of_le hc h.1) hne (fun cur fr => by rw [e]; exact hp cur fr)⟩
theorem Off.below {gp : Nat} {w w1 w2 : World} (h : Off gp w w1) (hb : Below w1.heap.size w1 w2) : Off gp w w2 :=
  h.trans ⟨hb.size, fun c hc _ _ => hb.block c hc⟩
theorem Off.set {gp g j : Nat} {w w1 : World} (h : Off gp w w1) (hg : w.heap.size ≤ g ∨ g = gp) (v : Value) : Off gp w (w1.setCell ⟨g, j, none⟩ v) :=
  ⟨by simpa using h.1, fun c hc hne hp => by
    rw [← h.2 c hc hne hp]
    have : c ≠ g := by rcases hg with h' | h' <;> omega
    simp [World.setCell, Array.getElem?_modify, Ne.symm this]⟩
/-- A block of another type is not the row's. -/
theorem own_ne {w : World} {B g n : Nat} {T : TypeId} {v : Value} {xs : List Value} {cs : Array Value} (h : w.ownsRow B 71 3 v n xs) (hk : CBk w g T cs) (hT : T ≠ 71) : v.ownBlock ≠ some g := by
  rcases h.2 with ⟨rfl, _⟩ | ⟨g', cap, cur, rfl, _, hg, _⟩
  · simp [Value.ownBlock]
  · intro he
    have he' : g' = g := by simpa [Value.ownBlock] using he
    subst he'
    have hk' : w.heap[g']? = some (.cells cs T (0, 0)) := hk
    rw [hg] at hk'
    simp only [Option.some.injEq, Obj.cells.injEq] at hk'
    exact hT hk'.2.1.symm
theorem own_is {w : World} {B n b : Nat} {v : Value} {xs : List Value} (h : w.ownsRow B 71 3 v n xs) (hv : v.ownBlock = some b) : ∃ cur, w.heap[b]? = some (.cells cur 71 (0, 0)) := by
  rcases h.2 with ⟨rfl, _⟩ | ⟨g', cap, cur, rfl, _, hg, _⟩
  · simp [Value.ownBlock] at hv
  · have : g' = b := by simpa [Value.ownBlock] using hv
    subst this
    exact ⟨cur, hg⟩
theorem own_below {w w' : World} {B n : Nat} {v : Value} {xs : List Value} (h : w.ownsRow B 71 3 v n xs) (hb : Below w.heap.size w w') : w'.ownsRow B 71 3 v n xs := by
  refine ⟨h.1, ?_⟩
  rcases h.2 with h1 | ⟨g', cap, cur, hv, hB, hg, h4⟩
  · exact .inl h1
  · refine .inr ⟨g', cap, cur, hv, hB, ?_, h4⟩
    rw [hb.block g' ?_]
    · exact hg
    · rcases Nat.lt_or_ge g' w.heap.size with h' | h'
      · exact h'
      · simp [Array.getElem?_eq_none h'] at hg
theorem own_set {w : World} {B n g j : Nat} {T : TypeId} {v u : Value} {xs : List Value} {cs : Array Value} (h : w.ownsRow B 71 3 v n xs) (hk : CBk w g T cs) (hT : T ≠ 71) : (w.setCell ⟨g, j, none⟩ u).ownsRow B 71 3 v n xs := by
  have hne := own_ne h hk hT
  refine ⟨h.1, ?_⟩
  rcases h.2 with h1 | ⟨g', cap, cur, hv, hB, hg, h4⟩
  · exact .inl h1
  · refine .inr ⟨g', cap, cur, hv, hB, ?_, h4⟩
    have : g ≠ g' := by
      intro he
      subst he
      rw [hv] at hne
      exact hne rfl
    simp [World.setCell, Array.getElem?_modify, hg, this]
theorem PfW.call {w0 wr w' : World} {gp : Nat} {vs : Value} {ss : List PeakV} (h : PfW w0 wr gp vs ss) (hb : Below wr.heap.size wr w') : PfW w0 w' gp vs ss :=
  ⟨h.k.call hb, own_below h.row hb, h.b.trans (hb.mono h.b.size), h.lo⟩
theorem PfW.store {w0 wr : World} {gp g j : Nat} {T : TypeId} {vs : Value} {ss : List PeakV} {cs : Array Value} (h : PfW w0 wr gp vs ss) (hk : CBk wr g T cs) (hT : T ≠ 71) (hne : g ≠ gp) (hlo : w0.heap.size ≤ g) (u : Value) : PfW w0 (wr.setCell ⟨g, j, none⟩ u) gp vs ss :=
  ⟨h.k.other hne u, own_set h.row hk hT, h.b.setCell (p := ⟨g, j, none⟩) hlo u, h.lo⟩
theorem NBk.four {w : World} {g : Nat} {a : NodeV} (h : NBk w g a) : w.cell? ⟨g, 0, none⟩ = some (.string a.1.sum) ∧ w.cell? ⟨g, 1, none⟩ = some (.int .i64 a.1.work) ∧ w.cell? ⟨g, 2, none⟩ = some (.int .i64 a.1.count) ∧ w.cell? ⟨g, 3, none⟩ = some (.bool a.2) := ⟨CBk.cell h 0, CBk.cell h 1, CBk.cell h 2, CBk.cell h 3⟩
theorem CBk.free4 {w : World} {g : Nat} {T : TypeId} {cs : Array Value} (h : CBk w g T cs) : w.frozen? ⟨g, 0, none⟩ = false ∧ w.frozen? ⟨g, 1, none⟩ = false ∧ w.frozen? ⟨g, 2, none⟩ = false ∧ w.frozen? ⟨g, 3, none⟩ = false := ⟨h.frozen 0, h.frozen 1, h.frozen 2, h.frozen 3⟩
theorem CBk.set4 {w : World} {g : Nat} {T : TypeId} {x y z u a b c d : Value} (h : CBk w g T #[x, y, z, u]) : CBk ((((w.setCell ⟨g, 0, none⟩ a).setCell ⟨g, 1, none⟩ b).setCell ⟨g, 2, none⟩ c).setCell ⟨g, 3, none⟩ d) g T #[a, b, c, d] := (((h.set 0 a).set 1 b).set 2 c).set 3 d
theorem ntne : (73 : TypeId) ≠ 71 := by decide
theorem ftne : (28 : TypeId) ≠ 71 := by decide
/-- Within the closure: its two nodes, its answer's block. -/
structure BothW (w0 w wr : World) (gp g0 : Nat) (vs : Value) (ss : List PeakV) (a b : NodeV) : Prop where
  f : PfW w0 wr gp vs ss
  a : NBk wr g0 a
  b : NBk wr (g0 + 1) b
  r : CBk wr (g0 + 1 + 1) 73 #[.string ⟨#[]⟩, .int .i64 0, .int .i64 0, .bool false]
  o : Off gp w wr
  e : g0 = w.heap.size
  g : gp < w.heap.size
theorem BothW.call {w0 w wr w' : World} {gp g0 : Nat} {vs : Value} {ss : List PeakV} {a b : NodeV} (h : BothW w0 w wr gp g0 vs ss a b) (hb : Below wr.heap.size wr w') : BothW w0 w w' gp g0 vs ss a b :=
  ⟨h.f.call hb, CBk.call h.a hb, CBk.call h.b hb, h.r.call hb, h.o.below hb, h.e, h.g⟩
theorem BothW.drew {w0 w wr : World} {gp g0 : Nat} {vs : Value} {ss : List PeakV} {a b : NodeV} (h : BothW w0 w wr gp g0 vs ss a b) : BothW w0 w wr.drew gp g0 vs ss a b := h.call (Below.refl _ _).drew
theorem BothW.enter {w0 w : World} {gp : Nat} {vs : Value} {ss : List PeakV} (h : PfW w0 w gp vs ss) (a b : NodeV) : BothW w0 w (((w.alloc (.cells #[.string a.1.sum, .int .i64 a.1.work, .int .i64 a.1.count, .bool a.2] 73)).alloc (.cells #[.string b.1.sum, .int .i64 b.1.work, .int .i64 b.1.count, .bool b.2] 73)).alloc (.cells #[.string ⟨#[]⟩, .int .i64 0, .int .i64 0, .bool false] 73)) gp w.heap.size vs ss a b := by
  have b1 : Below w.heap.size w (w.alloc (.cells #[.string a.1.sum, .int .i64 a.1.work, .int .i64 a.1.count, .bool a.2] 73)) := (Below.refl _ w).alloc (Nat.le_refl _) _
  have b2 := b1.alloc (o := .cells #[.string b.1.sum, .int .i64 b.1.work, .int .i64 b.1.count, .bool b.2] 73) b1.size
  have b3 := b2.alloc (o := .cells #[.string ⟨#[]⟩, .int .i64 0, .int .i64 0, .bool false] 73) b2.size
  refine ⟨h.call b3, ((CBk.new w _ _).alloc _).alloc _, ?_, ?_, (Off.refl gp w).below b3, rfl, h.k.lt⟩
  · have := (CBk.new (w.alloc (.cells #[.string a.1.sum, .int .i64 a.1.work, .int .i64 a.1.count, .bool a.2] 73)) 73 #[.string b.1.sum, .int .i64 b.1.work, .int .i64 b.1.count, .bool b.2]).alloc (.cells #[.string ⟨#[]⟩, .int .i64 0, .int .i64 0, .bool false] 73)
    rwa [show (w.alloc (.cells #[.string a.1.sum, .int .i64 a.1.work, .int .i64 a.1.count, .bool a.2] 73)).heap.size = w.heap.size + 1 from by simp] at this
  · have := CBk.new ((w.alloc (.cells #[.string a.1.sum, .int .i64 a.1.work, .int .i64 a.1.count, .bool a.2] 73)).alloc (.cells #[.string b.1.sum, .int .i64 b.1.work, .int .i64 b.1.count, .bool b.2] 73)) 73 #[.string ⟨#[]⟩, .int .i64 0, .int .i64 0, .bool false]
    rwa [show ((w.alloc (.cells #[.string a.1.sum, .int .i64 a.1.work, .int .i64 a.1.count, .bool a.2] 73)).alloc (.cells #[.string b.1.sum, .int .i64 b.1.work, .int .i64 b.1.count, .bool b.2] 73)).heap.size = w.heap.size + 1 + 1 from by simp] at this
/-- Behind an append to the steps, ahead of its store. -/
theorem BothW.keep4 {w0 w wr w4 : World} {gp g0 : Nat} {vs : Value} {ss : List PeakV} {a b : NodeV} (h : BothW w0 w wr gp g0 vs ss a b) (hk : ∀ c, c < wr.heap.size → vs.ownBlock ≠ some c → w4.heap[c]? = wr.heap[c]?) : CBk w4 gp 28 #[.slice none 0 0, vs] :=
  (hk gp h.f.k.lt (own_ne h.f.row h.f.k ftne)).trans h.f.k
theorem BothW.two {w0 w wr w4 : World} {gp g0 : Nat} {vs : Value} {ss : List PeakV} {a b : NodeV} (h : BothW w0 w wr gp g0 vs ss a b) (hk : ∀ c, c < wr.heap.size → vs.ownBlock ≠ some c → w4.heap[c]? = wr.heap[c]?) : w4.cell? ⟨gp, 1, none⟩ = some vs ∧ w4.frozen? ⟨gp, 1, none⟩ = false := ⟨(h.keep4 hk).cell 1, (h.keep4 hk).frozen 1⟩
theorem BothW.noted {w0 w wr w4 : World} {gp g0 g4 c4 : Nat} {vs : Value} {ss : List PeakV} {a b : NodeV} {t : PeakV} (h : BothW w0 w wr gp g0 vs ss a b) (hown : w4.ownsRow w0.heap.size 71 3 (.slice (some ⟨g4, 0, none⟩) (ss.length + 1) c4) (ss.length + 1) (ss.flatMap pEnc ++ pEnc t)) (hb : Below w0.heap.size wr w4) (hk : ∀ c, c < wr.heap.size → vs.ownBlock ≠ some c → w4.heap[c]? = wr.heap[c]?) :
    BothW w0 w (w4.setCell ⟨gp, 1, none⟩ (.slice (some ⟨g4, 0, none⟩) (ss.length + 1) c4)) gp g0 (.slice (some ⟨g4, 0, none⟩) (ss.length + 1) c4) (ss ++ [t]) a b := by
  have he := h.e
  have hg := h.g
  have hk4 := h.keep4 hk
  have hown' : w4.ownsRow w0.heap.size 71 3 (.slice (some ⟨g4, 0, none⟩) (ss.length + 1) c4) (ss ++ [t]).length ((ss ++ [t]).flatMap pEnc) := by
    rw [List.length_append, List.flatMap_append]
    simpa using hown
  have hN : ∀ c cs, CBk wr c 73 cs → CBk w4 c 73 cs := fun c cs hc => (hk c hc.lt (own_ne h.f.row hc ntne)).trans hc
  refine ⟨⟨hk4.set 1 _, own_set hown' hk4 ftne, (h.f.b.trans hb).setCell (p := ⟨gp, 1, none⟩) h.f.lo _, h.f.lo⟩, ?_, ?_, ?_, ?_, he, hg⟩
  · exact CBk.other (hN g0 _ h.a) (by omega) _
  · exact CBk.other (hN _ _ h.b) (by omega) _
  · exact CBk.other (hN _ _ h.r) (by omega) _
  · refine (h.o.trans ?_).set (.inr rfl) _
    refine ⟨hb.size, fun c hc hne hp => hk c hc (fun hv => ?_)⟩
    obtain ⟨cur, h1⟩ := own_is h.f.row hv
    exact hp _ _ h1
theorem BothW.cells {w0 w wr : World} {gp g0 : Nat} {vs : Value} {ss : List PeakV} {a b : NodeV} (h : BothW w0 w wr gp g0 vs ss a b) : (wr.cell? ⟨g0, 0, none⟩ = some (.string a.1.sum) ∧ wr.cell? ⟨g0, 1, none⟩ = some (.int .i64 a.1.work) ∧ wr.cell? ⟨g0, 2, none⟩ = some (.int .i64 a.1.count) ∧ wr.cell? ⟨g0, 3, none⟩ = some (.bool a.2)) ∧ (wr.cell? ⟨g0 + 1, 0, none⟩ = some (.string b.1.sum) ∧ wr.cell? ⟨g0 + 1, 1, none⟩ = some (.int .i64 b.1.work) ∧ wr.cell? ⟨g0 + 1, 2, none⟩ = some (.int .i64 b.1.count) ∧ wr.cell? ⟨g0 + 1, 3, none⟩ = some (.bool b.2)) := ⟨h.a.four, h.b.four⟩
theorem BothW.ans {w0 w wr : World} {gp g0 : Nat} {vs : Value} {ss : List PeakV} {a b : NodeV} (h : BothW w0 w wr gp g0 vs ss a b) : (wr.cell? ⟨g0 + 1 + 1, 0, none⟩ = some (.string ⟨#[]⟩) ∧ wr.cell? ⟨g0 + 1 + 1, 1, none⟩ = some (.int .i64 0) ∧ wr.cell? ⟨g0 + 1 + 1, 2, none⟩ = some (.int .i64 0) ∧ wr.cell? ⟨g0 + 1 + 1, 3, none⟩ = some (.bool false)) ∧ (wr.frozen? ⟨g0 + 1 + 1, 0, none⟩ = false ∧ wr.frozen? ⟨g0 + 1 + 1, 1, none⟩ = false ∧ wr.frozen? ⟨g0 + 1 + 1, 2, none⟩ = false ∧ wr.frozen? ⟨g0 + 1 + 1, 3, none⟩ = false) := ⟨⟨h.r.cell 0, h.r.cell 1, h.r.cell 2, h.r.cell 3⟩, h.r.free4⟩
theorem BothW.cellsFin {w0 w wr : World} {gp g0 : Nat} {vs : Value} {ss : List PeakV} {a b : NodeV} (h : BothW w0 w wr gp g0 vs ss a b) (p q r s : Value) : (((((wr.setCell ⟨g0 + 1 + 1, 0, none⟩ p).setCell ⟨g0 + 1 + 1, 1, none⟩ q).setCell ⟨g0 + 1 + 1, 2, none⟩ r).setCell ⟨g0 + 1 + 1, 3, none⟩ s).cell? ⟨g0, 0, none⟩ = some (.string a.1.sum) ∧ ((((wr.setCell ⟨g0 + 1 + 1, 0, none⟩ p).setCell ⟨g0 + 1 + 1, 1, none⟩ q).setCell ⟨g0 + 1 + 1, 2, none⟩ r).setCell ⟨g0 + 1 + 1, 3, none⟩ s).cell? ⟨g0, 1, none⟩ = some (.int .i64 a.1.work) ∧ ((((wr.setCell ⟨g0 + 1 + 1, 0, none⟩ p).setCell ⟨g0 + 1 + 1, 1, none⟩ q).setCell ⟨g0 + 1 + 1, 2, none⟩ r).setCell ⟨g0 + 1 + 1, 3, none⟩ s).cell? ⟨g0, 2, none⟩ = some (.int .i64 a.1.count) ∧ ((((wr.setCell ⟨g0 + 1 + 1, 0, none⟩ p).setCell ⟨g0 + 1 + 1, 1, none⟩ q).setCell ⟨g0 + 1 + 1, 2, none⟩ r).setCell ⟨g0 + 1 + 1, 3, none⟩ s).cell? ⟨g0, 3, none⟩ = some (.bool a.2)) ∧ (((((wr.setCell ⟨g0 + 1 + 1, 0, none⟩ p).setCell ⟨g0 + 1 + 1, 1, none⟩ q).setCell ⟨g0 + 1 + 1, 2, none⟩ r).setCell ⟨g0 + 1 + 1, 3, none⟩ s).cell? ⟨g0 + 1, 0, none⟩ = some (.string b.1.sum) ∧ ((((wr.setCell ⟨g0 + 1 + 1, 0, none⟩ p).setCell ⟨g0 + 1 + 1, 1, none⟩ q).setCell ⟨g0 + 1 + 1, 2, none⟩ r).setCell ⟨g0 + 1 + 1, 3, none⟩ s).cell? ⟨g0 + 1, 1, none⟩ = some (.int .i64 b.1.work) ∧ ((((wr.setCell ⟨g0 + 1 + 1, 0, none⟩ p).setCell ⟨g0 + 1 + 1, 1, none⟩ q).setCell ⟨g0 + 1 + 1, 2, none⟩ r).setCell ⟨g0 + 1 + 1, 3, none⟩ s).cell? ⟨g0 + 1, 2, none⟩ = some (.int .i64 b.1.count) ∧ ((((wr.setCell ⟨g0 + 1 + 1, 0, none⟩ p).setCell ⟨g0 + 1 + 1, 1, none⟩ q).setCell ⟨g0 + 1 + 1, 2, none⟩ r).setCell ⟨g0 + 1 + 1, 3, none⟩ s).cell? ⟨g0 + 1, 3, none⟩ = some (.bool b.2)) :=
  ⟨NBk.four ((((CBk.other h.a (by omega) p).other (by omega) q).other (by omega) r).other (by omega) s), NBk.four ((((CBk.other h.b (by omega) p).other (by omega) q).other (by omega) r).other (by omega) s)⟩
def BothRes (w0 w : World) (gp : Nat) (ss : List PeakV) (a b : NodeV) (e : Ending) (w' : World) : Prop := e = .returned (nodeVal (bothN a b)) ∧ Pf w0 w' gp (ss ++ noteN a b) ∧ Off gp w w'
/-- Behind the store of the answer. -/
theorem BothW.fin {w0 w wr : World} {gp g0 : Nat} {vs : Value} {ss : List PeakV} {a b : NodeV} (h : BothW w0 w wr gp g0 vs ss a b) (p q r s : Value) : Pf w0 ((((wr.setCell ⟨g0 + 1 + 1, 0, none⟩ p).setCell ⟨g0 + 1 + 1, 1, none⟩ q).setCell ⟨g0 + 1 + 1, 2, none⟩ r).setCell ⟨g0 + 1 + 1, 3, none⟩ s) gp ss ∧ Off gp w ((((wr.setCell ⟨g0 + 1 + 1, 0, none⟩ p).setCell ⟨g0 + 1 + 1, 1, none⟩ q).setCell ⟨g0 + 1 + 1, 2, none⟩ r).setCell ⟨g0 + 1 + 1, 3, none⟩ s) ∧ CBk ((((wr.setCell ⟨g0 + 1 + 1, 0, none⟩ p).setCell ⟨g0 + 1 + 1, 1, none⟩ q).setCell ⟨g0 + 1 + 1, 2, none⟩ r).setCell ⟨g0 + 1 + 1, 3, none⟩ s) (g0 + 1 + 1) 73 #[p, q, r, s] := by
  have he := h.e
  have hg := h.g
  have hlo := h.f.lo
  have hr1 := h.r.set 0 p
  have hr2 := hr1.set 1 q
  have hr3 := hr2.set 2 r
  refine ⟨⟨vs, (((h.f.store h.r ntne (by omega) (by omega) p).store hr1 ntne (by omega) (by omega) q).store hr2 ntne (by omega) (by omega) r).store hr3 ntne (by omega) (by omega) s⟩, (((h.o.set (.inl (by omega)) p).set (.inl (by omega)) q).set (.inl (by omega)) r).set (.inl (by omega)) s, h.r.set4⟩

set_option maxHeartbeats 4000000 in
set_option maxRecDepth 100000 in
theorem implNodeBothFF (w0 w : World) (gp : Nat) (ss : List PeakV) (x y : PeakV) (hs : Pf w0 w gp ss) (hm : ss.length ≤ 1048576) (hx : peakOkB x = true) (hy : peakOkB y = true) (hK : RowG w0 shaK) (hP : TabP w0) :
    Calls Tryz.prog 48 #[nodeVal (x, false), nodeVal (y, false), .pointer (some ⟨gp, 0, none⟩)] w fun e w' => BothRes w0 w gp ss (x, false) (y, false) e w' := by
  obtain ⟨v0, h0⟩ := hs
  obtain ⟨i0, hi, hz0, hz1, hz2⟩ := info3 infoPeak
  have Hss : Hid (ss.length ≤ 1048576) := hm
  have HBO : Hid (∀ w', Below w0.heap.size w0 w' → Calls Tryz.prog 49 #[.agg #[.string x.sum, .int .i64 x.work, .int .i64 x.count], .agg #[.string y.sum, .int .i64 y.work, .int .i64 y.count]] w' fun e w'' => e = .returned (.agg #[.string (bothP x y).sum, .int .i64 (bothP x y).work, .int .i64 (bothP x y).count]) ∧ Below w'.heap.size w' w'') := fun w' hb => implPeakBoth x y w' hx hy (hK.below hb hK.lt) (TabP.below hP hb (Nat.le_refl _))
  have HQ : Hid (∀ (w' : World) (s' : List PeakV), s' = ss ++ noteN (x, false) (y, false) → Pf w0 w' gp s' ∧ Off gp w w' → BothRes w0 w gp ss (x, false) (y, false) (.returned (.agg #[.string (bothP x y).sum, .int .i64 (bothP x y).work, .int .i64 (bothP x y).count, .bool false])) w') := fun w' s' he h => ⟨rfl, he ▸ h.1, h.2⟩
  generalize BothRes w0 w gp ss (x, false) (y, false) = Q at HQ ⊢
  have B0 : Hid _ := BothW.enter h0 (x, false) (y, false)
  unfold nodeVal
  dsimp only at B0 ⊢
  clear h0 hm hx hy hK hP
  go_enter Tryz.func48, Tryz.ntmps48
  go_upto_region 1 with fail
  generalize ((w.alloc (.cells #[.string x.sum, .int .i64 x.work, .int .i64 x.count, .bool false] 73)).alloc (.cells #[.string y.sum, .int .i64 y.work, .int .i64 y.count, .bool false] 73)).alloc (.cells #[.string ⟨#[]⟩, .int .i64 0, .int .i64 0, .bool false] 73) = W0 at B0 ⊢
  obtain ⟨g0, hg0⟩ : ∃ g0, g0 = w.heap.size := ⟨_, rfl⟩
  rw [← hg0] at B0 ⊢
  clear hg0
  obtain ⟨⟨a0, a1, a2, a3⟩, b0, b1, b2, b3⟩ := B0.out.cells
  go_upto_region 3 with fail
  clear a0 a1 a2 a3 b0 b1 b2 b3
  obtain ⟨⟨a0, a1, a2, a3⟩, b0, b1, b2, b3⟩ := B0.out.cells
  go_upto_region 5 with fail
  clear a0 a1 a2 a3 b0 b1 b2 b3
  have HSF : Hid (ss = ss ++ noteN (x, false) (y, false)) := by show _ = _; simp [noteN]
  have B5 : Hid (BothW w0 w W0.drew gp g0 v0 ss _ _) := B0.out.drew
  have HB5 : Hid (Below w0.heap.size w0 W0.drew) := B5.out.f.b
  refine wp_region_noPanic ?_
  refine wp_region_held_drew (S := fun w' => (w'.cell? ⟨g0, 0, none⟩ = some (.string x.sum) ∧ w'.cell? ⟨g0, 1, none⟩ = some (.int .i64 x.work) ∧ w'.cell? ⟨g0, 2, none⟩ = some (.int .i64 x.count) ∧ w'.cell? ⟨g0, 3, none⟩ = some (.bool false)) ∧ (w'.cell? ⟨g0 + 1, 0, none⟩ = some (.string y.sum) ∧ w'.cell? ⟨g0 + 1, 1, none⟩ = some (.int .i64 y.work) ∧ w'.cell? ⟨g0 + 1, 2, none⟩ = some (.int .i64 y.count) ∧ w'.cell? ⟨g0 + 1, 3, none⟩ = some (.bool false))) (by kernel_rfl) (B5.out.cells) (fun hHeld => ?_)
  refine takeL 0 (v := ?_) rfl (by kernel_rfl) (by kernel_rfl) (by kernel_rfl) (fun _ _ _ h => h) (by kernel_rfl) ?_ (by assumption) ?_
  rotate_left
  · intro w hSw; (try dsimp only at hSw); first | (go_simp; done) | (go_simp; with_reducible rfl)
  try simp only [Act.put, List.setIfInBounds_toArray, List.set_cons_zero, List.set_cons_succ]
  refine takeL 1 (v := ?_) rfl (by kernel_rfl) (by kernel_rfl) (by kernel_rfl) (fun _ _ _ h => h) (by kernel_rfl) ?_ (by assumption) ?_
  rotate_left
  · intro w hSw; (try dsimp only at hSw); first | (go_simp; done) | (go_simp; with_reducible rfl)
  try simp only [Act.put, List.setIfInBounds_toArray, List.set_cons_zero, List.set_cons_succ]
  refine takeL 2 (v := ?_) rfl (by kernel_rfl) (by kernel_rfl) (by kernel_rfl) (fun _ _ _ h => h) (by kernel_rfl) ?_ (by assumption) ?_
  rotate_left
  · intro w hSw; (try dsimp only at hSw); first | (go_simp; done) | (go_simp; with_reducible rfl)
  try simp only [Act.put, List.setIfInBounds_toArray, List.set_cons_zero, List.set_cons_succ]
  refine takeL 3 (v := ?_) rfl (by kernel_rfl) (by kernel_rfl) (by kernel_rfl) (fun _ _ _ h => h) (by kernel_rfl) ?_ (by assumption) ?_
  rotate_left
  · intro w hSw; (try dsimp only at hSw); first | (go_simp; done) | (go_simp; with_reducible rfl)
  try simp only [Act.put, List.setIfInBounds_toArray, List.set_cons_zero, List.set_cons_succ]
  refine takeL 5 (v := ?_) rfl (by kernel_rfl) (by kernel_rfl) (by kernel_rfl) (fun _ _ _ h => h) (by kernel_rfl) ?_ (by assumption) ?_
  rotate_left
  · intro w hSw; (try dsimp only at hSw); first | (go_simp; done) | (go_simp; with_reducible rfl)
  try simp only [Act.put, List.setIfInBounds_toArray, List.set_cons_zero, List.set_cons_succ]
  refine takeL 6 (v := ?_) rfl (by kernel_rfl) (by kernel_rfl) (by kernel_rfl) (fun _ _ _ h => h) (by kernel_rfl) ?_ (by assumption) ?_
  rotate_left
  · intro w hSw; (try dsimp only at hSw); first | (go_simp; done) | (go_simp; with_reducible rfl)
  try simp only [Act.put, List.setIfInBounds_toArray, List.set_cons_zero, List.set_cons_succ]
  refine callL 4 rfl (by kernel_rfl) (fun K hK => ?_)
  go_simp
  refine (HBO.out _ HB5.out).mono ?_
  rintro e w6 ⟨rfl, b6⟩
  have B6 : Hid (BothW w0 w w6 gp g0 v0 ss _ _) := B5.out.call b6
  obtain ⟨⟨r0, r1, r2, r3⟩, s0, s1, s2, s3⟩ := B6.out.ans
  clear b6
  generalize bothP x y = nq at HQ ⊢
  go_wp2_with fail
  refine hK.out _ _ ?_ (fun hHeld => ?_)
  · first | exact B6.out.cells | exact B6.out.cellsFin _ _ _ _
  clear hK K
  try simp only [Act.put, List.setIfInBounds_toArray, List.set_cons_zero, List.set_cons_succ]
  refine takeL 7 (v := ?_) rfl (by kernel_rfl) (by kernel_rfl) (by kernel_rfl) (fun _ _ _ h => h) (by kernel_rfl) ?_ (by assumption) ?_
  rotate_left
  · intro w hSw; (try dsimp only at hSw); first | (go_simp; done) | (go_simp; with_reducible rfl)
  try simp only [Act.put, List.setIfInBounds_toArray, List.set_cons_zero, List.set_cons_succ]
  refine takeL 8 (v := ?_) rfl (by kernel_rfl) (by kernel_rfl) (by kernel_rfl) (fun _ _ _ h => h) (by kernel_rfl) ?_ (by assumption) ?_
  rotate_left
  · intro w hSw; (try dsimp only at hSw); first | (go_simp; done) | (go_simp; with_reducible rfl)
  try simp only [Act.put, List.setIfInBounds_toArray, List.set_cons_zero, List.set_cons_succ]
  refine takeL 9 (v := ?_) rfl (by kernel_rfl) (by kernel_rfl) (by kernel_rfl) (fun _ _ _ h => h) (by kernel_rfl) ?_ (by assumption) ?_
  rotate_left
  · intro w hSw; (try dsimp only at hSw); first | (go_simp; done) | (go_simp; with_reducible rfl)
  try simp only [Act.put, List.setIfInBounds_toArray, List.set_cons_zero, List.set_cons_succ]
  refine takeL 10 (v := ?_) rfl (by kernel_rfl) (by kernel_rfl) (by kernel_rfl) (fun _ _ _ h => h) (by kernel_rfl) ?_ (by assumption) ?_
  rotate_left
  · intro w hSw; (try dsimp only at hSw); first | (go_simp; done) | (go_simp; with_reducible rfl)
  try simp only [Act.put, List.setIfInBounds_toArray, List.set_cons_zero, List.set_cons_succ]
  refine takeL 11 (v := ?_) rfl (by kernel_rfl) (by kernel_rfl) (by kernel_rfl) (fun _ _ _ h => h) (by kernel_rfl) ?_ (by assumption) ?_
  rotate_left
  · intro w hSw; (try dsimp only at hSw); first | (go_simp; done) | (go_simp; with_reducible rfl)
  try simp only [Act.put, List.setIfInBounds_toArray, List.set_cons_zero, List.set_cons_succ]
  refine callL 12 rfl (by kernel_rfl) (fun K hK => ?_)
  go_simp
  refine hK.out _ _ ?_ (fun hHeld => ?_)
  · first | exact B6.out.cells | exact B6.out.cellsFin _ _ _ _
  clear hK K
  try simp only [Act.put, List.setIfInBounds_toArray, List.set_cons_zero, List.set_cons_succ]
  refine wpAnyH_done (by kernel_rfl) ?_ _
  refine NoPanic.normal ?_
  have B7 := B6.out.fin (.string nq.sum) (.int .i64 nq.work) (.int .i64 nq.count) (.bool false)
  have T7 : Hid _ := B7.2.2
  have P7 : Hid _ := HQ.out _ _ HSF.out ⟨B7.1, B7.2.1⟩
  clear B7
  go_wp2_with fail
  exact bodyPost_ret (results_cell_row (p := 5) rfl _ _ (g0 + 1 + 1) 73 #[.string nq.sum, .int .i64 nq.work, .int .i64 nq.count, .bool false] (0, 0) _ rfl T7.out Tryz.underlying73 rfl (by kernel_rfl)) rfl P7.out

set_option maxHeartbeats 4000000 in
set_option maxRecDepth 100000 in
theorem implNodeBothFT (w0 w : World) (gp : Nat) (ss : List PeakV) (x y : PeakV) (hs : Pf w0 w gp ss) (hm : ss.length ≤ 1048576) (hx : peakOkB x = true) (hy : peakOkB y = true) (hK : RowG w0 shaK) (hP : TabP w0) :
    Calls Tryz.prog 48 #[nodeVal (x, false), nodeVal (y, true), .pointer (some ⟨gp, 0, none⟩)] w fun e w' => BothRes w0 w gp ss (x, false) (y, true) e w' := by
  obtain ⟨v0, h0⟩ := hs
  obtain ⟨i0, hi, hz0, hz1, hz2⟩ := info3 infoPeak
  have Hss : Hid (ss.length ≤ 1048576) := hm
  have HBO : Hid (∀ w', Below w0.heap.size w0 w' → Calls Tryz.prog 49 #[.agg #[.string x.sum, .int .i64 x.work, .int .i64 x.count], .agg #[.string y.sum, .int .i64 y.work, .int .i64 y.count]] w' fun e w'' => e = .returned (.agg #[.string (bothP x y).sum, .int .i64 (bothP x y).work, .int .i64 (bothP x y).count]) ∧ Below w'.heap.size w' w'') := fun w' hb => implPeakBoth x y w' hx hy (hK.below hb hK.lt) (TabP.below hP hb (Nat.le_refl _))
  have HQ : Hid (∀ (w' : World) (s' : List PeakV), s' = ss ++ noteN (x, false) (y, true) → Pf w0 w' gp s' ∧ Off gp w w' → BothRes w0 w gp ss (x, false) (y, true) (.returned (.agg #[.string (bothP x y).sum, .int .i64 (bothP x y).work, .int .i64 (bothP x y).count, .bool true])) w') := fun w' s' he h => ⟨rfl, he ▸ h.1, h.2⟩
  generalize BothRes w0 w gp ss (x, false) (y, true) = Q at HQ ⊢
  have B0 : Hid _ := BothW.enter h0 (x, false) (y, true)
  unfold nodeVal
  dsimp only at B0 ⊢
  clear h0 hm hx hy hK hP
  go_enter Tryz.func48, Tryz.ntmps48
  go_upto_region 1 with fail
  generalize ((w.alloc (.cells #[.string x.sum, .int .i64 x.work, .int .i64 x.count, .bool false] 73)).alloc (.cells #[.string y.sum, .int .i64 y.work, .int .i64 y.count, .bool true] 73)).alloc (.cells #[.string ⟨#[]⟩, .int .i64 0, .int .i64 0, .bool false] 73) = W0 at B0 ⊢
  obtain ⟨g0, hg0⟩ : ∃ g0, g0 = w.heap.size := ⟨_, rfl⟩
  rw [← hg0] at B0 ⊢
  clear hg0
  obtain ⟨⟨a0, a1, a2, a3⟩, b0, b1, b2, b3⟩ := B0.out.cells
  go_upto_region 3 with fail
  clear a0 a1 a2 a3 b0 b1 b2 b3
  obtain ⟨⟨a0, a1, a2, a3⟩, b0, b1, b2, b3⟩ := B0.out.cells
  go_upto_region 4 with fail
  clear a0 a1 a2 a3 b0 b1 b2 b3
  have hx1 : ss.length + 1 ≤ maxLen := by have := Hss.out; unfold maxLen; omega
  have hx2 : (ss.length + 1) * 32 ≤ 140737488355328 := by have := Hss.out; omega
  have hu := pEnc_one x
  have hsz := B0.out.f.b.size
  have HRW : Hid (W0.ownsRow w0.heap.size 71 3 v0 ss.length (ss.flatMap pEnc)) := B0.out.f.row
  have HTW : Hid (∀ w4 : World, (∀ c, c < W0.heap.size → v0.ownBlock ≠ some c → w4.heap[c]? = W0.heap[c]?) → w4.cell? ⟨gp, 1, none⟩ = some v0 ∧ w4.frozen? ⟨gp, 1, none⟩ = false) := fun w4 h => B0.out.two h
  obtain ⟨⟨a0, a1, a2, a3⟩, b0, b1, b2, b3⟩ := B0.out.cells
  have p1 : W0.cell? ⟨gp, 1, none⟩ = some v0 := B0.out.f.k.cell 1
  go_upto_region 5 with (at_builtin; refine wp_appN rfl _ _ 26 rfl w0.heap.size 71 i0 (.agg #[.string ⟨#[]⟩, .int .i64 0, .int .i64 0]) 3 32 1 Tryz.underlying26 hi hz0 hz1 hz2 rfl (by decide) (by decide) _ _ _ rfl HRW.out (pEnc x) (by first | rfl | simp [Act.eval]) rfl hu hx1 hx2 hsz ?_; intro g2 c2 w2 hown2 hb2 hkeep2; obtain ⟨q2, z2⟩ := HTW.out _ hkeep2)
  have B2 : Hid (BothW w0 w _ gp g0 _ (ss ++ [x]) _ _) := B0.out.noted hown2 hb2 hkeep2
  clear a0 a1 a2 a3 b0 b1 b2 b3 p1 hx1 hx2 hu hsz HRW HTW q2 z2 hown2 hb2 hkeep2 B0
  generalize (.slice (some ⟨g2, 0, none⟩) (ss.length + 1) c2 : Value) = v2 at B2 ⊢
  generalize w2.setCell ⟨gp, 1, none⟩ v2 = W2 at B2 ⊢
  clear w2
  obtain ⟨s2, hs2⟩ : ∃ s2, s2 = ss ++ [x] := ⟨_, rfl⟩
  have Hs2 : Hid (s2.length ≤ 1048578) := by show _ ≤ _; have := Hss.out; rw [hs2, List.length_append, List.length_singleton]; omega
  have HE2 : Hid (s2 = ss ++ [x]) := hs2
  rw [← hs2] at B2
  clear hs2
  have HSF : Hid (s2 = ss ++ noteN (x, false) (y, true)) := by show _ = _; rw [HE2.out]; simp [noteN]
  have B5 : Hid (BothW w0 w W2.drew gp g0 v2 s2 _ _) := B2.out.drew
  have HB5 : Hid (Below w0.heap.size w0 W2.drew) := B5.out.f.b
  refine wp_region_noPanic ?_
  refine wp_region_held_drew (S := fun w' => (w'.cell? ⟨g0, 0, none⟩ = some (.string x.sum) ∧ w'.cell? ⟨g0, 1, none⟩ = some (.int .i64 x.work) ∧ w'.cell? ⟨g0, 2, none⟩ = some (.int .i64 x.count) ∧ w'.cell? ⟨g0, 3, none⟩ = some (.bool false)) ∧ (w'.cell? ⟨g0 + 1, 0, none⟩ = some (.string y.sum) ∧ w'.cell? ⟨g0 + 1, 1, none⟩ = some (.int .i64 y.work) ∧ w'.cell? ⟨g0 + 1, 2, none⟩ = some (.int .i64 y.count) ∧ w'.cell? ⟨g0 + 1, 3, none⟩ = some (.bool true))) (by kernel_rfl) (B5.out.cells) (fun hHeld => ?_)
  refine takeL 0 (v := ?_) rfl (by kernel_rfl) (by kernel_rfl) (by kernel_rfl) (fun _ _ _ h => h) (by kernel_rfl) ?_ (by assumption) ?_
  rotate_left
  · intro w hSw; (try dsimp only at hSw); first | (go_simp; done) | (go_simp; with_reducible rfl)
  try simp only [Act.put, List.setIfInBounds_toArray, List.set_cons_zero, List.set_cons_succ]
  refine takeL 1 (v := ?_) rfl (by kernel_rfl) (by kernel_rfl) (by kernel_rfl) (fun _ _ _ h => h) (by kernel_rfl) ?_ (by assumption) ?_
  rotate_left
  · intro w hSw; (try dsimp only at hSw); first | (go_simp; done) | (go_simp; with_reducible rfl)
  try simp only [Act.put, List.setIfInBounds_toArray, List.set_cons_zero, List.set_cons_succ]
  refine takeL 2 (v := ?_) rfl (by kernel_rfl) (by kernel_rfl) (by kernel_rfl) (fun _ _ _ h => h) (by kernel_rfl) ?_ (by assumption) ?_
  rotate_left
  · intro w hSw; (try dsimp only at hSw); first | (go_simp; done) | (go_simp; with_reducible rfl)
  try simp only [Act.put, List.setIfInBounds_toArray, List.set_cons_zero, List.set_cons_succ]
  refine takeL 3 (v := ?_) rfl (by kernel_rfl) (by kernel_rfl) (by kernel_rfl) (fun _ _ _ h => h) (by kernel_rfl) ?_ (by assumption) ?_
  rotate_left
  · intro w hSw; (try dsimp only at hSw); first | (go_simp; done) | (go_simp; with_reducible rfl)
  try simp only [Act.put, List.setIfInBounds_toArray, List.set_cons_zero, List.set_cons_succ]
  refine takeL 5 (v := ?_) rfl (by kernel_rfl) (by kernel_rfl) (by kernel_rfl) (fun _ _ _ h => h) (by kernel_rfl) ?_ (by assumption) ?_
  rotate_left
  · intro w hSw; (try dsimp only at hSw); first | (go_simp; done) | (go_simp; with_reducible rfl)
  try simp only [Act.put, List.setIfInBounds_toArray, List.set_cons_zero, List.set_cons_succ]
  refine takeL 6 (v := ?_) rfl (by kernel_rfl) (by kernel_rfl) (by kernel_rfl) (fun _ _ _ h => h) (by kernel_rfl) ?_ (by assumption) ?_
  rotate_left
  · intro w hSw; (try dsimp only at hSw); first | (go_simp; done) | (go_simp; with_reducible rfl)
  try simp only [Act.put, List.setIfInBounds_toArray, List.set_cons_zero, List.set_cons_succ]
  refine callL 4 rfl (by kernel_rfl) (fun K hK => ?_)
  go_simp
  refine (HBO.out _ HB5.out).mono ?_
  rintro e w6 ⟨rfl, b6⟩
  have B6 : Hid (BothW w0 w w6 gp g0 v2 s2 _ _) := B5.out.call b6
  obtain ⟨⟨r0, r1, r2, r3⟩, s0, s1, s2, s3⟩ := B6.out.ans
  clear b6
  generalize bothP x y = nq at HQ ⊢
  go_wp2_with fail
  refine hK.out _ _ ?_ (fun hHeld => ?_)
  · first | exact B6.out.cells | exact B6.out.cellsFin _ _ _ _
  clear hK K
  try simp only [Act.put, List.setIfInBounds_toArray, List.set_cons_zero, List.set_cons_succ]
  refine takeL 7 (v := ?_) rfl (by kernel_rfl) (by kernel_rfl) (by kernel_rfl) (fun _ _ _ h => h) (by kernel_rfl) ?_ (by assumption) ?_
  rotate_left
  · intro w hSw; (try dsimp only at hSw); first | (go_simp; done) | (go_simp; with_reducible rfl)
  try simp only [Act.put, List.setIfInBounds_toArray, List.set_cons_zero, List.set_cons_succ]
  refine takeL 8 (v := ?_) rfl (by kernel_rfl) (by kernel_rfl) (by kernel_rfl) (fun _ _ _ h => h) (by kernel_rfl) ?_ (by assumption) ?_
  rotate_left
  · intro w hSw; (try dsimp only at hSw); first | (go_simp; done) | (go_simp; with_reducible rfl)
  try simp only [Act.put, List.setIfInBounds_toArray, List.set_cons_zero, List.set_cons_succ]
  refine takeL 9 (v := ?_) rfl (by kernel_rfl) (by kernel_rfl) (by kernel_rfl) (fun _ _ _ h => h) (by kernel_rfl) ?_ (by assumption) ?_
  rotate_left
  · intro w hSw; (try dsimp only at hSw); first | (go_simp; done) | (go_simp; with_reducible rfl)
  try simp only [Act.put, List.setIfInBounds_toArray, List.set_cons_zero, List.set_cons_succ]
  refine takeL 10 (v := ?_) rfl (by kernel_rfl) (by kernel_rfl) (by kernel_rfl) (fun _ _ _ h => h) (by kernel_rfl) ?_ (by assumption) ?_
  rotate_left
  · intro w hSw; (try dsimp only at hSw); first | (go_simp; done) | (go_simp; with_reducible rfl)
  try simp only [Act.put, List.setIfInBounds_toArray, List.set_cons_zero, List.set_cons_succ]
  refine takeL 11 (v := ?_) rfl (by kernel_rfl) (by kernel_rfl) (by kernel_rfl) (fun _ _ _ h => h) (by kernel_rfl) ?_ (by assumption) ?_
  rotate_left
  · intro w hSw; (try dsimp only at hSw); first | (go_simp; done) | (go_simp; with_reducible rfl)
  try simp only [Act.put, List.setIfInBounds_toArray, List.set_cons_zero, List.set_cons_succ]
  refine callL 12 rfl (by kernel_rfl) (fun K hK => ?_)
  go_simp
  refine hK.out _ _ ?_ (fun hHeld => ?_)
  · first | exact B6.out.cells | exact B6.out.cellsFin _ _ _ _
  clear hK K
  try simp only [Act.put, List.setIfInBounds_toArray, List.set_cons_zero, List.set_cons_succ]
  refine wpAnyH_done (by kernel_rfl) ?_ _
  refine NoPanic.normal ?_
  have B7 := B6.out.fin (.string nq.sum) (.int .i64 nq.work) (.int .i64 nq.count) (.bool true)
  have T7 : Hid _ := B7.2.2
  have P7 : Hid _ := HQ.out _ _ HSF.out ⟨B7.1, B7.2.1⟩
  clear B7
  go_wp2_with fail
  exact bodyPost_ret (results_cell_row (p := 5) rfl _ _ (g0 + 1 + 1) 73 #[.string nq.sum, .int .i64 nq.work, .int .i64 nq.count, .bool true] (0, 0) _ rfl T7.out Tryz.underlying73 rfl (by kernel_rfl)) rfl P7.out

set_option maxHeartbeats 4000000 in
set_option maxRecDepth 100000 in
theorem implNodeBothTF (w0 w : World) (gp : Nat) (ss : List PeakV) (x y : PeakV) (hs : Pf w0 w gp ss) (hm : ss.length ≤ 1048576) (hx : peakOkB x = true) (hy : peakOkB y = true) (hK : RowG w0 shaK) (hP : TabP w0) :
    Calls Tryz.prog 48 #[nodeVal (x, true), nodeVal (y, false), .pointer (some ⟨gp, 0, none⟩)] w fun e w' => BothRes w0 w gp ss (x, true) (y, false) e w' := by
  obtain ⟨v0, h0⟩ := hs
  obtain ⟨i0, hi, hz0, hz1, hz2⟩ := info3 infoPeak
  have Hss : Hid (ss.length ≤ 1048576) := hm
  have HBO : Hid (∀ w', Below w0.heap.size w0 w' → Calls Tryz.prog 49 #[.agg #[.string x.sum, .int .i64 x.work, .int .i64 x.count], .agg #[.string y.sum, .int .i64 y.work, .int .i64 y.count]] w' fun e w'' => e = .returned (.agg #[.string (bothP x y).sum, .int .i64 (bothP x y).work, .int .i64 (bothP x y).count]) ∧ Below w'.heap.size w' w'') := fun w' hb => implPeakBoth x y w' hx hy (hK.below hb hK.lt) (TabP.below hP hb (Nat.le_refl _))
  have HQ : Hid (∀ (w' : World) (s' : List PeakV), s' = ss ++ noteN (x, true) (y, false) → Pf w0 w' gp s' ∧ Off gp w w' → BothRes w0 w gp ss (x, true) (y, false) (.returned (.agg #[.string (bothP x y).sum, .int .i64 (bothP x y).work, .int .i64 (bothP x y).count, .bool true])) w') := fun w' s' he h => ⟨rfl, he ▸ h.1, h.2⟩
  generalize BothRes w0 w gp ss (x, true) (y, false) = Q at HQ ⊢
  have B0 : Hid _ := BothW.enter h0 (x, true) (y, false)
  unfold nodeVal
  dsimp only at B0 ⊢
  clear h0 hm hx hy hK hP
  go_enter Tryz.func48, Tryz.ntmps48
  go_upto_region 1 with fail
  generalize ((w.alloc (.cells #[.string x.sum, .int .i64 x.work, .int .i64 x.count, .bool true] 73)).alloc (.cells #[.string y.sum, .int .i64 y.work, .int .i64 y.count, .bool false] 73)).alloc (.cells #[.string ⟨#[]⟩, .int .i64 0, .int .i64 0, .bool false] 73) = W0 at B0 ⊢
  obtain ⟨g0, hg0⟩ : ∃ g0, g0 = w.heap.size := ⟨_, rfl⟩
  rw [← hg0] at B0 ⊢
  clear hg0
  obtain ⟨⟨a0, a1, a2, a3⟩, b0, b1, b2, b3⟩ := B0.out.cells
  go_upto_region 2 with fail
  clear a0 a1 a2 a3 b0 b1 b2 b3
  have hx1 : ss.length + 1 ≤ maxLen := by have := Hss.out; unfold maxLen; omega
  have hx2 : (ss.length + 1) * 32 ≤ 140737488355328 := by have := Hss.out; omega
  have hu := pEnc_one y
  have hsz := B0.out.f.b.size
  have HRW : Hid (W0.ownsRow w0.heap.size 71 3 v0 ss.length (ss.flatMap pEnc)) := B0.out.f.row
  have HTW : Hid (∀ w4 : World, (∀ c, c < W0.heap.size → v0.ownBlock ≠ some c → w4.heap[c]? = W0.heap[c]?) → w4.cell? ⟨gp, 1, none⟩ = some v0 ∧ w4.frozen? ⟨gp, 1, none⟩ = false) := fun w4 h => B0.out.two h
  obtain ⟨⟨a0, a1, a2, a3⟩, b0, b1, b2, b3⟩ := B0.out.cells
  have p1 : W0.cell? ⟨gp, 1, none⟩ = some v0 := B0.out.f.k.cell 1
  go_upto_region 3 with (at_builtin; refine wp_appN rfl _ _ 26 rfl w0.heap.size 71 i0 (.agg #[.string ⟨#[]⟩, .int .i64 0, .int .i64 0]) 3 32 1 Tryz.underlying26 hi hz0 hz1 hz2 rfl (by decide) (by decide) _ _ _ rfl HRW.out (pEnc y) (by first | rfl | simp [Act.eval]) rfl hu hx1 hx2 hsz ?_; intro g1 c1 w1 hown1 hb1 hkeep1; obtain ⟨q1, z1⟩ := HTW.out _ hkeep1)
  have B1 : Hid (BothW w0 w _ gp g0 _ (ss ++ [y]) _ _) := B0.out.noted hown1 hb1 hkeep1
  clear a0 a1 a2 a3 b0 b1 b2 b3 p1 hx1 hx2 hu hsz HRW HTW q1 z1 hown1 hb1 hkeep1 B0
  generalize (.slice (some ⟨g1, 0, none⟩) (ss.length + 1) c1 : Value) = v1 at B1 ⊢
  generalize w1.setCell ⟨gp, 1, none⟩ v1 = W1 at B1 ⊢
  clear w1
  obtain ⟨s1, hs1⟩ : ∃ s1, s1 = ss ++ [y] := ⟨_, rfl⟩
  have Hs1 : Hid (s1.length ≤ 1048577) := by show _ ≤ _; have := Hss.out; rw [hs1, List.length_append, List.length_singleton]; omega
  have HE1 : Hid (s1 = ss ++ [y]) := hs1
  rw [← hs1] at B1
  clear hs1
  obtain ⟨⟨a0, a1, a2, a3⟩, b0, b1, b2, b3⟩ := B1.out.cells
  go_upto_region 5 with fail
  clear a0 a1 a2 a3 b0 b1 b2 b3
  have HSF : Hid (s1 = ss ++ noteN (x, true) (y, false)) := by show _ = _; rw [HE1.out]; simp [noteN]
  have B5 : Hid (BothW w0 w W1.drew gp g0 v1 s1 _ _) := B1.out.drew
  have HB5 : Hid (Below w0.heap.size w0 W1.drew) := B5.out.f.b
  refine wp_region_noPanic ?_
  refine wp_region_held_drew (S := fun w' => (w'.cell? ⟨g0, 0, none⟩ = some (.string x.sum) ∧ w'.cell? ⟨g0, 1, none⟩ = some (.int .i64 x.work) ∧ w'.cell? ⟨g0, 2, none⟩ = some (.int .i64 x.count) ∧ w'.cell? ⟨g0, 3, none⟩ = some (.bool true)) ∧ (w'.cell? ⟨g0 + 1, 0, none⟩ = some (.string y.sum) ∧ w'.cell? ⟨g0 + 1, 1, none⟩ = some (.int .i64 y.work) ∧ w'.cell? ⟨g0 + 1, 2, none⟩ = some (.int .i64 y.count) ∧ w'.cell? ⟨g0 + 1, 3, none⟩ = some (.bool false))) (by kernel_rfl) (B5.out.cells) (fun hHeld => ?_)
  refine takeL 0 (v := ?_) rfl (by kernel_rfl) (by kernel_rfl) (by kernel_rfl) (fun _ _ _ h => h) (by kernel_rfl) ?_ (by assumption) ?_
  rotate_left
  · intro w hSw; (try dsimp only at hSw); first | (go_simp; done) | (go_simp; with_reducible rfl)
  try simp only [Act.put, List.setIfInBounds_toArray, List.set_cons_zero, List.set_cons_succ]
  refine takeL 1 (v := ?_) rfl (by kernel_rfl) (by kernel_rfl) (by kernel_rfl) (fun _ _ _ h => h) (by kernel_rfl) ?_ (by assumption) ?_
  rotate_left
  · intro w hSw; (try dsimp only at hSw); first | (go_simp; done) | (go_simp; with_reducible rfl)
  try simp only [Act.put, List.setIfInBounds_toArray, List.set_cons_zero, List.set_cons_succ]
  refine takeL 2 (v := ?_) rfl (by kernel_rfl) (by kernel_rfl) (by kernel_rfl) (fun _ _ _ h => h) (by kernel_rfl) ?_ (by assumption) ?_
  rotate_left
  · intro w hSw; (try dsimp only at hSw); first | (go_simp; done) | (go_simp; with_reducible rfl)
  try simp only [Act.put, List.setIfInBounds_toArray, List.set_cons_zero, List.set_cons_succ]
  refine takeL 3 (v := ?_) rfl (by kernel_rfl) (by kernel_rfl) (by kernel_rfl) (fun _ _ _ h => h) (by kernel_rfl) ?_ (by assumption) ?_
  rotate_left
  · intro w hSw; (try dsimp only at hSw); first | (go_simp; done) | (go_simp; with_reducible rfl)
  try simp only [Act.put, List.setIfInBounds_toArray, List.set_cons_zero, List.set_cons_succ]
  refine takeL 5 (v := ?_) rfl (by kernel_rfl) (by kernel_rfl) (by kernel_rfl) (fun _ _ _ h => h) (by kernel_rfl) ?_ (by assumption) ?_
  rotate_left
  · intro w hSw; (try dsimp only at hSw); first | (go_simp; done) | (go_simp; with_reducible rfl)
  try simp only [Act.put, List.setIfInBounds_toArray, List.set_cons_zero, List.set_cons_succ]
  refine takeL 6 (v := ?_) rfl (by kernel_rfl) (by kernel_rfl) (by kernel_rfl) (fun _ _ _ h => h) (by kernel_rfl) ?_ (by assumption) ?_
  rotate_left
  · intro w hSw; (try dsimp only at hSw); first | (go_simp; done) | (go_simp; with_reducible rfl)
  try simp only [Act.put, List.setIfInBounds_toArray, List.set_cons_zero, List.set_cons_succ]
  refine callL 4 rfl (by kernel_rfl) (fun K hK => ?_)
  go_simp
  refine (HBO.out _ HB5.out).mono ?_
  rintro e w6 ⟨rfl, b6⟩
  have B6 : Hid (BothW w0 w w6 gp g0 v1 s1 _ _) := B5.out.call b6
  obtain ⟨⟨r0, r1, r2, r3⟩, s0, s1, s2, s3⟩ := B6.out.ans
  clear b6
  generalize bothP x y = nq at HQ ⊢
  go_wp2_with fail
  refine hK.out _ _ ?_ (fun hHeld => ?_)
  · first | exact B6.out.cells | exact B6.out.cellsFin _ _ _ _
  clear hK K
  try simp only [Act.put, List.setIfInBounds_toArray, List.set_cons_zero, List.set_cons_succ]
  refine takeL 7 (v := ?_) rfl (by kernel_rfl) (by kernel_rfl) (by kernel_rfl) (fun _ _ _ h => h) (by kernel_rfl) ?_ (by assumption) ?_
  rotate_left
  · intro w hSw; (try dsimp only at hSw); first | (go_simp; done) | (go_simp; with_reducible rfl)
  try simp only [Act.put, List.setIfInBounds_toArray, List.set_cons_zero, List.set_cons_succ]
  refine skipL 8 rfl (by kernel_rfl) (by kernel_rfl) (by kernel_rfl) (fun _ _ _ h => h) (by kernel_rfl) (by assumption) ?_
  try simp only [Act.put, List.setIfInBounds_toArray, List.set_cons_zero, List.set_cons_succ]
  refine skipL 9 rfl (by kernel_rfl) (by kernel_rfl) (by kernel_rfl) (fun _ _ _ h => h) (by kernel_rfl) (by assumption) ?_
  try simp only [Act.put, List.setIfInBounds_toArray, List.set_cons_zero, List.set_cons_succ]
  refine takeL 10 (v := ?_) rfl (by kernel_rfl) (by kernel_rfl) (by kernel_rfl) (fun _ _ _ h => h) (by kernel_rfl) ?_ (by assumption) ?_
  rotate_left
  · intro w hSw; (try dsimp only at hSw); first | (go_simp; done) | (go_simp; with_reducible rfl)
  try simp only [Act.put, List.setIfInBounds_toArray, List.set_cons_zero, List.set_cons_succ]
  refine takeL 11 (v := ?_) rfl (by kernel_rfl) (by kernel_rfl) (by kernel_rfl) (fun _ _ _ h => h) (by kernel_rfl) ?_ (by assumption) ?_
  rotate_left
  · intro w hSw; (try dsimp only at hSw); first | (go_simp; done) | (go_simp; with_reducible rfl)
  try simp only [Act.put, List.setIfInBounds_toArray, List.set_cons_zero, List.set_cons_succ]
  refine callL 12 rfl (by kernel_rfl) (fun K hK => ?_)
  go_simp
  refine hK.out _ _ ?_ (fun hHeld => ?_)
  · first | exact B6.out.cells | exact B6.out.cellsFin _ _ _ _
  clear hK K
  try simp only [Act.put, List.setIfInBounds_toArray, List.set_cons_zero, List.set_cons_succ]
  refine wpAnyH_done (by kernel_rfl) ?_ _
  refine NoPanic.normal ?_
  have B7 := B6.out.fin (.string nq.sum) (.int .i64 nq.work) (.int .i64 nq.count) (.bool true)
  have T7 : Hid _ := B7.2.2
  have P7 : Hid _ := HQ.out _ _ HSF.out ⟨B7.1, B7.2.1⟩
  clear B7
  go_wp2_with fail
  exact bodyPost_ret (results_cell_row (p := 5) rfl _ _ (g0 + 1 + 1) 73 #[.string nq.sum, .int .i64 nq.work, .int .i64 nq.count, .bool true] (0, 0) _ rfl T7.out Tryz.underlying73 rfl (by kernel_rfl)) rfl P7.out

set_option maxHeartbeats 4000000 in
set_option maxRecDepth 100000 in
theorem implNodeBothTT (w0 w : World) (gp : Nat) (ss : List PeakV) (x y : PeakV) (hs : Pf w0 w gp ss) (hm : ss.length ≤ 1048576) (hx : peakOkB x = true) (hy : peakOkB y = true) (hK : RowG w0 shaK) (hP : TabP w0) :
    Calls Tryz.prog 48 #[nodeVal (x, true), nodeVal (y, true), .pointer (some ⟨gp, 0, none⟩)] w fun e w' => BothRes w0 w gp ss (x, true) (y, true) e w' := by
  obtain ⟨v0, h0⟩ := hs
  obtain ⟨i0, hi, hz0, hz1, hz2⟩ := info3 infoPeak
  have Hss : Hid (ss.length ≤ 1048576) := hm
  have HBO : Hid (∀ w', Below w0.heap.size w0 w' → Calls Tryz.prog 49 #[.agg #[.string x.sum, .int .i64 x.work, .int .i64 x.count], .agg #[.string y.sum, .int .i64 y.work, .int .i64 y.count]] w' fun e w'' => e = .returned (.agg #[.string (bothP x y).sum, .int .i64 (bothP x y).work, .int .i64 (bothP x y).count]) ∧ Below w'.heap.size w' w'') := fun w' hb => implPeakBoth x y w' hx hy (hK.below hb hK.lt) (TabP.below hP hb (Nat.le_refl _))
  have HQ : Hid (∀ (w' : World) (s' : List PeakV), s' = ss ++ noteN (x, true) (y, true) → Pf w0 w' gp s' ∧ Off gp w w' → BothRes w0 w gp ss (x, true) (y, true) (.returned (.agg #[.string (bothP x y).sum, .int .i64 (bothP x y).work, .int .i64 (bothP x y).count, .bool true])) w') := fun w' s' he h => ⟨rfl, he ▸ h.1, h.2⟩
  generalize BothRes w0 w gp ss (x, true) (y, true) = Q at HQ ⊢
  have B0 : Hid _ := BothW.enter h0 (x, true) (y, true)
  unfold nodeVal
  dsimp only at B0 ⊢
  clear h0 hm hx hy hK hP
  go_enter Tryz.func48, Tryz.ntmps48
  go_upto_region 1 with fail
  generalize ((w.alloc (.cells #[.string x.sum, .int .i64 x.work, .int .i64 x.count, .bool true] 73)).alloc (.cells #[.string y.sum, .int .i64 y.work, .int .i64 y.count, .bool true] 73)).alloc (.cells #[.string ⟨#[]⟩, .int .i64 0, .int .i64 0, .bool false] 73) = W0 at B0 ⊢
  obtain ⟨g0, hg0⟩ : ∃ g0, g0 = w.heap.size := ⟨_, rfl⟩
  rw [← hg0] at B0 ⊢
  clear hg0
  obtain ⟨⟨a0, a1, a2, a3⟩, b0, b1, b2, b3⟩ := B0.out.cells
  go_upto_region 2 with fail
  clear a0 a1 a2 a3 b0 b1 b2 b3
  have hx1 : ss.length + 1 ≤ maxLen := by have := Hss.out; unfold maxLen; omega
  have hx2 : (ss.length + 1) * 32 ≤ 140737488355328 := by have := Hss.out; omega
  have hu := pEnc_one y
  have hsz := B0.out.f.b.size
  have HRW : Hid (W0.ownsRow w0.heap.size 71 3 v0 ss.length (ss.flatMap pEnc)) := B0.out.f.row
  have HTW : Hid (∀ w4 : World, (∀ c, c < W0.heap.size → v0.ownBlock ≠ some c → w4.heap[c]? = W0.heap[c]?) → w4.cell? ⟨gp, 1, none⟩ = some v0 ∧ w4.frozen? ⟨gp, 1, none⟩ = false) := fun w4 h => B0.out.two h
  obtain ⟨⟨a0, a1, a2, a3⟩, b0, b1, b2, b3⟩ := B0.out.cells
  have p1 : W0.cell? ⟨gp, 1, none⟩ = some v0 := B0.out.f.k.cell 1
  go_upto_region 3 with (at_builtin; refine wp_appN rfl _ _ 26 rfl w0.heap.size 71 i0 (.agg #[.string ⟨#[]⟩, .int .i64 0, .int .i64 0]) 3 32 1 Tryz.underlying26 hi hz0 hz1 hz2 rfl (by decide) (by decide) _ _ _ rfl HRW.out (pEnc y) (by first | rfl | simp [Act.eval]) rfl hu hx1 hx2 hsz ?_; intro g1 c1 w1 hown1 hb1 hkeep1; obtain ⟨q1, z1⟩ := HTW.out _ hkeep1)
  have B1 : Hid (BothW w0 w _ gp g0 _ (ss ++ [y]) _ _) := B0.out.noted hown1 hb1 hkeep1
  clear a0 a1 a2 a3 b0 b1 b2 b3 p1 hx1 hx2 hu hsz HRW HTW q1 z1 hown1 hb1 hkeep1 B0
  generalize (.slice (some ⟨g1, 0, none⟩) (ss.length + 1) c1 : Value) = v1 at B1 ⊢
  generalize w1.setCell ⟨gp, 1, none⟩ v1 = W1 at B1 ⊢
  clear w1
  obtain ⟨s1, hs1⟩ : ∃ s1, s1 = ss ++ [y] := ⟨_, rfl⟩
  have Hs1 : Hid (s1.length ≤ 1048577) := by show _ ≤ _; have := Hss.out; rw [hs1, List.length_append, List.length_singleton]; omega
  have HE1 : Hid (s1 = ss ++ [y]) := hs1
  rw [← hs1] at B1
  clear hs1
  obtain ⟨⟨a0, a1, a2, a3⟩, b0, b1, b2, b3⟩ := B1.out.cells
  go_upto_region 4 with fail
  clear a0 a1 a2 a3 b0 b1 b2 b3
  have hx1 : s1.length + 1 ≤ maxLen := by have := Hs1.out; unfold maxLen; omega
  have hx2 : (s1.length + 1) * 32 ≤ 140737488355328 := by have := Hs1.out; omega
  have hu := pEnc_one x
  have hsz := B1.out.f.b.size
  have HRW : Hid (W1.ownsRow w0.heap.size 71 3 v1 s1.length (s1.flatMap pEnc)) := B1.out.f.row
  have HTW : Hid (∀ w4 : World, (∀ c, c < W1.heap.size → v1.ownBlock ≠ some c → w4.heap[c]? = W1.heap[c]?) → w4.cell? ⟨gp, 1, none⟩ = some v1 ∧ w4.frozen? ⟨gp, 1, none⟩ = false) := fun w4 h => B1.out.two h
  obtain ⟨⟨a0, a1, a2, a3⟩, b0, b1, b2, b3⟩ := B1.out.cells
  have p1 : W1.cell? ⟨gp, 1, none⟩ = some v1 := B1.out.f.k.cell 1
  go_upto_region 5 with (at_builtin; refine wp_appN rfl _ _ 26 rfl w0.heap.size 71 i0 (.agg #[.string ⟨#[]⟩, .int .i64 0, .int .i64 0]) 3 32 1 Tryz.underlying26 hi hz0 hz1 hz2 rfl (by decide) (by decide) _ _ _ rfl HRW.out (pEnc x) (by first | rfl | simp [Act.eval]) rfl hu hx1 hx2 hsz ?_; intro g2 c2 w2 hown2 hb2 hkeep2; obtain ⟨q2, z2⟩ := HTW.out _ hkeep2)
  have B2 : Hid (BothW w0 w _ gp g0 _ (s1 ++ [x]) _ _) := B1.out.noted hown2 hb2 hkeep2
  clear a0 a1 a2 a3 b0 b1 b2 b3 p1 hx1 hx2 hu hsz HRW HTW q2 z2 hown2 hb2 hkeep2 B1
  generalize (.slice (some ⟨g2, 0, none⟩) (s1.length + 1) c2 : Value) = v2 at B2 ⊢
  generalize w2.setCell ⟨gp, 1, none⟩ v2 = W2 at B2 ⊢
  clear w2
  obtain ⟨s2, hs2⟩ : ∃ s2, s2 = s1 ++ [x] := ⟨_, rfl⟩
  have Hs2 : Hid (s2.length ≤ 1048578) := by show _ ≤ _; have := Hs1.out; rw [hs2, List.length_append, List.length_singleton]; omega
  have HE2 : Hid (s2 = s1 ++ [x]) := hs2
  rw [← hs2] at B2
  clear hs2
  have HSF : Hid (s2 = ss ++ noteN (x, true) (y, true)) := by show _ = _; rw [HE2.out]; rw [HE1.out]; simp [noteN]
  have B5 : Hid (BothW w0 w W2.drew gp g0 v2 s2 _ _) := B2.out.drew
  have HB5 : Hid (Below w0.heap.size w0 W2.drew) := B5.out.f.b
  refine wp_region_noPanic ?_
  refine wp_region_held_drew (S := fun w' => (w'.cell? ⟨g0, 0, none⟩ = some (.string x.sum) ∧ w'.cell? ⟨g0, 1, none⟩ = some (.int .i64 x.work) ∧ w'.cell? ⟨g0, 2, none⟩ = some (.int .i64 x.count) ∧ w'.cell? ⟨g0, 3, none⟩ = some (.bool true)) ∧ (w'.cell? ⟨g0 + 1, 0, none⟩ = some (.string y.sum) ∧ w'.cell? ⟨g0 + 1, 1, none⟩ = some (.int .i64 y.work) ∧ w'.cell? ⟨g0 + 1, 2, none⟩ = some (.int .i64 y.count) ∧ w'.cell? ⟨g0 + 1, 3, none⟩ = some (.bool true))) (by kernel_rfl) (B5.out.cells) (fun hHeld => ?_)
  refine takeL 0 (v := ?_) rfl (by kernel_rfl) (by kernel_rfl) (by kernel_rfl) (fun _ _ _ h => h) (by kernel_rfl) ?_ (by assumption) ?_
  rotate_left
  · intro w hSw; (try dsimp only at hSw); first | (go_simp; done) | (go_simp; with_reducible rfl)
  try simp only [Act.put, List.setIfInBounds_toArray, List.set_cons_zero, List.set_cons_succ]
  refine takeL 1 (v := ?_) rfl (by kernel_rfl) (by kernel_rfl) (by kernel_rfl) (fun _ _ _ h => h) (by kernel_rfl) ?_ (by assumption) ?_
  rotate_left
  · intro w hSw; (try dsimp only at hSw); first | (go_simp; done) | (go_simp; with_reducible rfl)
  try simp only [Act.put, List.setIfInBounds_toArray, List.set_cons_zero, List.set_cons_succ]
  refine takeL 2 (v := ?_) rfl (by kernel_rfl) (by kernel_rfl) (by kernel_rfl) (fun _ _ _ h => h) (by kernel_rfl) ?_ (by assumption) ?_
  rotate_left
  · intro w hSw; (try dsimp only at hSw); first | (go_simp; done) | (go_simp; with_reducible rfl)
  try simp only [Act.put, List.setIfInBounds_toArray, List.set_cons_zero, List.set_cons_succ]
  refine takeL 3 (v := ?_) rfl (by kernel_rfl) (by kernel_rfl) (by kernel_rfl) (fun _ _ _ h => h) (by kernel_rfl) ?_ (by assumption) ?_
  rotate_left
  · intro w hSw; (try dsimp only at hSw); first | (go_simp; done) | (go_simp; with_reducible rfl)
  try simp only [Act.put, List.setIfInBounds_toArray, List.set_cons_zero, List.set_cons_succ]
  refine takeL 5 (v := ?_) rfl (by kernel_rfl) (by kernel_rfl) (by kernel_rfl) (fun _ _ _ h => h) (by kernel_rfl) ?_ (by assumption) ?_
  rotate_left
  · intro w hSw; (try dsimp only at hSw); first | (go_simp; done) | (go_simp; with_reducible rfl)
  try simp only [Act.put, List.setIfInBounds_toArray, List.set_cons_zero, List.set_cons_succ]
  refine takeL 6 (v := ?_) rfl (by kernel_rfl) (by kernel_rfl) (by kernel_rfl) (fun _ _ _ h => h) (by kernel_rfl) ?_ (by assumption) ?_
  rotate_left
  · intro w hSw; (try dsimp only at hSw); first | (go_simp; done) | (go_simp; with_reducible rfl)
  try simp only [Act.put, List.setIfInBounds_toArray, List.set_cons_zero, List.set_cons_succ]
  refine callL 4 rfl (by kernel_rfl) (fun K hK => ?_)
  go_simp
  refine (HBO.out _ HB5.out).mono ?_
  rintro e w6 ⟨rfl, b6⟩
  have B6 : Hid (BothW w0 w w6 gp g0 v2 s2 _ _) := B5.out.call b6
  obtain ⟨⟨r0, r1, r2, r3⟩, s0, s1, s2, s3⟩ := B6.out.ans
  clear b6
  generalize bothP x y = nq at HQ ⊢
  go_wp2_with fail
  refine hK.out _ _ ?_ (fun hHeld => ?_)
  · first | exact B6.out.cells | exact B6.out.cellsFin _ _ _ _
  clear hK K
  try simp only [Act.put, List.setIfInBounds_toArray, List.set_cons_zero, List.set_cons_succ]
  refine takeL 7 (v := ?_) rfl (by kernel_rfl) (by kernel_rfl) (by kernel_rfl) (fun _ _ _ h => h) (by kernel_rfl) ?_ (by assumption) ?_
  rotate_left
  · intro w hSw; (try dsimp only at hSw); first | (go_simp; done) | (go_simp; with_reducible rfl)
  try simp only [Act.put, List.setIfInBounds_toArray, List.set_cons_zero, List.set_cons_succ]
  refine skipL 8 rfl (by kernel_rfl) (by kernel_rfl) (by kernel_rfl) (fun _ _ _ h => h) (by kernel_rfl) (by assumption) ?_
  try simp only [Act.put, List.setIfInBounds_toArray, List.set_cons_zero, List.set_cons_succ]
  refine skipL 9 rfl (by kernel_rfl) (by kernel_rfl) (by kernel_rfl) (fun _ _ _ h => h) (by kernel_rfl) (by assumption) ?_
  try simp only [Act.put, List.setIfInBounds_toArray, List.set_cons_zero, List.set_cons_succ]
  refine takeL 10 (v := ?_) rfl (by kernel_rfl) (by kernel_rfl) (by kernel_rfl) (fun _ _ _ h => h) (by kernel_rfl) ?_ (by assumption) ?_
  rotate_left
  · intro w hSw; (try dsimp only at hSw); first | (go_simp; done) | (go_simp; with_reducible rfl)
  try simp only [Act.put, List.setIfInBounds_toArray, List.set_cons_zero, List.set_cons_succ]
  refine takeL 11 (v := ?_) rfl (by kernel_rfl) (by kernel_rfl) (by kernel_rfl) (fun _ _ _ h => h) (by kernel_rfl) ?_ (by assumption) ?_
  rotate_left
  · intro w hSw; (try dsimp only at hSw); first | (go_simp; done) | (go_simp; with_reducible rfl)
  try simp only [Act.put, List.setIfInBounds_toArray, List.set_cons_zero, List.set_cons_succ]
  refine callL 12 rfl (by kernel_rfl) (fun K hK => ?_)
  go_simp
  refine hK.out _ _ ?_ (fun hHeld => ?_)
  · first | exact B6.out.cells | exact B6.out.cellsFin _ _ _ _
  clear hK K
  try simp only [Act.put, List.setIfInBounds_toArray, List.set_cons_zero, List.set_cons_succ]
  refine wpAnyH_done (by kernel_rfl) ?_ _
  refine NoPanic.normal ?_
  have B7 := B6.out.fin (.string nq.sum) (.int .i64 nq.work) (.int .i64 nq.count) (.bool true)
  have T7 : Hid _ := B7.2.2
  have P7 : Hid _ := HQ.out _ _ HSF.out ⟨B7.1, B7.2.1⟩
  clear B7
  go_wp2_with fail
  exact bodyPost_ret (results_cell_row (p := 5) rfl _ _ (g0 + 1 + 1) 73 #[.string nq.sum, .int .i64 nq.work, .int .i64 nq.count, .bool true] (0, 0) _ rfl T7.out Tryz.underlying73 rfl (by kernel_rfl)) rfl P7.out

theorem implNodeBoth (w0 w : World) (gp : Nat) (ss : List PeakV) (a b : NodeV) (hs : Pf w0 w gp ss) (hm : ss.length ≤ 1048576) (hx : peakOkB a.1 = true) (hy : peakOkB b.1 = true) (hK : RowG w0 shaK) (hP : TabP w0) :
    Calls Tryz.prog 48 #[nodeVal a, nodeVal b, .pointer (some ⟨gp, 0, none⟩)] w fun e w' => BothRes w0 w gp ss a b e w' := by
  obtain ⟨x, xy⟩ := a
  obtain ⟨y, yy⟩ := b
  cases xy <;> cases yy
  · exact implNodeBothFF w0 w gp ss x y hs hm hx hy hK hP
  · exact implNodeBothFT w0 w gp ss x y hs hm hx hy hK hP
  · exact implNodeBothTF w0 w gp ss x y hs hm hx hy hK hP
  · exact implNodeBothTT w0 w gp ss x y hs hm hx hy hK hP

end Go.Proofs.YtoifgpmbeicmnaaGreatDoor

set_option linter.unusedVariables false
namespace Go.Proofs.YtoifgpmbeicmnaaGreatDoor
open Go.RowKit

section
variable {w w' : World} {B C g n k b : Nat} {e T : TypeId} {v : Value} {xs : List Value} {cs : Array Value}
theorem ownE_ne (h : w.ownsRow B e k v n xs) (hk : CBk w g T cs) (hT : T ≠ e) : v.ownBlock ≠ some g := by
  rcases h.2 with ⟨rfl, _⟩ | ⟨g', cap, cur, rfl, _, hg, _⟩
  · simp [Value.ownBlock]
  · intro he
    have he' : g' = g := by simpa [Value.ownBlock] using he
    subst he'
    have hk' : w.heap[g']? = some (.cells cs T (0, 0)) := hk
    rw [hg] at hk'
    simp only [Option.some.injEq, Obj.cells.injEq] at hk'
    exact hT hk'.2.1.symm
theorem ownE_is (h : w.ownsRow B e k v n xs) (hv : v.ownBlock = some b) : (∃ cur, CBk w b e cur) ∧ B ≤ b := by
  rcases h.2 with ⟨rfl, _⟩ | ⟨g', cap, cur, rfl, hB, hg, _⟩
  · simp [Value.ownBlock] at hv
  · have : g' = b := by simpa [Value.ownBlock] using hv
    subst this
    exact ⟨⟨cur, hg⟩, hB⟩
theorem ownE_keep (h : w.ownsRow B e k v n xs) (hb : ∀ b, v.ownBlock = some b → b < w.heap.size → w'.heap[b]? = w.heap[b]?) : w'.ownsRow B e k v n xs := by
  refine ⟨h.1, ?_⟩
  rcases h.2 with h1 | ⟨g', cap, cur, rfl, hB, hg, h4⟩
  · exact .inl h1
  · refine .inr ⟨g', cap, cur, rfl, hB, ?_, h4⟩
    rw [hb g' rfl (CBk.lt (cs := cur) (T := e) hg)]
    exact hg
theorem ownE_mono (h : w.ownsRow B e k v n xs) (hc : C ≤ B) : w.ownsRow C e k v n xs := by
  refine ⟨h.1, ?_⟩
  rcases h.2 with h1 | ⟨g', cap, cur, hv, hB, h4⟩
  · exact .inl h1
  · exact .inr ⟨g', cap, cur, hv, Nat.le_trans hc hB, h4⟩
theorem own_slice (h : w.ownsRow B e k v n xs) : ∃ a m c, v = .slice a m c := by
  rcases h.2 with ⟨rfl, _⟩ | ⟨g', cap, cur, rfl, _⟩
  · exact ⟨_, _, _, rfl⟩
  · exact ⟨_, _, _, rfl⟩
/-- Behind a store into a block of another type. -/
theorem ownE_set {j : Nat} {u : Value} (h : w.ownsRow B e k v n xs) (hk : CBk w g T cs) (hT : T ≠ e) : (w.setCell ⟨g, j, none⟩ u).ownsRow B e k v n xs := by
  have hne := ownE_ne h hk hT
  refine ownE_keep h (fun b hv _ => ?_)
  have : g ≠ b := by
    intro he
    subst he
    exact hne hv
  simp [World.setCell, Array.getElem?_modify, this]
theorem ownE_below (h : w.ownsRow B e k v n xs) (hb : Below w.heap.size w w') : w'.ownsRow B e k v n xs := ownE_keep h (fun b _ hlt => hb.block b hlt)
end
theorem cbk_ne {w : World} {g g' : Nat} {T T' : TypeId} {cs cs' : Array Value} (h : CBk w g T cs) (h' : CBk w g' T' cs') (hT : T ≠ T') : g ≠ g' := by
  intro he
  subst he
  have h1 : w.heap[g]? = some (.cells cs T (0, 0)) := h
  have h2 : w.heap[g]? = some (.cells cs' T' (0, 0)) := h'
  rw [h1] at h2
  simp only [Option.some.injEq, Obj.cells.injEq] at h2
  exact hT h2.2.1
theorem cbk_notT {w : World} {g : Nat} {T P : TypeId} {cs : Array Value} (h : CBk w g T cs) (hT : T ≠ P) : ∀ cur fr, w.heap[g]? ≠ some (.cells cur P fr) := by
  intro cur fr he
  have h1 : w.heap[g]? = some (.cells cs T (0, 0)) := h
  rw [h1] at he
  simp only [Option.some.injEq, Obj.cells.injEq] at he
  exact hT he.2.1
/-- No block but one, and those of one type, has changed. -/
def OffT (P : TypeId) (gp : Nat) (w w' : World) : Prop := w.heap.size ≤ w'.heap.size ∧ ∀ c, c < w.heap.size → c ≠ gp → (∀ cur fr, w.heap[c]? ≠ some (.cells cur P fr)) → w'.heap[c]? = w.heap[c]?
theorem OffT.refl (P : TypeId) (gp : Nat) (w : World) : OffT P gp w w := ⟨Nat.le_refl _, fun _ _ _ _ => rfl⟩
theorem OffT.trans {P : TypeId} {gp : Nat} {w w1 w2 : World} (h : OffT P gp w w1) (h2 : OffT P gp w1 w2) : OffT P gp w w2 :=
  ⟨Nat.le_trans h.1 h2.1, fun c hc hne hp => by
    have e := h.2 c hc hne hp
    rw [← e]
    exact h2.2 c (Nat.lt_of_lt_of_le hc h.1) hne (fun cur fr => by rw [e]; exact hp cur fr)⟩
theorem OffT.below {P : TypeId} {gp : Nat} {w w1 w2 : World} (h : OffT P gp w w1) (hb : Below w1.heap.size w1 w2) : OffT P gp w w2 :=
  h.trans ⟨hb.size, fun c hc _ _ => hb.block c hc⟩
theorem OffT.set {P : TypeId} {gp g j : Nat} {w w1 : World} (h : OffT P gp w w1) (hg : w.heap.size ≤ g ∨ g = gp) (v : Value) : OffT P gp w (w1.setCell ⟨g, j, none⟩ v) :=
  ⟨by simpa using h.1, fun c hc hne hp => by
    rw [← h.2 c hc hne hp]
    have : c ≠ g := by rcases hg with h' | h' <;> omega
    simp [World.setCell, Array.getElem?_modify, Ne.symm this]⟩
theorem OffT.cbk {P : TypeId} {gp g : Nat} {w w' : World} {T : TypeId} {cs : Array Value} (h : OffT P gp w w') (hk : CBk w g T cs) (hT : T ≠ P) (hne : g ≠ gp) : CBk w' g T cs := (h.2 g hk.lt hne (cbk_notT hk hT)).trans hk
/-- A row of another type stands. -/
theorem OffT.own {P : TypeId} {gp B n k : Nat} {w w' : World} {e T : TypeId} {v : Value} {xs : List Value} {cs : Array Value} (h : OffT P gp w w') (hr : w.ownsRow B e k v n xs) (he : e ≠ P) (hk : CBk w gp T cs) (hT : e ≠ T) : w'.ownsRow B e k v n xs :=
  ownE_keep hr (fun b hv hlt => by
    obtain ⟨⟨cur, hb⟩, _⟩ := ownE_is hr hv
    exact h.2 b hlt (cbk_ne hb hk hT) (cbk_notT hb he))
end Go.Proofs.YtoifgpmbeicmnaaGreatDoor

set_option linter.unusedVariables false
namespace Go.Proofs.YtoifgpmbeicmnaaGreatDoor
open Go.RowKit Go.Deep

def nEnc (a : NodeV) : List Value := [.string a.1.sum, .int .i64 a.1.work, .int .i64 a.1.count, .bool a.2]
theorem nEnc_len (a : NodeV) : (nEnc a).length = 4 := rfl
theorem nEnc_one (a : NodeV) : ∀ u ∈ nEnc a, u.oneCell' = true := by
  intro u hu
  simp only [nEnc, List.mem_cons, List.not_mem_nil, or_false] at hu
  rcases hu with rfl | rfl | rfl | rfl <;> rfl
theorem infoNode : (Tryz.prog.info? 73).map (fun i => (i.zero, i.size, i.bytes)) = some (some (.agg #[.string ⟨#[]⟩, .int .i64 0, .int .i64 0, .bool false]), 4, 40) := by kernel_rfl
/-- A node pushed, the first one first: the stack, what is noted. -/
def addS (l : List NodeV) (p : NodeV) : List NodeV := (addN l.reverse p).reverse
def noteS (l : List NodeV) (p : NodeV) : List PeakV := noteR l.reverse p
theorem addS_nil (p : NodeV) : addS [] p = [p] := rfl
theorem noteS_nil (p : NodeV) : noteS [] p = [] := rfl
theorem addS_yes {l : List NodeV} {t q : NodeV} (h : t.1.count = q.1.count) : addS (l ++ [t]) q = addS l (bothN t q) := by simp [addS, addN, h]
theorem addS_no {l : List NodeV} {t q : NodeV} (h : ¬ t.1.count = q.1.count) : addS (l ++ [t]) q = l ++ [t] ++ [q] := by simp [addS, addN, h]
theorem noteS_yes {l : List NodeV} {t q : NodeV} (h : t.1.count = q.1.count) : noteS (l ++ [t]) q = noteN t q ++ noteS l (bothN t q) := by simp [noteS, noteR, h]
theorem noteS_no {l : List NodeV} {t q : NodeV} (h : ¬ t.1.count = q.1.count) : noteS (l ++ [t]) q = [] := by simp [noteS, noteR, h]
theorem takeN_one {l : List NodeV} {m : Nat} (h : m < l.length) : l.take (m + 1) = l.take m ++ [l.getD m default] := by
  rw [List.take_add_one, List.getElem?_eq_getElem h]
  simp [List.getElem?_eq_getElem h]
theorem fst_at {l : List NodeV} {m : Nat} (h : m < l.length) : (l.map Prod.fst).getD m default = (l.getD m default).1 := by
  simp [List.getD_eq_getElem?_getD, List.getElem?_eq_getElem h]
theorem cbk_not {w : World} {g : Nat} {T : TypeId} {cs : Array Value} (h : CBk w g T cs) (hT : T ≠ 71) : ∀ cur fr, w.heap[g]? ≠ some (.cells cur 71 fr) := by
  intro cur fr he
  have h1 : w.heap[g]? = some (.cells cs T (0, 0)) := h
  rw [h1] at he
  simp only [Option.some.injEq, Obj.cells.injEq] at he
  exact hT he.2.1
theorem Off.cbk {gp g : Nat} {w w' : World} {T : TypeId} {cs : Array Value} (h : Off gp w w') (hk : CBk w g T cs) (hT : T ≠ 71) (hne : g ≠ gp) : CBk w' g T cs := (h.2 g hk.lt hne (cbk_not hk hT)).trans hk
theorem stp : (80 : TypeId) ≠ 71 := by decide
theorem stn : (80 : TypeId) ≠ 73 := by decide
theorem stf : (80 : TypeId) ≠ 28 := by decide
theorem ntf : (73 : TypeId) ≠ 28 := by decide
theorem ptn : (71 : TypeId) ≠ 73 := by decide
theorem ftn : (28 : TypeId) ≠ 73 := by decide
theorem Pf.b {w0 wr : World} {gp : Nat} {ss : List PeakV} (h : Pf w0 wr gp ss) : Below w0.heap.size w0 wr := by
  obtain ⟨vs, h⟩ := h
  exact h.b
theorem Pf.call {w0 wr w' : World} {gp : Nat} {ss : List PeakV} (h : Pf w0 wr gp ss) (hb : Below wr.heap.size wr w') : Pf w0 w' gp ss := by
  obtain ⟨vs, h⟩ := h
  exact ⟨vs, h.call hb⟩
theorem Pf.blk {w0 wr : World} {gp : Nat} {ss : List PeakV} (h : Pf w0 wr gp ss) : ∃ cs, CBk wr gp 28 cs := by
  obtain ⟨vs, h⟩ := h
  exact ⟨_, h.k⟩
theorem Pf.store {w0 wr : World} {gp g j : Nat} {T : TypeId} {ss : List PeakV} {cs : Array Value} (h : Pf w0 wr gp ss) (hk : CBk wr g T cs) (hT : T ≠ 71) (hF : T ≠ 28) (hlo : w0.heap.size ≤ g) (u : Value) : Pf w0 (wr.setCell ⟨g, j, none⟩ u) gp ss := by
  obtain ⟨vs, h⟩ := h
  exact ⟨vs, h.store hk hT (cbk_ne hk h.k hF) hlo u⟩
/-- A stack of nodes, and the proof beside it. -/
structure NSt (w0 wr : World) (gp g : Nat) (a : Option Addr) (n c : Nat) (l : List NodeV) (ss : List PeakV) : Prop where
  s : CBk wr g 80 #[.slice a n c, .func (.func 46) #[] #[], .func (.func 48) #[] #[.pointer (some ⟨gp, 0, none⟩)]]
  row : wr.ownsRow w0.heap.size 73 4 (.slice a n c) n (l.flatMap nEnc)
  len : l.length = n
  f : Pf w0 wr gp ss
  lo : w0.heap.size ≤ g
theorem NSt.call {w0 wr w' : World} {gp g n c : Nat} {a : Option Addr} {l : List NodeV} {ss : List PeakV} (h : NSt w0 wr gp g a n c l ss) (hb : Below wr.heap.size wr w') : NSt w0 w' gp g a n c l ss :=
  ⟨h.s.call hb, ownE_keep h.row (fun b _ hlt => hb.block b hlt), h.len, h.f.call hb, h.lo⟩
theorem NSt.off {w0 wr w' : World} {gp g n c : Nat} {a : Option Addr} {l : List NodeV} {ss ss' : List PeakV} (h : NSt w0 wr gp g a n c l ss) (ho : Off gp wr w') (hp : Pf w0 w' gp ss') : NSt w0 w' gp g a n c l ss' := by
  obtain ⟨cs, hk⟩ := h.f.blk
  refine ⟨ho.cbk h.s stp (cbk_ne h.s hk stf), ownE_keep h.row (fun b hv hlt => ?_), h.len, hp, h.lo⟩
  obtain ⟨⟨cur, hb⟩, _⟩ := ownE_is h.row hv
  exact ho.2 b hlt (cbk_ne hb hk ntf) (cbk_not hb ntne)
theorem NSt.store {w0 wr : World} {gp g g3 j n c : Nat} {a : Option Addr} {l : List NodeV} {ss : List PeakV} {cs : Array Value} (h : NSt w0 wr gp g a n c l ss) (hk : CBk wr g3 73 cs) (h1 : ∀ r, (Value.slice a n c).ownBlock = some r → r < g3) (h3 : w0.heap.size ≤ g3) (v : Value) : NSt w0 (wr.setCell ⟨g3, j, none⟩ v) gp g a n c l ss := by
  refine ⟨h.s.other (cbk_ne hk h.s (Ne.symm stn)) v, ownE_keep h.row (fun b hv hlt => ?_), h.len, h.f.store hk ntne ntf h3 v, h.lo⟩
  have := h1 b hv
  have hne : g3 ≠ b := by omega
  simp [World.setCell, Array.getElem?_modify, hne]
theorem NSt.at {w0 wr : World} {gp g r n c : Nat} {l : List NodeV} {ss : List PeakV} (h : NSt w0 wr gp g (some ⟨r, 0, none⟩) n c l ss) : AtF nEnc 4 wr r l ∧ n ≤ c := by
  have h1 := FRow.at nEnc_len (FRow.of h.row h.len.symm)
  exact ⟨h1.1, h1.2.2.2⟩
theorem NSt.outs {w0 wr : World} {gp g n c : Nat} {a : Option Addr} {l : List NodeV} {ss : List PeakV} (h : NSt w0 wr gp g a n c l ss) : wr.cell? ⟨g, 0, none⟩ = some (.slice a n c) ∧ wr.cell? ⟨g, 1, none⟩ = some (.func (.func 46) #[] #[]) ∧ wr.cell? ⟨g, 2, none⟩ = some (.func (.func 48) #[] #[.pointer (some ⟨gp, 0, none⟩)]) := ⟨h.s.cell 0, h.s.cell 1, h.s.cell 2⟩
/-- While one is pushed: the one's block beside it. -/
structure PushN (w0 wr : World) (gp g g3 : Nat) (a : Option Addr) (n c : Nat) (l : List NodeV) (q : NodeV) (ss : List PeakV) : Prop where
  k : NSt w0 wr gp g a n c l ss
  o : NBk wr g3 q
  n2 : ∀ r, (Value.slice a n c).ownBlock = some r → r < g3
  lo : w0.heap.size ≤ g3
section
variable {w0 wr w' : World} {gp g g3 n c : Nat} {a : Option Addr} {l : List NodeV} {q : NodeV} {ss ss' : List PeakV}
theorem PushN.enter {w : World} (h : NSt w0 w gp g a n c l ss) (q : NodeV) : PushN w0 (w.alloc (.cells #[.string q.1.sum, .int .i64 q.1.work, .int .i64 q.1.count, .bool q.2] 73)) gp g w.heap.size a n c l q ss := by
  refine ⟨h.call ((Below.refl _ w).alloc (Nat.le_refl _) _), CBk.new w _ _, fun r hr => ?_, h.f.b.size⟩
  obtain ⟨⟨cur, hb⟩, _⟩ := ownE_is h.row hr
  exact hb.lt
theorem PushN.call (h : PushN w0 wr gp g g3 a n c l q ss) (hb : Below wr.heap.size wr w') : PushN w0 w' gp g g3 a n c l q ss := ⟨h.k.call hb, CBk.call h.o hb, h.n2, h.lo⟩
theorem PushN.drew (h : PushN w0 wr gp g g3 a n c l q ss) : PushN w0 wr.drew gp g g3 a n c l q ss := h.call (Below.refl _ _).drew
theorem PushN.off (h : PushN w0 wr gp g g3 a n c l q ss) (ho : Off gp wr w') (hp : Pf w0 w' gp ss') : PushN w0 w' gp g g3 a n c l q ss' := by
  obtain ⟨cs, hk⟩ := h.k.f.blk
  exact ⟨h.k.off ho hp, ho.cbk h.o ntne (cbk_ne h.o hk ntf), h.n2, h.lo⟩
theorem PushN.two (h : PushN w0 wr gp g g3 a n c l q ss) : (wr.cell? ⟨g, 0, none⟩ = some (.slice a n c) ∧ wr.cell? ⟨g, 1, none⟩ = some (.func (.func 46) #[] #[]) ∧ wr.cell? ⟨g, 2, none⟩ = some (.func (.func 48) #[] #[.pointer (some ⟨gp, 0, none⟩)])) ∧ (wr.cell? ⟨g3, 0, none⟩ = some (.string q.1.sum) ∧ wr.cell? ⟨g3, 1, none⟩ = some (.int .i64 q.1.work) ∧ wr.cell? ⟨g3, 2, none⟩ = some (.int .i64 q.1.count) ∧ wr.cell? ⟨g3, 3, none⟩ = some (.bool q.2)) := ⟨h.k.outs, h.o.four⟩
theorem PushN.all {r m : Nat} {t : NodeV} (h : PushN w0 wr gp g g3 (some ⟨r, 0, none⟩) n c l q ss) (hm : m < l.length) (ht : l.getD m default = t) : (wr.cell? ⟨g, 0, none⟩ = some (.slice (some ⟨r, 0, none⟩) n c) ∧ wr.cell? ⟨g, 1, none⟩ = some (.func (.func 46) #[] #[]) ∧ wr.cell? ⟨g, 2, none⟩ = some (.func (.func 48) #[] #[.pointer (some ⟨gp, 0, none⟩)])) ∧ (wr.cell? ⟨r, m * 4, none⟩ = some (.string t.1.sum) ∧ wr.cell? ⟨r, m * 4 + 1, none⟩ = some (.int .i64 t.1.work) ∧ wr.cell? ⟨r, m * 4 + 2, none⟩ = some (.int .i64 t.1.count) ∧ wr.cell? ⟨r, m * 4 + 3, none⟩ = some (.bool t.2)) ∧ (wr.cell? ⟨g3, 0, none⟩ = some (.string q.1.sum) ∧ wr.cell? ⟨g3, 1, none⟩ = some (.int .i64 q.1.work) ∧ wr.cell? ⟨g3, 2, none⟩ = some (.int .i64 q.1.count) ∧ wr.cell? ⟨g3, 3, none⟩ = some (.bool q.2)) := by
  have h1 := h.k.at.1
  refine ⟨h.k.outs, ?_, h.o.four⟩
  rw [← ht]
  exact ⟨h1.2 m 0 hm (by decide), h1.2 m 1 hm (by decide), h1.2 m 2 hm (by decide), h1.2 m 3 hm (by decide)⟩
/-- Behind the store of another one. -/
theorem PushN.put (h : PushN w0 wr gp g g3 a n c l q ss) (x : NodeV) : PushN w0 ((((wr.setCell ⟨g3, 0, none⟩ (.string (x).1.sum)).setCell ⟨g3, 1, none⟩ (.int .i64 (x).1.work)).setCell ⟨g3, 2, none⟩ (.int .i64 (x).1.count)).setCell ⟨g3, 3, none⟩ (.bool (x).2)) gp g g3 a n c l x ss := by
  have hr1 := CBk.set h.o 0 (.string x.1.sum)
  have hr2 := hr1.set 1 (.int .i64 x.1.work)
  have hr3 := hr2.set 2 (.int .i64 x.1.count)
  exact ⟨(((h.k.store h.o h.n2 h.lo _).store hr1 h.n2 h.lo _).store hr2 h.n2 h.lo _).store hr3 h.n2 h.lo _, CBk.set4 h.o, h.n2, h.lo⟩
/-- Behind the store of a shorter row. -/
theorem PushN.pop {r m : Nat} (h : PushN w0 wr gp g g3 (some ⟨r, 0, none⟩) (m + 1) c l q ss) : PushN w0 (wr.setCell ⟨g, 0, none⟩ (.slice (some ⟨r, 0, none⟩) m c)) gp g g3 (some ⟨r, 0, none⟩) m c (l.take m) q ss := by
  have h4 := h.k.len
  have hml : m < l.length := by omega
  have e1 : l = l.take m ++ [l.getD m default] := by
    rw [← takeN_one hml, ← h4, List.take_length]
  have hl : ((l.take m).flatMap nEnc).length = m * 4 := by
    rw [flat_length 4 nEnc nEnc_len, List.length_take]
    omega
  have h5 : wr.ownsRow w0.heap.size 73 4 (.slice (some ⟨r, 0, none⟩) (m + 1) c) (m + 1) ((l.take m).flatMap nEnc ++ nEnc (l.getD m default)) := by
    have := h.k.row
    rw [e1, List.flatMap_append] at this
    have hmin : min m l.length = m := by omega
    simpa [List.take_append_of_le_length, List.length_take, hmin] using this
  have h6 := ownsRow_pop hl h5
  have hrg : (Value.slice (some ⟨r, 0, none⟩) (m + 1) c).ownBlock ≠ some g := ownE_ne h.k.row h.k.s stn
  have hrg' : r ≠ g := by simpa [Value.ownBlock] using hrg
  have hn2 := h.n2 r rfl
  refine ⟨⟨h.k.s.set 0 _, ownE_keep h6 (fun b hv hlt => ?_), by rw [List.length_take]; omega, h.k.f.store h.k.s stp stf h.k.lo _, h.k.lo⟩, h.o.other (cbk_ne h.k.s h.o stn) _, fun r' hr' => ?_, h.lo⟩
  · have : r = b := by simpa [Value.ownBlock] using hv
    subst this
    simp [World.setCell, Array.getElem?_modify, Ne.symm hrg']
  · have : r = r' := by simpa [Value.ownBlock] using hr'
    omega
/-- Behind the append of the one. -/
theorem PushN.grown {w6 : World} (h : PushN w0 wr gp g g3 a n c l q ss) (hg : wr.grownBy w6 (Value.slice a n c).ownBlock) : CBk w6 g 80 #[.slice a n c, .func (.func 46) #[] #[], .func (.func 48) #[] #[.pointer (some ⟨gp, 0, none⟩)]] :=
  (hg.block g h.k.s.lt (Ne.symm (ownE_ne h.k.row h.k.s stn))).trans h.k.s
theorem PushN.app {w6 : World} {g6 c6 : Nat} (h : PushN w0 wr gp g g3 a n c l q ss) (hown : w6.ownsRow w0.heap.size 73 4 (.slice (some ⟨g6, 0, none⟩) (n + 1) c6) (n + 1) (l.flatMap nEnc ++ nEnc q)) (hg : wr.grownBy w6 (Value.slice a n c).ownBlock) : NSt w0 (w6.setCell ⟨g, 0, none⟩ (.slice (some ⟨g6, 0, none⟩) (n + 1) c6)) gp g (some ⟨g6, 0, none⟩) (n + 1) c6 (l ++ [q]) ss := by
  have hs6 := h.grown hg
  have hne : (Value.slice (some ⟨g6, 0, none⟩) (n + 1) c6).ownBlock ≠ some g := ownE_ne hown hs6 stn
  have hne' : g6 ≠ g := by simpa [Value.ownBlock] using hne
  obtain ⟨vs, hf⟩ := h.k.f
  have hf6 : Pf w0 w6 gp ss := by
    refine ⟨vs, (hg.block gp hf.k.lt (Ne.symm (ownE_ne h.k.row hf.k ftn))).trans hf.k, ownE_keep hf.row (fun b hv hlt => ?_), ?_, hf.lo⟩
    · obtain ⟨⟨cur, hb⟩, _⟩ := ownE_is hf.row hv
      exact hg.block b hlt (Ne.symm (ownE_ne h.k.row hb ptn))
    · exact hf.b.grown hg hf.b.size (fun j hj => (ownE_is h.k.row hj).2)
  have hown' : w6.ownsRow w0.heap.size 73 4 (.slice (some ⟨g6, 0, none⟩) (n + 1) c6) (n + 1) ((l ++ [q]).flatMap nEnc) := by
    rw [List.flatMap_append]
    simpa using hown
  refine ⟨hs6.set 0 _, ownE_keep hown' (fun b hv hlt => ?_), by rw [List.length_append, h.k.len]; rfl, hf6.store hs6 stp stf h.k.lo _, h.k.lo⟩
  · have : g6 = b := by simpa [Value.ownBlock] using hv
    subst this
    simp [World.setCell, Array.getElem?_modify, Ne.symm hne']
end
def NPush (w0 : World) (gp g : Nat) (A : List NodeV) (N : List PeakV) (e : Ending) (w' : World) : Prop := e = .returned (.tuple #[]) ∧ ∃ a n c, NSt w0 w' gp g a n c A N
theorem npush_res {w0 w' : World} {gp g n c : Nat} {a : Option Addr} {A : List NodeV} {N : List PeakV} (h : NSt w0 w' gp g a n c A N) : NPush w0 gp g A N (.returned (.tuple #[])) w' := ⟨rfl, a, n, c, h⟩
end Go.Proofs.YtoifgpmbeicmnaaGreatDoor

