/-
  RangeAdd answers as the specification at every list of peaks and head, field by field, writes into no argument, and its answer owns its memory; for every input, no condition; the tables of the program as its text lays them.
-/
import Derived.Test.YtjeldedjhlicmaaDoorPart1
import Derived.Test.YtjeldedjhlicmaaDoorPart2
import Derived.Test.YtjeldedjhlicmaaDoorPart3
import Derived.Test.YtjeldedjhlicmaaDoorPart4
import Derived.Test.YtjeldedjhlicmaaDoorPart5
import Derived.Test.YtjeldedjhlicmaaDoorPart6
import Derived.Test.YtjeldedjhlicmaaDoorPart7
import Derived.Deep.RegionWith
import Derived.Deep.RegionHeld3
import Derived.Test.YtjeldedjhlicmaaDoorCards
import Derived.Test.YtjeldedjhlicmaaDoorTie
import Derived.WalkKit
import Derived.ProofKit
import Derived.OpenShut
import Derived.ShutString
import Derived.ChangeOld
import Derived.ChangeVars
import Derived.Below
import Derived.Carry
import Derived.Deep.DeepHandedRow
import Derived.Lib.LaidTab
set_option linter.unusedVariables false
namespace Go.Proofs.YtjeldedjhlicmaaDoor
open Go.RowKit Go.Deep

/-- A block of peaks that may be written. -/
def PBk (w : World) (g n : Nat) : Prop := ∃ cur : Array Value, w.heap[g]? = some (.cells cur 63 (0, 0)) ∧ n * 3 ≤ cur.size
theorem PBk.lt {w : World} {g n : Nat} (h : PBk w g n) : g < w.heap.size := by
  obtain ⟨cur, h1, _⟩ := h
  rcases Nat.lt_or_ge g w.heap.size with h' | h'
  · exact h'
  · simp [Array.getElem?_eq_none h'] at h1
theorem PBk.keep {w w' : World} {g n : Nat} (h : PBk w g n) (hk : w'.heap[g]? = w.heap[g]?) : PBk w' g n := by
  obtain ⟨cur, h1, h2⟩ := h
  exact ⟨cur, hk.trans h1, h2⟩
theorem PBk.below {w w' : World} {g n B : Nat} (h : PBk w g n) (hb : Below B w w') (hg : g < B) : PBk w' g n := h.keep (hb.block g hg)
theorem PBk.cell {w : World} {g n : Nat} (h : PBk w g n) (i : Nat) (hi : i < n * 3) : (∃ v, w.cell? ⟨g, i, none⟩ = some v) ∧ w.frozen? ⟨g, i, none⟩ = false := by
  obtain ⟨cur, h1, h2⟩ := h
  refine ⟨?_, Lib.frozen_of_heap h1 i⟩
  rw [Lib.cell_of_heap h1]
  have hic : i < cur.size := by omega
  exact ⟨cur[i], Array.getElem?_eq_getElem hic⟩
theorem PBk.set {w : World} {g n : Nat} (h : PBk w g n) (i : Nat) (v : Value) : PBk (w.setCell ⟨g, i, none⟩ v) g n := by
  obtain ⟨cur, h1, h2⟩ := h
  exact ⟨cur.setIfInBounds i v, by simp [World.setCell, Array.getElem?_modify, h1], by simpa using h2⟩
theorem PBk.of {w : World} {g : Nat} {l : List PeakV} (h : RowP w g l) : PBk w g l.length := ⟨_, h, by simp [flat_length 3 pEnc pEnc_len]⟩
theorem PBk.frow {B : Nat} {v : Value} {l : List PeakV} {w : World} (h : PRow B v l w) : ∃ g cap, v = .slice (some ⟨g, 0, none⟩) l.length cap ∧ AtP w g l ∧ PBk w g l.length ∧ B ≤ g := by
  obtain ⟨g, cap, cur, rfl, h1, h2, h3, h4, h5⟩ := h.block
  refine ⟨g, cap, rfl, (FRow.at pEnc_len h).1, ⟨cur, h3, ?_⟩, h1⟩
  have := congrArg List.length h4
  rw [List.length_take, flat_length 3 pEnc pEnc_len] at this
  rw [← Array.length_toList]
  omega
theorem cellSetOther {w : World} {g i j : Nat} {v : Value} (h : i ≠ j) : (w.setCell ⟨g, i, none⟩ v).cell? ⟨g, j, none⟩ = w.cell? ⟨g, j, none⟩ := by
  simp [World.setCell, World.cell?, Array.getElem?_modify]
  cases hh : w.heap[g]? with
  | none => simp
  | some o => cases o <;> simp [h]
theorem PBk.cellSet {w : World} {g n : Nat} (h : PBk w g n) (i : Nat) (hi : i < n * 3) (v : Value) : (w.setCell ⟨g, i, none⟩ v).cell? ⟨g, i, none⟩ = some v := by
  obtain ⟨cur, h1, h2⟩ := h
  have : (w.setCell ⟨g, i, none⟩ v).heap[g]? = some (.cells (cur.setIfInBounds i v) 63 (0, 0)) := by simp [World.setCell, Array.getElem?_modify, h1]
  rw [Lib.cell_of_heap this]
  have : i < cur.size := by omega
  simp [this]
/-- A list that holds its marks, so far. -/
def MkP (w : World) (g k n : Nat) : Prop := ∀ i, i < n → w.cell? ⟨g, i * 3, none⟩ = some (.string (mkS (k + 3 * i))) ∧ w.cell? ⟨g, i * 3 + 1, none⟩ = some (.int .i64 (((k + 3 * i : Nat) : Int) + 1)) ∧ w.cell? ⟨g, i * 3 + 2, none⟩ = some (.int .i64 (((k + 3 * i : Nat) : Int) + 1 + 1))
theorem MkP.below {w w' : World} {g k n B : Nat} (h : MkP w g k n) (hb : Below B w w') (hg : g < B) : MkP w' g k n := fun i hi =>
  ⟨(hb.cell (p := ⟨g, i * 3, none⟩) hg).trans (h i hi).1, (hb.cell (p := ⟨g, i * 3 + 1, none⟩) hg).trans (h i hi).2.1, (hb.cell (p := ⟨g, i * 3 + 2, none⟩) hg).trans (h i hi).2.2⟩
theorem MkP.step {w : World} {g k j n : Nat} (h : MkP w g k j) (hb : PBk w g n) (hj : j < n) : MkP (((w.setCell ⟨g, j * 3, none⟩ (.string (mkS (k + 3 * j)))).setCell ⟨g, j * 3 + 1, none⟩ (.int .i64 (((k + 3 * j : Nat) : Int) + 1))).setCell ⟨g, j * 3 + 2, none⟩ (.int .i64 (((k + 3 * j : Nat) : Int) + 1 + 1))) g k (j + 1) := by
  intro i hi
  rcases Nat.lt_or_ge i j with h' | h'
  · obtain ⟨h1, h2, h3⟩ := h i h'
    refine ⟨?_, ?_, ?_⟩
    · rw [cellSetOther (by omega), cellSetOther (by omega), cellSetOther (by omega)]; exact h1
    · rw [cellSetOther (by omega), cellSetOther (by omega), cellSetOther (by omega)]; exact h2
    · rw [cellSetOther (by omega), cellSetOther (by omega), cellSetOther (by omega)]; exact h3
  · obtain rfl : i = j := by omega
    refine ⟨?_, ?_, ?_⟩
    · rw [cellSetOther (by omega), cellSetOther (by omega)]; exact hb.cellSet _ (by omega) _
    · rw [cellSetOther (by omega)]; exact (hb.set _ _).cellSet _ (by omega) _
    · exact ((hb.set _ _).set _ _).cellSet _ (by omega) _
/-- What writing marks leaves. -/
def MPPost (g n k : Nat) (w : World) (e : Ending) (w' : World) : Prop := e = .returned (.int .i64 ((k + 3 * n : Nat) : Int)) ∧ MkP w' g k n ∧ (∀ c, c < w.heap.size → c ≠ g → w'.heap[c]? = w.heap[c]?) ∧ Below 0 w w' ∧ PBk w' g n
theorem setOff {w wr : World} {g j : Nat} {v : Value} (h : ∀ c, c < w.heap.size → c ≠ g → wr.heap[c]? = w.heap[c]?) : ∀ c, c < w.heap.size → c ≠ g → (wr.setCell ⟨g, j, none⟩ v).heap[c]? = w.heap[c]? := fun c hc hne => by
  rw [← h c hc hne]
  simp [World.setCell, Array.getElem?_modify, Ne.symm hne]
set_option maxHeartbeats 2000000 in
set_option maxRecDepth 100000 in
theorem markPeaks (g n cap k : Nat) (w : World) (h : PBk w g n) (hn : n ≤ 1048576) (hk : k ≤ 1000000000) :
    Calls Tryd.prog 15 #[.slice (some ⟨g, 0, none⟩) n cap, .int .i64 (k : Int)] w fun e w' => MPPost g n k w e w' := by
  have H0 : Hid (PBk w g n) := h
  clear h
  have HQ : Hid (∀ e w', e = .returned (.int .i64 ((k + 3 * n : Nat) : Int)) → MkP w' g k n → (∀ c, c < w.heap.size → c ≠ g → w'.heap[c]? = w.heap[c]?) → Below 0 w w' → PBk w' g n → MPPost g n k w e w') := fun e w' h1 h2 h3 h4 h5 => ⟨h1, h2, h3, h4, h5⟩
  generalize MPPost g n k w = Q at HQ ⊢
  go_enter Tryd.func15, Tryd.ntmps15
  go_wp2_with fail
  go_loopw [1, 5] (fun m i wr => ∃ j : Nat, j ≤ n ∧ i = .int .i64 (j : Int) ∧ m = .int .i64 ((k + 3 * j : Nat) : Int) ∧ Hid (PBk wr g n ∧ MkP wr g k j ∧ (∀ c, c < w.heap.size → c ≠ g → wr.heap[c]? = w.heap[c]?) ∧ Below 0 w wr)) (fun _ i _ => n - (intOf i).toNat)
  case atStart => exact ⟨0, by omega, rfl, rfl, H0.out, fun i hi => by omega, fun c _ _ => rfl, Below.refl _ _⟩
  case round =>
    clear H0
    obtain ⟨j, hj, rfl, rfl, HS⟩ := hrel
    by_cases hlt : j < n
    · have hmk := markText (k + 3 * j) (by omega) wr
      have lj : (j : Int) < (n : Int) := by omega
      have lj0 : (0 : Int) ≤ (j : Int) := by omega
      have HK1 : Hid (j + 1 ≤ n) := hlt
      have hgl := HS.out.1.lt
      obtain ⟨m, hm⟩ : ∃ m, m = k + 3 * j := ⟨_, rfl⟩
      have HM : Hid (m = k + 3 * j) := hm
      have HM1 : Hid (((m : Int) + 1 + 1 + 1) = ((k + 3 * (j + 1) : Nat) : Int)) := by show _ = _; omega
      rw [← hm] at hmk ⊢
      have wk : IntKind.i64.wrap ((m : Int) + 1) = (m : Int) + 1 := by rw [IntKind.wrap_i64]; omega
      have wk2 : IntKind.i64.wrap ((m : Int) + 1 + 1) = (m : Int) + 1 + 1 := by rw [IntKind.wrap_i64]; omega
      have wk3 : IntKind.i64.wrap ((m : Int) + 1 + 1 + 1) = (m : Int) + 1 + 1 + 1 := by rw [IntKind.wrap_i64]; omega
      have wj : IntKind.i64.wrap ((j : Int) + 1) = (j : Int) + 1 := by rw [IntKind.wrap_i64]; omega
      clear hm
      go_wp2_with fail
      refine hmk.mono ?_
      rintro e w1 ⟨rfl, b1⟩
      have HS1 : Hid (PBk w1 g n) := HS.out.1.below b1 hgl
      obtain ⟨⟨v0, q0⟩, z0⟩ := HS1.out.cell (j * 3) (by omega)
      obtain ⟨⟨v1, q1⟩, z1⟩ := HS1.out.cell (j * 3 + 1) (by omega)
      obtain ⟨⟨v2, q2⟩, z2⟩ := HS1.out.cell (j * 3 + 2) (by omega)
      have HC1 : Hid (MkP w1 g k j) := HS.out.2.1.below b1 hgl
      have HU1 : Hid (∀ c, c < w.heap.size → c ≠ g → w1.heap[c]? = w.heap[c]?) := fun c hc hne => (b1.block c (Nat.lt_of_lt_of_le hc HS.out.2.2.2.size)).trans (HS.out.2.2.1 c hc hne)
      have HX1 : Hid (Below 0 w w1) := HS.out.2.2.2.trans (b1.mono (Nat.zero_le _))
      have HN : Hid (PBk (((w1.setCell ⟨g, j * 3, none⟩ (.string (mkS m))).setCell ⟨g, j * 3 + 1, none⟩ (.int .i64 ((m : Int) + 1))).setCell ⟨g, j * 3 + 2, none⟩ (.int .i64 ((m : Int) + 1 + 1))) g n ∧ MkP (((w1.setCell ⟨g, j * 3, none⟩ (.string (mkS m))).setCell ⟨g, j * 3 + 1, none⟩ (.int .i64 ((m : Int) + 1))).setCell ⟨g, j * 3 + 2, none⟩ (.int .i64 ((m : Int) + 1 + 1))) g k (j + 1) ∧ (∀ c, c < w.heap.size → c ≠ g → (((w1.setCell ⟨g, j * 3, none⟩ (.string (mkS m))).setCell ⟨g, j * 3 + 1, none⟩ (.int .i64 ((m : Int) + 1))).setCell ⟨g, j * 3 + 2, none⟩ (.int .i64 ((m : Int) + 1 + 1))).heap[c]? = w.heap[c]?) ∧ Below 0 w (((w1.setCell ⟨g, j * 3, none⟩ (.string (mkS m))).setCell ⟨g, j * 3 + 1, none⟩ (.int .i64 ((m : Int) + 1))).setCell ⟨g, j * 3 + 2, none⟩ (.int .i64 ((m : Int) + 1 + 1)))) := by
        refine ⟨((HS1.out.set _ _).set _ _).set _ _, ?_, setOff (setOff (setOff HU1.out)), ((HX1.out.setCell (p := ⟨g, j * 3, none⟩) (Nat.zero_le _) _).setCell (p := ⟨g, j * 3 + 1, none⟩) (Nat.zero_le _) _).setCell (p := ⟨g, j * 3 + 2, none⟩) (Nat.zero_le _) _⟩
        have := HC1.out.step HS1.out hlt
        rw [← HM.out] at this
        exact this
      clear hmk HS HS1 HC1 HU1 HX1 b1
      generalize mkS m = ms at HN ⊢
      go_wp2_with fail
      go_roundw
      case rel => exact ⟨j + 1, HK1.out, by go_num, by show Value.int .i64 _ = Value.int .i64 _; rw [HM1.out], HN⟩
      case measure => have := HK1.out; simp [intOf]; omega
    · obtain rfl : j = n := by omega
      go_wp2_with fail
      exact HQ.out _ _ rfl HS.out.2.1 HS.out.2.2.1 HS.out.2.2.2 HS.out.1

set_option maxHeartbeats 2000000 in
set_option maxRecDepth 100000 in
theorem heldPeaks (g n cap k : Nat) (w : World) (hg : g < w.heap.size) (h : MkP w g k n) (hn : n ≤ 1048576) (hk : k ≤ 1000000000) :
    Calls Tryd.prog 16 #[.slice (some ⟨g, 0, none⟩) n cap, .int .i64 (k : Int)] w fun e w' => e = .returned (.int .i64 ((k + 3 * n : Nat) : Int)) ∧ Below w.heap.size w w' := by
  have H0 : Hid (MkP w g k n) := h
  clear h
  obtain ⟨kn, hkn⟩ : ∃ kn, kn = k + 3 * n := ⟨_, rfl⟩
  rw [← hkn]
  have HKN : Hid (kn = k + 3 * n) := hkn
  clear hkn
  go_enter Tryd.func16, Tryd.ntmps16
  go_wp2_with fail
  go_loopw [1, 5] (fun m i wr => ∃ j : Nat, j ≤ n ∧ i = .int .i64 (j : Int) ∧ m = .int .i64 ((k + 3 * j : Nat) : Int) ∧ Hid (Below w.heap.size w wr)) (fun _ i _ => n - (intOf i).toNat)
  case atStart => exact ⟨0, by omega, rfl, rfl, Below.refl _ _⟩
  case round =>
    obtain ⟨j, hj, rfl, rfl, HB⟩ := hrel
    by_cases hlt : j < n
    · have HMK : Hid (MkP wr g k n) := H0.out.below HB.out hg
      have HGR : Hid (g < wr.heap.size) := Nat.lt_of_lt_of_le hg HB.out.size
      have c0 := (HMK.out j hlt).1
      have lj : (j : Int) < (n : Int) := by omega
      have lj0 : (0 : Int) ≤ (j : Int) := by omega
      have HK1 : Hid (j + 1 ≤ n) := hlt
      have hmk := fun w' => markText (k + 3 * j) (by omega) w'
      obtain ⟨m, hm⟩ : ∃ m, m = k + 3 * j := ⟨_, rfl⟩
      have HM1 : Hid (((m : Int) + 1 + 1 + 1) = ((k + 3 * (j + 1) : Nat) : Int)) := by show _ = _; omega
      have HCC : Hid (∀ w', Below wr.heap.size wr w' → w'.cell? ⟨g, j * 3, none⟩ = some (.string (mkS m)) ∧ w'.cell? ⟨g, j * 3 + 1, none⟩ = some (.int .i64 ((m : Int) + 1)) ∧ w'.cell? ⟨g, j * 3 + 2, none⟩ = some (.int .i64 ((m : Int) + 1 + 1))) := fun w' hb => by
        have := HMK.out.below hb HGR.out j hlt
        rw [← hm] at this
        exact this
      rw [← hm] at hmk c0 ⊢
      have wk : IntKind.i64.wrap ((m : Int) + 1) = (m : Int) + 1 := by rw [IntKind.wrap_i64]; omega
      have wk2 : IntKind.i64.wrap ((m : Int) + 1 + 1) = (m : Int) + 1 + 1 := by rw [IntKind.wrap_i64]; omega
      have wk3 : IntKind.i64.wrap ((m : Int) + 1 + 1 + 1) = (m : Int) + 1 + 1 + 1 := by rw [IntKind.wrap_i64]; omega
      have wj : IntKind.i64.wrap ((j : Int) + 1) = (j : Int) + 1 := by rw [IntKind.wrap_i64]; omega
      generalize mkS m = ms at hmk c0 HCC
      clear hm
      go_wp2_with fail
      go_region_with (go_at_call 42; refine (hmk _).mono ?_; rintro e w1 ⟨rfl, b1⟩; obtain ⟨q0, q1, q2⟩ := HCC.out w1 ((Below.refl _ wr).drew.trans b1))
      all_goals
        have HB1 : Hid (Below w.heap.size w w1) := HB.out.drew.trans (b1.mono HB.out.size)
        clear b1 HCC HMK
        go_wp2_with fail
        go_roundw
        case rel => exact ⟨j + 1, HK1.out, by go_num, by show Value.int .i64 _ = Value.int .i64 _; rw [HM1.out], HB1⟩
        case measure => have := HK1.out; simp [intOf]; omega
    · obtain rfl : j = n := by omega
      have hv := HKN.out
      rw [← hv]
      go_wp2_with fail
      go_ret
      exact ⟨rfl, HB.out⟩

theorem eqPeaksNil (w : World) : Calls Tryd.prog 12 #[.slice none 0 0, .slice none 0 0] w fun e w' => e = .returned (.bool true) ∧ w' = w := by
  go_enter Tryd.func12, Tryd.ntmps12
  go_wp2_with fail
  go_loopw [5] (fun i wr => i = .int .i64 0 ∧ Hid (wr = w)) (fun _ _ => 0)
  case atStart => exact ⟨rfl, rfl⟩
  case round =>
    obtain ⟨rfl, HW⟩ := hrel
    go_wp2_with fail
    go_ret
    exact ⟨rfl, HW.out⟩
theorem markPeaksNil (w : World) : Calls Tryd.prog 15 #[.slice none 0 0, .int .i64 1] w fun e w' => e = .returned (.int .i64 1) ∧ w' = w := by
  go_enter Tryd.func15, Tryd.ntmps15
  go_wp2_with fail
  go_loopw [1, 5] (fun m i wr => m = .int .i64 1 ∧ i = .int .i64 0 ∧ Hid (wr = w)) (fun _ _ _ => 0)
  case atStart => exact ⟨rfl, rfl, rfl⟩
  case round =>
    obtain ⟨rfl, rfl, HW⟩ := hrel
    go_wp2_with fail
    go_ret
    exact ⟨rfl, HW.out⟩
theorem heldPeaksNil (w : World) : Calls Tryd.prog 16 #[.slice none 0 0, .int .i64 1] w fun e w' => e = .returned (.int .i64 1) ∧ w' = w := by
  go_enter Tryd.func16, Tryd.ntmps16
  go_wp2_with fail
  go_loopw [1, 5] (fun m i wr => m = .int .i64 1 ∧ i = .int .i64 0 ∧ Hid (wr = w)) (fun _ _ _ => 0)
  case atStart => exact ⟨rfl, rfl, rfl⟩
  case round =>
    obtain ⟨rfl, rfl, HW⟩ := hrel
    go_wp2_with fail
    go_ret
    exact ⟨rfl, HW.out⟩
/-- A list of peaks that was handed back: nothing, or a row that stands in a block of its own. -/
def Pks (B : Nat) (v : Value) (l : List PeakV) (w : World) : Prop := (v = .slice none 0 0 ∧ l = []) ∨ ∃ g cap, v = .slice (some ⟨g, 0, none⟩) l.length cap ∧ AtP w g l ∧ PBk w g l.length ∧ B ≤ g
theorem Pks.below {B : Nat} {v : Value} {l : List PeakV} {w w' : World} (h : Pks B v l w) (hb : Below w.heap.size w w') : Pks B v l w' := by
  rcases h with h | ⟨g, cap, h1, h2, h3, h4⟩
  · exact .inl h
  · exact .inr ⟨g, cap, h1, h2.below hb h2.1, h3.below hb h3.lt, h4⟩
theorem Pks.mono {B C : Nat} {v : Value} {l : List PeakV} {w : World} (h : Pks B v l w) (hc : C ≤ B) : Pks C v l w := by
  rcases h with h | ⟨g, cap, h1, h2, h3, h4⟩
  · exact .inl h
  · exact .inr ⟨g, cap, h1, h2, h3, Nat.le_trans hc h4⟩
/-- The block of a value that is a row. -/
def blkOf : Value → Nat → Prop
  | .slice (some a) _ _, g => a.block = g
  | _, _ => False
theorem Pks.blk {B : Nat} {v : Value} {l : List PeakV} {w : World} (h : Pks B v l w) {g : Nat} (hv : blkOf v g) : g < w.heap.size ∧ B ≤ g := by
  rcases h with ⟨rfl, _⟩ | ⟨g', c', rfl, h2, _, h4⟩
  · exact absurd hv (by simp [blkOf])
  · have : g' = g := hv
    subst this
    exact ⟨h2.1, h4⟩
theorem Pks.keep {B : Nat} {v : Value} {l : List PeakV} {w w' : World} (h : Pks B v l w) (hs : w.heap.size ≤ w'.heap.size) (hk : ∀ g, blkOf v g → w'.heap[g]? = w.heap[g]?) : Pks B v l w' := by
  rcases h with h | ⟨g, cap, rfl, h2, h3, h4⟩
  · exact .inl h
  · refine .inr ⟨g, cap, rfl, ⟨Nat.lt_of_lt_of_le h2.1 hs, fun i j hi hj => ?_⟩, h3.keep (hk g rfl), h4⟩
    have := h2.2 i j hi hj
    rw [← this]
    exact World.cell?_of_block (a := ⟨g, i * 3 + j, none⟩) (hk g rfl)
theorem pksEq {B C : Nat} {u v : Value} {l : List PeakV} {w : World} (h1 : Pks B u l w) (h2 : Pks C v l w) (hn : l.length ≤ 1048576) : Calls Tryd.prog 12 #[u, v] w fun e w' => e = .returned (.bool true) ∧ Below w.heap.size w w' := by
  rcases h1 with ⟨rfl, hs⟩ | ⟨g1, c1, rfl, a1, b1, _⟩
  · rcases h2 with ⟨rfl, _⟩ | ⟨g2, c2, rfl, a2, b2, _⟩
    · exact (eqPeaksNil w).mono fun e w' ⟨he, hw⟩ => ⟨he, by rw [hw]; exact Below.refl _ _⟩
    · subst hs
      clear a2 b2
      go_enter Tryd.func12, Tryd.ntmps12
      go_wp2_with fail
      go_loopw [5] (fun i wr => i = .int .i64 0 ∧ Hid (wr = w)) (fun _ _ => 0)
      case atStart => exact ⟨rfl, rfl⟩
      case round =>
        obtain ⟨rfl, HW⟩ := hrel
        go_wp2_with fail
        go_ret
        exact ⟨rfl, by rw [HW.out]; exact Below.refl _ _⟩
  · rcases h2 with ⟨rfl, hs⟩ | ⟨g2, c2, rfl, a2, b2, _⟩
    · subst hs
      clear a1 b1
      go_enter Tryd.func12, Tryd.ntmps12
      go_wp2_with fail
      go_loopw [5] (fun i wr => i = .int .i64 0 ∧ Hid (wr = w)) (fun _ _ => 0)
      case atStart => exact ⟨rfl, rfl⟩
      case round =>
        obtain ⟨rfl, HW⟩ := hrel
        go_wp2_with fail
        go_ret
        exact ⟨rfl, by rw [HW.out]; exact Below.refl _ _⟩
    · exact eqPeaks g1 g2 l.length c1 c2 l w a1 a2 rfl (by omega)
/-- A list of peaks that holds its marks. -/
def HeldP (v : Value) (n : Nat) (w : World) : Prop := (v = .slice none 0 0 ∧ n = 0) ∨ ∃ g cap, v = .slice (some ⟨g, 0, none⟩) n cap ∧ g < w.heap.size ∧ MkP w g 1 n
theorem HeldP.below {v : Value} {n : Nat} {w w' : World} (h : HeldP v n w) (hb : Below w.heap.size w w') : HeldP v n w' := by
  rcases h with h | ⟨g, cap, h1, h2, h3⟩
  · exact .inl h
  · exact .inr ⟨g, cap, h1, Nat.lt_of_lt_of_le h2 hb.size, h3.below hb h2⟩
theorem pksMark {B : Nat} {v : Value} {l : List PeakV} {w : World} (h : Pks B v l w) (hn : l.length ≤ 1048576) : Calls Tryd.prog 15 #[v, .int .i64 1] w fun e w' => e = .returned (.int .i64 ((1 + 3 * l.length : Nat) : Int)) ∧ HeldP v l.length w' ∧ Below 0 w w' ∧ ∀ b, b < w.heap.size → b < B → w'.heap[b]? = w.heap[b]? := by
  rcases h with ⟨rfl, rfl⟩ | ⟨g, cap, rfl, a, b, hB⟩
  · exact (markPeaksNil w).mono fun e w' ⟨he, hw⟩ => ⟨he, .inl ⟨rfl, rfl⟩, by rw [hw]; exact Below.refl _ _, fun b _ _ => by rw [hw]⟩
  · refine (markPeaks g l.length cap 1 w b (by omega) (by omega)).mono ?_
    rintro e w' ⟨rfl, hc, hu, hfr, hb⟩
    exact ⟨rfl, .inr ⟨g, cap, rfl, hb.lt, hc⟩, hfr, fun c hc1 hc2 => hu c hc1 (by omega)⟩
theorem pksHeld {v : Value} {n : Nat} {w : World} (h : HeldP v n w) (hn : n ≤ 1048576) : Calls Tryd.prog 16 #[v, .int .i64 1] w fun e w' => e = .returned (.int .i64 ((1 + 3 * n : Nat) : Int)) ∧ Below w.heap.size w w' := by
  rcases h with ⟨rfl, rfl⟩ | ⟨g, cap, rfl, hg, hc⟩
  · exact (heldPeaksNil w).mono fun e w' ⟨he, hw⟩ => ⟨he, by rw [hw]; exact Below.refl _ _⟩
  · exact heldPeaks g n cap 1 w hg hc (by omega) (by omega)

end Go.Proofs.YtjeldedjhlicmaaDoor

set_option linter.unusedVariables false
namespace Go.Proofs.YtjeldedjhlicmaaDoor
open Go.ChangeShapes Go.WideShapes Go.ChangeAt Go.RowKit Go.Deep

/-- What RangeAdd tells: the peaks, and whether there was room. -/
def addL (ps : List PeakV) (h : HeadV) : List PeakV := if (rangeOkB ps && headOkB h) = true then (if rangeOkB (addP ps (leafP h)) then addP ps (leafP h) else ps) else []
def addB (ps : List PeakV) (h : HeadV) : Bool := (rangeOkB ps && headOkB h) && rangeOkB (addP ps (leafP h))
theorem addL_len (ps : List PeakV) (h : HeadV) : (addL ps h).length ≤ 21 := by
  unfold addL
  split
  · rename_i hk
    rw [Bool.and_eq_true] at hk
    have h1 := range_len hk.1
    have h2 := addP_len ps (leafP h)
    split <;> omega
  · exact Nat.zero_le _
theorem AddPost.pks {B : Nat} {ps : List PeakV} {h : HeadV} {e : Ending} {w' : World} (hp : AddPost B ps h e w') : ∃ v, e = .returned (.tuple #[v, .bool (addB ps h)]) ∧ Pks B v (addL ps h) w' := by
  rcases hp with ⟨h1, rfl⟩ | ⟨h1, v, rfl, h2⟩
  · refine ⟨_, by rw [addB, h1]; rfl, .inl ⟨rfl, by rw [addL, h1]; rfl⟩⟩
  · refine ⟨v, by rw [addB, h1]; rfl, .inr ?_⟩
    rw [addL, if_pos h1]
    exact PBk.frow h2
/-- What stands while the statement is walked: the head as it was handed in. -/
structure AW (w wr : World) (g0 : Nat) (h : HeadV) : Prop where
  c : CBk wr g0 35 #[.string h.prev, .string h.root, .int .i64 h.time, .int .i64 h.diff, .int .i64 h.nonce]
  b : Below w.heap.size w wr
  lo : w.heap.size ≤ g0
theorem AW.call {w wr w' : World} {g0 : Nat} {h : HeadV} (a : AW w wr g0 h) (hb : Below wr.heap.size wr w') : AW w w' g0 h := ⟨a.c.call hb, a.b.trans (hb.mono a.b.size), a.lo⟩
theorem AW.keep {w wr w' : World} {g0 : Nat} {h : HeadV} (a : AW w wr g0 h) (hf : Below 0 wr w') (hk : ∀ c, c < wr.heap.size → c ≤ g0 → w'.heap[c]? = wr.heap[c]?) : AW w w' g0 h := by
  refine ⟨(hk g0 a.c.lt (Nat.le_refl _)).trans a.c, a.b.trans ⟨hf.os, hf.tape, hf.output, hf.size, fun k hkk => hk k (Nat.lt_of_lt_of_le hkk a.b.size) (by have := a.lo; omega)⟩, a.lo⟩
theorem AW.new (w : World) (h : HeadV) : AW w (w.alloc (.cells #[.string h.prev, .string h.root, .int .i64 h.time, .int .i64 h.diff, .int .i64 h.nonce] 35)) w.heap.size h := ⟨CBk.new w _ _, (Below.refl _ w).alloc (Nat.le_refl _) _, Nat.le_refl _⟩

set_option maxHeartbeats 8000000 in
set_option maxRecDepth 100000 in
theorem walk_FnExactRangeAdd (a : Option Addr) (len cap : Nat) (ps : List PeakV) (h : HeadV) (w : World) (h0 : IsPeaks w a len cap ps) (hw0 : HeadWf h) (hK : RowG w shaK) (hP : TabP w) :
    Calls Tryd.prog 4 #[.slice a len cap, .agg #[.string h.prev, .string h.root, .int .i64 h.time, .int .i64 h.diff, .int .i64 h.nonce]] w fun e w' => e = .returned (.bool true) ∧ Below w.heap.size w w' := by
  have hw : wfHead h := ⟨hw0.p, hw0.r⟩
  have HLN : Hid (ps.length = len) := h0.len
  have HSZ : Hid (∀ w1, Below w.heap.size w w1 → Calls Tryd.prog 17 #[.slice a len cap, .int .i64 1048576] w1 fun e w' => Below w1.heap.size w1 w' ∧ (e = .returned (.int .i64 (-1)) ∨ ∃ r : Nat, e = .returned (.int .i64 (r : Int)) ∧ r ≤ 1048576 ∧ len ≤ 1048576 ∧ ∀ i, i < len → (ps.getD i default).sum.size ≤ 1048576)) := fun w1 hb => szPeaksR 1048576 (Nat.le_refl _) a len cap ps w1 (peaks_below h0 hb)
  have HSH : Hid (∀ (r : Nat) w1, r ≤ 1048576 → Calls Tryd.prog 18 #[.agg #[.string h.prev, .string h.root, .int .i64 h.time, .int .i64 h.diff, .int .i64 h.nonce], .int .i64 (r : Int)] w1 fun e w' => Below w1.heap.size w1 w' ∧ (e = .returned (.int .i64 (-1)) ∨ ∃ q : Nat, e = .returned (.int .i64 (q : Int)) ∧ q ≤ r ∧ smallHead h)) := fun r w1 hr => szHead1 h r w1 hr hw
  have HTO : Hid (len ≤ 1048576 → ∀ w1, Below w.heap.size w w1 → Calls Tryd.prog 20 #[.slice a len cap] w1 fun e w' => e = .returned (.slice (some ⟨w1.heap.size, 0, none⟩) len len) ∧ RowP w' w1.heap.size ps ∧ Below w1.heap.size w1 w') := fun hn w1 hb => toPeaks a len cap ps w1 w h0 hb hn
  have hth := fun w1 => toHeadA h w1
  have HSP : Hid (len ≤ 1048576 → (∀ i, i < len → (ps.getD i default).sum.size ≤ 1048576) → smallHead h → ∀ g w1, RowP w1 g ps → Calls Tryd.prog 19 #[.slice (some ⟨g, 0, none⟩) len len, .agg #[.string h.prev, .string h.root, .int .i64 h.time, .int .i64 h.diff, .int .i64 h.nonce]] w1 fun e w' => ∃ v, e = .returned (.tuple #[v, .bool (addB ps h)]) ∧ Pks w1.heap.size v (addL ps h) w' ∧ Below w1.heap.size w1 w') := fun hn hs hh g w1 hr => by
    have h1 := specRangeAdd g len len ps h w1 (hr.at 3 pEnc_len) HLN.out.symm hn (fun i hi => by have := hs i (by rw [← HLN.out]; exact hi); unfold maxLen; omega) (by have := hh.1; unfold maxLen; omega) (by have := hh.2; unfold maxLen; omega)
    unfold headVal at h1
    refine h1.mono ?_
    rintro e w' ⟨hp, hb⟩
    obtain ⟨v, he, hv⟩ := hp.pks
    exact ⟨v, he, hv, hb⟩
  have HIM : Hid (len ≤ 1048576 → ∀ g w1, RowP w1 g ps → Below w.heap.size w w1 → Calls Tryd.prog 22 #[.slice (some ⟨g, 0, none⟩) len len, .agg #[.string h.prev, .string h.root, .int .i64 h.time, .int .i64 h.diff, .int .i64 h.nonce]] w1 fun e w' => ∃ v, e = .returned (.tuple #[v, .bool (addB ps h)]) ∧ Pks w1.heap.size v (addL ps h) w' ∧ Below w1.heap.size w1 w') := fun hn g w1 hr hb => by
    have h1 := implRangeAdd g len len ps h w1 (hr.at 3 pEnc_len) HLN.out.symm hn (hK.below hb hK.lt) (TabP.below hP hb (Nat.le_refl _))
    unfold headVal at h1
    refine h1.mono ?_
    rintro e w' ⟨hp, hb⟩
    obtain ⟨v, he, hv⟩ := hp.pks
    exact ⟨v, he, hv, hb⟩
  have HML : Hid ((addL ps h).length ≤ 1048576) := Nat.le_trans (addL_len ps h) (by decide)
  generalize addL ps h = l at HSP HIM HML
  generalize addB ps h = bo at HSP HIM
  clear h0 hw0 hK hP hw
  have A0 : Hid (AW w _ w.heap.size h) := AW.new w h
  go_enter Tryd.func4, Tryd.ntmps4
  go_wp2_with fail
  generalize w.alloc (.cells #[.string h.prev, .string h.root, .int .i64 h.time, .int .i64 h.diff, .int .i64 h.nonce] 35) = W0 at A0 ⊢
  obtain ⟨g0, hg0⟩ : ∃ g0, g0 = w.heap.size := ⟨_, rfl⟩
  rw [← hg0] at A0 ⊢
  clear hg0
  refine (HSZ.out _ A0.out.b).mono ?_
  rintro e w1 ⟨b1, rfl | ⟨r, rfl, hr, hn, hs⟩⟩
  · have A1 : Hid (AW w w1 g0 h) := A0.out.call b1
    clear HSH HTO hth HSP HIM
    go_wp2_with fail
    go_ret
    exact ⟨rfl, A1.out.b⟩
  have A1 : Hid (AW w w1 g0 h) := A0.out.call b1
  have HS : Hid (∀ i, i < len → (ps.getD i default).sum.size ≤ 1048576) := hs
  clear A0 b1 HSZ hs
  have hr0 : ¬ (r : Int) < 0 := by omega
  obtain ⟨e0, e1, e2, e3, e4⟩ := A1.out.c.cells5
  go_wp2_with fail
  refine (HSH.out r _ hr).mono ?_
  rintro e w2 ⟨b2, rfl | ⟨r2, rfl, hr2, hsm⟩⟩
  · have A2 : Hid (AW w w2 g0 h) := A1.out.call b2
    clear HTO hth HSP HIM
    go_wp2_with fail
    go_ret
    exact ⟨rfl, A2.out.b⟩
  have A2 : Hid (AW w w2 g0 h) := A1.out.call b2
  have hsp := HSP.out hn HS.out hsm
  have hto := HTO.out hn
  have him := HIM.out hn
  clear HSP HTO HIM
  have HSP : Hid _ := hsp
  have HTO : Hid _ := hto
  have HIM : Hid _ := him
  clear A1 b2 HSH hsm hr0 hr hsp hto him HS
  have hr0 : ¬ (r2 : Int) < 0 := by omega
  clear e0 e1 e2 e3 e4
  have AD2 : Hid (AW w w2.drew g0 h) := A2.out.call (Below.refl _ _).drew
  obtain ⟨e0, e1, e2, e3, e4⟩ := A2.out.c.cells5
  go_wp2_with fail
  go_region_held3 (fun w' => w'.cell? ⟨g0, 0, none⟩ = some (.string h.prev) ∧ w'.cell? ⟨g0, 1, none⟩ = some (.string h.root) ∧ w'.cell? ⟨g0, 2, none⟩ = some (.int .i64 h.time) ∧ w'.cell? ⟨g0, 3, none⟩ = some (.int .i64 h.diff) ∧ w'.cell? ⟨g0, 4, none⟩ = some (.int .i64 h.nonce))
    (first | exact A2.out.c.cells5 | exact AD2.out.c.cells5 | exact A3.out.c.cells5 | exact A4.out.c.cells5 | exact A5.out.c.cells5)
    (first
      | (go_at_call 20; refine (HTO.out _ AD2.out.b).mono ?_; rintro e w3 ⟨rfl, r3, b3⟩; have A3 : Hid (AW w w3 g0 h) := AD2.out.call b3; have R3 : Hid (RowP w3 w2.drew.heap.size ps) := r3)
      | (go_at_call 21; refine (hth _).mono ?_; rintro e w4 ⟨rfl, b4⟩; have A4 : Hid (AW w w4 g0 h) := A3.out.call b4; have R4 : Hid (RowP w4 w2.drew.heap.size ps) := R3.out.below b4 R3.out.lt)
      | (go_at_call 19; refine (HSP.out _ _ R4.out).mono ?_; rintro e w5 ⟨v5, rfl, p5, b5⟩; have A5 : Hid (AW w w5 g0 h) := A4.out.call b5; have P5 : Hid (Pks w4.heap.size v5 l w5) := p5))
  clear e0 e1 e2 e3 e4 A2 AD2 A3 A4 R3 R4 b3 b4 b5 r3 p5 hr0 hr2 HSP
  go_wp2_with fail
  refine (HTO.out _ A5.out.b).mono ?_
  rintro e w6 ⟨rfl, r6, b6⟩
  have A6 : Hid (AW w w6 g0 h) := A5.out.call b6
  have P6 : Hid (Pks 0 v5 l w6) := (P5.out.below b6).mono (Nat.zero_le _)
  have HV5 : Hid (∀ g, blkOf v5 g → g < w5.heap.size) := fun g hg => (P5.out.blk hg).1
  have HG5 : Hid (g0 < w5.heap.size) := A5.out.c.lt
  obtain ⟨g8, hg8⟩ : ∃ g8, g8 = w5.heap.size := ⟨_, rfl⟩
  rw [← hg8] at r6 HV5 HG5 ⊢
  clear hg8
  have R6 : Hid (RowP w6 g8 ps) := r6
  clear A5 P5 b6 r6
  obtain ⟨e0, e1, e2, e3, e4⟩ := A6.out.c.cells5
  go_wp2_with fail
  refine (hth _).mono ?_
  rintro e w7 ⟨rfl, b7⟩
  have A7 : Hid (AW w w7 g0 h) := A6.out.call b7
  have P7 : Hid (Pks 0 v5 l w7) := P6.out.below b7
  have R7 : Hid (RowP w7 g8 ps) := R6.out.below b7 R6.out.lt
  clear A6 P6 R6 b7 e0 e1 e2 e3 e4
  go_wp2_with fail
  refine (HIM.out _ _ R7.out A7.out.b).mono ?_
  rintro e w8 ⟨v8, rfl, p8, b8⟩
  have A8 : Hid (AW w w8 g0 h) := A7.out.call b8
  have P8 : Hid (Pks 0 v5 l w8) := P7.out.below b8
  have R8 : Hid (RowP w8 g8 ps) := R7.out.below b8 R7.out.lt
  have Q8 : Hid (Pks (g8 + 1) v8 l w8) := p8.mono R7.out.lt
  clear A7 P7 R7 b8 p8
  have hbb : (bo != bo) = false := by cases bo <;> rfl
  go_wp2_with fail
  refine (pksEq Q8.out P8.out HML.out).mono ?_
  rintro e w9 ⟨rfl, b9⟩
  have A9 : Hid (AW w w9 g0 h) := A8.out.call b9
  have P9 : Hid (Pks 0 v5 l w9) := P8.out.below b9
  have R9 : Hid (RowP w9 g8 ps) := R8.out.below b9 R8.out.lt
  have Q9 : Hid (Pks (g8 + 1) v8 l w9) := Q8.out.below b9
  clear A8 P8 R8 b9 Q8
  go_wp2_with fail
  refine (HTO.out _ A9.out.b).mono ?_
  rintro e w10 ⟨rfl, r10, b10⟩
  have A10 : Hid (AW w w10 g0 h) := A9.out.call b10
  have P10 : Hid (Pks 0 v5 l w10) := P9.out.below b10
  have R10 : Hid (RowP w10 g8 ps) := R9.out.below b10 R9.out.lt
  have Q10 : Hid (Pks (g8 + 1) v8 l w10) := Q9.out.below b10
  have heq := eqPeaks g8 w9.heap.size len len len ps w10 (R10.out.at 3 pEnc_len) (r10.at 3 pEnc_len) HLN.out.symm (by omega)
  clear A9 P9 R9 b10 Q9 r10
  go_wp2_with fail
  refine heq.mono ?_
  rintro e w11 ⟨rfl, b11⟩
  have A11 : Hid (AW w w11 g0 h) := A10.out.call b11
  have P11 : Hid (Pks 0 v5 l w11) := P10.out.below b11
  have R11 : Hid (RowP w11 g8 ps) := R10.out.below b11 R10.out.lt
  have Q11 : Hid (Pks (g8 + 1) v8 l w11) := Q10.out.below b11
  have hmk := markPeaks g8 len len 1 w11 (by have := PBk.of R11.out; rw [HLN.out] at this; exact this) hn (by decide)
  clear A10 P10 R10 b11 Q10 heq
  go_wp2_with fail
  refine hmk.mono ?_
  rintro e w12 ⟨rfl, _, k12, f12, _⟩
  have A12 : Hid (AW w w12 g0 h) := A11.out.keep f12 (fun c hc hle => k12 c hc (by have := HG5.out; omega))
  have P12 : Hid (Pks 0 v5 l w12) := P11.out.keep f12.size (fun g hg => k12 g (P11.out.blk hg).1 (by have := HV5.out g hg; omega))
  have Q12 : Hid (Pks (g8 + 1) v8 l w12) := Q11.out.keep f12.size (fun g hg => k12 g (Q11.out.blk hg).1 (by have := (Q11.out.blk hg).2; omega))
  clear A11 P11 R11 Q11 hmk k12 f12
  obtain ⟨kk, hkk⟩ : ∃ kk, kk = 1 + 3 * len := ⟨_, rfl⟩
  rw [← hkk]
  clear hkk
  have hk0 : ¬ (kk : Int) < 0 := by omega
  go_wp2_with fail
  refine (pksEq Q12.out P12.out HML.out).mono ?_
  rintro e w13 ⟨rfl, b13⟩
  have A13 : Hid (AW w w13 g0 h) := A12.out.call b13
  have P13 : Hid (Pks 0 v5 l w13) := P12.out.below b13
  have Q13 : Hid (Pks (g8 + 1) v8 l w13) := Q12.out.below b13
  have hmk := pksMark Q13.out HML.out
  clear A12 P12 b13 Q12 hk0
  obtain ⟨mm, hmm⟩ : ∃ mm, mm = 1 + 3 * l.length := ⟨_, rfl⟩
  rw [← hmm] at hmk
  have HMM : Hid (mm = 1 + 3 * l.length) := hmm
  clear hmm
  go_wp2_with fail
  refine hmk.mono ?_
  rintro e w14 ⟨rfl, hh14, f14, k14⟩
  have A14 : Hid (AW w w14 g0 h) := A13.out.keep f14 (fun c hc hle => k14 c hc (by have := HG5.out; omega))
  have P14 : Hid (Pks 0 v5 l w14) := P13.out.keep f14.size (fun g hg => k14 g (P13.out.blk hg).1 (by have := HV5.out g hg; omega))
  have H14 : Hid (HeldP v8 l.length w14) := hh14
  have hhe := pksHeld hh14 HML.out
  rw [← HMM.out] at hhe
  clear A13 P13 Q13 hmk hh14 f14 k14
  go_wp2_with fail
  refine hhe.mono ?_
  rintro e w15 ⟨rfl, b15⟩
  have A15 : Hid (AW w w15 g0 h) := A14.out.call b15
  have P15 : Hid (Pks 0 v5 l w15) := P14.out.below b15
  have H15 : Hid (HeldP v8 l.length w15) := H14.out.below b15
  have hm0 : ¬ (mm : Int) < 0 := by omega
  clear A14 P14 H14 b15 hhe
  have AD15 : Hid (AW w w15.drew g0 h) := A15.out.call (Below.refl _ _).drew
  obtain ⟨e0, e1, e2, e3, e4⟩ := A15.out.c.cells5
  go_wp2_with fail
  go_region_held3 (fun w' => w'.cell? ⟨g0, 0, none⟩ = some (.string h.prev) ∧ w'.cell? ⟨g0, 1, none⟩ = some (.string h.root) ∧ w'.cell? ⟨g0, 2, none⟩ = some (.int .i64 h.time) ∧ w'.cell? ⟨g0, 3, none⟩ = some (.int .i64 h.diff) ∧ w'.cell? ⟨g0, 4, none⟩ = some (.int .i64 h.nonce))
    (first | exact A15.out.c.cells5 | exact AD15.out.c.cells5 | exact A16.out.c.cells5 | exact A17.out.c.cells5 | exact A18.out.c.cells5)
    (first
      | (go_at_call 20; refine (HTO.out _ AD15.out.b).mono ?_; rintro e w16 ⟨rfl, r16, b16⟩; have A16 : Hid (AW w w16 g0 h) := AD15.out.call b16; have R16 : Hid (RowP w16 w15.drew.heap.size ps) := r16)
      | (go_at_call 21; refine (hth _).mono ?_; rintro e w17 ⟨rfl, b17⟩; have A17 : Hid (AW w w17 g0 h) := A16.out.call b17; have R17 : Hid (RowP w17 w15.drew.heap.size ps) := R16.out.below b17 R16.out.lt)
      | (go_at_call 22; refine (HIM.out _ _ R17.out A17.out.b).mono ?_; rintro e w18 ⟨v18, rfl, p18, b18⟩; have A18 : Hid (AW w w18 g0 h) := A17.out.call b18; have P18 : Hid (Pks w17.heap.size v18 l w18) := p18))
  have P18' : Hid (Pks 0 v5 l w18) := ((P15.out.below (Below.refl _ _).drew).below b16).below b17 |>.below b18
  have H18 : Hid (HeldP v8 l.length w18) := ((H15.out.below (Below.refl _ _).drew).below b16).below b17 |>.below b18
  clear e0 e1 e2 e3 e4 A15 AD15 A16 A17 R16 R17 b16 b17 b18 r16 p18 P15 H15
  go_wp2_with fail
  refine (pksEq P18.out P18'.out HML.out).mono ?_
  rintro e w19 ⟨rfl, b19⟩
  have A19 : Hid (AW w w19 g0 h) := A18.out.call b19
  have hhe := pksHeld (H18.out.below b19) HML.out
  rw [← HMM.out] at hhe
  clear A18 P18 P18' H18 b19
  go_wp2_with fail
  refine hhe.mono ?_
  rintro e w20 ⟨rfl, b20⟩
  have A20 : Hid (AW w w20 g0 h) := A19.out.call b20
  clear A19 b20 hhe
  go_wp2_with fail
  go_ret
  exact ⟨rfl, A20.out.b⟩

end Go.Proofs.YtjeldedjhlicmaaDoor

namespace Go.Proofs.YtjeldedjhlicmaaDoor
open Go.ChangeShapes Go.WideShapes Go.ChangeAt Go.RowKit
open Go.ChangeMaps (open_string shut_string)
set_option linter.unusedVariables false

theorem own_fnExactRangeAdd : ownKnob Tryd.prog.godebug = none := by kernel_rfl
theorem laid_fnExactRangeAdd : laidOutB Tryd.prog = true := by kernel_rfl
theorem table_fnExactRangeAdd {W : World} (h : laidMetH Tryd.prog Rows.fnExactRangeAddRow.laid W) : RowG W shaK ∧ TabP W := tabs_of_laid h

theorem met_fnExactRangeAdd (os : Os) : laidMet Tryd.prog Rows.fnExactRangeAddRow.laid ((laidWorld os).forCall (fun _ _ => 0) ⟨#[], #[.slice none 0 0, .agg #[.string ByteArray.empty, .string ByteArray.empty, .int .i64 0, .int .i64 0, .int .i64 0]], []⟩).memory :=
  laidMet_of_run' 8 (by kernel_rfl) (by kernel_rfl)
theorem reads_fnExactRangeAdd (os : Os) {H : Type} (enc : TypeId × Value → H) : ∃ places, DataW.whole enc Tryd.prog ((laidWorld os).forCall (fun _ _ => 0) ⟨#[], #[.slice none 0 0, .agg #[.string ByteArray.empty, .string ByteArray.empty, .int .i64 0, .int .i64 0, .int .i64 0]], []⟩).memory Tryd.f4.params.toList Rows.fnExactRangeAddSpec.vars false (#[.slice none 0 0, .agg #[.string ByteArray.empty, .string ByteArray.empty, .int .i64 0, .int .i64 0, .int .i64 0]] : Array Value).toList 8 = some ([.nil, .agg [.lit (.string []), .lit (.string []), .lit (.int .i64 0), .lit (.int .i64 0), .lit (.int .i64 0)]], [Rows.laid_loop_example_cordillera_impl_sumRounds], places) :=
  ⟨MemPlace.row ⟨0, 0, none⟩ 64, by kernel_rfl⟩

set_option maxRecDepth 100000 in
theorem lifted_fnExactRangeAdd (os : Os) (started : os.Started) (H : Type) (enc : TypeId × Value → H) (F : Stop.Interp) :
    ReturnsInHanded {} Tryd.checked os 4 .any ((OpenSpec.ofChange Rows.fnExactRangeAddSpec).preRow enc Tryd.prog Tryd.f4 Rows.fnExactRangeAddRow.domain false Rows.fnExactRangeAddRow.laid) (((OpenSpec.ofChange Rows.fnExactRangeAddSpec).at F).post enc Tryd.prog Tryd.f4 false true false false) := by
  obtain ⟨places, hx⟩ := reads_fnExactRangeAdd os enc
  refine returnsInHanded_of_row (C := Tryd.checked) (s := OpenSpec.ofChange Rows.fnExactRangeAddSpec) own_fnExactRangeAdd started (by kernel_rfl) Tryd.func4
    (witness_row_at (enc := enc) (C := Tryd.checked) false (laidWorld os) #[.slice none 0 0, .agg #[.string ByteArray.empty, .string ByteArray.empty, .int .i64 0, .int .i64 0, .int .i64 0]] rfl (by kernel_rfl) (by kernel_rfl) (by kernel_rfl)
      (OpenSpec.preRow_of_cond 8 hx (by kernel_rfl) (fun k hk => by cases hk) (by kernel_rfl) (met_fnExactRangeAdd os))) ?_
  intro W base args ds gs before hval0 hW _ _ _ hL _ _
  have hval : ∀ (j : Nat) t v, Tryd.f4.params[j]? = some t → args[j]? = some v → Value.okWide Tryd.prog W .any base t v := hval0
  have hW' := hW
  obtain ⟨p, q, hA0, hV, rfl, hfz, hnd⟩ := hW
  have hA : DataW.TrodAll enc Tryd.prog W 0 (fun _ => true) true Tryd.f4.params.toList args.toList ds p := hA0
  rw [Tryd.params4] at hA hval
  obtain ⟨v0, vs0, d0, ds0, p0, q0, hargs, rfl, rfl, h0, r0⟩ := trodAll_cons hA
  obtain ⟨v1, vs1, d1, ds1, p1, q1, rfl, rfl, rfl, h1, r1⟩ := trodAll_cons r0
  obtain ⟨rfl, rfl, rfl⟩ := trodAll_nil r1
  obtain rfl : args = #[v0, v1] := by cases args; simp_all
  obtain ⟨gv, tv, cv, fv, dv, pv, rfl, hgv, htv, hvv, hdv, rfl⟩ := trodVars_one hV
  obtain ⟨a0, len0, cap0, rfl⟩ := okWide_slice Tryd.underlying33 (hval 0 33 v0 rfl rfl)
  have k0 := h0
  have lt0 : ∀ x ∈ p0, x.block < W.heap.size := by obtain ⟨m, hm⟩ := k0; exact DataW.trod_lt m _ _ _ hm
  obtain ⟨z0, w0⟩ := open_peaks h0
  have k1 := h1
  have lt1 : ∀ x ∈ p1, x.block < W.heap.size := by obtain ⟨m, hm⟩ := k1; exact DataW.trod_lt m _ _ _ hm
  obtain ⟨a1, rfl, w1⟩ := open_head (hval 1 35 v1 rfl rfl) h1
  clear hA0 hval0
  refine (walk_FnExactRangeAdd a0 len0 cap0 z0 a1 W w0 w1 (table_fnExactRangeAdd hL).1 (table_fnExactRangeAdd hL).2).mono fun e W' ⟨he, bel⟩ => ?_
  subst he
  obtain ⟨pv', hpv⟩ := varsBack laid_fnExactRangeAdd hgv htv hvv hdv bel
  exact ⟨_, rfl, _, _, _, [], _, pv', hW', trodAll_mk1 (shut_bool Tryd.underlying4 _), (trodAll_cons_mk (Below.trod laid_fnExactRangeAdd (by kernel_rfl) (of_decide_eq_true (by kernel_rfl)) k0 bel lt0) (trodAll_cons_mk (Below.trod laid_fnExactRangeAdd (by kernel_rfl) (of_decide_eq_true (by kernel_rfl)) k1 bel lt1) trodAll_mk0)), hpv, bel.frame _, fun h => by cases h⟩

theorem fnExactRangeAdd_said : Rows.FnExactRangeAddSaid :=
  OpenClaim.holds_of_cond 4 Tryd.f4 rfl rfl rfl rfl rfl rfl rfl ⟨rfl, rfl, rfl, rfl, rfl⟩ rfl rfl rfl rfl rfl (by kernel_rfl) Tryd.func4 (by kernel_rfl)
    (of_decide_eq_true (by kernel_rfl)) (by unfold Func.isWrapper; first | (rw [if_pos (by decide +kernel)]; kernel_rfl) | (rw [if_neg (by decide +kernel)]; exact ⟨rfl, rfl⟩))
    (fun os started H enc _ F => by rw [OpenClaim.pre_eq_preRow]; exact lifted_fnExactRangeAdd os started H enc F)
theorem plain_fnExactRangeAdd (f : FuncId) (fn : Func) (hf : Tryd.pinned.checked.prog.funcNamed "loop.example/cordillera/laws.FnExactRangeAdd" = some f) (hfn : Tryd.pinned.checked.prog.funcs[f]? = some fn) :
    false = Tryd.pinned.checked.prog.looks [] ∧ ∀ (j : Nat) t, fn.params[j]? = some t → Tryd.pinned.checked.prog.wantsStandIn t = false := by
  obtain rfl : f = 4 := Option.some.inj ((show Tryd.prog.funcNamed "loop.example/cordillera/laws.FnExactRangeAdd" = some 4 by kernel_rfl).symm.trans hf) |>.symm
  obtain rfl : fn = Tryd.f4 := (Option.some.inj (Tryd.func4.symm.trans hfn)).symm
  refine ⟨by kernel_rfl, fun j t ht => ?_⟩
  rw [Tryd.params4] at ht
  have hall : ∀ t ∈ (#[33, 35] : Array TypeId), Tryd.prog.wantsStandIn t = false := by
    intro t ht
    simp only [List.mem_toArray, List.mem_cons, List.not_mem_nil, or_false] at ht
    rcases ht with rfl | rfl <;> kernel_rfl
  exact hall t (Array.mem_of_getElem? ht)
theorem fnExactRangeAdd_holds : Rows.FnExactRangeAddCardSaid :=
  Claim7.holds_tied_plain_at .later [] _ _ _ _ fnExactRangeAdd_said (fun _ h => by cases h) (by kernel_rfl) (fun _ h => by cases h) fnExactRangeAdd_row_tie rfl ⟨rfl, rfl⟩ (by kernel_rfl) rfl plain_fnExactRangeAdd (by kernel_rfl)
#print axioms fnExactRangeAdd_holds
end Go.Proofs.YtjeldedjhlicmaaDoor

