/-
  RangeOf answers as the specification at every list of heads, field by field, writes into no argument, and its answer owns its memory; for every input, no condition; the tables of the program as its text lays them.
-/
import Derived.Test.YtjeldedjhlicmaaDoorPart1
import Derived.Test.YtjeldedjhlicmaaDoorPart2
import Derived.Test.YtjeldedjhlicmaaDoorPart3
import Derived.Test.YtjeldedjhlicmaaDoorPart4
import Derived.Test.YtjeldedjhlicmaaDoorPart5
import Derived.Test.YtjeldedjhlicmaaDoorPart6
import Derived.Test.YtjeldedjhlicmaaDoorPart7
import Derived.Deep.RegionWith
import Derived.Test.YtjeldedjhlicmaaDoorCards
import Derived.Test.YtjeldedjhlicmaaDoorTie
import Derived.WalkKit
import Derived.ProofKit
import Derived.OpenShut
import Derived.ShutString
import Derived.ChangeOld
import Derived.ChangeVars
import Derived.Below
import Derived.Carry
import Derived.Deep.DeepHandedRow
import Derived.Lib.LaidTab
set_option linter.unusedVariables false
namespace Go.Proofs.YtjeldedjhlicmaaDoor
open Go.RowKit Go.Deep

/-- A block of peaks that may be written. -/
def PBk (w : World) (g n : Nat) : Prop := ∃ cur : Array Value, w.heap[g]? = some (.cells cur 63 (0, 0)) ∧ n * 3 ≤ cur.size
theorem PBk.lt {w : World} {g n : Nat} (h : PBk w g n) : g < w.heap.size := by
  obtain ⟨cur, h1, _⟩ := h
  rcases Nat.lt_or_ge g w.heap.size with h' | h'
  · exact h'
  · simp [Array.getElem?_eq_none h'] at h1
theorem PBk.keep {w w' : World} {g n : Nat} (h : PBk w g n) (hk : w'.heap[g]? = w.heap[g]?) : PBk w' g n := by
  obtain ⟨cur, h1, h2⟩ := h
  exact ⟨cur, hk.trans h1, h2⟩
theorem PBk.below {w w' : World} {g n B : Nat} (h : PBk w g n) (hb : Below B w w') (hg : g < B) : PBk w' g n := h.keep (hb.block g hg)
theorem PBk.cell {w : World} {g n : Nat} (h : PBk w g n) (i : Nat) (hi : i < n * 3) : (∃ v, w.cell? ⟨g, i, none⟩ = some v) ∧ w.frozen? ⟨g, i, none⟩ = false := by
  obtain ⟨cur, h1, h2⟩ := h
  refine ⟨?_, Lib.frozen_of_heap h1 i⟩
  rw [Lib.cell_of_heap h1]
  have hic : i < cur.size := by omega
  exact ⟨cur[i], Array.getElem?_eq_getElem hic⟩
theorem PBk.set {w : World} {g n : Nat} (h : PBk w g n) (i : Nat) (v : Value) : PBk (w.setCell ⟨g, i, none⟩ v) g n := by
  obtain ⟨cur, h1, h2⟩ := h
  exact ⟨cur.setIfInBounds i v, by simp [World.setCell, Array.getElem?_modify, h1], by simpa using h2⟩
theorem PBk.of {w : World} {g : Nat} {l : List PeakV} (h : RowP w g l) : PBk w g l.length := ⟨_, h, by simp [flat_length 3 pEnc pEnc_len]⟩
theorem PBk.frow {B : Nat} {v : Value} {l : List PeakV} {w : World} (h : PRow B v l w) : ∃ g cap, v = .slice (some ⟨g, 0, none⟩) l.length cap ∧ AtP w g l ∧ PBk w g l.length ∧ B ≤ g := by
  obtain ⟨g, cap, cur, rfl, h1, h2, h3, h4, h5⟩ := h.block
  refine ⟨g, cap, rfl, (FRow.at pEnc_len h).1, ⟨cur, h3, ?_⟩, h1⟩
  have := congrArg List.length h4
  rw [List.length_take, flat_length 3 pEnc pEnc_len] at this
  rw [← Array.length_toList]
  omega
theorem cellSetOther {w : World} {g i j : Nat} {v : Value} (h : i ≠ j) : (w.setCell ⟨g, i, none⟩ v).cell? ⟨g, j, none⟩ = w.cell? ⟨g, j, none⟩ := by
  simp [World.setCell, World.cell?, Array.getElem?_modify]
  cases hh : w.heap[g]? with
  | none => simp
  | some o => cases o <;> simp [h]
theorem PBk.cellSet {w : World} {g n : Nat} (h : PBk w g n) (i : Nat) (hi : i < n * 3) (v : Value) : (w.setCell ⟨g, i, none⟩ v).cell? ⟨g, i, none⟩ = some v := by
  obtain ⟨cur, h1, h2⟩ := h
  have : (w.setCell ⟨g, i, none⟩ v).heap[g]? = some (.cells (cur.setIfInBounds i v) 63 (0, 0)) := by simp [World.setCell, Array.getElem?_modify, h1]
  rw [Lib.cell_of_heap this]
  have : i < cur.size := by omega
  simp [this]
/-- A list that holds its marks, so far. -/
def MkP (w : World) (g k n : Nat) : Prop := ∀ i, i < n → w.cell? ⟨g, i * 3, none⟩ = some (.string (mkS (k + 3 * i))) ∧ w.cell? ⟨g, i * 3 + 1, none⟩ = some (.int .i64 (((k + 3 * i : Nat) : Int) + 1)) ∧ w.cell? ⟨g, i * 3 + 2, none⟩ = some (.int .i64 (((k + 3 * i : Nat) : Int) + 1 + 1))
theorem MkP.below {w w' : World} {g k n B : Nat} (h : MkP w g k n) (hb : Below B w w') (hg : g < B) : MkP w' g k n := fun i hi =>
  ⟨(hb.cell (p := ⟨g, i * 3, none⟩) hg).trans (h i hi).1, (hb.cell (p := ⟨g, i * 3 + 1, none⟩) hg).trans (h i hi).2.1, (hb.cell (p := ⟨g, i * 3 + 2, none⟩) hg).trans (h i hi).2.2⟩
theorem MkP.step {w : World} {g k j n : Nat} (h : MkP w g k j) (hb : PBk w g n) (hj : j < n) : MkP (((w.setCell ⟨g, j * 3, none⟩ (.string (mkS (k + 3 * j)))).setCell ⟨g, j * 3 + 1, none⟩ (.int .i64 (((k + 3 * j : Nat) : Int) + 1))).setCell ⟨g, j * 3 + 2, none⟩ (.int .i64 (((k + 3 * j : Nat) : Int) + 1 + 1))) g k (j + 1) := by
  intro i hi
  rcases Nat.lt_or_ge i j with h' | h'
  · obtain ⟨h1, h2, h3⟩ := h i h'
    refine ⟨?_, ?_, ?_⟩
    · rw [cellSetOther (by omega), cellSetOther (by omega), cellSetOther (by omega)]; exact h1
    · rw [cellSetOther (by omega), cellSetOther (by omega), cellSetOther (by omega)]; exact h2
    · rw [cellSetOther (by omega), cellSetOther (by omega), cellSetOther (by omega)]; exact h3
  · obtain rfl : i = j := by omega
    refine ⟨?_, ?_, ?_⟩
    · rw [cellSetOther (by omega), cellSetOther (by omega)]; exact hb.cellSet _ (by omega) _
    · rw [cellSetOther (by omega)]; exact (hb.set _ _).cellSet _ (by omega) _
    · exact ((hb.set _ _).set _ _).cellSet _ (by omega) _
/-- What writing marks leaves. -/
def MPPost (g n k : Nat) (w : World) (e : Ending) (w' : World) : Prop := e = .returned (.int .i64 ((k + 3 * n : Nat) : Int)) ∧ MkP w' g k n ∧ (∀ c, c < w.heap.size → c ≠ g → w'.heap[c]? = w.heap[c]?) ∧ Below 0 w w' ∧ PBk w' g n
theorem setOff {w wr : World} {g j : Nat} {v : Value} (h : ∀ c, c < w.heap.size → c ≠ g → wr.heap[c]? = w.heap[c]?) : ∀ c, c < w.heap.size → c ≠ g → (wr.setCell ⟨g, j, none⟩ v).heap[c]? = w.heap[c]? := fun c hc hne => by
  rw [← h c hc hne]
  simp [World.setCell, Array.getElem?_modify, Ne.symm hne]
set_option maxHeartbeats 2000000 in
set_option maxRecDepth 100000 in
theorem markPeaks (g n cap k : Nat) (w : World) (h : PBk w g n) (hn : n ≤ 1048576) (hk : k ≤ 1000000000) :
    Calls Tryd.prog 15 #[.slice (some ⟨g, 0, none⟩) n cap, .int .i64 (k : Int)] w fun e w' => MPPost g n k w e w' := by
  have H0 : Hid (PBk w g n) := h
  clear h
  have HQ : Hid (∀ e w', e = .returned (.int .i64 ((k + 3 * n : Nat) : Int)) → MkP w' g k n → (∀ c, c < w.heap.size → c ≠ g → w'.heap[c]? = w.heap[c]?) → Below 0 w w' → PBk w' g n → MPPost g n k w e w') := fun e w' h1 h2 h3 h4 h5 => ⟨h1, h2, h3, h4, h5⟩
  generalize MPPost g n k w = Q at HQ ⊢
  go_enter Tryd.func15, Tryd.ntmps15
  go_wp2_with fail
  go_loopw [1, 5] (fun m i wr => ∃ j : Nat, j ≤ n ∧ i = .int .i64 (j : Int) ∧ m = .int .i64 ((k + 3 * j : Nat) : Int) ∧ Hid (PBk wr g n ∧ MkP wr g k j ∧ (∀ c, c < w.heap.size → c ≠ g → wr.heap[c]? = w.heap[c]?) ∧ Below 0 w wr)) (fun _ i _ => n - (intOf i).toNat)
  case atStart => exact ⟨0, by omega, rfl, rfl, H0.out, fun i hi => by omega, fun c _ _ => rfl, Below.refl _ _⟩
  case round =>
    clear H0
    obtain ⟨j, hj, rfl, rfl, HS⟩ := hrel
    by_cases hlt : j < n
    · have hmk := markText (k + 3 * j) (by omega) wr
      have lj : (j : Int) < (n : Int) := by omega
      have lj0 : (0 : Int) ≤ (j : Int) := by omega
      have HK1 : Hid (j + 1 ≤ n) := hlt
      have hgl := HS.out.1.lt
      obtain ⟨m, hm⟩ : ∃ m, m = k + 3 * j := ⟨_, rfl⟩
      have HM : Hid (m = k + 3 * j) := hm
      have HM1 : Hid (((m : Int) + 1 + 1 + 1) = ((k + 3 * (j + 1) : Nat) : Int)) := by show _ = _; omega
      rw [← hm] at hmk ⊢
      have wk : IntKind.i64.wrap ((m : Int) + 1) = (m : Int) + 1 := by rw [IntKind.wrap_i64]; omega
      have wk2 : IntKind.i64.wrap ((m : Int) + 1 + 1) = (m : Int) + 1 + 1 := by rw [IntKind.wrap_i64]; omega
      have wk3 : IntKind.i64.wrap ((m : Int) + 1 + 1 + 1) = (m : Int) + 1 + 1 + 1 := by rw [IntKind.wrap_i64]; omega
      have wj : IntKind.i64.wrap ((j : Int) + 1) = (j : Int) + 1 := by rw [IntKind.wrap_i64]; omega
      clear hm
      go_wp2_with fail
      refine hmk.mono ?_
      rintro e w1 ⟨rfl, b1⟩
      have HS1 : Hid (PBk w1 g n) := HS.out.1.below b1 hgl
      obtain ⟨⟨v0, q0⟩, z0⟩ := HS1.out.cell (j * 3) (by omega)
      obtain ⟨⟨v1, q1⟩, z1⟩ := HS1.out.cell (j * 3 + 1) (by omega)
      obtain ⟨⟨v2, q2⟩, z2⟩ := HS1.out.cell (j * 3 + 2) (by omega)
      have HC1 : Hid (MkP w1 g k j) := HS.out.2.1.below b1 hgl
      have HU1 : Hid (∀ c, c < w.heap.size → c ≠ g → w1.heap[c]? = w.heap[c]?) := fun c hc hne => (b1.block c (Nat.lt_of_lt_of_le hc HS.out.2.2.2.size)).trans (HS.out.2.2.1 c hc hne)
      have HX1 : Hid (Below 0 w w1) := HS.out.2.2.2.trans (b1.mono (Nat.zero_le _))
      have HN : Hid (PBk (((w1.setCell ⟨g, j * 3, none⟩ (.string (mkS m))).setCell ⟨g, j * 3 + 1, none⟩ (.int .i64 ((m : Int) + 1))).setCell ⟨g, j * 3 + 2, none⟩ (.int .i64 ((m : Int) + 1 + 1))) g n ∧ MkP (((w1.setCell ⟨g, j * 3, none⟩ (.string (mkS m))).setCell ⟨g, j * 3 + 1, none⟩ (.int .i64 ((m : Int) + 1))).setCell ⟨g, j * 3 + 2, none⟩ (.int .i64 ((m : Int) + 1 + 1))) g k (j + 1) ∧ (∀ c, c < w.heap.size → c ≠ g → (((w1.setCell ⟨g, j * 3, none⟩ (.string (mkS m))).setCell ⟨g, j * 3 + 1, none⟩ (.int .i64 ((m : Int) + 1))).setCell ⟨g, j * 3 + 2, none⟩ (.int .i64 ((m : Int) + 1 + 1))).heap[c]? = w.heap[c]?) ∧ Below 0 w (((w1.setCell ⟨g, j * 3, none⟩ (.string (mkS m))).setCell ⟨g, j * 3 + 1, none⟩ (.int .i64 ((m : Int) + 1))).setCell ⟨g, j * 3 + 2, none⟩ (.int .i64 ((m : Int) + 1 + 1)))) := by
        refine ⟨((HS1.out.set _ _).set _ _).set _ _, ?_, setOff (setOff (setOff HU1.out)), ((HX1.out.setCell (p := ⟨g, j * 3, none⟩) (Nat.zero_le _) _).setCell (p := ⟨g, j * 3 + 1, none⟩) (Nat.zero_le _) _).setCell (p := ⟨g, j * 3 + 2, none⟩) (Nat.zero_le _) _⟩
        have := HC1.out.step HS1.out hlt
        rw [← HM.out] at this
        exact this
      clear hmk HS HS1 HC1 HU1 HX1 b1
      generalize mkS m = ms at HN ⊢
      go_wp2_with fail
      go_roundw
      case rel => exact ⟨j + 1, HK1.out, by go_num, by show Value.int .i64 _ = Value.int .i64 _; rw [HM1.out], HN⟩
      case measure => have := HK1.out; simp [intOf]; omega
    · obtain rfl : j = n := by omega
      go_wp2_with fail
      exact HQ.out _ _ rfl HS.out.2.1 HS.out.2.2.1 HS.out.2.2.2 HS.out.1

set_option maxHeartbeats 2000000 in
set_option maxRecDepth 100000 in
theorem heldPeaks (g n cap k : Nat) (w : World) (hg : g < w.heap.size) (h : MkP w g k n) (hn : n ≤ 1048576) (hk : k ≤ 1000000000) :
    Calls Tryd.prog 16 #[.slice (some ⟨g, 0, none⟩) n cap, .int .i64 (k : Int)] w fun e w' => e = .returned (.int .i64 ((k + 3 * n : Nat) : Int)) ∧ Below w.heap.size w w' := by
  have H0 : Hid (MkP w g k n) := h
  clear h
  obtain ⟨kn, hkn⟩ : ∃ kn, kn = k + 3 * n := ⟨_, rfl⟩
  rw [← hkn]
  have HKN : Hid (kn = k + 3 * n) := hkn
  clear hkn
  go_enter Tryd.func16, Tryd.ntmps16
  go_wp2_with fail
  go_loopw [1, 5] (fun m i wr => ∃ j : Nat, j ≤ n ∧ i = .int .i64 (j : Int) ∧ m = .int .i64 ((k + 3 * j : Nat) : Int) ∧ Hid (Below w.heap.size w wr)) (fun _ i _ => n - (intOf i).toNat)
  case atStart => exact ⟨0, by omega, rfl, rfl, Below.refl _ _⟩
  case round =>
    obtain ⟨j, hj, rfl, rfl, HB⟩ := hrel
    by_cases hlt : j < n
    · have HMK : Hid (MkP wr g k n) := H0.out.below HB.out hg
      have HGR : Hid (g < wr.heap.size) := Nat.lt_of_lt_of_le hg HB.out.size
      have c0 := (HMK.out j hlt).1
      have lj : (j : Int) < (n : Int) := by omega
      have lj0 : (0 : Int) ≤ (j : Int) := by omega
      have HK1 : Hid (j + 1 ≤ n) := hlt
      have hmk := fun w' => markText (k + 3 * j) (by omega) w'
      obtain ⟨m, hm⟩ : ∃ m, m = k + 3 * j := ⟨_, rfl⟩
      have HM1 : Hid (((m : Int) + 1 + 1 + 1) = ((k + 3 * (j + 1) : Nat) : Int)) := by show _ = _; omega
      have HCC : Hid (∀ w', Below wr.heap.size wr w' → w'.cell? ⟨g, j * 3, none⟩ = some (.string (mkS m)) ∧ w'.cell? ⟨g, j * 3 + 1, none⟩ = some (.int .i64 ((m : Int) + 1)) ∧ w'.cell? ⟨g, j * 3 + 2, none⟩ = some (.int .i64 ((m : Int) + 1 + 1))) := fun w' hb => by
        have := HMK.out.below hb HGR.out j hlt
        rw [← hm] at this
        exact this
      rw [← hm] at hmk c0 ⊢
      have wk : IntKind.i64.wrap ((m : Int) + 1) = (m : Int) + 1 := by rw [IntKind.wrap_i64]; omega
      have wk2 : IntKind.i64.wrap ((m : Int) + 1 + 1) = (m : Int) + 1 + 1 := by rw [IntKind.wrap_i64]; omega
      have wk3 : IntKind.i64.wrap ((m : Int) + 1 + 1 + 1) = (m : Int) + 1 + 1 + 1 := by rw [IntKind.wrap_i64]; omega
      have wj : IntKind.i64.wrap ((j : Int) + 1) = (j : Int) + 1 := by rw [IntKind.wrap_i64]; omega
      generalize mkS m = ms at hmk c0 HCC
      clear hm
      go_wp2_with fail
      go_region_with (go_at_call 42; refine (hmk _).mono ?_; rintro e w1 ⟨rfl, b1⟩; obtain ⟨q0, q1, q2⟩ := HCC.out w1 ((Below.refl _ wr).drew.trans b1))
      all_goals
        have HB1 : Hid (Below w.heap.size w w1) := HB.out.drew.trans (b1.mono HB.out.size)
        clear b1 HCC HMK
        go_wp2_with fail
        go_roundw
        case rel => exact ⟨j + 1, HK1.out, by go_num, by show Value.int .i64 _ = Value.int .i64 _; rw [HM1.out], HB1⟩
        case measure => have := HK1.out; simp [intOf]; omega
    · obtain rfl : j = n := by omega
      have hv := HKN.out
      rw [← hv]
      go_wp2_with fail
      go_ret
      exact ⟨rfl, HB.out⟩

theorem eqPeaksNil (w : World) : Calls Tryd.prog 12 #[.slice none 0 0, .slice none 0 0] w fun e w' => e = .returned (.bool true) ∧ w' = w := by
  go_enter Tryd.func12, Tryd.ntmps12
  go_wp2_with fail
  go_loopw [5] (fun i wr => i = .int .i64 0 ∧ Hid (wr = w)) (fun _ _ => 0)
  case atStart => exact ⟨rfl, rfl⟩
  case round =>
    obtain ⟨rfl, HW⟩ := hrel
    go_wp2_with fail
    go_ret
    exact ⟨rfl, HW.out⟩
theorem markPeaksNil (w : World) : Calls Tryd.prog 15 #[.slice none 0 0, .int .i64 1] w fun e w' => e = .returned (.int .i64 1) ∧ w' = w := by
  go_enter Tryd.func15, Tryd.ntmps15
  go_wp2_with fail
  go_loopw [1, 5] (fun m i wr => m = .int .i64 1 ∧ i = .int .i64 0 ∧ Hid (wr = w)) (fun _ _ _ => 0)
  case atStart => exact ⟨rfl, rfl, rfl⟩
  case round =>
    obtain ⟨rfl, rfl, HW⟩ := hrel
    go_wp2_with fail
    go_ret
    exact ⟨rfl, HW.out⟩
theorem heldPeaksNil (w : World) : Calls Tryd.prog 16 #[.slice none 0 0, .int .i64 1] w fun e w' => e = .returned (.int .i64 1) ∧ w' = w := by
  go_enter Tryd.func16, Tryd.ntmps16
  go_wp2_with fail
  go_loopw [1, 5] (fun m i wr => m = .int .i64 1 ∧ i = .int .i64 0 ∧ Hid (wr = w)) (fun _ _ _ => 0)
  case atStart => exact ⟨rfl, rfl, rfl⟩
  case round =>
    obtain ⟨rfl, rfl, HW⟩ := hrel
    go_wp2_with fail
    go_ret
    exact ⟨rfl, HW.out⟩
/-- A list of peaks that was handed back: nothing, or a row that stands in a block of its own. -/
def Pks (B : Nat) (v : Value) (l : List PeakV) (w : World) : Prop := (v = .slice none 0 0 ∧ l = []) ∨ ∃ g cap, v = .slice (some ⟨g, 0, none⟩) l.length cap ∧ AtP w g l ∧ PBk w g l.length ∧ B ≤ g
theorem Pks.below {B : Nat} {v : Value} {l : List PeakV} {w w' : World} (h : Pks B v l w) (hb : Below w.heap.size w w') : Pks B v l w' := by
  rcases h with h | ⟨g, cap, h1, h2, h3, h4⟩
  · exact .inl h
  · exact .inr ⟨g, cap, h1, h2.below hb h2.1, h3.below hb h3.lt, h4⟩
theorem Pks.mono {B C : Nat} {v : Value} {l : List PeakV} {w : World} (h : Pks B v l w) (hc : C ≤ B) : Pks C v l w := by
  rcases h with h | ⟨g, cap, h1, h2, h3, h4⟩
  · exact .inl h
  · exact .inr ⟨g, cap, h1, h2, h3, Nat.le_trans hc h4⟩
/-- The block of a value that is a row. -/
def blkOf : Value → Nat → Prop
  | .slice (some a) _ _, g => a.block = g
  | _, _ => False
theorem Pks.blk {B : Nat} {v : Value} {l : List PeakV} {w : World} (h : Pks B v l w) {g : Nat} (hv : blkOf v g) : g < w.heap.size ∧ B ≤ g := by
  rcases h with ⟨rfl, _⟩ | ⟨g', c', rfl, h2, _, h4⟩
  · exact absurd hv (by simp [blkOf])
  · have : g' = g := hv
    subst this
    exact ⟨h2.1, h4⟩
theorem Pks.keep {B : Nat} {v : Value} {l : List PeakV} {w w' : World} (h : Pks B v l w) (hs : w.heap.size ≤ w'.heap.size) (hk : ∀ g, blkOf v g → w'.heap[g]? = w.heap[g]?) : Pks B v l w' := by
  rcases h with h | ⟨g, cap, rfl, h2, h3, h4⟩
  · exact .inl h
  · refine .inr ⟨g, cap, rfl, ⟨Nat.lt_of_lt_of_le h2.1 hs, fun i j hi hj => ?_⟩, h3.keep (hk g rfl), h4⟩
    have := h2.2 i j hi hj
    rw [← this]
    exact World.cell?_of_block (a := ⟨g, i * 3 + j, none⟩) (hk g rfl)
theorem pksEq {B C : Nat} {u v : Value} {l : List PeakV} {w : World} (h1 : Pks B u l w) (h2 : Pks C v l w) (hn : l.length ≤ 1048576) : Calls Tryd.prog 12 #[u, v] w fun e w' => e = .returned (.bool true) ∧ Below w.heap.size w w' := by
  rcases h1 with ⟨rfl, hs⟩ | ⟨g1, c1, rfl, a1, b1, _⟩
  · rcases h2 with ⟨rfl, _⟩ | ⟨g2, c2, rfl, a2, b2, _⟩
    · exact (eqPeaksNil w).mono fun e w' ⟨he, hw⟩ => ⟨he, by rw [hw]; exact Below.refl _ _⟩
    · subst hs
      clear a2 b2
      go_enter Tryd.func12, Tryd.ntmps12
      go_wp2_with fail
      go_loopw [5] (fun i wr => i = .int .i64 0 ∧ Hid (wr = w)) (fun _ _ => 0)
      case atStart => exact ⟨rfl, rfl⟩
      case round =>
        obtain ⟨rfl, HW⟩ := hrel
        go_wp2_with fail
        go_ret
        exact ⟨rfl, by rw [HW.out]; exact Below.refl _ _⟩
  · rcases h2 with ⟨rfl, hs⟩ | ⟨g2, c2, rfl, a2, b2, _⟩
    · subst hs
      clear a1 b1
      go_enter Tryd.func12, Tryd.ntmps12
      go_wp2_with fail
      go_loopw [5] (fun i wr => i = .int .i64 0 ∧ Hid (wr = w)) (fun _ _ => 0)
      case atStart => exact ⟨rfl, rfl⟩
      case round =>
        obtain ⟨rfl, HW⟩ := hrel
        go_wp2_with fail
        go_ret
        exact ⟨rfl, by rw [HW.out]; exact Below.refl _ _⟩
    · exact eqPeaks g1 g2 l.length c1 c2 l w a1 a2 rfl (by omega)
/-- A list of peaks that holds its marks. -/
def HeldP (v : Value) (n : Nat) (w : World) : Prop := (v = .slice none 0 0 ∧ n = 0) ∨ ∃ g cap, v = .slice (some ⟨g, 0, none⟩) n cap ∧ g < w.heap.size ∧ MkP w g 1 n
theorem HeldP.below {v : Value} {n : Nat} {w w' : World} (h : HeldP v n w) (hb : Below w.heap.size w w') : HeldP v n w' := by
  rcases h with h | ⟨g, cap, h1, h2, h3⟩
  · exact .inl h
  · exact .inr ⟨g, cap, h1, Nat.lt_of_lt_of_le h2 hb.size, h3.below hb h2⟩
theorem pksMark {B : Nat} {v : Value} {l : List PeakV} {w : World} (h : Pks B v l w) (hn : l.length ≤ 1048576) : Calls Tryd.prog 15 #[v, .int .i64 1] w fun e w' => e = .returned (.int .i64 ((1 + 3 * l.length : Nat) : Int)) ∧ HeldP v l.length w' ∧ Below 0 w w' ∧ ∀ b, b < w.heap.size → b < B → w'.heap[b]? = w.heap[b]? := by
  rcases h with ⟨rfl, rfl⟩ | ⟨g, cap, rfl, a, b, hB⟩
  · exact (markPeaksNil w).mono fun e w' ⟨he, hw⟩ => ⟨he, .inl ⟨rfl, rfl⟩, by rw [hw]; exact Below.refl _ _, fun b _ _ => by rw [hw]⟩
  · refine (markPeaks g l.length cap 1 w b (by omega) (by omega)).mono ?_
    rintro e w' ⟨rfl, hc, hu, hfr, hb⟩
    exact ⟨rfl, .inr ⟨g, cap, rfl, hb.lt, hc⟩, hfr, fun c hc1 hc2 => hu c hc1 (by omega)⟩
theorem pksHeld {v : Value} {n : Nat} {w : World} (h : HeldP v n w) (hn : n ≤ 1048576) : Calls Tryd.prog 16 #[v, .int .i64 1] w fun e w' => e = .returned (.int .i64 ((1 + 3 * n : Nat) : Int)) ∧ Below w.heap.size w w' := by
  rcases h with ⟨rfl, rfl⟩ | ⟨g, cap, rfl, hg, hc⟩
  · exact (heldPeaksNil w).mono fun e w' ⟨he, hw⟩ => ⟨he, by rw [hw]; exact Below.refl _ _⟩
  · exact heldPeaks g n cap 1 w hg hc (by omega) (by omega)

end Go.Proofs.YtjeldedjhlicmaaDoor

set_option linter.unusedVariables false
namespace Go.Proofs.YtjeldedjhlicmaaDoor
open Go.RowKit Go.Deep

/-- Whether heads can be those of a range. -/
def headsB (l : List HeadV) : Bool := decide (l.length ≤ 20) && l.all headOkB
theorem heads_at {l : List HeadV} (h : headsB l = true) (i : Nat) (hi : i < l.length) : headOkB (l.getD i default) = true := by
  rw [headsB, Bool.and_eq_true, List.all_eq_true] at h
  rw [List.getD_eq_getElem?_getD, List.getElem?_eq_getElem hi]
  exact h.2 _ (List.getElem_mem hi)
theorem heads_len {l : List HeadV} (h : headsB l = true) : l.length ≤ 20 := by
  rw [headsB, Bool.and_eq_true, decide_eq_true_eq] at h
  exact h.1
theorem heads_long {l : List HeadV} (h : ¬ l.length ≤ 20) : headsB l = false := by rw [headsB, decide_eq_false h]; rfl
theorem heads_bad {l : List HeadV} {i : Nat} (hi : i < l.length) (h : headOkB (l.getD i default) = false) : headsB l = false := by
  cases hs : headsB l with
  | false => rfl
  | true => rw [heads_at hs i hi] at h; cases h
theorem heads_good {l : List HeadV} (h8 : l.length ≤ 20) (h : ∀ i, i < l.length → headOkB (l.getD i default) = true) : headsB l = true := by
  rw [headsB, decide_eq_true h8, Bool.true_and, List.all_eq_true]
  intro q hq
  obtain ⟨j, hj, rfl⟩ := List.mem_iff_getElem.1 hq
  have := h j hj
  rwa [List.getD_eq_getElem?_getD, List.getElem?_eq_getElem hj] at this
/-- The peaks that RangeOf tells. -/
def ofL (l : List HeadV) : List PeakV := if headsB l = true then ofP l l.length else []
theorem ofL_len (l : List HeadV) : (ofL l).length ≤ 20 := by
  unfold ofL
  split
  · rename_i h
    have h1 := heads_len h
    have h2 := (ofP_ok (heads_at h) h1 l.length (Nat.le_refl _)).2.2
    omega
  · exact Nat.zero_le _

set_option maxHeartbeats 2000000 in
set_option maxRecDepth 100000 in
theorem implRangeHeadsOk (g n cap : Nat) (l : List HeadV) (w : World) (hA : AtHead w g l) (hn : n = l.length) (hm : n ≤ 1048576) :
    Calls Tryd.prog 36 #[.slice (some ⟨g, 0, none⟩) n cap] w fun e w' => e = .returned (.bool (headsB l)) ∧ Below w.heap.size w w' := by
  by_cases h20 : n ≤ 20
  · have HA : Hid (AtHead w g l) := hA
    have HN : Hid (n = l.length) := hn
    have HBAD : Hid (∀ k, k < n → headOkB (l.getD k default) = false → headsB l = false) := fun k hk he => heads_bad (by omega) he
    have HGOO : Hid ((∀ k, k < n → headOkB (l.getD k default) = true) → headsB l = true) := fun hf => heads_good (by omega) (fun i hi => hf i (by omega))
    generalize headsB l = R at HBAD HGOO ⊢
    have h21 : ¬ (20 : Int) < (n : Int) := by omega
    clear hA hn
    go_enter Tryd.func36, Tryd.ntmps36
    go_wp2_with fail
    go_loopw [10] (fun i wr => ∃ k : Nat, k ≤ n ∧ i = .int .i64 (k : Int) ∧ Hid (Below w.heap.size w wr) ∧ Hid (∀ j, j < k → headOkB (l.getD j default) = true)) (fun i _ => n - (intOf i).toNat)
    case atStart => exact ⟨0, by omega, rfl, Below.refl _ _, fun j hj => by omega⟩
    case round =>
      obtain ⟨k, hk, rfl, HB, HQ⟩ := hrel
      by_cases hlt : k < n
      · have hkl : k < l.length := by rw [← HN.out]; exact hlt
        have HAr := HA.out.below HB.out HA.out.1
        have c0 := AtHead.c0 HAr k hkl
        have c1 := AtHead.c1 HAr k hkl
        have c2 := AtHead.c2 HAr k hkl
        have c3 := AtHead.c3 HAr k hkl
        have c4 := AtHead.c4 HAr k hkl
        have lk : (k : Int) < (n : Int) := by omega
        have lk0 : (0 : Int) ≤ (k : Int) := by omega
        have wk : IntKind.i64.wrap ((k : Int) + 1) = (k : Int) + 1 := by rw [IntKind.wrap_i64]; omega
        have HK1 : Hid (k + 1 ≤ n) := hlt
        have HH : Hid (headOkB (l.getD k default) = false → R = false) := HBAD.out k hlt
        have HQ2 : Hid (headOkB (l.getD k default) = true → ∀ j, j < k + 1 → headOkB (l.getD j default) = true) := by
          intro h j hj
          rcases Nat.lt_or_ge j k with h' | h'
          · exact HQ.out j h'
          · obtain rfl : j = k := by omega
            exact h
        have hho := fun w' => implHeadOk (l.getD k default) w'
        clear HQ HBAD HGOO hkl HAr
        generalize headOkB (l.getD k default) = ok at hho HH HQ2
        generalize l.getD k default = h at c0 c1 c2 c3 c4 hho
        have L0 : Hid (Below wr.heap.size wr (wr.alloc (.cells #[.string h.prev, .string h.root, .int .i64 h.time, .int .i64 h.diff, .int .i64 h.nonce] 41))) := (Below.refl _ wr).alloc (Nat.le_refl _) _
        cases ok with
        | false =>
          have HV : Hid (R = false) := HH.out rfl
          clear HH HQ2
          go_wp2_with fail
          refine (hho _).mono ?_
          rintro e w1 ⟨rfl, b1⟩
          have HB1 : Hid (Below w.heap.size w w1) := HB.out.trans ((L0.out.trans (b1.mono L0.out.size)).mono HB.out.size)
          clear b1
          go_wp2_with fail
          go_ret
          exact ⟨by rw [HV.out]; rfl, HB1.out⟩
        | true =>
          have HQ3 : Hid (∀ j, j < k + 1 → headOkB (l.getD j default) = true) := HQ2.out rfl
          clear HH HQ2
          go_wp2_with fail
          refine (hho _).mono ?_
          rintro e w1 ⟨rfl, b1⟩
          have HB1 : Hid (Below w.heap.size w w1) := HB.out.trans ((L0.out.trans (b1.mono L0.out.size)).mono HB.out.size)
          clear b1
          go_wp2_with fail
          go_roundw
          case rel => exact ⟨k + 1, HK1.out, by go_num, HB1, HQ3⟩
          case measure => have := HK1.out; simp [intOf]; omega
      · obtain rfl : k = n := by omega
        have HV : Hid (R = true) := HGOO.out HQ.out
        clear HBAD HGOO HQ
        go_wp2_with fail
        go_ret
        exact ⟨by rw [HV.out]; rfl, HB.out⟩
  · have HV : Hid (headsB l = false) := heads_long (by omega)
    generalize headsB l = R at HV ⊢
    have h21 : (20 : Int) < (n : Int) := by omega
    clear hA hn
    go_enter Tryd.func36, Tryd.ntmps36
    go_wp2_with fail
    go_ret
    exact ⟨by rw [HV.out]; rfl, Below.refl _ _⟩

set_option maxHeartbeats 2000000 in
set_option maxRecDepth 100000 in
theorem specL5Heads (g n cap : Nat) (l : List HeadV) (w : World) (hA : AtHead w g l) (hn : n = l.length) (hm : n ≤ 1048576) (hz : ∀ i, i < l.length → (l.getD i default).prev.size ≤ maxLen ∧ (l.getD i default).root.size ≤ maxLen) :
    Calls Tryd.prog 34 #[.slice (some ⟨g, 0, none⟩) n cap] w fun e w' => e = .returned (.bool (headsB l)) ∧ Below w.heap.size w w' := by
  have HA : Hid (AtHead w g l) := hA
  have HN : Hid (n = l.length) := hn
  have HZ : Hid (∀ i, i < l.length → (l.getD i default).prev.size ≤ maxLen ∧ (l.getD i default).root.size ≤ maxLen) := hz
  have HBAD : Hid (∀ k, k < n → headOkB (l.getD k default) = false → headsB l = false) := fun k hk he => heads_bad (by omega) he
  have HEND : Hid ((∀ k, k < n → headOkB (l.getD k default) = true) → headsB l = decide ((n : Int) ≤ 20)) := fun hf => by
    by_cases h20 : l.length ≤ 20
    · rw [heads_good h20 (fun i hi => hf i (by omega)), decide_eq_true (by omega)]
    · rw [heads_long h20, decide_eq_false (by omega)]
  generalize headsB l = R at HBAD HEND ⊢
  clear hA hn hz
  go_enter Tryd.func34, Tryd.ntmps34
  go_wp2_with fail
  go_loopw [3] (fun i wr => ∃ k : Nat, k ≤ n ∧ i = .int .i64 (k : Int) ∧ Hid (Below w.heap.size w wr) ∧ Hid (∀ j, j < k → headOkB (l.getD j default) = true)) (fun i _ => n - (intOf i).toNat)
  case atStart => exact ⟨0, by omega, rfl, Below.refl _ _, fun j hj => by omega⟩
  case round =>
    obtain ⟨k, hk, rfl, HB, HQ⟩ := hrel
    by_cases hlt : k < n
    · have hkl : k < l.length := by rw [← HN.out]; exact hlt
      have HAr := HA.out.below HB.out HA.out.1
      have c0 := AtHead.c0 HAr k hkl
      have c1 := AtHead.c1 HAr k hkl
      have c2 := AtHead.c2 HAr k hkl
      have c3 := AtHead.c3 HAr k hkl
      have c4 := AtHead.c4 HAr k hkl
      have lk : (k : Int) < (n : Int) := by omega
      have lk0 : (0 : Int) ≤ (k : Int) := by omega
      have wk : IntKind.i64.wrap ((k : Int) + 1) = (k : Int) + 1 := by rw [IntKind.wrap_i64]; omega
      have HK1 : Hid (k + 1 ≤ n) := hlt
      have HH : Hid (headOkB (l.getD k default) = false → R = false) := HBAD.out k hlt
      have HQ2 : Hid (headOkB (l.getD k default) = true → ∀ j, j < k + 1 → headOkB (l.getD j default) = true) := by
        intro h j hj
        rcases Nat.lt_or_ge j k with h' | h'
        · exact HQ.out j h'
        · obtain rfl : j = k := by omega
          exact h
      have hho := fun w' => specL3Ok (l.getD k default) w' (HZ.out k hkl).1 (HZ.out k hkl).2
      clear HQ HBAD HEND hkl HAr
      generalize headOkB (l.getD k default) = ok at hho HH HQ2
      generalize l.getD k default = h at c0 c1 c2 c3 c4 hho
      cases ok with
      | false =>
        have HV : Hid (R = false) := HH.out rfl
        clear HH HQ2
        go_wp2_with fail
        refine (hho _).mono ?_
        rintro e w1 ⟨rfl, b1⟩
        have HB1 : Hid (Below w.heap.size w w1) := HB.out.trans (b1.mono HB.out.size)
        clear b1
        go_wp2_with fail
        go_ret
        exact ⟨by rw [HV.out]; rfl, HB1.out⟩
      | true =>
        have HQ3 : Hid (∀ j, j < k + 1 → headOkB (l.getD j default) = true) := HQ2.out rfl
        clear HH HQ2
        go_wp2_with fail
        refine (hho _).mono ?_
        rintro e w1 ⟨rfl, b1⟩
        have HB1 : Hid (Below w.heap.size w w1) := HB.out.trans (b1.mono HB.out.size)
        clear b1
        go_wp2_with fail
        go_roundw
        case rel => exact ⟨k + 1, HK1.out, by go_num, HB1, HQ3⟩
        case measure => have := HK1.out; simp [intOf]; omega
    · obtain rfl : k = n := by omega
      have HV : Hid (R = decide ((k : Int) ≤ 20)) := HEND.out HQ.out
      clear HBAD HEND HQ
      by_cases h20 : (k : Int) ≤ 20
      · have HV2 : Hid (R = true) := by show _ = _; rw [HV.out, decide_eq_true h20]
        clear HV
        go_wp2_with fail
        go_ret
        exact ⟨by rw [HV2.out]; rfl, HB.out⟩
      · have HV2 : Hid (R = false) := by show _ = _; rw [HV.out, decide_eq_false h20]
        clear HV
        go_wp2_with fail
        go_ret
        exact ⟨by rw [HV2.out]; rfl, HB.out⟩

def OfPost (l : List HeadV) (w : World) (e : Ending) (w' : World) : Prop := ∃ v, e = .returned v ∧ Pks w.heap.size v (ofL l) w' ∧ Below w.heap.size w w'
theorem of_no {l : List HeadV} {w w' : World} (h : headsB l = false) (hb : Below w.heap.size w w') : OfPost l w (.returned (.slice none 0 0)) w' := ⟨_, rfl, .inl ⟨rfl, by rw [ofL, h]; rfl⟩, hb⟩
theorem of_yes {l : List HeadV} {w w' : World} {v : Value} (h : headsB l = true) (hr : PRow w.heap.size v (ofP l l.length) w') (hb : Below w.heap.size w w') : OfPost l w (.returned v) w' := ⟨_, rfl, .inr (by rw [ofL, if_pos h]; exact PBk.frow hr), hb⟩

set_option maxHeartbeats 1000000 in
set_option maxRecDepth 100000 in
theorem specRangeOf (g n cap : Nat) (l : List HeadV) (w : World) (hA : AtHead w g l) (hn : n = l.length) (hm : n ≤ 1048576) (hz : ∀ i, i < l.length → (l.getD i default).prev.size ≤ maxLen ∧ (l.getD i default).root.size ≤ maxLen) :
    Calls Tryd.prog 9 #[.slice (some ⟨g, 0, none⟩) n cap] w fun e w' => OfPost l w e w' := by
  have hhs := specL5Heads g n cap l w hA hn hm hz
  have HOF : Hid (headsB l = true → ∀ w', Below w.heap.size w w' → Calls Tryd.prog 35 #[.slice (some ⟨g, 0, none⟩) n cap] w' fun e w'' => ∃ v, e = .returned v ∧ PRow w'.heap.size v (ofP l n) w'' ∧ Below w'.heap.size w' w'') := fun hk w' hb => specL5Of g n cap l w' (hA.below hb hA.1) hn (by have := heads_len hk; omega) (heads_at hk)
  have HNO : Hid (∀ w', headsB l = false → Below w.heap.size w w' → OfPost l w (.returned (.slice none 0 0)) w') := fun w' h1 h2 => of_no h1 h2
  have HYES : Hid (∀ w' v, headsB l = true → PRow w.heap.size v (ofP l n) w' → Below w.heap.size w w' → OfPost l w (.returned v) w') := fun w' v h1 h2 h3 => of_yes h1 (by rw [← hn]; exact h2) h3
  generalize OfPost l w = Q at HNO HYES ⊢
  clear hA hn hm hz
  cases hk : headsB l with
  | false =>
    have HV : Hid (∀ w', Below w.heap.size w w' → Q (.returned (.slice none 0 0)) w') := fun w' h => HNO.out w' hk h
    rw [hk] at hhs
    clear HOF HNO HYES
    go_enter Tryd.func9, Tryd.ntmps9
    go_wp2_with fail
    refine hhs.mono ?_
    rintro e w1 ⟨rfl, b1⟩
    go_wp2_with fail
    exact HV.out _ b1
  | true =>
    have HV : Hid (∀ w' v, PRow w.heap.size v (ofP l n) w' → Below w.heap.size w w' → Q (.returned v) w') := fun w' v h2 h3 => HYES.out w' v hk h2 h3
    have HO2 : Hid (∀ w', Below w.heap.size w w' → _) := fun w' hb => HOF.out hk w' hb
    rw [hk] at hhs
    clear HOF HNO HYES
    go_enter Tryd.func9, Tryd.ntmps9
    go_wp2_with fail
    refine hhs.mono ?_
    rintro e w1 ⟨rfl, b1⟩
    have ho := HO2.out w1 b1
    have B1 : Hid (Below w.heap.size w w1) := b1
    clear HO2 b1
    go_wp2_with fail
    refine Calls.mono ho ?_
    rintro e w2 ⟨v, rfl, hr, b2⟩
    have R2 : Hid (PRow w.heap.size v (ofP l n) w2) := hr.mono B1.out.size
    have B2 : Hid (Below w.heap.size w w2) := B1.out.trans (b2.mono B1.out.size)
    clear ho hr b2
    go_wp2_with fail
    exact HV.out _ _ R2.out B2.out

set_option maxHeartbeats 4000000 in
set_option maxRecDepth 100000 in
theorem implRangeOf (g n cap : Nat) (l : List HeadV) (w : World) (hA : AtHead w g l) (hn : n = l.length) (hm : n ≤ 1048576) (hK : RowG w shaK) (hP : TabP w) :
    Calls Tryd.prog 11 #[.slice (some ⟨g, 0, none⟩) n cap] w fun e w' => OfPost l w e w' := by
  have hhs := implRangeHeadsOk g n cap l w hA hn hm
  have HA : Hid (AtHead w g l) := hA
  have HN : Hid (n = l.length) := hn
  have HNO : Hid (∀ w', headsB l = false → Below w.heap.size w w' → OfPost l w (.returned (.slice none 0 0)) w') := fun w' h1 h2 => of_no h1 h2
  have HYES : Hid (∀ w' v, headsB l = true → PRow w.heap.size v (ofP l n) w' → Below w.heap.size w w' → OfPost l w (.returned v) w') := fun w' v h1 h2 h3 => of_yes h1 (by rw [← hn]; exact h2) h3
  generalize OfPost l w = Q at HNO HYES ⊢
  cases hk : headsB l with
  | false =>
    have HV : Hid (∀ w', Below w.heap.size w w' → Q (.returned (.slice none 0 0)) w') := fun w' h => HNO.out w' hk h
    rw [hk] at hhs
    clear HNO HYES hA hn hK hP
    go_enter Tryd.func11, Tryd.ntmps11
    go_wp2_with fail
    refine hhs.mono ?_
    rintro e w1 ⟨rfl, b1⟩
    go_wp2_with fail
    exact HV.out _ b1
  | true =>
  have HV : Hid (∀ w' v, PRow w.heap.size v (ofP l n) w' → Below w.heap.size w w' → Q (.returned v) w') := fun w' v h2 h3 => HYES.out w' v hk h2 h3
  have HM : Hid (n ≤ 20) := by show _ ≤ _; have := heads_len hk; omega
  have HPU : Hid (∀ k, k < n → ∀ (w' : World) (g4 : Nat), Stk w w' g4 (ofP l k) → Calls Tryd.prog 38 #[.pointer (some ⟨g4, 0, none⟩), peakVal (leafP (l.getD k default))] w' fun e w'' => PushRes w g4 (ofP l (k + 1)) e w'') := fun k hkn w' g4 hs => by
    obtain ⟨h1, h2, h3⟩ := ofP_ok (heads_at hk) (heads_len hk) k (by omega)
    have hh := heads_at hk k (by omega)
    exact implPush w g4 (ofP l k) _ w' hs (by have := heads_len hk; omega) (fun i hi => getD_all (C := fun q => peakOkB q = true) h1 i hi) (room_leaf hh (by rw [h2]; have := heads_len hk; omega)) hK hP
  have HPH : Hid (∀ k, k < n → ∀ (w' : World), Below w.heap.size w w' → Calls Tryd.prog 39 #[headVal (l.getD k default)] w' fun e w'' => e = .returned (peakVal (leafP (l.getD k default))) ∧ Below w'.heap.size w' w'') := fun k hkn w' hb => implPeakHead _ w' (heads_at hk k (by omega)) (hK.below hb hK.lt) (TabP.below hP hb (Nat.le_refl _))
  rw [hk] at hhs
  clear HNO HYES hA hn hK hP hk
  unfold headVal at HPH
  unfold peakVal at HPH HPU
  go_enter Tryd.func11, Tryd.ntmps11
  go_wp2_with fail
  refine hhs.mono ?_
  rintro e w1 ⟨rfl, b1⟩
  have B1 : Hid (Below w.heap.size w w1) := b1
  clear b1 hhs
  go_wp2_with fail
  refine Calls.mono (implPeakStackNil w1) ?_
  rintro e w2 ⟨g4, rfl, hs2⟩
  have S2 : Hid (Stk w w2 g4 (ofP l 0)) := hs2.lower B1.out
  clear hs2 B1
  go_wp2_with fail
  go_loopw [12] (fun i wr => ∃ k : Nat, k ≤ n ∧ i = .int .i64 (k : Int) ∧ Hid (Stk w wr g4 (ofP l k))) (fun i _ => n - (intOf i).toNat)
  case atStart => exact ⟨0, by omega, rfl, S2⟩
  case round =>
    clear S2
    obtain ⟨k, hk, rfl, SK⟩ := hrel
    by_cases hlt : k < n
    · have hkl : k < l.length := by rw [← HN.out]; exact hlt
      have HAr := HA.out.below SK.out.b HA.out.1
      have c0 := AtHead.c0 HAr k hkl
      have c1 := AtHead.c1 HAr k hkl
      have c2 := AtHead.c2 HAr k hkl
      have c3 := AtHead.c3 HAr k hkl
      have c4 := AtHead.c4 HAr k hkl
      have lk : (k : Int) < (n : Int) := by omega
      have lk0 : (0 : Int) ≤ (k : Int) := by omega
      have wk : IntKind.i64.wrap ((k : Int) + 1) = (k : Int) + 1 := by have := HM.out; rw [IntKind.wrap_i64]; omega
      have HK1 : Hid (k + 1 ≤ n) := hlt
      have HPUk := HPU.out k hlt
      have HPHk := HPH.out k hlt
      have HPUk : Hid _ := HPUk
      have HPHk : Hid _ := HPHk
      clear hkl HAr
      generalize leafP (l.getD k default) = p at HPUk HPHk
      generalize l.getD k default = h at c0 c1 c2 c3 c4 HPHk
      have L0 : Hid (Below wr.heap.size wr (wr.alloc (.cells #[.string h.prev, .string h.root, .int .i64 h.time, .int .i64 h.diff, .int .i64 h.nonce] 41))) := (Below.refl _ wr).alloc (Nat.le_refl _) _
      have SA : Hid (Stk w (wr.alloc (.cells #[.string h.prev, .string h.root, .int .i64 h.time, .int .i64 h.diff, .int .i64 h.nonce] 41)) g4 (ofP l k)) := SK.out.call L0.out
      have hph := HPHk.out _ SA.out.b
      clear SK HPHk
      go_wp2_with fail
      refine hph.mono ?_
      rintro e w3 ⟨rfl, b3⟩
      have S3 : Hid (Stk w w3 g4 (ofP l k)) := SA.out.call b3
      have hpu := HPUk.out _ _ S3.out
      clear SA b3 hph HPUk c0 c1 c2 c3 c4 L0
      go_wp2_with fail
      refine Calls.mono hpu ?_
      rintro e w4 ⟨rfl, hs4⟩
      have S4 : Hid (Stk w w4 g4 (ofP l (k + 1))) := hs4
      clear hs4 hpu S3
      go_wp2_with fail
      go_roundw
      case rel => exact ⟨k + 1, HK1.out, by go_num, S4⟩
      case measure => have := HK1.out; simp [intOf]; omega
    · obtain rfl : k = n := by omega
      obtain ⟨r, c, M, hw⟩ := id SK.out
      have SW : Hid (StkW w wr g4 r c M (ofP l k)) := hw
      clear hw SK HPU HPH
      obtain ⟨a0, a1, a2⟩ := SW.out.outs
      go_wp2_with fail
      exact HV.out _ _ SW.out.frow SW.out.b

end Go.Proofs.YtjeldedjhlicmaaDoor

set_option linter.unusedVariables false
namespace Go.Proofs.YtjeldedjhlicmaaDoor
open Go.RowKit Go.Deep

/-- A block of heads that may be written. -/
def HdBk (w : World) (g n : Nat) : Prop := ∃ cur : Array Value, w.heap[g]? = some (.cells cur 41 (0, 0)) ∧ n * 5 ≤ cur.size
theorem HdBk.lt {w : World} {g n : Nat} (h : HdBk w g n) : g < w.heap.size := by
  obtain ⟨cur, h1, _⟩ := h
  rcases Nat.lt_or_ge g w.heap.size with h' | h'
  · exact h'
  · simp [Array.getElem?_eq_none h'] at h1
theorem HdBk.keep {w w' : World} {g n : Nat} (h : HdBk w g n) (hk : w'.heap[g]? = w.heap[g]?) : HdBk w' g n := by
  obtain ⟨cur, h1, h2⟩ := h
  exact ⟨cur, hk.trans h1, h2⟩
theorem HdBk.below {w w' : World} {g n B : Nat} (h : HdBk w g n) (hb : Below B w w') (hg : g < B) : HdBk w' g n := h.keep (hb.block g hg)
theorem HdBk.cell {w : World} {g n : Nat} (h : HdBk w g n) (i : Nat) (hi : i < n * 5) : (∃ v, w.cell? ⟨g, i, none⟩ = some v) ∧ w.frozen? ⟨g, i, none⟩ = false := by
  obtain ⟨cur, h1, h2⟩ := h
  refine ⟨?_, Lib.frozen_of_heap h1 i⟩
  rw [Lib.cell_of_heap h1]
  have hic : i < cur.size := by omega
  exact ⟨cur[i], Array.getElem?_eq_getElem hic⟩
theorem HdBk.set {w : World} {g n : Nat} (h : HdBk w g n) (i : Nat) (v : Value) : HdBk (w.setCell ⟨g, i, none⟩ v) g n := by
  obtain ⟨cur, h1, h2⟩ := h
  exact ⟨cur.setIfInBounds i v, by simp [World.setCell, Array.getElem?_modify, h1], by simpa using h2⟩
theorem HdBk.of {w : World} {g : Nat} {l : List HeadV} (h : RowHead w g l) : HdBk w g l.length := ⟨_, h, by simp [flat_length 5 enHead enHead_len]⟩
def MHPost (g n k : Nat) (w : World) (e : Ending) (w' : World) : Prop := e = .returned (.int .i64 ((k + 5 * n : Nat) : Int)) ∧ (∀ c, c < w.heap.size → c ≠ g → w'.heap[c]? = w.heap[c]?) ∧ Below 0 w w'
set_option maxHeartbeats 2000000 in
set_option maxRecDepth 100000 in
theorem markHeads (g n cap k : Nat) (w : World) (h : HdBk w g n) (hn : n ≤ 1048576) (hk : k ≤ 1000000000) :
    Calls Tryd.prog 14 #[.slice (some ⟨g, 0, none⟩) n cap, .int .i64 (k : Int)] w fun e w' => MHPost g n k w e w' := by
  have H0 : Hid (HdBk w g n) := h
  clear h
  have HQ : Hid (∀ e w', e = .returned (.int .i64 ((k + 5 * n : Nat) : Int)) → (∀ c, c < w.heap.size → c ≠ g → w'.heap[c]? = w.heap[c]?) → Below 0 w w' → MHPost g n k w e w') := fun e w' h1 h2 h3 => ⟨h1, h2, h3⟩
  generalize MHPost g n k w = Q at HQ ⊢
  go_enter Tryd.func14, Tryd.ntmps14
  go_wp2_with fail
  go_loopw [1, 5] (fun m i wr => ∃ j : Nat, j ≤ n ∧ i = .int .i64 (j : Int) ∧ m = .int .i64 ((k + 5 * j : Nat) : Int) ∧ Hid (HdBk wr g n ∧ (∀ c, c < w.heap.size → c ≠ g → wr.heap[c]? = w.heap[c]?) ∧ Below 0 w wr)) (fun _ i _ => n - (intOf i).toNat)
  case atStart => exact ⟨0, by omega, rfl, rfl, H0.out, fun c _ _ => rfl, Below.refl _ _⟩
  case round =>
    clear H0
    obtain ⟨j, hj, rfl, rfl, HS⟩ := hrel
    by_cases hlt : j < n
    · have hmk := fun (w' : World) => markText (k + 5 * j) (by omega) w'
      have hmk2 := fun (w' : World) => markText (k + 5 * j + 1) (by omega) w'
      have lj : (j : Int) < (n : Int) := by omega
      have lj0 : (0 : Int) ≤ (j : Int) := by omega
      have HK1 : Hid (j + 1 ≤ n) := hlt
      have hgl := HS.out.1.lt
      obtain ⟨m, hm⟩ : ∃ m, m = k + 5 * j := ⟨_, rfl⟩
      have HM1 : Hid (((m : Int) + 1 + 1 + 1 + 1 + 1) = ((k + 5 * (j + 1) : Nat) : Int)) := by show _ = _; omega
      rw [← hm] at hmk hmk2 ⊢
      have e1 : ((m + 1 : Nat) : Int) = (m : Int) + 1 := by omega
      rw [e1] at hmk2
      have wk : IntKind.i64.wrap ((m : Int) + 1) = (m : Int) + 1 := by rw [IntKind.wrap_i64]; omega
      have wk2 : IntKind.i64.wrap ((m : Int) + 1 + 1) = (m : Int) + 1 + 1 := by rw [IntKind.wrap_i64]; omega
      have wk3 : IntKind.i64.wrap ((m : Int) + 1 + 1 + 1) = (m : Int) + 1 + 1 + 1 := by rw [IntKind.wrap_i64]; omega
      have wk4 : IntKind.i64.wrap ((m : Int) + 1 + 1 + 1 + 1) = (m : Int) + 1 + 1 + 1 + 1 := by rw [IntKind.wrap_i64]; omega
      have wk5 : IntKind.i64.wrap ((m : Int) + 1 + 1 + 1 + 1 + 1) = (m : Int) + 1 + 1 + 1 + 1 + 1 := by rw [IntKind.wrap_i64]; omega
      have wj : IntKind.i64.wrap ((j : Int) + 1) = (j : Int) + 1 := by rw [IntKind.wrap_i64]; omega
      generalize mkS (m + 1) = ms2 at hmk2
      generalize mkS m = ms at hmk
      clear hm e1
      go_wp2_with fail
      refine (hmk _).mono ?_
      rintro e w1 ⟨rfl, b1⟩
      have HS1 : Hid (HdBk (w1.setCell ⟨g, j * 5, none⟩ (.string ms)) g n ∧ (∀ c, c < w.heap.size → c ≠ g → (w1.setCell ⟨g, j * 5, none⟩ (.string ms)).heap[c]? = w.heap[c]?) ∧ Below 0 w (w1.setCell ⟨g, j * 5, none⟩ (.string ms))) :=
        ⟨(HS.out.1.below b1 hgl).set _ _, setOff (fun c hc hne => (b1.block c (Nat.lt_of_lt_of_le hc HS.out.2.2.size)).trans (HS.out.2.1 c hc hne)), (HS.out.2.2.trans (b1.mono (Nat.zero_le _))).setCell (p := ⟨g, j * 5, none⟩) (Nat.zero_le _) _⟩
      obtain ⟨⟨v0, q0⟩, z0⟩ := (HS.out.1.below b1 hgl).cell (j * 5) (by omega)
      clear HS b1 hgl
      go_wp2_with fail
      clear q0 z0
      generalize w1.setCell ⟨g, j * 5, none⟩ (.string ms) = w2 at HS1 ⊢
      clear w1
      have hgl := HS1.out.1.lt
      refine (hmk2 _).mono ?_
      rintro e w3 ⟨rfl, b3⟩
      have HS3 : Hid (HdBk w3 g n ∧ (∀ c, c < w.heap.size → c ≠ g → w3.heap[c]? = w.heap[c]?) ∧ Below 0 w w3) :=
        ⟨HS1.out.1.below b3 hgl, fun c hc hne => (b3.block c (Nat.lt_of_lt_of_le hc HS1.out.2.2.size)).trans (HS1.out.2.1 c hc hne), HS1.out.2.2.trans (b3.mono (Nat.zero_le _))⟩
      obtain ⟨⟨v1, q1⟩, z1⟩ := HS3.out.1.cell (j * 5 + 1) (by omega)
      obtain ⟨⟨v2, q2⟩, z2⟩ := HS3.out.1.cell (j * 5 + 2) (by omega)
      obtain ⟨⟨v3, q3⟩, z3⟩ := HS3.out.1.cell (j * 5 + 3) (by omega)
      obtain ⟨⟨v4, q4⟩, z4⟩ := HS3.out.1.cell (j * 5 + 4) (by omega)
      have HN : Hid (HdBk ((((w3.setCell ⟨g, j * 5 + 1, none⟩ (.string ms2)).setCell ⟨g, j * 5 + 2, none⟩ (.int .i64 ((m : Int) + 1 + 1))).setCell ⟨g, j * 5 + 3, none⟩ (.int .i64 ((m : Int) + 1 + 1 + 1))).setCell ⟨g, j * 5 + 4, none⟩ (.int .i64 ((m : Int) + 1 + 1 + 1 + 1))) g n ∧ (∀ c, c < w.heap.size → c ≠ g → ((((w3.setCell ⟨g, j * 5 + 1, none⟩ (.string ms2)).setCell ⟨g, j * 5 + 2, none⟩ (.int .i64 ((m : Int) + 1 + 1))).setCell ⟨g, j * 5 + 3, none⟩ (.int .i64 ((m : Int) + 1 + 1 + 1))).setCell ⟨g, j * 5 + 4, none⟩ (.int .i64 ((m : Int) + 1 + 1 + 1 + 1))).heap[c]? = w.heap[c]?) ∧ Below 0 w ((((w3.setCell ⟨g, j * 5 + 1, none⟩ (.string ms2)).setCell ⟨g, j * 5 + 2, none⟩ (.int .i64 ((m : Int) + 1 + 1))).setCell ⟨g, j * 5 + 3, none⟩ (.int .i64 ((m : Int) + 1 + 1 + 1))).setCell ⟨g, j * 5 + 4, none⟩ (.int .i64 ((m : Int) + 1 + 1 + 1 + 1)))) :=
        ⟨(((HS3.out.1.set _ _).set _ _).set _ _).set _ _, setOff (setOff (setOff (setOff HS3.out.2.1))), (((HS3.out.2.2.setCell (p := ⟨g, j * 5 + 1, none⟩) (Nat.zero_le _) _).setCell (p := ⟨g, j * 5 + 2, none⟩) (Nat.zero_le _) _).setCell (p := ⟨g, j * 5 + 3, none⟩) (Nat.zero_le _) _).setCell (p := ⟨g, j * 5 + 4, none⟩) (Nat.zero_le _) _⟩
      clear HS1 HS3 b3 hgl hmk hmk2
      go_wp2_with fail
      go_roundw
      case rel => exact ⟨j + 1, HK1.out, by go_num, by show Value.int .i64 _ = Value.int .i64 _; rw [HM1.out], HN⟩
      case measure => have := HK1.out; simp [intOf]; omega
    · obtain rfl : j = n := by omega
      go_wp2_with fail
      exact HQ.out _ _ rfl HS.out.2.1 HS.out.2.2

end Go.Proofs.YtjeldedjhlicmaaDoor

set_option linter.unusedVariables false
namespace Go.Proofs.YtjeldedjhlicmaaDoor
open Go.ChangeShapes Go.WideShapes Go.ChangeAt Go.RowKit Go.Deep

set_option maxHeartbeats 8000000 in
set_option maxRecDepth 100000 in
theorem walk_FnExactRangeOf (a : Option Addr) (len cap : Nat) (ps : List HeadV) (w : World) (h0 : IsHeads w a len cap ps) (hK : RowG w shaK) (hP : TabP w) :
    Calls Tryd.prog 3 #[.slice a len cap] w fun e w' => e = .returned (.bool true) ∧ Below w.heap.size w w' := by
  have HLN : Hid (ps.length = len) := h0.len
  have hsz := szHeads a len cap ps w h0
  have HTO : Hid (len ≤ 1048576 → ∀ w1, Below w.heap.size w w1 → Calls Tryd.prog 10 #[.slice a len cap] w1 fun e w' => e = .returned (.slice (some ⟨w1.heap.size, 0, none⟩) len len) ∧ RowHead w' w1.heap.size ps ∧ Below w1.heap.size w1 w') := fun hn w1 hb => toHeads a len cap ps w1 w h0 hb hn
  have HSP : Hid (len ≤ 1048576 → (∀ i, i < len → smallHead (ps.getD i default)) → ∀ g w1, RowHead w1 g ps → Calls Tryd.prog 9 #[.slice (some ⟨g, 0, none⟩) len len] w1 fun e w' => OfPost ps w1 e w') := fun hn hs g w1 hr =>
    specRangeOf g len len ps w1 (hr.at 5 enHead_len) HLN.out.symm hn (fun i hi => by have := hs i (by rw [← HLN.out]; exact hi); unfold smallHead at this; unfold maxLen; omega)
  have HIM : Hid (len ≤ 1048576 → ∀ g w1, RowHead w1 g ps → Below w.heap.size w w1 → Calls Tryd.prog 11 #[.slice (some ⟨g, 0, none⟩) len len] w1 fun e w' => OfPost ps w1 e w') := fun hn g w1 hr hb =>
    implRangeOf g len len ps w1 (hr.at 5 enHead_len) HLN.out.symm hn (hK.below hb hK.lt) (TabP.below hP hb (Nat.le_refl _))
  have HML : Hid ((ofL ps).length ≤ 1048576) := Nat.le_trans (ofL_len ps) (by decide)
  unfold OfPost at HSP HIM
  generalize ofL ps = l at HSP HIM HML
  clear h0 hK hP
  go_enter Tryd.func3, Tryd.ntmps3
  go_wp2_with fail
  refine hsz.mono ?_
  rintro e w2 ⟨b2, rfl | ⟨r, rfl, hr, hn, hs⟩⟩
  · clear HTO HSP HIM
    go_wp2_with fail
    go_ret
    exact ⟨rfl, b2⟩
  have B2 : Hid (Below w.heap.size w w2) := b2
  have hsp := HSP.out hn hs
  have hto := HTO.out hn
  have him := HIM.out hn
  clear HSP HTO HIM
  have HSP : Hid _ := hsp
  have HTO : Hid _ := hto
  have HIM : Hid _ := him
  clear b2 hsz hsp hto him hs
  have hr0 : ¬ (r : Int) < 0 := by omega
  go_wp2_with fail
  refine (HTO.out _ B2.out).mono ?_
  rintro e w3 ⟨rfl, r3, b3⟩
  have B3 : Hid (Below w.heap.size w w3) := B2.out.trans (b3.mono B2.out.size)
  have hsp := HSP.out _ _ r3
  clear B2 b3 r3 HSP hr0
  go_wp2_with fail
  refine Calls.mono hsp ?_
  rintro e w5 ⟨v5, rfl, p5, b5⟩
  have B5 : Hid (Below w.heap.size w w5) := B3.out.trans (b5.mono B3.out.size)
  have P5 : Hid (Pks 0 v5 l w5) := p5.mono (Nat.zero_le _)
  clear B3 b5 p5 hsp
  go_wp2_with fail
  refine (HTO.out _ B5.out).mono ?_
  rintro e w7 ⟨rfl, r7, b7⟩
  have HV5 : Hid (∀ g, blkOf v5 g → g < w5.heap.size) := fun g hg => (P5.out.blk hg).1
  have HG5 : Hid (w.heap.size ≤ w5.heap.size) := B5.out.size
  have B7 : Hid (Below w.heap.size w w7) := B5.out.trans (b7.mono B5.out.size)
  have P7 : Hid (Pks 0 v5 l w7) := P5.out.below b7
  obtain ⟨g8, hg8⟩ : ∃ g8, g8 = w5.heap.size := ⟨_, rfl⟩
  rw [← hg8] at r7 HV5 HG5 ⊢
  clear hg8
  have R7 : Hid (RowHead w7 g8 ps) := r7
  have him := HIM.out _ _ r7 B7.out
  clear B5 P5 b7 r7
  go_wp2_with fail
  refine Calls.mono him ?_
  rintro e w8 ⟨v8, rfl, p8, b8⟩
  have A8 : Hid (Below w.heap.size w w8) := B7.out.trans (b8.mono B7.out.size)
  have P8 : Hid (Pks 0 v5 l w8) := P7.out.below b8
  have R8 : Hid (RowHead w8 g8 ps) := R7.out.below b8 R7.out.lt
  have Q8 : Hid (Pks (g8 + 1) v8 l w8) := p8.mono R7.out.lt
  clear B7 P7 R7 b8 p8 him
  go_wp2_with fail
  refine (pksEq Q8.out P8.out HML.out).mono ?_
  rintro e w9 ⟨rfl, b9⟩
  have A9 : Hid (Below w.heap.size w w9) := A8.out.trans (b9.mono A8.out.size)
  have P9 : Hid (Pks 0 v5 l w9) := P8.out.below b9
  have R9 : Hid (RowHead w9 g8 ps) := R8.out.below b9 R8.out.lt
  have Q9 : Hid (Pks (g8 + 1) v8 l w9) := Q8.out.below b9
  clear A8 P8 R8 b9 Q8
  go_wp2_with fail
  refine (HTO.out _ A9.out).mono ?_
  rintro e w10 ⟨rfl, r10, b10⟩
  have A10 : Hid (Below w.heap.size w w10) := A9.out.trans (b10.mono A9.out.size)
  have P10 : Hid (Pks 0 v5 l w10) := P9.out.below b10
  have R10 : Hid (RowHead w10 g8 ps) := R9.out.below b10 R9.out.lt
  have Q10 : Hid (Pks (g8 + 1) v8 l w10) := Q9.out.below b10
  have heq := eqHeads g8 w9.heap.size len len len ps w10 (R10.out.at 5 enHead_len) (r10.at 5 enHead_len) HLN.out.symm (by omega)
  clear A9 P9 R9 b10 Q9 r10
  go_wp2_with fail
  refine heq.mono ?_
  rintro e w11 ⟨rfl, b11⟩
  have A11 : Hid (Below w.heap.size w w11) := A10.out.trans (b11.mono A10.out.size)
  have P11 : Hid (Pks 0 v5 l w11) := P10.out.below b11
  have R11 : Hid (RowHead w11 g8 ps) := R10.out.below b11 R10.out.lt
  have Q11 : Hid (Pks (g8 + 1) v8 l w11) := Q10.out.below b11
  have hmk := markHeads g8 len len 1 w11 (by have := HdBk.of R11.out; rw [HLN.out] at this; exact this) hn (by decide)
  clear A10 P10 R10 b11 Q10 heq
  go_wp2_with fail
  refine hmk.mono ?_
  rintro e w12 ⟨rfl, k12, f12⟩
  have A12 : Hid (Below w.heap.size w w12) := A11.out.trans ⟨f12.os, f12.tape, f12.output, f12.size, fun c hc => k12 c (Nat.lt_of_lt_of_le hc A11.out.size) (by have := HG5.out; omega)⟩
  have P12 : Hid (Pks 0 v5 l w12) := P11.out.keep f12.size (fun g hg => k12 g (P11.out.blk hg).1 (by have := HV5.out g hg; omega))
  have Q12 : Hid (Pks (g8 + 1) v8 l w12) := Q11.out.keep f12.size (fun g hg => k12 g (Q11.out.blk hg).1 (by have := (Q11.out.blk hg).2; omega))
  clear A11 P11 R11 Q11 hmk k12 f12
  obtain ⟨kk, hkk⟩ : ∃ kk, kk = 1 + 5 * len := ⟨_, rfl⟩
  rw [← hkk]
  clear hkk
  have hk0 : ¬ (kk : Int) < 0 := by omega
  go_wp2_with fail
  refine (pksEq Q12.out P12.out HML.out).mono ?_
  rintro e w13 ⟨rfl, b13⟩
  have A13 : Hid (Below w.heap.size w w13) := A12.out.trans (b13.mono A12.out.size)
  have P13 : Hid (Pks 0 v5 l w13) := P12.out.below b13
  have Q13 : Hid (Pks (g8 + 1) v8 l w13) := Q12.out.below b13
  have hmk := pksMark Q13.out HML.out
  clear A12 P12 b13 Q12 hk0
  obtain ⟨mm, hmm⟩ : ∃ mm, mm = 1 + 3 * l.length := ⟨_, rfl⟩
  rw [← hmm] at hmk
  have HMM : Hid (mm = 1 + 3 * l.length) := hmm
  clear hmm
  go_wp2_with fail
  refine hmk.mono ?_
  rintro e w14 ⟨rfl, hh14, f14, k14⟩
  have A14 : Hid (Below w.heap.size w w14) := A13.out.trans ⟨f14.os, f14.tape, f14.output, f14.size, fun c hc => k14 c (Nat.lt_of_lt_of_le hc A13.out.size) (by have := HG5.out; omega)⟩
  have P14 : Hid (Pks 0 v5 l w14) := P13.out.keep f14.size (fun g hg => k14 g (P13.out.blk hg).1 (by have := HV5.out g hg; omega))
  have H14 : Hid (HeldP v8 l.length w14) := hh14
  have hhe := pksHeld hh14 HML.out
  rw [← HMM.out] at hhe
  clear A13 P13 Q13 hmk hh14 f14 k14
  go_wp2_with fail
  refine hhe.mono ?_
  rintro e w15 ⟨rfl, b15⟩
  have A15 : Hid (Below w.heap.size w w15) := A14.out.trans (b15.mono A14.out.size)
  have P15 : Hid (Pks 0 v5 l w15) := P14.out.below b15
  have H15 : Hid (HeldP v8 l.length w15) := H14.out.below b15
  have hm0 : ¬ (mm : Int) < 0 := by omega
  clear A14 P14 H14 b15 hhe
  go_wp2_with fail
  refine (HTO.out _ A15.out).mono ?_
  rintro e w16 ⟨rfl, r16, b16⟩
  have A16 : Hid (Below w.heap.size w w16) := A15.out.trans (b16.mono A15.out.size)
  have P16 : Hid (Pks 0 v5 l w16) := P15.out.below b16
  have H16 : Hid (HeldP v8 l.length w16) := H15.out.below b16
  have him := HIM.out _ _ r16 A16.out
  clear A15 P15 H15 b16 r16
  go_wp2_with fail
  refine Calls.mono him ?_
  rintro e w18 ⟨v18, rfl, p18, b18⟩
  have A18 : Hid (Below w.heap.size w w18) := A16.out.trans (b18.mono A16.out.size)
  have P18 : Hid (Pks 0 v5 l w18) := P16.out.below b18
  have H18 : Hid (HeldP v8 l.length w18) := H16.out.below b18
  have heq := pksEq p18 P18.out HML.out
  clear A16 P16 H16 b18 p18 him
  go_wp2_with fail
  refine heq.mono ?_
  rintro e w19 ⟨rfl, b19⟩
  have A19 : Hid (Below w.heap.size w w19) := A18.out.trans (b19.mono A18.out.size)
  have hhe := pksHeld (H18.out.below b19) HML.out
  rw [← HMM.out] at hhe
  clear A18 P18 H18 b19 heq
  go_wp2_with fail
  refine hhe.mono ?_
  rintro e w20 ⟨rfl, b20⟩
  have A20 : Hid (Below w.heap.size w w20) := A19.out.trans (b20.mono A19.out.size)
  clear A19 b20 hhe
  go_wp2_with fail
  go_ret
  exact ⟨rfl, A20.out⟩

end Go.Proofs.YtjeldedjhlicmaaDoor

namespace Go.Proofs.YtjeldedjhlicmaaDoor
open Go.ChangeShapes Go.WideShapes Go.ChangeAt Go.RowKit
open Go.ChangeMaps (open_string shut_string)
set_option linter.unusedVariables false

theorem own_fnExactRangeOf : ownKnob Tryd.prog.godebug = none := by kernel_rfl
theorem laid_fnExactRangeOf : laidOutB Tryd.prog = true := by kernel_rfl
theorem table_fnExactRangeOf {W : World} (h : laidMetH Tryd.prog Rows.fnExactRangeOfRow.laid W) : RowG W shaK ∧ TabP W := tabs_of_laid h

theorem met_fnExactRangeOf (os : Os) : laidMet Tryd.prog Rows.fnExactRangeOfRow.laid ((laidWorld os).forCall (fun _ _ => 0) ⟨#[], #[.slice none 0 0], []⟩).memory :=
  laidMet_of_run' 8 (by kernel_rfl) (by kernel_rfl)
theorem reads_fnExactRangeOf (os : Os) {H : Type} (enc : TypeId × Value → H) : ∃ places, DataW.whole enc Tryd.prog ((laidWorld os).forCall (fun _ _ => 0) ⟨#[], #[.slice none 0 0], []⟩).memory Tryd.f3.params.toList Rows.fnExactRangeOfSpec.vars false (#[.slice none 0 0] : Array Value).toList 8 = some ([.nil], [Rows.laid_loop_example_cordillera_impl_sumRounds], places) :=
  ⟨MemPlace.row ⟨0, 0, none⟩ 64, by kernel_rfl⟩

set_option maxRecDepth 100000 in
theorem lifted_fnExactRangeOf (os : Os) (started : os.Started) (H : Type) (enc : TypeId × Value → H) (F : Stop.Interp) :
    ReturnsInHanded {} Tryd.checked os 3 .any ((OpenSpec.ofChange Rows.fnExactRangeOfSpec).preRow enc Tryd.prog Tryd.f3 Rows.fnExactRangeOfRow.domain false Rows.fnExactRangeOfRow.laid) (((OpenSpec.ofChange Rows.fnExactRangeOfSpec).at F).post enc Tryd.prog Tryd.f3 false true false false) := by
  obtain ⟨places, hx⟩ := reads_fnExactRangeOf os enc
  refine returnsInHanded_of_row (C := Tryd.checked) (s := OpenSpec.ofChange Rows.fnExactRangeOfSpec) own_fnExactRangeOf started (by kernel_rfl) Tryd.func3
    (witness_row_at (enc := enc) (C := Tryd.checked) false (laidWorld os) #[.slice none 0 0] rfl (by kernel_rfl) (by kernel_rfl) (by kernel_rfl)
      (OpenSpec.preRow_of_cond 8 hx (by kernel_rfl) (fun k hk => by cases hk) (by kernel_rfl) (met_fnExactRangeOf os))) ?_
  intro W base args ds gs before hval0 hW _ _ _ hL _ _
  have hval : ∀ (j : Nat) t v, Tryd.f3.params[j]? = some t → args[j]? = some v → Value.okWide Tryd.prog W .any base t v := hval0
  have hW' := hW
  obtain ⟨p, q, hA0, hV, rfl, hfz, hnd⟩ := hW
  have hA : DataW.TrodAll enc Tryd.prog W 0 (fun _ => true) true Tryd.f3.params.toList args.toList ds p := hA0
  rw [Tryd.params3] at hA hval
  obtain ⟨v0, vs0, d0, ds0, p0, q0, hargs, rfl, rfl, h0, r0⟩ := trodAll_cons hA
  obtain ⟨rfl, rfl, rfl⟩ := trodAll_nil r0
  obtain rfl : args = #[v0] := by cases args; simp_all
  obtain ⟨gv, tv, cv, fv, dv, pv, rfl, hgv, htv, hvv, hdv, rfl⟩ := trodVars_one hV
  obtain ⟨a0, len0, cap0, rfl⟩ := okWide_slice Tryd.underlying22 (hval 0 22 v0 rfl rfl)
  have k0 := h0
  have lt0 : ∀ x ∈ p0, x.block < W.heap.size := by obtain ⟨m, hm⟩ := k0; exact DataW.trod_lt m _ _ _ hm
  obtain ⟨z0, w0⟩ := open_heads h0
  clear hA0 hval0
  refine (walk_FnExactRangeOf a0 len0 cap0 z0 W w0 (table_fnExactRangeOf hL).1 (table_fnExactRangeOf hL).2).mono fun e W' ⟨he, bel⟩ => ?_
  subst he
  obtain ⟨pv', hpv⟩ := varsBack laid_fnExactRangeOf hgv htv hvv hdv bel
  exact ⟨_, rfl, _, _, _, [], _, pv', hW', trodAll_mk1 (shut_bool Tryd.underlying4 _), (trodAll_cons_mk (Below.trod laid_fnExactRangeOf (by kernel_rfl) (of_decide_eq_true (by kernel_rfl)) k0 bel lt0) trodAll_mk0), hpv, bel.frame _, fun h => by cases h⟩

theorem fnExactRangeOf_said : Rows.FnExactRangeOfSaid :=
  OpenClaim.holds_of_cond 3 Tryd.f3 rfl rfl rfl rfl rfl rfl rfl ⟨rfl, rfl, rfl, rfl, rfl⟩ rfl rfl rfl rfl rfl (by kernel_rfl) Tryd.func3 (by kernel_rfl)
    (of_decide_eq_true (by kernel_rfl)) (by unfold Func.isWrapper; first | (rw [if_pos (by decide +kernel)]; kernel_rfl) | (rw [if_neg (by decide +kernel)]; exact ⟨rfl, rfl⟩))
    (fun os started H enc _ F => by rw [OpenClaim.pre_eq_preRow]; exact lifted_fnExactRangeOf os started H enc F)
theorem plain_fnExactRangeOf (f : FuncId) (fn : Func) (hf : Tryd.pinned.checked.prog.funcNamed "loop.example/cordillera/laws.FnExactRangeOf" = some f) (hfn : Tryd.pinned.checked.prog.funcs[f]? = some fn) :
    false = Tryd.pinned.checked.prog.looks [] ∧ ∀ (j : Nat) t, fn.params[j]? = some t → Tryd.pinned.checked.prog.wantsStandIn t = false := by
  obtain rfl : f = 3 := Option.some.inj ((show Tryd.prog.funcNamed "loop.example/cordillera/laws.FnExactRangeOf" = some 3 by kernel_rfl).symm.trans hf) |>.symm
  obtain rfl : fn = Tryd.f3 := (Option.some.inj (Tryd.func3.symm.trans hfn)).symm
  refine ⟨by kernel_rfl, fun j t ht => ?_⟩
  rw [Tryd.params3] at ht
  have hall : ∀ t ∈ (#[22] : Array TypeId), Tryd.prog.wantsStandIn t = false := by
    intro t ht
    simp only [List.mem_toArray, List.mem_cons, List.not_mem_nil, or_false] at ht
    subst ht; kernel_rfl
  exact hall t (Array.mem_of_getElem? ht)
theorem fnExactRangeOf_holds : Rows.FnExactRangeOfCardSaid :=
  Claim7.holds_tied_plain_at .later [] _ _ _ _ fnExactRangeOf_said (fun _ h => by cases h) (by kernel_rfl) (fun _ h => by cases h) fnExactRangeOf_row_tie rfl ⟨rfl, rfl⟩ (by kernel_rfl) rfl plain_fnExactRangeOf (by kernel_rfl)
#print axioms fnExactRangeOf_holds
end Go.Proofs.YtjeldedjhlicmaaDoor

