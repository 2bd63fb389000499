/-
  Texts that the last part needs, joined.
-/
import Derived.Test.YtkajpkfhedfmaaaGreatDoorPart1
import Derived.Test.YtkajpkfhedfmaaaGreatDoorPart2
import Derived.Test.YtkajpkfhedfmaaaGreatDoorPart3
import Derived.Test.YtkajpkfhedfmaaaGreatDoorPart4
import Derived.Test.YtkajpkfhedfmaaaGreatDoorPart5
import Derived.Test.YtkajpkfhedfmaaaGreatDoorPart6
import Derived.Test.YtkajpkfhedfmaaaGreatDoorPart7
import Derived.Test.YtkajpkfhedfmaaaGreatDoorPart8
import Derived.Test.YtkajpkfhedfmaaaGreatDoorPart9
import Derived.Test.YtkajpkfhedfmaaaGreatDoorPart10
import Derived.Test.YtkajpkfhedfmaaaGreatDoorProg
import Derived.WalkKit
import Derived.Below
import Derived.Deep.Slices
import Derived.Deep.SlicePairs
import Derived.OpenShut
import Derived.ShutString
import Derived.Laws.Rows
import Derived.BigRegion
import Derived.Deep.RegionWith
import Derived.Deep.OwnRows
import Derived.Deep.RegionHeld3
import Derived.ProofKit
import Derived.ChangeOld
import Derived.Shelf.Strings.MapGrows
import Derived.Laws.StructEq
import Derived.Lib.SmallJoins
set_option linter.unusedVariables false
namespace Go.Proofs.YtkajpkfhedfmaaaGreatDoor
open Go.RowKit Go.Deep

structure PeakV where
  sum : ByteArray
  work : Int
  count : Int
instance : Inhabited PeakV := ⟨⟨⟨#[]⟩, 0, 0⟩⟩
/-- The three cells of a peak. -/
def PeakAt (w : World) (x : Addr) (p : PeakV) : Prop := w.cell? x = some (.string p.sum) ∧ w.cell? ⟨x.block, x.off + 1, none⟩ = some (.int .i64 p.work) ∧ w.cell? ⟨x.block, x.off + 2, none⟩ = some (.int .i64 p.count)
def PeakV.val (p : PeakV) : Value := .agg #[.string p.sum, .int .i64 p.work, .int .i64 p.count]
/-- A slice of peaks as it comes in. -/
def IsPeaks (w : World) (a : Option Addr) (len cap : Nat) (ps : List PeakV) : Prop :=
  (a = none ∧ len = 0 ∧ cap = 0 ∧ ps = []) ∨ ∃ x : Addr, a = some x ∧ len ≤ cap ∧ cap ≤ maxLen ∧ ps.length = len ∧ (∀ i, i < len → PeakAt w (x.add (i * 3)) (ps.getD i default)) ∧ ∀ p ∈ ps, p.sum.size ≤ maxLen
theorem IsPeaks.len {w : World} {a : Option Addr} {len cap : Nat} {ps : List PeakV} (h : IsPeaks w a len cap ps) : ps.length = len := by
  rcases h with ⟨_, h1, _, h2⟩ | ⟨x, _, _, _, h1, _⟩
  · rw [h1, h2]; rfl
  · exact h1
theorem IsPeaks.at {w w' : World} {a : Option Addr} {len cap : Nat} {ps : List PeakV} (h : IsPeaks w a len cap ps) (hb : Below w.heap.size w w') (i : Nat) (hi : i < len) : ∃ x : Addr, a = some x ∧ PeakAt w' (x.add (i * 3)) (ps.getD i default) := by
  rcases h with ⟨_, h1, _, _⟩ | ⟨x, hx, _, _, _, h2, _⟩
  · omega
  · have := h2 i hi
    have k : ∀ y v, w.cell? y = some v → w'.cell? y = some v := fun y v hy => (hb.cell (World.block_lt_of_cell? w _ hy)).trans hy
    exact ⟨x, hx, k _ _ this.1, k _ _ this.2.1, k _ _ this.2.2⟩

theorem IsPeaks.size {w : World} {a : Option Addr} {len cap : Nat} {ps : List PeakV} (h : IsPeaks w a len cap ps) (i : Nat) (hi : i < len) : (ps.getD i default).sum.size ≤ maxLen := by
  rcases h with ⟨_, h1, _, _⟩ | ⟨x, hx, _, _, hl, _, h2⟩
  · omega
  · exact h2 _ (by simp [List.getElem?_eq_getElem (show i < ps.length by omega)])
theorem alloc3_mid (w : World) (o1 o2 o3 : Obj) : (((w.alloc o1).alloc o2).alloc o3).heap[w.heap.size + 1]? = some o2 := by
  have e : w.heap.size + 1 = (w.alloc o1).heap.size := by simp
  rw [e, Below.heap_alloc _ _ _ (by simp)]
  exact heap_alloc_new _ _
end Go.Proofs.YtkajpkfhedfmaaaGreatDoor

set_option linter.unusedVariables false
namespace Go.Proofs.YtkajpkfhedfmaaaGreatDoor
open Go.RowKit Go.Deep

def pEnc (p : PeakV) : List Value := [.string p.sum, .int .i64 p.work, .int .i64 p.count]
theorem pEnc_len (p : PeakV) : (pEnc p).length = 3 := rfl
abbrev RowP (w : World) (g : Nat) (l : List PeakV) : Prop := RowF pEnc 67 w g l
abbrev AtP (w : World) (g : Nat) (l : List PeakV) : Prop := AtF pEnc 3 w g l
theorem AtP.c0 {w : World} {g : Nat} {l : List PeakV} (h : AtP w g l) (i : Nat) (hi : i < l.length) : w.cell? ⟨g, i * 3, none⟩ = some (.string (l.getD i default).sum) := h.2 i 0 hi (by decide)
theorem AtP.c1 {w : World} {g : Nat} {l : List PeakV} (h : AtP w g l) (i : Nat) (hi : i < l.length) : w.cell? ⟨g, i * 3 + 1, none⟩ = some (.int .i64 (l.getD i default).work) := h.2 i 1 hi (by decide)
theorem AtP.c2 {w : World} {g : Nat} {l : List PeakV} (h : AtP w g l) (i : Nat) (hi : i < l.length) : w.cell? ⟨g, i * 3 + 2, none⟩ = some (.int .i64 (l.getD i default).count) := h.2 i 2 hi (by decide)
theorem infoPeak : (Tryz.prog.info? 67).map (fun i => (i.zero, i.size, i.bytes)) = some (some (.agg #[.string ⟨#[]⟩, .int .i64 0, .int .i64 0]), 3, 32) := by kernel_rfl
def zeroP : PeakV := ⟨⟨#[]⟩, 0, 0⟩
theorem makeP (n : Nat) (hn : n ≤ 1099511627776) (w : World) : (Instr.makeSlice 31 (.int .i64 (n : Int)) (.int .i64 (n : Int))).run Tryz.prog w = .ok (.slice (some ⟨w.heap.size, 0, none⟩) n n) (w.alloc (.cells ((List.replicate n zeroP).flatMap pEnc).toArray 67)) := by
  obtain ⟨i, hi, hz, hs, hb⟩ := info_parts infoPeak
  have hb' : (i.bytes : Int) * (n : Int) ≤ 281474976710656 := by rw [hb]; omega
  have hr := run_make (P := Tryz.prog) w 31 67 i _ Tryz.underlying31 hi hz .i64 .i64 (n : Int) (n : Int) (by omega) (by omega) hb' (by omega)
  simp only [Int.toNat_natCast, hs, Value.cells] at hr
  rw [← made_flat 3 pEnc pEnc_len (by decide) zeroP n]
  exact hr
theorem RowP.put {w : World} {g : Nat} {l : List PeakV} (h : RowP w g l) (i : Nat) (hi : i < l.length) (p : PeakV) :
    RowP (((w.setCell ⟨g, i * 3, none⟩ (.string p.sum)).setCell ⟨g, i * 3 + 1, none⟩ (.int .i64 p.work)).setCell ⟨g, i * 3 + 2, none⟩ (.int .i64 p.count)) g (l.set i p) := by
  show _ = _
  rw [← flat_put 3 pEnc pEnc_len l i p hi]
  exact rowSet (rowSet (rowSet h _) _) _

end Go.Proofs.YtkajpkfhedfmaaaGreatDoor

set_option linter.unusedVariables false
namespace Go.Proofs.YtkajpkfhedfmaaaGreatDoor
open Go.RowKit Go.Deep

def peakOkB (p : PeakV) : Bool := isSum p.sum.data.toList && (decide (1 ≤ p.count ∧ p.count ≤ 20) && decide (p.count ≤ p.work ∧ p.work ≤ p.count * 8))
def twoB (c : Int) : Bool := decide (c = 1 ∨ c = 2 ∨ c = 4 ∨ c = 8 ∨ c = 16)
theorem peakOk_in {p : PeakV} (h : peakOkB p = true) : 1 ≤ p.count ∧ p.count ≤ 20 ∧ p.count ≤ p.work ∧ p.work ≤ p.count * 8 := by
  simp only [peakOkB, Bool.and_eq_true, decide_eq_true_eq] at h
  omega

set_option maxHeartbeats 1000000 in
set_option maxRecDepth 100000 in
theorem implPeakOk (p : PeakV) (w : World) :
    Calls Tryz.prog 52 #[.agg #[.string p.sum, .int .i64 p.work, .int .i64 p.count]] w fun e w' => e = .returned (.bool (peakOkB p)) ∧ Below w.heap.size w w' := by
  have hb : ∀ o, Below w.heap.size w (w.alloc o) := fun o => (Below.refl _ w).alloc (Nat.le_refl _) o
  have hb2 : ∀ o, Below w.heap.size w (w.alloc o).drew := fun o => (hb o).drew
  cases h1 : isSum p.sum.data.toList with
  | false =>
    have e : peakOkB p = false := by simp [peakOkB, h1]
    rw [e]
    go_enter Tryz.func52, Tryz.ntmps52
    go_wp2_with (go_at_call 90; refine (implSumOk _ _).mono ?_; rintro e w1 ⟨rfl, rfl⟩)
    go_ret
    exact ⟨rfl, hb _⟩
  | true =>
    by_cases h2 : p.count < 1
    · have e : peakOkB p = false := by simp [peakOkB]; intro _ _; omega
      rw [e]
      go_enter Tryz.func52, Tryz.ntmps52
      go_wp2_with (go_at_call 90; refine (implSumOk _ _).mono ?_; rintro e w1 ⟨rfl, rfl⟩)
      go_ret
      exact ⟨rfl, hb _⟩
    by_cases h3 : 20 < p.count
    · have e : peakOkB p = false := by simp [peakOkB]; intro _ _; omega
      rw [e]
      go_enter Tryz.func52, Tryz.ntmps52
      go_wp2_with (go_at_call 90; refine (implSumOk _ _).mono ?_; rintro e w1 ⟨rfl, rfl⟩)
      go_ret
      exact ⟨rfl, hb _⟩
    by_cases h4 : p.work < p.count
    · have e : peakOkB p = false := by simp [peakOkB]; intro _ _ _; omega
      rw [e]
      go_enter Tryz.func52, Tryz.ntmps52
      go_wp2_with (go_at_call 90; refine (implSumOk _ _).mono ?_; rintro e w1 ⟨rfl, rfl⟩)
      go_ret
      exact ⟨rfl, hb _⟩
    have hw : IntKind.i64.wrap (p.count * 8) = p.count * 8 := by rw [IntKind.wrap_i64]; omega
    by_cases h5 : p.count * 8 < p.work
    · have e : peakOkB p = false := by simp [peakOkB]; intro _ _ _ _; omega
      rw [e]
      go_enter Tryz.func52, Tryz.ntmps52
      go_wp2_with (go_at_call 90; refine (implSumOk _ _).mono ?_; rintro e w1 ⟨rfl, rfl⟩)
      go_ret
      refine ⟨?_, hb _⟩
      show Ending.returned (Value.bool (decide (p.work ≤ p.count * 8))) = _
      rw [decide_eq_false (by omega)]
    have e : peakOkB p = true := by simp [peakOkB, h1]; omega
    rw [e]
    go_enter Tryz.func52, Tryz.ntmps52
    go_wp2_with (go_at_call 90; refine (implSumOk _ _).mono ?_; rintro e w1 ⟨rfl, rfl⟩)
    go_ret
    refine ⟨?_, hb _⟩
    first | rfl | (show Ending.returned (Value.bool (decide (p.work ≤ p.count * 8))) = _; rw [decide_eq_true (by omega)])

end Go.Proofs.YtkajpkfhedfmaaaGreatDoor

set_option linter.unusedVariables false
namespace Go.Proofs.YtkajpkfhedfmaaaGreatDoor
open Go.RowKit Go.Deep

theorem upTo20 {c : Int} (h1 : 1 ≤ c) (h2 : c ≤ 20) : c = 1 ∨ c = 2 ∨ c = 3 ∨ c = 4 ∨ c = 5 ∨ c = 6 ∨ c = 7 ∨ c = 8 ∨ c = 9 ∨ c = 10 ∨ c = 11 ∨ c = 12 ∨ c = 13 ∨ c = 14 ∨ c = 15 ∨ c = 16 ∨ c = 17 ∨ c = 18 ∨ c = 19 ∨ c = 20 := by omega

set_option maxHeartbeats 1000000 in
set_option maxRecDepth 100000 in
theorem implOnes64 (c : Int) (w : World) (h1 : 1 ≤ c) (h2 : c ≤ 20) :
    Calls Tryz.prog 92 #[.int .u64 c] w fun e w' => w' = w ∧ ∃ r : Int, e = .returned (.int .i64 r) ∧ (r != 1) = !(twoB c) := by
  rcases upTo20 h1 h2 with rfl | rfl | rfl | rfl | rfl | rfl | rfl | rfl | rfl | rfl | rfl | rfl | rfl | rfl | rfl | rfl | rfl | rfl | rfl | rfl
  all_goals
    clear h1 h2
    go_enter Tryz.func92, Tryz.ntmps92
    go_wp2
    go_ret
    exact ⟨rfl, _, rfl, by decide +kernel⟩

set_option maxHeartbeats 1000000 in
set_option maxRecDepth 100000 in
theorem implOnes (c : Int) (w : World) (h1 : 1 ≤ c) (h2 : c ≤ 20) :
    Calls Tryz.prog 53 #[.int .u64 c] w fun e w' => w' = w ∧ ∃ r : Int, e = .returned (.int .i64 r) ∧ (r != 1) = !(twoB c) := by
  have hw : IntKind.u64.wrap c = c := by rcases upTo20 h1 h2 with rfl | rfl | rfl | rfl | rfl | rfl | rfl | rfl | rfl | rfl | rfl | rfl | rfl | rfl | rfl | rfl | rfl | rfl | rfl | rfl <;> rfl
  go_enter Tryz.func53, Tryz.ntmps53
  go_wp2_with (go_at_call 92; refine (implOnes64 c _ h1 h2).mono ?_; rintro e w1 ⟨rfl, r, rfl, hr⟩)
  go_ret
  exact ⟨rfl, r, rfl, hr⟩

end Go.Proofs.YtkajpkfhedfmaaaGreatDoor

set_option linter.unusedVariables false
namespace Go.Proofs.YtkajpkfhedfmaaaGreatDoor
open Go.RowKit Go.Deep

def stepOk (ps : List PeakV) (i : Nat) : Bool := peakOkB (ps.getD i default) && (twoB (ps.getD i default).count && (decide (i = 0) || decide ((ps.getD i default).count < (ps.getD (i - 1) default).count)))
def cntTo (ps : List PeakV) : Nat → Int
  | 0 => 0
  | k + 1 => cntTo ps k + (ps.getD k default).count
def rangeOkB (ps : List PeakV) : Bool := (List.range ps.length).all (stepOk ps) && decide (cntTo ps ps.length ≤ 20)
theorem rangeOk_no {ps : List PeakV} (i : Nat) (hi : i < ps.length) (h : stepOk ps i = false) : rangeOkB ps = false := by
  have : (List.range ps.length).all (stepOk ps) = false := by
    rw [List.all_eq_false]
    exact ⟨i, List.mem_range.2 hi, by rw [h]; decide⟩
  rw [rangeOkB, this, Bool.false_and]
theorem rangeOk_end {ps : List PeakV} (h : ∀ i, i < ps.length → stepOk ps i = true) : rangeOkB ps = decide (cntTo ps ps.length ≤ 20) := by
  have : (List.range ps.length).all (stepOk ps) = true := by
    rw [List.all_eq_true]
    exact fun i hi => h i (List.mem_range.1 hi)
  rw [rangeOkB, this, Bool.true_and]

set_option maxHeartbeats 1000000 in
set_option maxRecDepth 100000 in
theorem implRangeOk (g n cap : Nat) (ps : List PeakV) (w : World) (h : AtP w g ps) (hn : n = ps.length) (hm : n ≤ 1073741824) :
    Calls Tryz.prog 23 #[.slice (some ⟨g, 0, none⟩) n cap] w fun e w' => e = .returned (.bool (rangeOkB ps)) ∧ Below w.heap.size w w' := by
  have HA : Hid (AtP w g ps) := h
  have HN : Hid (n = ps.length) := hn
  clear h hn
  go_enter Tryz.func23, Tryz.ntmps23
  go_wp2_with fail
  go_loopw [3, 8] (fun m i wr => ∃ (k : Nat) (x : Int), k ≤ n ∧ i = .int .i64 (k : Int) ∧ m = .int .i64 x ∧ 0 ≤ x ∧ x ≤ 20 * (k : Int) ∧ Hid (x = cntTo ps k) ∧ Hid (∀ q, q < k → stepOk ps q = true) ∧ Hid (Below w.heap.size w wr)) (fun _ i _ => n - (intOf i).toNat)
  case atStart => exact ⟨0, 0, by omega, rfl, rfl, by omega, by omega, rfl, fun q hq => by omega, Below.refl _ _⟩
  case round =>
    obtain ⟨k, x, hk, rfl, rfl, hx0, hx1, HX, HS, HB⟩ := hrel
    by_cases hlt : k < n
    · have hkl : k < ps.length := by rw [← HN.out]; exact hlt
      have HAr : Hid (AtP wr g ps) := HA.out.below HB.out HA.out.1
      have c0 := AtP.c0 HAr.out k hkl
      have c1 := AtP.c1 HAr.out k hkl
      have c2 := AtP.c2 HAr.out k hkl
      have lk : (k : Int) < (n : Int) := by omega
      have lk0 : (0 : Int) ≤ (k : Int) := by omega
      have HK : Hid (k + 1 ≤ n) := hlt
      have HKL : Hid (k < ps.length) := hkl
      have HC : Hid (cntTo ps (k + 1) = x + (ps.getD k default).count) := by show _ = _; rw [cntTo, ← HX.out]
      have HST : Hid (stepOk ps k = (peakOkB (ps.getD k default) && (twoB (ps.getD k default).count && (decide (k = 0) || decide ((ps.getD k default).count < (ps.getD (k - 1) default).count))))) := rfl
      have HNX : Hid (stepOk ps k = true → ∀ q, q < k + 1 → stepOk ps q = true) := by
        intro h q hq
        rcases Nat.lt_or_ge q k with h' | h'
        · exact HS.out q h'
        · obtain rfl : q = k := by omega
          exact h
      have hpk := fun w' => implPeakOk (ps.getD k default) w'
      have HPI : Hid (peakOkB (ps.getD k default) = true → 1 ≤ (ps.getD k default).count ∧ (ps.getD k default).count ≤ 20) := fun h => ⟨(peakOk_in h).1, (peakOk_in h).2.1⟩
      generalize ps.getD k default = p at c0 c1 c2 HC HST hpk HPI
      have hblk : ∀ (w1 : World), Below (wr.alloc (.cells #[.string p.sum, .int .i64 p.work, .int .i64 p.count] 67)).heap.size (wr.alloc (.cells #[.string p.sum, .int .i64 p.work, .int .i64 p.count] 67)) w1 → w1.cell? ⟨wr.heap.size, 2, none⟩ = some (.int .i64 p.count) := by
        intro w1 b1
        rw [b1.cell (p := ⟨wr.heap.size, 2, none⟩) (by simp), Lib.cell_of_heap (heap_alloc_new _ _)]
        rfl
      clear hkl
      cases hok : peakOkB p with
      | false =>
        have HNO : Hid (rangeOkB ps = false) := rangeOk_no k HKL.out (by rw [HST.out, hok, Bool.false_and])
        simp only [hok] at hpk
        go_wp2_with (go_at_call 52; refine (hpk _).mono ?_; rintro e w1 ⟨rfl, b1⟩)
        go_ret
        exact ⟨by rw [HNO.out]; rfl, HB.out.trans (((Below.refl wr.heap.size wr).alloc (Nat.le_refl _) _).trans (b1.mono (by simp)) |>.mono HB.out.size)⟩
      | true =>
        simp only [hok] at hpk
        obtain ⟨hc1, hc20⟩ := HPI.out hok
        have hw : IntKind.u64.wrap p.count = p.count := by rcases upTo20 hc1 hc20 with h | h | h | h | h | h | h | h | h | h | h | h | h | h | h | h | h | h | h | h <;> rw [h] <;> rfl
        cases htw : twoB p.count with
        | false =>
          have HNO : Hid (rangeOkB ps = false) := rangeOk_no k HKL.out (by rw [HST.out, hok, htw]; rfl)
          have hon := fun w' => implOnes p.count w' hc1 hc20
          simp only [htw] at hon
          go_wp2_with (first
            | (go_at_call 52; refine (hpk _).mono ?_; rintro e w1 ⟨rfl, b1⟩; have q2 := hblk _ b1)
            | (go_at_call 53; refine (hon _).mono ?_; rintro e w2 ⟨rfl, r, rfl, hr⟩))
          go_ret
          exact ⟨by rw [HNO.out]; rfl, HB.out.trans (((Below.refl wr.heap.size wr).alloc (Nat.le_refl _) _).trans (b1.mono (by simp)) |>.mono HB.out.size)⟩
        | true =>
          have hon := fun w' => implOnes p.count w' hc1 hc20
          simp only [htw] at hon
          have hwx : IntKind.i64.wrap (x + p.count) = x + p.count := by rw [IntKind.wrap_i64]; omega
          by_cases hk0 : k = 0
          · subst hk0
            have HST2 : Hid (∀ q, q < 0 + 1 → stepOk ps q = true) := HNX.out (by rw [HST.out, hok, htw]; rfl)
            clear HST HNX HPI
            go_wp2_with (first
              | (go_at_call 52; refine (hpk _).mono ?_; rintro e w1 ⟨rfl, b1⟩; have q2 := hblk _ b1)
              | (go_at_call 53; refine (hon _).mono ?_; rintro e w2 ⟨rfl, r, rfl, hr⟩))
            have HB1 : Hid (Below w.heap.size w w2) := HB.out.trans (((Below.refl wr.heap.size wr).alloc (Nat.le_refl _) _).trans (b1.mono (by simp)) |>.mono HB.out.size)
            have hq0 : decide ((0 : Int) < 0) = false := rfl
            have q3 : w2.drew.cell? ⟨wr.heap.size, 2, none⟩ = some (.int .i64 p.count) := q2
            clear b1 hblk
            go_big_region
            go_wp2_with fail
            go_roundw
            case rel => exact ⟨1, x + p.count, HK.out, by go_num, rfl, by omega, by omega, HC.out.symm, HST2, HB1.out.drew⟩
            case measure => have := HK.out; simp [intOf]; omega
          · obtain ⟨j, rfl⟩ : ∃ j, k = j + 1 := ⟨k - 1, by omega⟩
            have hjl : j < ps.length := by have := HKL.out; omega
            have d2 := AtP.c2 HAr.out j hjl
            have HST3 : Hid (stepOk ps (j + 1) = decide (p.count < (ps.getD j default).count)) := by
              show _ = _
              rw [HST.out, hok, htw]
              simp
            obtain ⟨k2, hk2⟩ : ∃ k2, k2 = j + 1 := ⟨_, rfl⟩
            rw [← hk2] at c0 c1 c2 HC HK HKL HST3 HNX lk lk0 hx1 HS HX ⊢
            generalize ps.getD j default = pr at d2 HST3
            have hlk : ∀ (w1 : World), Below (wr.alloc (.cells #[.string p.sum, .int .i64 p.work, .int .i64 p.count] 67)).heap.size (wr.alloc (.cells #[.string p.sum, .int .i64 p.work, .int .i64 p.count] 67)) w1 → w1.cell? ⟨g, j * 3 + 2, none⟩ = some (.int .i64 pr.count) := by
              intro w1 b1
              have hg := HAr.out.1
              rw [b1.cell (p := ⟨g, j * 3 + 2, none⟩) (by simp; omega), ((Below.refl wr.heap.size wr).alloc (Nat.le_refl _) _).cell (p := ⟨g, j * 3 + 2, none⟩) hg]
              exact d2
            have HJ : Hid (k2 = j + 1) := hk2
            clear HST HPI hjl hk0 hlt hk2 hk
            by_cases hdec : p.count < pr.count
            · have HST2 : Hid (∀ q, q < k2 + 1 → stepOk ps q = true) := HNX.out (by rw [HST3.out]; exact decide_eq_true hdec)
              clear HNX HST3
              go_wp2_with (first
                | (go_at_call 52; refine (hpk _).mono ?_; rintro e w1 ⟨rfl, b1⟩; have q2 := hblk _ b1; have q4 := hlk _ b1)
                | (go_at_call 53; refine (hon _).mono ?_; rintro e w2 ⟨rfl, r, rfl, hr⟩))
              have HB1 : Hid (Below w.heap.size w w2) := HB.out.trans (((Below.refl wr.heap.size wr).alloc (Nat.le_refl _) _).trans (b1.mono (by simp)) |>.mono HB.out.size)
              have q3 : w2.drew.cell? ⟨wr.heap.size, 2, none⟩ = some (.int .i64 p.count) := q2
              have q5 : w2.drew.cell? ⟨g, j * 3 + 2, none⟩ = some (.int .i64 pr.count) := q4
              clear b1 hblk hlk
              have hq0 : decide ((0 : Int) < (k2 : Int)) = true := decide_eq_true (by have := HJ.out; omega)
              have hq1 : decide (pr.count ≤ p.count) = false := decide_eq_false (by omega)
              have hw2 : IntKind.i64.wrap ((k2 : Int) - 1) = (j : Int) := by rw [IntKind.wrap_i64]; have := HJ.out; omega
              have hq4 : 0 < k2 := by have := HJ.out; omega
              have hq6 : (j : Int) < (n : Int) := by have := HJ.out; omega
              have hq8 : (0 : Int) ≤ (j : Int) := by omega
              go_big_region
              go_wp2_with fail
              go_roundw
              case rel => exact ⟨k2 + 1, x + p.count, HK.out, by go_num, rfl, by omega, by omega, HC.out.symm, HST2, HB1.out.drew⟩
              case measure => have := HK.out; simp [intOf]; omega
            · have HNO : Hid (rangeOkB ps = false) := rangeOk_no k2 HKL.out (by rw [HST3.out]; exact decide_eq_false hdec)
              clear HNX HST3
              go_wp2_with (first
                | (go_at_call 52; refine (hpk _).mono ?_; rintro e w1 ⟨rfl, b1⟩; have q2 := hblk _ b1; have q4 := hlk _ b1)
                | (go_at_call 53; refine (hon _).mono ?_; rintro e w2 ⟨rfl, r, rfl, hr⟩))
              have HB1 : Hid (Below w.heap.size w w2) := HB.out.trans (((Below.refl wr.heap.size wr).alloc (Nat.le_refl _) _).trans (b1.mono (by simp)) |>.mono HB.out.size)
              have q3 : w2.drew.cell? ⟨wr.heap.size, 2, none⟩ = some (.int .i64 p.count) := q2
              have q5 : w2.drew.cell? ⟨g, j * 3 + 2, none⟩ = some (.int .i64 pr.count) := q4
              clear b1 hblk hlk
              have hq0 : decide ((0 : Int) < (k2 : Int)) = true := decide_eq_true (by have := HJ.out; omega)
              have hq1 : decide (pr.count ≤ p.count) = true := decide_eq_true (by omega)
              have hw2 : IntKind.i64.wrap ((k2 : Int) - 1) = (j : Int) := by rw [IntKind.wrap_i64]; have := HJ.out; omega
              have hq4 : 0 < k2 := by have := HJ.out; omega
              have hq6 : (j : Int) < (n : Int) := by have := HJ.out; omega
              have hq8 : (0 : Int) ≤ (j : Int) := by omega
              go_big_region
              go_wp2_with fail
              go_ret
              exact ⟨by rw [HNO.out]; rfl, HB1.out.drew⟩
    · obtain rfl : k = n := by omega
      have HE : Hid (rangeOkB ps = decide (x ≤ 20)) := by
        show _ = _
        rw [rangeOk_end (fun i hi => HS.out i (by rw [HN.out]; exact hi)), HX.out, HN.out]
      go_wp2_with fail
      go_ret
      exact ⟨by rw [HE.out]; rfl, HB.out⟩

end Go.Proofs.YtkajpkfhedfmaaaGreatDoor

set_option linter.unusedVariables false
namespace Go.Proofs.YtkajpkfhedfmaaaGreatDoor
open Go.RowKit Go.Deep

end Go.Proofs.YtkajpkfhedfmaaaGreatDoor

set_option linter.unusedVariables false
namespace Go.Proofs.YtkajpkfhedfmaaaGreatDoor
open Go.ChangeShapes Go.WideShapes Go.ChangeAt Go.RowKit Go.Deep

theorem partsPeak {cs : List Value} {a0 a1 a2 : Value} (hl : cs.length = 3) (h0 : (cs.drop 0).take 1 = [a0]) (h1 : (cs.drop 1).take 1 = [a1]) (h2 : (cs.drop 2).take 1 = [a2]) : cs = [a0, a1, a2] := by
  match cs, hl with
  | [x0, x1, x2], _ =>
    simp at h0 h1 h2
    subst h0 h1 h2
    rfl
theorem oneP_i : Tryz.prog.cellsOf 3 = 1 := by kernel_rfl
theorem oneP_s : Tryz.prog.cellsOf 9 = 1 := by kernel_rfl
end Go.Proofs.YtkajpkfhedfmaaaGreatDoor

set_option linter.unusedVariables false
namespace Go.Proofs.YtkajpkfhedfmaaaGreatDoor
open Go.RowKit Go.Deep

def wrkTo (ps : List PeakV) : Nat → Int
  | 0 => 0
  | k + 1 => wrkTo ps k + (ps.getD k default).work
def rangeMany (ps : List PeakV) : Int × Int := if rangeOkB ps = true then (cntTo ps ps.length, wrkTo ps ps.length) else (-1, -1)
theorem many_no {ps : List PeakV} (h : rangeOkB ps = false) : rangeMany ps = (-1, -1) := by rw [rangeMany, h]; rfl
theorem many_yes {ps : List PeakV} (h : rangeOkB ps = true) : rangeMany ps = (cntTo ps ps.length, wrkTo ps ps.length) := by rw [rangeMany, if_pos h]
theorem rangeOk_at {ps : List PeakV} (h : rangeOkB ps = true) (i : Nat) (hi : i < ps.length) : 1 ≤ (ps.getD i default).count ∧ (ps.getD i default).count ≤ 20 ∧ (ps.getD i default).count ≤ (ps.getD i default).work ∧ (ps.getD i default).work ≤ (ps.getD i default).count * 8 := by
  rw [rangeOkB, Bool.and_eq_true, List.all_eq_true] at h
  have := h.1 i (List.mem_range.2 hi)
  rw [stepOk, Bool.and_eq_true] at this
  exact peakOk_in this.1

end Go.Proofs.YtkajpkfhedfmaaaGreatDoor

set_option linter.unusedVariables false
namespace Go.Proofs.YtkajpkfhedfmaaaGreatDoor
open Go.RowKit Go.Deep

def peakB (p : PeakV) : ByteArray := p.sum ++ ⟨#[32]⟩ ++ ⟨(Lib.decDigits p.work.toNat).toArray⟩ ++ ⟨#[32]⟩ ++ ⟨(Lib.decDigits p.count.toNat).toArray⟩
def rrT (ps : List PeakV) : Nat → List UInt8
  | 0 => [114, 97, 110, 103, 101]
  | k + 1 => rrT ps k ++ ([32] ++ (peakB (ps.getD k default)).data.toList)
def rangeRoot (ps : List PeakV) : List UInt8 := if rangeOkB ps = true then sumB (rrT ps ps.length) else []
theorem rr_no {ps : List PeakV} (h : rangeOkB ps = false) : rangeRoot ps = [] := by rw [rangeRoot, h]; rfl
theorem rr_yes {ps : List PeakV} (h : rangeOkB ps = true) : rangeRoot ps = sumB (rrT ps ps.length) := by rw [rangeRoot, if_pos h]
theorem rangeOk_peak {ps : List PeakV} (h : rangeOkB ps = true) (i : Nat) (hi : i < ps.length) : peakOkB (ps.getD i default) = true := by
  rw [rangeOkB, Bool.and_eq_true, List.all_eq_true] at h
  have := h.1 i (List.mem_range.2 hi)
  rw [stepOk, Bool.and_eq_true] at this
  exact this.1
theorem cnt_ge {ps : List PeakV} (h : rangeOkB ps = true) : ∀ k, k ≤ ps.length → (k : Int) ≤ cntTo ps k
  | 0, _ => by simp [cntTo]
  | k + 1, hk => by
    have ih := cnt_ge h k (by omega)
    have := (rangeOk_at h k (by omega)).1
    rw [cntTo]
    omega
theorem range_len {ps : List PeakV} (h : rangeOkB ps = true) : ps.length ≤ 20 := by
  have h1 := cnt_ge h ps.length (Nat.le_refl _)
  rw [rangeOkB, Bool.and_eq_true, decide_eq_true_eq] at h
  omega
theorem peakOk_sum {p : PeakV} (h : peakOkB p = true) : isSum p.sum.data.toList = true := by
  simp only [peakOkB, Bool.and_eq_true] at h
  exact h.1
theorem peakB_size {p : PeakV} (h : peakOkB p = true) : (peakB p).size ≤ 100 := by
  have h1 := sum_size (peakOk_sum h)
  have h2 := peakOk_in h
  have hw : (Lib.decDigits p.work.toNat).length ≤ 19 := decLen (by omega)
  have hc : (Lib.decDigits p.count.toNat).length ≤ 19 := decLen (by omega)
  have e1 : (⟨(Lib.decDigits p.work.toNat).toArray⟩ : ByteArray).size = (Lib.decDigits p.work.toNat).length := by show (Lib.decDigits p.work.toNat).toArray.size = _; simp
  have e2 : (⟨(Lib.decDigits p.count.toNat).toArray⟩ : ByteArray).size = (Lib.decDigits p.count.toNat).length := by show (Lib.decDigits p.count.toNat).toArray.size = _; simp
  have e32 : (⟨#[32]⟩ : ByteArray).size = 1 := rfl
  unfold peakB
  rw [ByteArray.size_append, ByteArray.size_append, ByteArray.size_append, ByteArray.size_append, h1, e1, e2, e32]
  omega
theorem rrT_len {ps : List PeakV} (h : rangeOkB ps = true) : ∀ k, k ≤ ps.length → (rrT ps k).length ≤ 5 + 101 * k
  | 0, _ => by simp [rrT]
  | k + 1, hk => by
    have ih := rrT_len h k (by omega)
    have h1 := peakB_size (rangeOk_peak h k (by omega))
    have e : (peakB (ps.getD k default)).data.toList.length = (peakB (ps.getD k default)).size := by simp
    rw [rrT, List.length_append, List.length_append, e, show ([32] : List UInt8).length = 1 from rfl]
    omega
/-- A peak's block. -/
def PSt (w w' : World) (g : Nat) (s : ByteArray) (a b : Int) : Prop := (w'.cell? ⟨g, 0, none⟩ = some (.string s) ∧ w'.cell? ⟨g, 1, none⟩ = some (.int .i64 a) ∧ w'.cell? ⟨g, 2, none⟩ = some (.int .i64 b)) ∧ Below w.heap.size w w' ∧ g < w'.heap.size
theorem PSt.out {w w' : World} {g : Nat} {s : ByteArray} {a b : Int} (h : PSt w w' g s a b) : w'.cell? ⟨g, 0, none⟩ = some (.string s) ∧ w'.cell? ⟨g, 1, none⟩ = some (.int .i64 a) ∧ w'.cell? ⟨g, 2, none⟩ = some (.int .i64 b) := h.1
theorem PSt.drew {w w' : World} {g : Nat} {s : ByteArray} {a b : Int} (h : PSt w w' g s a b) : PSt w w'.drew g s a b := ⟨h.1, h.2.1.drew, h.2.2⟩
theorem PSt.call {w w' w'' : World} {g : Nat} {s : ByteArray} {a b : Int} (h : PSt w w' g s a b) (hb : Below w'.heap.size w' w'') : PSt w w'' g s a b :=
  ⟨⟨(hb.cell (p := ⟨g, 0, none⟩) h.2.2).trans h.1.1, (hb.cell (p := ⟨g, 1, none⟩) h.2.2).trans h.1.2.1, (hb.cell (p := ⟨g, 2, none⟩) h.2.2).trans h.1.2.2⟩, h.2.1.trans (hb.mono h.2.1.size), Nat.lt_of_lt_of_le h.2.2 hb.size⟩
theorem PSt.new (w : World) (T : TypeId) (s : ByteArray) (a b : Int) : PSt w (w.alloc (.cells #[.string s, .int .i64 a, .int .i64 b] T)) w.heap.size s a b := by
  refine ⟨⟨?_, ?_, ?_⟩, (Below.refl _ w).alloc (Nat.le_refl _) _, by simp⟩ <;> (rw [Lib.cell_of_heap (heap_alloc_new w _)]; rfl)

set_option maxHeartbeats 1000000 in
set_option maxRecDepth 100000 in
theorem implPeakPut (p : PeakV) (w : World) (hok : peakOkB p = true) (hP : TabP w) :
    Calls Tryz.prog 25 #[.agg #[.string p.sum, .int .i64 p.work, .int .i64 p.count], .string ⟨#[32]⟩] w fun e w' => e = .returned (.string (peakB p)) ∧ Below w.heap.size w w' := by
  have h2 := peakOk_in hok
  obtain ⟨s, wk, ct⟩ := p
  dsimp only at h2 ⊢
  obtain ⟨a, rfl⟩ : ∃ a : Nat, wk = (a : Int) := ⟨wk.toNat, by omega⟩
  obtain ⟨b, rfl⟩ : ∃ b : Nat, ct = (b : Int) := ⟨ct.toNat, by omega⟩
  have HV : Hid (peakB ⟨s, (a : Int), (b : Int)⟩ = s ++ ⟨#[32]⟩ ++ ⟨(Lib.decDigits a).toArray⟩ ++ ⟨#[32]⟩ ++ ⟨(Lib.decDigits b).toArray⟩) := rfl
  have HP : Hid (∀ w', Below w.heap.size w w' → TabP w') := fun w' hb => TabP.below hP hb (Nat.le_refl _)
  have hia := fun w' hp => implItoa a w' (by omega) hp
  have hib := fun w' hp => implItoa b w' (by omega) hp
  have hps := sum_size (peakOk_sum hok)
  dsimp only at hps
  have hal : (Lib.decDigits a).length ≤ 19 := decLen (by omega)
  have hbl : (Lib.decDigits b).length ≤ 19 := decLen (by omega)
  generalize peakB ⟨s, (a : Int), (b : Int)⟩ = R at HV ⊢
  generalize Lib.decDigits a = da at hia HV hal
  generalize Lib.decDigits b = db at hib HV hbl
  have q1 : ¬ 9223372036854775807 < 17 + da.length := by omega
  have q2 : ¬ 9223372036854775807 < 17 + da.length + 1 := by omega
  have q3 : ¬ 9223372036854775807 < 17 + da.length + 1 + db.length := by omega
  have S0 : PSt w _ w.heap.size s (a : Int) (b : Int) := PSt.new w 67 s (a : Int) (b : Int)
  clear hP hok h2
  go_enter Tryz.func25, Tryz.ntmps25
  go_wp2_with fail
  go_region_held3 (fun w' => w'.cell? ⟨w.heap.size, 0, none⟩ = some (.string s) ∧ w'.cell? ⟨w.heap.size, 1, none⟩ = some (.int .i64 (a : Int)) ∧ w'.cell? ⟨w.heap.size, 2, none⟩ = some (.int .i64 (b : Int)))
    (first | (with_reducible first | exact S2.out | exact S1.out | exact S0.out | exact S0.drew.out) | go_keep)
    (first
      | (go_at_call 55; refine (hib _ (HP.out _ S1.2.1)).mono ?_; rintro e w2 ⟨rfl, b2⟩; have S2 : PSt w w2 w.heap.size s (a : Int) (b : Int) := S1.call b2)
      | (go_at_call 55; refine (hia _ (HP.out _ S0.drew.2.1)).mono ?_; rintro e w1 ⟨rfl, b1⟩; have S1 : PSt w w1 w.heap.size s (a : Int) (b : Int) := S0.drew.call b1))
  go_wp2_with fail
  go_ret
  exact ⟨by rw [HV.out]; rfl, S2.2.1⟩

set_option maxHeartbeats 1000000 in
set_option maxRecDepth 100000 in
theorem implRangeRoot (g n cap : Nat) (ps : List PeakV) (w : World) (h : AtP w g ps) (hn : n = ps.length) (hm : n ≤ 1048576) (hK : RowG w shaK) (hP : TabP w) :
    Calls Tryz.prog 9 #[.slice (some ⟨g, 0, none⟩) n cap] w fun e w' => e = .returned (.string ⟨(rangeRoot ps).toArray⟩) ∧ Below w.heap.size w w' := by
  have hok := implRangeOk g n cap ps w h hn (by omega)
  have HA : Hid (AtP w g ps) := h
  have HN : Hid (n = ps.length) := hn
  have HK : Hid (RowG w shaK) := hK
  have HP : Hid (TabP w) := hP
  clear h hn hK hP
  cases hr : rangeOkB ps with
  | false =>
    have HV : Hid (rangeRoot ps = []) := rr_no hr
    rw [hr] at hok
    go_enter Tryz.func9, Tryz.ntmps9
    go_wp2_with fail
    refine hok.mono ?_
    rintro e w1 ⟨rfl, b1⟩
    go_wp2_with fail
    go_ret
    exact ⟨by rw [HV.out]; rfl, b1⟩
  | true =>
    have HV : Hid (rangeRoot ps = sumB (rrT ps n)) := by show _ = _; rw [rr_yes hr, HN.out]
    have HPK : Hid (∀ i, i < ps.length → peakOkB (ps.getD i default) = true) := fun i hi => rangeOk_peak hr i hi
    have HRL : Hid (∀ k, k ≤ n → (rrT ps k).length ≤ 5 + 101 * k) := fun k hk => rrT_len hr k (by rw [← HN.out]; exact hk)
    have hn20 : n ≤ 20 := by rw [HN.out]; exact range_len hr
    rw [hr] at hok
    clear hr
    go_enter Tryz.func9, Tryz.ntmps9
    go_wp2_with fail
    refine hok.mono ?_
    rintro e w1 ⟨rfl, b1⟩
    have B1 : Hid (Below w.heap.size w w1) := b1
    clear b1 hok
    have hwl0 : ([] : List Value).length + (⟨#[114, 97, 110, 103, 101]⟩ : ByteArray).size ≤ 140737488355328 := by
      have e5 : (⟨#[114, 97, 110, 103, 101]⟩ : ByteArray).size = 5 := rfl
      rw [e5]
      decide
    have hD0 := Lib.IsBuilderF.of (Lib.fresh_isBuilder 61 5 w1)
    have B2 : Hid (Below w1.heap.size w1 (w1.alloc (.cells #[.pointer none, .slice none 0 0] 61))) := (Below.refl _ w1).alloc (Nat.le_refl _) _
    have hsz2 := B2.out.size
    go_wp2_with fail
    refine (writeString w1.heap.size w1.heap.size [] ⟨#[114, 97, 110, 103, 101]⟩ _ hD0 hwl0 hsz2).mono ?_
    rintro e w3 ⟨rfl, hbd3, b3, _⟩
    have D3 : Hid (Lib.IsBuilderF 61 5 w1.heap.size w1.heap.size (Lib.byteCells (rrT ps 0)) w3) := .inr hbd3
    have B3 : Hid (Below w1.heap.size w1 w3) := B2.out.trans b3
    clear hbd3 b3 hD0 B2 hsz2
    go_wp2_with fail
    go_loopw [12] (fun i wr => ∃ k : Nat, k ≤ n ∧ i = .int .i64 (k : Int) ∧ Hid (Lib.IsBuilderF 61 5 w1.heap.size w1.heap.size (Lib.byteCells (rrT ps k)) wr) ∧ Hid (Below w1.heap.size w1 wr)) (fun i _ => n - (intOf i).toNat)
    case atStart => exact ⟨0, by omega, rfl, D3, B3⟩
    case round =>
      clear D3 B3
      obtain ⟨k, hk, rfl, D, HB⟩ := hrel
      have HBW : Hid (Below w.heap.size w wr) := B1.out.trans (HB.out.mono B1.out.size)
      by_cases hlt : k < n
      · have hkl : k < ps.length := by rw [← HN.out]; exact hlt
        have HAr : Hid (AtP wr g ps) := HA.out.below HBW.out HA.out.1
        have c0 := AtP.c0 HAr.out k hkl
        have c1 := AtP.c1 HAr.out k hkl
        have c2 := AtP.c2 HAr.out k hkl
        have lk : (k : Int) < (n : Int) := by omega
        have lk0 : (0 : Int) ≤ (k : Int) := by omega
        have HK1 : Hid (k + 1 ≤ n) := hlt
        have HT : Hid (rrT ps (k + 1) = rrT ps k ++ ([32] ++ (peakB (ps.getD k default)).data.toList)) := rfl
        have hpp := fun w' (hp : TabP w') => implPeakPut (ps.getD k default) w' (HPK.out k hkl) hp
        have hpz := peakB_size (HPK.out k hkl)
        have hrl := HRL.out k hk
        generalize peakB (ps.getD k default) = pb at hpp hpz HT
        generalize ps.getD k default = p at c0 c1 c2 hpp
        generalize rrT ps k = rt at D HT hrl
        have S0 : PSt wr _ wr.heap.size p.sum p.work p.count := PSt.new wr 67 p.sum p.work p.count
        have B4 : Hid (Below w.heap.size w (wr.alloc (.cells #[.string p.sum, .int .i64 p.work, .int .i64 p.count] 67))) := HBW.out.alloc HBW.out.size _
        have q1 : ¬ 9223372036854775807 < 1 + pb.size := by omega
        have hwl : (Lib.byteCells rt).length + ((⟨#[32]⟩ : ByteArray) ++ pb).size ≤ 140737488355328 := by
          have e32 : (⟨#[32]⟩ : ByteArray).size = 1 := rfl
          rw [Lib.byteCells_length, ByteArray.size_append, e32]
          omega
        clear hkl
        go_wp2_with fail
        refine (hpp _ (TabP.below HP.out B4.out (Nat.le_refl _))).mono ?_
        rintro e w5 ⟨rfl, b5⟩
        have S5 := S0.call b5
        have D5 : Hid (Lib.IsBuilderF 61 5 w1.heap.size w1.heap.size (Lib.byteCells rt) w5) := D.out.below S5.2.1
        have B5 : Hid (Below w1.heap.size w1 w5) := HB.out.trans (S5.2.1.mono HB.out.size)
        have hsz5 := B5.out.size
        clear D S0 b5 hpp c0 c1 c2
        go_wp2_with fail
        refine (writeString w1.heap.size w1.heap.size (Lib.byteCells rt) ((⟨#[32]⟩ : ByteArray) ++ pb) w5 D5.out hwl hsz5).mono ?_
        rintro e w6 ⟨rfl, hbd6, b6, _⟩
        have D6 : Hid (Lib.IsBuilderF 61 5 w1.heap.size w1.heap.size (Lib.byteCells (rrT ps (k + 1))) w6) := by
          refine .inr ?_
          have e1 : Lib.strCells ((⟨#[32]⟩ : ByteArray) ++ pb) = Lib.byteCells ([32] ++ pb.data.toList) := by simp [Lib.strCells, Lib.byteCells]
          rw [HT.out, Lib.byteCells_append, ← e1]
          exact hbd6
        have B6 : Hid (Below w1.heap.size w1 w6) := B5.out.trans b6
        clear hbd6 b6 D5 B5 S5
        go_wp2_with fail
        go_roundw
        case rel => exact ⟨k + 1, HK1.out, by go_num, D6, B6⟩
        case measure => have := HK1.out; simp [intOf]; omega
      · obtain rfl : k = n := by omega
        have hszx := HB.out.size
        have hrl := HRL.out k hk
        have hsm := fun w' hk' => implSum ⟨(rrT ps k).toArray⟩ w' (by show (rrT ps k).toArray.size ≤ _; simp; omega) hk'
        have e1 : (⟨(rrT ps k).toArray⟩ : ByteArray).data.toList = rrT ps k := rfl
        rw [e1] at hsm
        clear e1
        go_wp2_with fail
        refine (Tryz.Builder_String_any_f w1.heap.size w1.heap.size (rrT ps k) wr D.out hszx).mono ?_
        rintro e w5 ⟨rfl, _, b5⟩
        have B5 : Hid (Below w.heap.size w w5) := B1.out.trans ((HB.out.trans b5).mono B1.out.size)
        go_wp2_with fail
        refine (hsm _ (HK.out.below B5.out HK.out.lt)).mono ?_
        rintro e w6 ⟨rfl, b6⟩
        go_wp2_with fail
        go_ret
        exact ⟨by rw [HV.out]; rfl, B5.out.trans (b6.mono B5.out.size)⟩

end Go.Proofs.YtkajpkfhedfmaaaGreatDoor

set_option linter.unusedVariables false
namespace Go.Proofs.YtkajpkfhedfmaaaGreatDoor
open Go.RowKit Go.Deep

def leafX (h : HeadV) : List UInt8 := [108, 101, 97, 102, 32] ++ headT h
def leafP (h : HeadV) : PeakV := ⟨⟨(sumB (leafX h)).toArray⟩, h.diff, 1⟩
def bothX (a b : PeakV) : ByteArray := ((⟨#[112, 101, 97, 107, 32]⟩ : ByteArray) ++ peakB a) ++ (⟨#[32]⟩ : ByteArray) ++ peakB b
def bothP (a b : PeakV) : PeakV := ⟨⟨(sumB (bothX a b).data.toList).toArray⟩, a.work + b.work, a.count + b.count⟩
theorem leafXs (h : HeadV) : ((⟨#[108, 101, 97, 102, 32]⟩ : ByteArray) ++ ⟨(headT h).toArray⟩).data.toList = leafX h := by simp [leafX]
theorem leafXz {h : HeadV} (hok : headOkB h = true) : ((⟨#[108, 101, 97, 102, 32]⟩ : ByteArray) ++ ⟨(headT h).toArray⟩).size ≤ 1073741824 := by
  have := headT_len hok
  have e1 : (⟨#[108, 101, 97, 102, 32]⟩ : ByteArray).size = 5 := rfl
  have e3 : (⟨(headT h).toArray⟩ : ByteArray).size = (headT h).length := by simp [ByteArray.size]
  rw [ByteArray.size_append, e1, e3]
  omega
theorem bothX_size {a b : PeakV} (ha : peakOkB a = true) (hb : peakOkB b = true) : (bothX a b).size ≤ 1073741824 := by
  have h1 := peakB_size ha
  have h2 := peakB_size hb
  have e1 : (⟨#[112, 101, 97, 107, 32]⟩ : ByteArray).size = 5 := rfl
  have e2 : (⟨#[32]⟩ : ByteArray).size = 1 := rfl
  unfold bothX
  rw [ByteArray.size_append, ByteArray.size_append, ByteArray.size_append, e1, e2]
  omega
/-- The peak and the work on the left of it, so many steps up. -/
def walkTo (p : PeakV) (at_ : Nat) (ss : List PeakV) : Nat → Option (PeakV × Int)
  | 0 => some (p, 0)
  | i + 1 => match walkTo p at_ ss i with
    | none => none
    | some (q, l) => if (peakOkB (ss.getD i default) && decide ((ss.getD i default).count = q.count)) = true then (if at_ / 2 ^ i % 2 = 1 then some (bothP (ss.getD i default) q, l + (ss.getD i default).work) else some (bothP q (ss.getD i default), l)) else none
theorem walk_none {p : PeakV} {a : Nat} {ss : List PeakV} {i : Nat} (h : walkTo p a ss i = none) : ∀ j, walkTo p a ss (i + j) = none
  | 0 => h
  | j + 1 => by rw [← Nat.add_assoc, walkTo, walk_none h j]
theorem walk_bad {p : PeakV} {a : Nat} {ss : List PeakV} {i : Nat} {q : PeakV} {l : Int} (h : walkTo p a ss i = some (q, l)) (hb : (peakOkB (ss.getD i default) && decide ((ss.getD i default).count = q.count)) = false) (hi : i < ss.length) : walkTo p a ss ss.length = none := by
  have h1 : walkTo p a ss (i + 1) = none := by rw [walkTo, h]; simp only [hb]; rfl
  have := walk_none h1 (ss.length - (i + 1))
  rwa [show i + 1 + (ss.length - (i + 1)) = ss.length from by omega] at this
theorem walk_notok {p : PeakV} {a : Nat} {ss : List PeakV} {i : Nat} (hi : i < ss.length) (hb : peakOkB (ss.getD i default) = false) : walkTo p a ss ss.length = none := by
  cases h : walkTo p a ss i with
  | none =>
    have := walk_none h (ss.length - i)
    rwa [show i + (ss.length - i) = ss.length from by omega] at this
  | some y =>
    obtain ⟨q, l⟩ := y
    exact walk_bad h (by rw [hb]; rfl) hi
theorem walk_left {p : PeakV} {a : Nat} {ss : List PeakV} {i : Nat} {q : PeakV} {l : Int} (h : walkTo p a ss i = some (q, l)) (hb : (peakOkB (ss.getD i default) && decide ((ss.getD i default).count = q.count)) = true) (hm : a / 2 ^ i % 2 = 1) : walkTo p a ss (i + 1) = some (bothP (ss.getD i default) q, l + (ss.getD i default).work) := by
  rw [walkTo, h]; simp only [hb, if_pos hm]; rfl
theorem walk_right {p : PeakV} {a : Nat} {ss : List PeakV} {i : Nat} {q : PeakV} {l : Int} (h : walkTo p a ss i = some (q, l)) (hb : (peakOkB (ss.getD i default) && decide ((ss.getD i default).count = q.count)) = true) (hm : ¬ a / 2 ^ i % 2 = 1) : walkTo p a ss (i + 1) = some (bothP q (ss.getD i default), l) := by
  rw [walkTo, h]; simp only [hb, if_neg hm]; rfl
/-- A peak that stands so many steps up. -/
structure Fine (q : PeakV) (l : Int) (i : Nat) : Prop where
  cnt : q.count = ((2 ^ i : Nat) : Int)
  hi : i ≤ 5
  sum : isSum q.sum.data.toList = true
  wk : q.count ≤ q.work ∧ q.work ≤ q.count * 8
  l0 : 0 ≤ l
  l1 : l ≤ q.work
theorem fine_leaf {h : HeadV} (hok : headOkB h = true) : Fine (leafP h) 0 0 := by
  have h1 := headOk_in hok
  refine ⟨rfl, by omega, by show isSum (sumB (leafX h)).toArray.toList = true; rw [List.toList_toArray]; exact isSum_sumB _, ?_, by omega, ?_⟩
  · show (1 : Int) ≤ h.diff ∧ h.diff ≤ 1 * 8
    omega
  · show (0 : Int) ≤ h.diff
    omega
theorem fine_ok {q : PeakV} {l : Int} {i : Nat} (h : Fine q l i) (h5 : q.count ≤ 20) : peakOkB q = true := by
  have := h.wk
  have hp : (0 : Int) < ((2 ^ i : Nat) : Int) := by exact_mod_cast Nat.two_pow_pos i
  have hc := h.cnt
  simp only [peakOkB, h.sum, Bool.true_and, Bool.and_eq_true, decide_eq_true_eq]
  omega
theorem fine_lt {q s : PeakV} {l : Int} {i : Nat} (h : Fine q l i) (hb : (peakOkB s && decide (s.count = q.count)) = true) : peakOkB s = true ∧ s.count = q.count ∧ peakOkB q = true ∧ i ≤ 4 := by
  rw [Bool.and_eq_true, decide_eq_true_eq] at hb
  have h1 := peakOk_in hb.1
  refine ⟨hb.1, hb.2, fine_ok h (by omega), ?_⟩
  rcases Nat.lt_or_ge 4 i with h' | h'
  · obtain rfl : i = 5 := by have := h.hi; omega
    have := h.cnt
    have e : ((2 ^ 5 : Nat) : Int) = 32 := rfl
    omega
  · exact h'
theorem isSum_both (a b : PeakV) : isSum (bothP a b).sum.data.toList = true := by
  show isSum (sumB _).toArray.toList = true
  rw [List.toList_toArray]
  exact isSum_sumB _
theorem fine_left {q s : PeakV} {l : Int} {i : Nat} (h : Fine q l i) (hb : (peakOkB s && decide (s.count = q.count)) = true) : Fine (bothP s q) (l + s.work) (i + 1) := by
  obtain ⟨h1, h2, _, h4⟩ := fine_lt h hb
  have h5 := peakOk_in h1
  have hw := h.wk
  have e : ((2 ^ (i + 1) : Nat) : Int) = 2 * ((2 ^ i : Nat) : Int) := by rw [Nat.pow_succ]; push_cast; omega
  have hc := h.cnt
  have h0 := h.l0
  have hl := h.l1
  refine ⟨?_, by omega, isSum_both _ _, ?_, by omega, ?_⟩
  · show s.count + q.count = _
    omega
  · show s.count + q.count ≤ s.work + q.work ∧ s.work + q.work ≤ (s.count + q.count) * 8
    omega
  · show l + s.work ≤ s.work + q.work
    omega
theorem fine_right {q s : PeakV} {l : Int} {i : Nat} (h : Fine q l i) (hb : (peakOkB s && decide (s.count = q.count)) = true) : Fine (bothP q s) l (i + 1) := by
  obtain ⟨h1, h2, _, h4⟩ := fine_lt h hb
  have h5 := peakOk_in h1
  have hw := h.wk
  have e : ((2 ^ (i + 1) : Nat) : Int) = 2 * ((2 ^ i : Nat) : Int) := by rw [Nat.pow_succ]; push_cast; omega
  have hc := h.cnt
  have h0 := h.l0
  have hl := h.l1
  refine ⟨?_, by omega, isSum_both _ _, ?_, by omega, ?_⟩
  · show q.count + s.count = _
    omega
  · show q.count + s.count ≤ q.work + s.work ∧ q.work + s.work ≤ (q.count + s.count) * 8
    omega
  · show l ≤ q.work + s.work
    omega
/-- The bit of a place that tells in which half it is. -/
theorem bit_half : ∀ (a : Fin 21) (i : Fin 5), (bits .and .i64 ((a.val : Nat) : Int) ((2 ^ i.val : Nat) : Int) != 0) = decide (a.val / 2 ^ i.val % 2 = 1) := by decide +kernel
def samePB (p q : PeakV) : Bool := p.sum.toList == q.sum.toList && (p.work == q.work && p.count == q.count)
/-- What a head's way to a peak tells: the work on the left of it, or nothing. -/
def climbV (top : PeakV) (h : HeadV) (a : Nat) (ss : List PeakV) : Int := match walkTo (leafP h) a ss ss.length with
  | none => -1
  | some (q, l) => if samePB q top = true then l else -1
theorem climb_none {top : PeakV} {h : HeadV} {a : Nat} {ss : List PeakV} (hw : walkTo (leafP h) a ss ss.length = none) : climbV top h a ss = -1 := by rw [climbV, hw]
theorem climb_some {top : PeakV} {h : HeadV} {a : Nat} {ss : List PeakV} {q : PeakV} {l : Int} (hw : walkTo (leafP h) a ss ss.length = some (q, l)) : climbV top h a ss = if samePB q top = true then l else -1 := by rw [climbV, hw]
/-- The peak in which a place is. -/
def placeP (ps : List PeakV) (a : Int) : Option Nat := (List.range ps.length).find? fun k => decide (a < cntTo ps (k + 1))
theorem place_at {ps : List PeakV} {a : Int} {k : Nat} (hk : k < ps.length) (h : a < cntTo ps (k + 1)) (hj : ∀ j, j < k → ¬ a < cntTo ps (j + 1)) : placeP ps a = some k := by
  rw [placeP, List.find?_range_eq_some]
  exact ⟨decide_eq_true h, List.mem_range.2 hk, fun j hjk => by rw [decide_eq_false (hj j hjk)]; rfl⟩
theorem place_no {ps : List PeakV} {a : Int} (hj : ∀ j, j < ps.length → ¬ a < cntTo ps (j + 1)) : placeP ps a = none := by
  rw [placeP, List.find?_eq_none]
  intro j hj2
  simpa using hj j (List.mem_range.1 hj2)
/-- What a proof tells of a head at a place: the work ahead of it, or nothing. -/
def checkV (root : ByteArray) (h : HeadV) (a : Int) (ps ss : List PeakV) : Int :=
  if headOkB h = true ∧ 0 ≤ a ∧ ss.length ≤ 8 ∧ rangeOkB ps = true ∧ (⟨(rangeRoot ps).toArray⟩ : ByteArray) = root then
    match placeP ps a with
    | none => -1
    | some k => if climbV (ps.getD k default) h (a - cntTo ps k).toNat ss < 0 then -1 else wrkTo ps k + climbV (ps.getD k default) h (a - cntTo ps k).toNat ss
  else -1
theorem check_no {root : ByteArray} {h : HeadV} {a : Int} {ps ss : List PeakV} (hn : ¬ (headOkB h = true ∧ 0 ≤ a ∧ ss.length ≤ 8 ∧ rangeOkB ps = true ∧ (⟨(rangeRoot ps).toArray⟩ : ByteArray) = root)) : checkV root h a ps ss = -1 := by rw [checkV, if_neg hn]
theorem check_none {root : ByteArray} {h : HeadV} {a : Int} {ps ss : List PeakV} (hp : placeP ps a = none) : checkV root h a ps ss = -1 := by
  unfold checkV
  split
  · rw [hp]
  · rfl
theorem check_some {root : ByteArray} {h : HeadV} {a : Int} {ps ss : List PeakV} {k : Nat} (hy : headOkB h = true ∧ 0 ≤ a ∧ ss.length ≤ 8 ∧ rangeOkB ps = true ∧ (⟨(rangeRoot ps).toArray⟩ : ByteArray) = root) (hp : placeP ps a = some k) : checkV root h a ps ss = if climbV (ps.getD k default) h (a - cntTo ps k).toNat ss < 0 then -1 else wrkTo ps k + climbV (ps.getD k default) h (a - cntTo ps k).toNat ss := by
  rw [checkV, if_pos hy, hp]

/-- Whether peaks can stand beside a way. -/
def stepsB (ss : List PeakV) : Bool := decide (ss.length ≤ 8) && ss.all peakOkB
theorem steps_at {ss : List PeakV} (h : stepsB ss = true) (i : Nat) (hi : i < ss.length) : peakOkB (ss.getD i default) = true := by
  rw [stepsB, Bool.and_eq_true, List.all_eq_true] at h
  rw [List.getD_eq_getElem?_getD, List.getElem?_eq_getElem hi]
  exact h.2 _ (List.getElem_mem hi)
theorem steps_len {ss : List PeakV} (h : stepsB ss = true) : ss.length ≤ 8 := by
  rw [stepsB, Bool.and_eq_true, decide_eq_true_eq] at h
  exact h.1
theorem steps_long {ss : List PeakV} (h : ¬ ss.length ≤ 8) : stepsB ss = false := by rw [stepsB, decide_eq_false h]; rfl
theorem steps_bad {ss : List PeakV} {i : Nat} (hi : i < ss.length) (h : peakOkB (ss.getD i default) = false) : stepsB ss = false := by
  cases hs : stepsB ss with
  | false => rfl
  | true => rw [steps_at hs i hi] at h; cases h
theorem steps_good {ss : List PeakV} (h8 : ss.length ≤ 8) (h : ∀ i, i < ss.length → peakOkB (ss.getD i default) = true) : stepsB ss = true := by
  rw [stepsB, decide_eq_true h8, Bool.true_and, List.all_eq_true]
  intro q hq
  obtain ⟨j, hj, rfl⟩ := List.mem_iff_getElem.1 hq
  have := h j hj
  rwa [List.getD_eq_getElem?_getD, List.getElem?_eq_getElem hj] at this
theorem check_steps {root : ByteArray} {h : HeadV} {a : Int} {ps ss : List PeakV} (hs : stepsB ss = false) : checkV root h a ps ss = -1 := by
  by_cases h8 : ss.length ≤ 8
  · have hex : ∃ i, i < ss.length ∧ peakOkB (ss.getD i default) = false := by
      refine Classical.byContradiction fun hn => ?_
      have := steps_good h8 (fun i hi => by
        cases hp : peakOkB (ss.getD i default) with
        | true => rfl
        | false => exact absurd ⟨i, hi, hp⟩ hn)
      rw [this] at hs
      cases hs
    obtain ⟨i, hi, hb⟩ := hex
    unfold checkV
    split
    · split
      · rfl
      · rw [climb_none (walk_notok hi hb)]
        rfl
    · rfl
  · exact check_no (fun hh => h8 hh.2.2.1)

end Go.Proofs.YtkajpkfhedfmaaaGreatDoor

set_option linter.unusedVariables false
namespace Go.Proofs.YtkajpkfhedfmaaaGreatDoor
open Go.RowKit Go.Deep

def peakVal (p : PeakV) : Value := .agg #[.string p.sum, .int .i64 p.work, .int .i64 p.count]
theorem CBk.cells5 {w : World} {g : Nat} {T : TypeId} {a b c d e : Value} (h : CBk w g T #[a, b, c, d, e]) : w.cell? ⟨g, 0, none⟩ = some a ∧ w.cell? ⟨g, 1, none⟩ = some b ∧ w.cell? ⟨g, 2, none⟩ = some c ∧ w.cell? ⟨g, 3, none⟩ = some d ∧ w.cell? ⟨g, 4, none⟩ = some e := ⟨h.cell 0, h.cell 1, h.cell 2, h.cell 3, h.cell 4⟩
theorem CBk.cells3 {w : World} {g : Nat} {T : TypeId} {a b c : Value} (h : CBk w g T #[a, b, c]) : w.cell? ⟨g, 0, none⟩ = some a ∧ w.cell? ⟨g, 1, none⟩ = some b ∧ w.cell? ⟨g, 2, none⟩ = some c := ⟨h.cell 0, h.cell 1, h.cell 2⟩
theorem CBk.drew2 {w : World} {g : Nat} {T : TypeId} {cs : Array Value} (h : CBk w g T cs) : CBk w.drew g T cs := h
theorem CBk.free3 {w : World} {g : Nat} {T : TypeId} {cs : Array Value} (h : CBk w g T cs) : w.frozen? ⟨g, 0, none⟩ = false ∧ w.frozen? ⟨g, 1, none⟩ = false ∧ w.frozen? ⟨g, 2, none⟩ = false := ⟨h.frozen 0, h.frozen 1, h.frozen 2⟩
/-- Behind a store of three cells. -/
theorem CBk.set3 {w : World} {g : Nat} {T : TypeId} {x y z a b c : Value} (h : CBk w g T #[x, y, z]) : CBk (((w.setCell ⟨g, 0, none⟩ a).setCell ⟨g, 1, none⟩ b).setCell ⟨g, 2, none⟩ c) g T #[a, b, c] := ((h.set 0 a).set 1 b).set 2 c

set_option maxHeartbeats 2000000 in
set_option maxRecDepth 100000 in
theorem implPeakHead (h : HeadV) (w : World) (hok : headOkB h = true) (hK : RowG w shaK) (hP : TabP w) :
    Calls Tryz.prog 31 #[headVal h] w fun e w' => e = .returned (peakVal (leafP h)) ∧ Below w.heap.size w w' := by
  have HK : Hid (RowG w shaK) := hK
  have HP : Hid (TabP w) := hP
  have e : headPut h = headT h := by rw [headPut, if_pos hok]
  have hpt := fun w' hp => implHeadPut h w' hp
  rw [e] at hpt
  clear e
  have hsz := leafXz hok
  have HX : Hid (_ = leafX h) := leafXs h
  have htl := headT_len hok
  unfold peakVal leafP
  dsimp only
  generalize headT h = ht at hpt hsz HX htl
  generalize leafX h = hx at HX ⊢
  unfold headVal
  have q1 : ¬ 9223372036854775807 < 5 + ht.length := by omega
  have A0 : Hid (CBk ((w.alloc (.cells #[.string h.prev, .string h.root, .int .i64 h.time, .int .i64 h.diff, .int .i64 h.nonce] 36)).alloc (.cells #[.string ⟨#[]⟩, .int .i64 0, .int .i64 0] 67)) w.heap.size 36 #[.string h.prev, .string h.root, .int .i64 h.time, .int .i64 h.diff, .int .i64 h.nonce]) := (CBk.new w _ _).alloc _
  have A1 : Hid (CBk ((w.alloc (.cells #[.string h.prev, .string h.root, .int .i64 h.time, .int .i64 h.diff, .int .i64 h.nonce] 36)).alloc (.cells #[.string ⟨#[]⟩, .int .i64 0, .int .i64 0] 67)) (w.heap.size + 1) 67 #[.string ⟨#[]⟩, .int .i64 0, .int .i64 0]) := by
    have := CBk.new (w.alloc (.cells #[.string h.prev, .string h.root, .int .i64 h.time, .int .i64 h.diff, .int .i64 h.nonce] 36)) 67 #[.string ⟨#[]⟩, .int .i64 0, .int .i64 0]
    rwa [show (w.alloc (.cells #[.string h.prev, .string h.root, .int .i64 h.time, .int .i64 h.diff, .int .i64 h.nonce] 36)).heap.size = w.heap.size + 1 from by simp] at this
  have L0 : Hid (Below w.heap.size w ((w.alloc (.cells #[.string h.prev, .string h.root, .int .i64 h.time, .int .i64 h.diff, .int .i64 h.nonce] 36)).alloc (.cells #[.string ⟨#[]⟩, .int .i64 0, .int .i64 0] 67))) := ((Below.refl _ w).alloc (Nat.le_refl _) _).alloc (by simp) _
  clear hok hK hP
  go_enter Tryz.func31, Tryz.ntmps31
  go_wp2_with fail
  generalize (w.alloc (.cells #[.string h.prev, .string h.root, .int .i64 h.time, .int .i64 h.diff, .int .i64 h.nonce] 36)).alloc (.cells #[.string ⟨#[]⟩, .int .i64 0, .int .i64 0] 67) = W0 at A0 A1 L0 ⊢
  obtain ⟨g0, hg0⟩ : ∃ g0, g0 = w.heap.size := ⟨_, rfl⟩
  have HG : Hid (g0 = w.heap.size) := hg0
  rw [← hg0] at A0 A1 ⊢
  clear hg0
  have hne : ¬ g0 = g0 + 1 := by omega
  have hne2 : ¬ g0 + 1 = g0 := by omega
  obtain ⟨c0, c1, c2, c3, c4⟩ := A0.out.drew2.cells5
  obtain ⟨d0, d1, d2⟩ := A1.out.drew2.cells3
  obtain ⟨f0, f1, f2⟩ := A1.out.drew2.free3
  go_region_held3 (fun w' => w'.cell? ⟨g0, 0, none⟩ = some (.string h.prev) ∧ w'.cell? ⟨g0, 1, none⟩ = some (.string h.root) ∧ w'.cell? ⟨g0, 2, none⟩ = some (.int .i64 h.time) ∧ w'.cell? ⟨g0, 3, none⟩ = some (.int .i64 h.diff) ∧ w'.cell? ⟨g0, 4, none⟩ = some (.int .i64 h.nonce))
    (first | (with_reducible first | exact A0.out.drew2.cells5 | exact B0.out.cells5 | exact C0.out.cells5) | go_keep)
    (first
      | (go_at_call 63; refine (hpt _ (TabP.below HP.out L0.out.drew (Nat.le_refl _))).mono ?_; rintro e w1 ⟨rfl, b1⟩; have B0 : Hid (CBk w1 g0 36 #[.string h.prev, .string h.root, .int .i64 h.time, .int .i64 h.diff, .int .i64 h.nonce]) := A0.out.drew2.call b1; have B1 : Hid (CBk w1 (g0 + 1) 67 #[.string ⟨#[]⟩, .int .i64 0, .int .i64 0]) := A1.out.drew2.call b1; have L1 : Hid (Below w.heap.size w w1) := L0.out.drew.trans (b1.mono L0.out.size))
      | (go_at_call 26; refine (implSum _ _ hsz (HK.out.below L1.out HK.out.lt)).mono ?_; rintro e w2 ⟨rfl, b2⟩; rw [HX.out]; have C0 : Hid (CBk w2 g0 36 #[.string h.prev, .string h.root, .int .i64 h.time, .int .i64 h.diff, .int .i64 h.nonce]) := B0.out.call b2; have C1 : Hid (CBk w2 (g0 + 1) 67 #[.string ⟨#[]⟩, .int .i64 0, .int .i64 0]) := B1.out.call b2; have L2 : Hid (Below w.heap.size w w2) := L1.out.trans (b2.mono L1.out.size); obtain ⟨e0, e1, e2⟩ := C1.out.cells3; obtain ⟨k0, k1, k2⟩ := C1.out.free3))
  have T3 : Hid (CBk (((w2.setCell ⟨g0 + 1, 0, none⟩ (.string ⟨(sumB hx).toArray⟩)).setCell ⟨g0 + 1, 1, none⟩ (.int .i64 h.diff)).setCell ⟨g0 + 1, 2, none⟩ (.int .i64 1)) (g0 + 1) 67 #[.string ⟨(sumB hx).toArray⟩, .int .i64 h.diff, .int .i64 1]) := C1.out.set3
  have LF : Hid (Below w.heap.size w (((w2.setCell ⟨g0 + 1, 0, none⟩ (.string ⟨(sumB hx).toArray⟩)).setCell ⟨g0 + 1, 1, none⟩ (.int .i64 h.diff)).setCell ⟨g0 + 1, 2, none⟩ (.int .i64 1))) := by
    have e4 := HG.out
    exact ((L2.out.setCell (p := ⟨g0 + 1, 0, none⟩) (by show w.heap.size ≤ g0 + 1; omega) _).setCell (p := ⟨g0 + 1, 1, none⟩) (by show w.heap.size ≤ g0 + 1; omega) _).setCell (p := ⟨g0 + 1, 2, none⟩) (by show w.heap.size ≤ g0 + 1; omega) _
  go_wp2_with fail
  exact bodyPost_ret (results_cell_row (p := 2) rfl _ _ (g0 + 1) 67 #[.string ⟨(sumB hx).toArray⟩, .int .i64 h.diff, .int .i64 1] (0, 0) _ rfl T3.out Tryz.underlying67 rfl (by kernel_rfl)) rfl ⟨rfl, LF.out⟩

set_option maxHeartbeats 4000000 in
set_option maxRecDepth 100000 in
theorem implPeakBoth (a b : PeakV) (w : World) (ha : peakOkB a = true) (hb : peakOkB b = true) (hK : RowG w shaK) (hP : TabP w) :
    Calls Tryz.prog 62 #[peakVal a, peakVal b] w fun e w' => e = .returned (peakVal (bothP a b)) ∧ Below w.heap.size w w' := by
  have HK : Hid (RowG w shaK) := hK
  have HP : Hid (TabP w) := hP
  have hpa := fun w' hp => implPeakPut a w' ha hp
  have hpb := fun w' hp => implPeakPut b w' hb hp
  have hsa := peakB_size ha
  have hsb := peakB_size hb
  have hia := peakOk_in ha
  have hib := peakOk_in hb
  have hsz := bothX_size ha hb
  have HXE : Hid (((⟨#[112, 101, 97, 107, 32]⟩ : ByteArray) ++ peakB a) ++ (⟨#[32]⟩ : ByteArray) ++ peakB b = bothX a b) := rfl
  have hw1 : IntKind.i64.wrap (a.work + b.work) = a.work + b.work := by rw [IntKind.wrap_i64]; omega
  have hw2 : IntKind.i64.wrap (a.count + b.count) = a.count + b.count := by rw [IntKind.wrap_i64]; omega
  unfold peakVal bothP
  dsimp only
  generalize peakB a = pa at hpa hsa HXE
  generalize peakB b = pb at hpb hsb HXE
  generalize bothX a b = X at hsz HXE ⊢
  have q1 : ¬ 9223372036854775807 < 5 + pa.size := by omega
  have q2 : ¬ 9223372036854775807 < 5 + pa.size + 1 := by omega
  have q3 : ¬ 9223372036854775807 < 5 + pa.size + 1 + pb.size := by omega
  have A0 : Hid (CBk (((w.alloc (.cells #[.string a.sum, .int .i64 a.work, .int .i64 a.count] 67)).alloc (.cells #[.string b.sum, .int .i64 b.work, .int .i64 b.count] 67)).alloc (.cells #[.string ⟨#[]⟩, .int .i64 0, .int .i64 0] 67)) w.heap.size 67 #[.string a.sum, .int .i64 a.work, .int .i64 a.count]) := ((CBk.new w _ _).alloc _).alloc _
  have A1 : Hid (CBk (((w.alloc (.cells #[.string a.sum, .int .i64 a.work, .int .i64 a.count] 67)).alloc (.cells #[.string b.sum, .int .i64 b.work, .int .i64 b.count] 67)).alloc (.cells #[.string ⟨#[]⟩, .int .i64 0, .int .i64 0] 67)) (w.heap.size + 1) 67 #[.string b.sum, .int .i64 b.work, .int .i64 b.count]) := by
    have := (CBk.new (w.alloc (.cells #[.string a.sum, .int .i64 a.work, .int .i64 a.count] 67)) 67 #[.string b.sum, .int .i64 b.work, .int .i64 b.count]).alloc (.cells #[.string ⟨#[]⟩, .int .i64 0, .int .i64 0] 67)
    rwa [show (w.alloc (.cells #[.string a.sum, .int .i64 a.work, .int .i64 a.count] 67)).heap.size = w.heap.size + 1 from by simp] at this
  have A2 : Hid (CBk (((w.alloc (.cells #[.string a.sum, .int .i64 a.work, .int .i64 a.count] 67)).alloc (.cells #[.string b.sum, .int .i64 b.work, .int .i64 b.count] 67)).alloc (.cells #[.string ⟨#[]⟩, .int .i64 0, .int .i64 0] 67)) (w.heap.size + 1 + 1) 67 #[.string ⟨#[]⟩, .int .i64 0, .int .i64 0]) := by
    have := CBk.new ((w.alloc (.cells #[.string a.sum, .int .i64 a.work, .int .i64 a.count] 67)).alloc (.cells #[.string b.sum, .int .i64 b.work, .int .i64 b.count] 67)) 67 #[.string ⟨#[]⟩, .int .i64 0, .int .i64 0]
    rwa [show ((w.alloc (.cells #[.string a.sum, .int .i64 a.work, .int .i64 a.count] 67)).alloc (.cells #[.string b.sum, .int .i64 b.work, .int .i64 b.count] 67)).heap.size = w.heap.size + 1 + 1 from by simp] at this
  have L0 : Hid (Below w.heap.size w (((w.alloc (.cells #[.string a.sum, .int .i64 a.work, .int .i64 a.count] 67)).alloc (.cells #[.string b.sum, .int .i64 b.work, .int .i64 b.count] 67)).alloc (.cells #[.string ⟨#[]⟩, .int .i64 0, .int .i64 0] 67))) := (((Below.refl _ w).alloc (Nat.le_refl _) _).alloc (by simp) _).alloc (by simp; omega) _
  clear ha hb hK hP hia hib
  go_enter Tryz.func62, Tryz.ntmps62
  go_wp2_with fail
  generalize ((w.alloc (.cells #[.string a.sum, .int .i64 a.work, .int .i64 a.count] 67)).alloc (.cells #[.string b.sum, .int .i64 b.work, .int .i64 b.count] 67)).alloc (.cells #[.string ⟨#[]⟩, .int .i64 0, .int .i64 0] 67) = W0 at A0 A1 A2 L0 ⊢
  obtain ⟨g0, hg0⟩ : ∃ g0, g0 = w.heap.size := ⟨_, rfl⟩
  have HG : Hid (g0 = w.heap.size) := hg0
  rw [← hg0] at A0 A1 A2 ⊢
  clear hg0
  have hne : ¬ g0 = g0 + 1 + 1 := by omega
  have hne2 : ¬ g0 + 1 + 1 = g0 := by omega
  have hne3 : ¬ g0 + 1 = g0 + 1 + 1 := by omega
  have hne4 : ¬ g0 + 1 + 1 = g0 + 1 := by omega
  obtain ⟨c0, c1, c2⟩ := A0.out.drew2.cells3
  obtain ⟨m0, m1, m2⟩ := A1.out.drew2.cells3
  go_region_held3 (fun w' => (w'.cell? ⟨g0, 0, none⟩ = some (.string a.sum) ∧ w'.cell? ⟨g0, 1, none⟩ = some (.int .i64 a.work) ∧ w'.cell? ⟨g0, 2, none⟩ = some (.int .i64 a.count)) ∧ (w'.cell? ⟨g0 + 1, 0, none⟩ = some (.string b.sum) ∧ w'.cell? ⟨g0 + 1, 1, none⟩ = some (.int .i64 b.work) ∧ w'.cell? ⟨g0 + 1, 2, none⟩ = some (.int .i64 b.count)))
    (first | (with_reducible first | exact ⟨A0.out.drew2.cells3, A1.out.drew2.cells3⟩ | exact ⟨B0.out.cells3, B1.out.cells3⟩ | exact ⟨C0.out.cells3, C1.out.cells3⟩ | exact ⟨D0.out.cells3, D1.out.cells3⟩) | go_keep)
    (first
      | (go_at_call 25; have q9 := B0.out.cells3; clear q9; refine (hpb _ (TabP.below HP.out L1.out (Nat.le_refl _))).mono ?_; rintro e w2 ⟨rfl, b2⟩; have C0 : Hid (CBk w2 g0 67 #[.string a.sum, .int .i64 a.work, .int .i64 a.count]) := B0.out.call b2; have C1 : Hid (CBk w2 (g0 + 1) 67 #[.string b.sum, .int .i64 b.work, .int .i64 b.count]) := B1.out.call b2; have C2 : Hid (CBk w2 (g0 + 1 + 1) 67 #[.string ⟨#[]⟩, .int .i64 0, .int .i64 0]) := B2.out.call b2; have L2 : Hid (Below w.heap.size w w2) := L1.out.trans (b2.mono L1.out.size))
      | (go_at_call 25; refine (hpa _ (TabP.below HP.out L0.out.drew (Nat.le_refl _))).mono ?_; rintro e w1 ⟨rfl, b1⟩; have B0 : Hid (CBk w1 g0 67 #[.string a.sum, .int .i64 a.work, .int .i64 a.count]) := A0.out.drew2.call b1; have B1 : Hid (CBk w1 (g0 + 1) 67 #[.string b.sum, .int .i64 b.work, .int .i64 b.count]) := A1.out.drew2.call b1; have B2 : Hid (CBk w1 (g0 + 1 + 1) 67 #[.string ⟨#[]⟩, .int .i64 0, .int .i64 0]) := A2.out.drew2.call b1; have L1 : Hid (Below w.heap.size w w1) := L0.out.drew.trans (b1.mono L0.out.size))
      | (go_at_call 26; rw [HXE.out]; refine (implSum _ _ hsz (HK.out.below L2.out HK.out.lt)).mono ?_; rintro e w3 ⟨rfl, b3⟩; have D0 : Hid (CBk w3 g0 67 #[.string a.sum, .int .i64 a.work, .int .i64 a.count]) := C0.out.call b3; have D1 : Hid (CBk w3 (g0 + 1) 67 #[.string b.sum, .int .i64 b.work, .int .i64 b.count]) := C1.out.call b3; have D2 : Hid (CBk w3 (g0 + 1 + 1) 67 #[.string ⟨#[]⟩, .int .i64 0, .int .i64 0]) := C2.out.call b3; have L3 : Hid (Below w.heap.size w w3) := L2.out.trans (b3.mono L2.out.size)))
  obtain ⟨p0, p1, p2⟩ := D0.out.cells3
  obtain ⟨r0, r1, r2⟩ := D1.out.cells3
  obtain ⟨e0, e1, e2⟩ := D2.out.cells3
  obtain ⟨k0, k1, k2⟩ := D2.out.free3
  clear c0 c1 c2 m0 m1 m2
  have T3 : Hid (CBk (((w3.setCell ⟨g0 + 1 + 1, 0, none⟩ (.string ⟨(sumB X.data.toList).toArray⟩)).setCell ⟨g0 + 1 + 1, 1, none⟩ (.int .i64 (a.work + b.work))).setCell ⟨g0 + 1 + 1, 2, none⟩ (.int .i64 (a.count + b.count))) (g0 + 1 + 1) 67 #[.string ⟨(sumB X.data.toList).toArray⟩, .int .i64 (a.work + b.work), .int .i64 (a.count + b.count)]) := D2.out.set3
  have LF : Hid (Below w.heap.size w (((w3.setCell ⟨g0 + 1 + 1, 0, none⟩ (.string ⟨(sumB X.data.toList).toArray⟩)).setCell ⟨g0 + 1 + 1, 1, none⟩ (.int .i64 (a.work + b.work))).setCell ⟨g0 + 1 + 1, 2, none⟩ (.int .i64 (a.count + b.count)))) := by
    have e4 := HG.out
    exact ((L3.out.setCell (p := ⟨g0 + 1 + 1, 0, none⟩) (by show w.heap.size ≤ g0 + 1 + 1; omega) _).setCell (p := ⟨g0 + 1 + 1, 1, none⟩) (by show w.heap.size ≤ g0 + 1 + 1; omega) _).setCell (p := ⟨g0 + 1 + 1, 2, none⟩) (by show w.heap.size ≤ g0 + 1 + 1; omega) _
  go_wp2_with fail
  exact bodyPost_ret (results_cell_row (p := 4) rfl _ _ (g0 + 1 + 1) 67 #[.string ⟨(sumB X.data.toList).toArray⟩, .int .i64 (a.work + b.work), .int .i64 (a.count + b.count)] (0, 0) _ rfl T3.out Tryz.underlying67 rfl (by kernel_rfl)) rfl ⟨rfl, LF.out⟩

end Go.Proofs.YtkajpkfhedfmaaaGreatDoor

set_option linter.unusedVariables false
namespace Go.Proofs.YtkajpkfhedfmaaaGreatDoor
open Go.RowKit

def sameHB (p q : HeadV) : Bool := p.prev.toList == q.prev.toList && (p.root.toList == q.root.toList && (p.time == q.time && (p.diff == q.diff && p.nonce == q.nonce)))
theorem fieldsHead : (Tryz.prog.fieldsOf 36).toList.map (fun f => (f.name != "_", f.type, f.offset)) = [(true, 9, 0), (true, 9, 1), (true, 3, 2), (true, 3, 3), (true, 3, 4)] := by kernel_rfl
theorem eqHeadT : Tryz.prog.underlying 36 = some (.struct (Tryz.prog.fieldsOf 36)) := by kernel_rfl
theorem eqHeadS : Tryz.prog.stoodInHeld 36 = false := by kernel_rfl
theorem eqHeadG : Tryz.prog.eqGuardType Tryz.prog.depth 36 = false := by kernel_rfl
theorem eqStep {P : Program} {d : Nat} {xs ys : Array Value} {f : Field} {fs : List Field} {w : World} {t o : Nat} {a b : Value} {r r2 : Bool} (hn : (f.name != "_") = true) (ht : f.type = t) (ho : f.offset = o) (ha : (part t xs o).run P w = .ok a w) (hb : (part t ys o).run P w = .ok b w)
    (hr : (Op.equalIn d t a b).run P w = .ok r w) (h2 : (Op.eqFields d xs ys fs).run P w = .ok r2 w) : (Op.eqFields d xs ys (f :: fs)).run P w = .ok (r && r2) w := by
  have hn' : f.name ≠ "_" := by simpa using hn
  subst ht ho
  unfold Op.eqFields
  rw [if_pos hn']
  simp only [Sem.run_bind, ha, hb, hr, Result.andThen_ok, Sem.run_ite, Sem.run_pure, h2]
  cases r <;> simp
theorem runSameHead (p q : HeadV) (w : World) : (Op.equalIn 10000 36 (.agg #[.string p.prev, .string p.root, .int .i64 p.time, .int .i64 p.diff, .int .i64 p.nonce]) (.agg #[.string q.prev, .string q.root, .int .i64 q.time, .int .i64 q.diff, .int .i64 q.nonce])).run Tryz.prog w = .ok (sameHB p q) w := by
  rw [run_equalIn_struct w 9999 _ _ _ eqHeadT eqHeadS]
  have hf := fieldsHead
  generalize (Tryz.prog.fieldsOf 36).toList = fs at hf
  rcases fs with _ | ⟨f0, _ | ⟨f1, _ | ⟨f2, _ | ⟨f3, _ | ⟨f4, _ | ⟨f5, fs⟩⟩⟩⟩⟩⟩
  all_goals try (simp at hf; done)
  simp only [List.map_cons, List.map_nil, List.cons.injEq, Prod.mk.injEq, and_true] at hf
  obtain ⟨⟨n0, t0, o0⟩, ⟨n1, t1, o1⟩, ⟨n2, t2, o2⟩, ⟨n3, t3, o3⟩, n4, t4, o4⟩ := hf
  refine eqStep n0 t0 o0 (by kernel_rfl) (by kernel_rfl) (run_equalIn_string w 9998 _ _ _ Tryz.underlying9) ?_
  refine eqStep n1 t1 o1 (by kernel_rfl) (by kernel_rfl) (run_equalIn_string w 9998 _ _ _ Tryz.underlying9) ?_
  refine eqStep n2 t2 o2 (by kernel_rfl) (by kernel_rfl) (run_equalIn_int w 9998 _ .i64 _ _ _ Tryz.underlying3) ?_
  refine eqStep n3 t3 o3 (by kernel_rfl) (by kernel_rfl) (run_equalIn_int w 9998 _ .i64 _ _ _ Tryz.underlying3) ?_
  have h4 := eqStep (d := 9999) (xs := #[.string p.prev, .string p.root, .int .i64 p.time, .int .i64 p.diff, .int .i64 p.nonce]) (ys := #[.string q.prev, .string q.root, .int .i64 q.time, .int .i64 q.diff, .int .i64 q.nonce]) (fs := []) (w := w) (P := Tryz.prog) (r2 := true) n4 t4 o4 (by kernel_rfl) (by kernel_rfl) (run_equalIn_int w 9998 _ .i64 _ p.nonce q.nonce Tryz.underlying3) (by simp [Op.eqFields])
  rw [Bool.and_true] at h4
  exact h4
theorem runHeadEq (p q : HeadV) (w : World) : (binOp .eql 36 (.agg #[.string p.prev, .string p.root, .int .i64 p.time, .int .i64 p.diff, .int .i64 p.nonce]) (.agg #[.string q.prev, .string q.root, .int .i64 q.time, .int .i64 q.diff, .int .i64 q.nonce])).run Tryz.prog w = .ok (.bool (sameHB p q)) w := by
  rw [run_eql_struct, runSameHead]
  rfl
theorem runHeadNe (p q : HeadV) (w : World) : (binOp .neq 36 (.agg #[.string p.prev, .string p.root, .int .i64 p.time, .int .i64 p.diff, .int .i64 p.nonce]) (.agg #[.string q.prev, .string q.root, .int .i64 q.time, .int .i64 q.diff, .int .i64 q.nonce])).run Tryz.prog w = .ok (.bool (!sameHB p q)) w := by
  rw [run_neq_struct, runSameHead]
  rfl
theorem sameHB_iff (p q : HeadV) : sameHB p q = true ↔ p = q := by
  have hs : ∀ a b : ByteArray, a.toList = b.toList → a = b := fun a b h => by
    rw [ByteArray.toList_eq, ByteArray.toList_eq] at h
    exact ByteArray.ext (by simpa using h)
  constructor
  · intro h
    simp only [sameHB, Bool.and_eq_true, beq_iff_eq] at h
    obtain ⟨h0, h1, h2, h3, h4⟩ := h
    cases p
    cases q
    simp_all
    exact ⟨hs _ _ h0, hs _ _ h1⟩
  · rintro rfl
    simp [sameHB]

end Go.Proofs.YtkajpkfhedfmaaaGreatDoor

set_option linter.unusedVariables false
namespace Go.Proofs.YtkajpkfhedfmaaaGreatDoor
open Go.RowKit Go.Deep

theorem fieldsPk : (Tryz.prog.fieldsOf 67).toList.map (fun f => (f.name != "_", f.type, f.offset)) = [(true, 9, 0), (true, 3, 1), (true, 3, 2)] := by kernel_rfl
theorem eqPkT : Tryz.prog.underlying 67 = some (.struct (Tryz.prog.fieldsOf 67)) := by kernel_rfl
theorem eqPkS : Tryz.prog.stoodInHeld 67 = false := by kernel_rfl
theorem eqPkG : Tryz.prog.eqGuardType Tryz.prog.depth 67 = false := by kernel_rfl
theorem runSamePk (p q : PeakV) (w : World) : (Op.equalIn 10000 67 (.agg #[.string p.sum, .int .i64 p.work, .int .i64 p.count]) (.agg #[.string q.sum, .int .i64 q.work, .int .i64 q.count])).run Tryz.prog w = .ok (samePB p q) w := by
  rw [run_equalIn_struct w 9999 _ _ _ eqPkT eqPkS]
  have hf := fieldsPk
  generalize (Tryz.prog.fieldsOf 67).toList = fs at hf
  rcases fs with _ | ⟨f0, _ | ⟨f1, _ | ⟨f2, _ | ⟨f3, fs⟩⟩⟩⟩
  all_goals try (simp at hf; done)
  simp only [List.map_cons, List.map_nil, List.cons.injEq, Prod.mk.injEq, and_true] at hf
  obtain ⟨⟨n0, t0, o0⟩, ⟨n1, t1, o1⟩, n2, t2, o2⟩ := hf
  refine eqStep n0 t0 o0 (by kernel_rfl) (by kernel_rfl) (run_equalIn_string w 9998 _ _ _ Tryz.underlying9) ?_
  refine eqStep n1 t1 o1 (by kernel_rfl) (by kernel_rfl) (run_equalIn_int w 9998 _ .i64 _ _ _ Tryz.underlying3) ?_
  have h4 := eqStep (d := 9999) (xs := #[.string p.sum, .int .i64 p.work, .int .i64 p.count]) (ys := #[.string q.sum, .int .i64 q.work, .int .i64 q.count]) (fs := []) (w := w) (P := Tryz.prog) (r2 := true) n2 t2 o2 (by kernel_rfl) (by kernel_rfl) (run_equalIn_int w 9998 _ .i64 _ p.count q.count Tryz.underlying3) (by simp [Op.eqFields])
  rw [Bool.and_true] at h4
  exact h4

set_option maxHeartbeats 1000000 in
set_option maxRecDepth 100000 in
theorem implPeakAlike (a b : PeakV) (w : World) :
    Calls Tryz.prog 61 #[peakVal a, peakVal b] w fun e w' => e = .returned (.bool (a.count == b.count)) ∧ Below w.heap.size w w' := by
  unfold peakVal
  have L0 : Hid (Below w.heap.size w ((w.alloc (.cells #[.string a.sum, .int .i64 a.work, .int .i64 a.count] 67)).alloc (.cells #[.string b.sum, .int .i64 b.work, .int .i64 b.count] 67))) := ((Below.refl _ w).alloc (Nat.le_refl _) _).alloc (by simp) _
  go_enter Tryz.func61, Tryz.ntmps61
  go_wp2
  go_ret
  exact ⟨rfl, L0.out⟩

/-- What stands while a head climbs: the peak that is looked for, the head, the peak so far. -/
structure ClimbW (w wr : World) (g0 g9 : Nat) (top q : PeakV) : Prop where
  t : CBk wr g0 67 #[.string top.sum, .int .i64 top.work, .int .i64 top.count]
  p : CBk wr g9 67 #[.string q.sum, .int .i64 q.work, .int .i64 q.count]
  ne : g0 < g9
  lo : w.heap.size ≤ g0
  b : Below w.heap.size w wr
theorem ClimbW.call {w wr w' : World} {g0 g9 : Nat} {top q : PeakV} (h : ClimbW w wr g0 g9 top q) (hb : Below wr.heap.size wr w') : ClimbW w w' g0 g9 top q :=
  ⟨h.t.call hb, h.p.call hb, h.ne, h.lo, h.b.trans (hb.mono h.b.size)⟩
theorem ClimbW.store {w wr : World} {g0 g9 : Nat} {top q : PeakV} (h : ClimbW w wr g0 g9 top q) (r : PeakV) : ClimbW w (((wr.setCell ⟨g9, 0, none⟩ (.string r.sum)).setCell ⟨g9, 1, none⟩ (.int .i64 r.work)).setCell ⟨g9, 2, none⟩ (.int .i64 r.count)) g0 g9 top r := by
  have h1 := h.ne
  have h2 := h.lo
  exact ⟨((h.t.other (by omega) _).other (by omega) _).other (by omega) _, h.p.set3, h1, h2, ((h.b.setCell (p := ⟨g9, 0, none⟩) (by show w.heap.size ≤ g9; omega) _).setCell (p := ⟨g9, 1, none⟩) (by show w.heap.size ≤ g9; omega) _).setCell (p := ⟨g9, 2, none⟩) (by show w.heap.size ≤ g9; omega) _⟩

set_option linter.unusedSimpArgs false in
set_option maxHeartbeats 8000000 in
set_option maxRecDepth 100000 in
theorem implRangeClimb (top : PeakV) (h : HeadV) (a : Nat) (g n cap : Nat) (ss : List PeakV) (w : World) (hok : headOkB h = true) (ha : a ≤ 20) (hA : AtP w g ss) (hn : n = ss.length) (hm : n ≤ 8) (hss : ∀ i, i < ss.length → peakOkB (ss.getD i default) = true) (hK : RowG w shaK) (hP : TabP w) :
    Calls Tryz.prog 130 #[peakVal top, headVal h, .int .i64 (a : Int), .slice (some ⟨g, 0, none⟩) n cap] w fun e w' => e = .returned (.int .i64 (climbV top h a ss)) ∧ Below w.heap.size w w' := by
  have HA : Hid (AtP w g ss) := hA
  have HN : Hid (n = ss.length) := hn
  have HSS : Hid (∀ i, i < ss.length → peakOkB (ss.getD i default) = true) := hss
  have HK : Hid (RowG w shaK) := hK
  have HP : Hid (TabP w) := hP
  have hph := fun w' (hb : Below w.heap.size w w') => implPeakHead h w' hok (HK.out.below hb HK.out.lt) (TabP.below HP.out hb (Nat.le_refl _))
  have HF0 : Hid (Fine (leafP h) 0 0) := fine_leaf hok
  have HBAD : Hid (walkTo (leafP h) a ss ss.length = none → climbV top h a ss = -1) := fun hw => climb_none hw
  have HGOO : Hid (∀ q l, walkTo (leafP h) a ss n = some (q, l) → climbV top h a ss = if samePB q top = true then l else -1) := fun q l hw => climb_some (by rw [← HN.out]; exact hw)
  have HW0 : Hid (walkTo (leafP h) a ss 0 = some (leafP h, 0)) := rfl
  generalize climbV top h a ss = R at HBAD HGOO ⊢
  have HS : Hid (∀ i q l, walkTo (leafP h) a ss i = some (q, l) → (peakOkB (ss.getD i default) && decide ((ss.getD i default).count = q.count)) = false → i < n → R = -1) := fun i q l h1 h2 h3 => HBAD.out (walk_bad h1 h2 (by rw [← HN.out]; exact h3))
  have HL : Hid (∀ i q l, walkTo (leafP h) a ss i = some (q, l) → (peakOkB (ss.getD i default) && decide ((ss.getD i default).count = q.count)) = true → a / 2 ^ i % 2 = 1 → walkTo (leafP h) a ss (i + 1) = some (bothP (ss.getD i default) q, l + (ss.getD i default).work)) := fun i q l h1 h2 h3 => walk_left h1 h2 h3
  have HR : Hid (∀ i q l, walkTo (leafP h) a ss i = some (q, l) → (peakOkB (ss.getD i default) && decide ((ss.getD i default).count = q.count)) = true → ¬ a / 2 ^ i % 2 = 1 → walkTo (leafP h) a ss (i + 1) = some (bothP q (ss.getD i default), l)) := fun i q l h1 h2 h3 => walk_right h1 h2 h3
  clear hok hA hn hss hK hP HBAD
  unfold headVal at hph ⊢
  unfold peakVal at hph ⊢
  generalize leafP h = lf at hph HF0 HGOO HW0 HS HL HR
  have A0 : Hid (CBk ((w.alloc (.cells #[.string top.sum, .int .i64 top.work, .int .i64 top.count] 67)).alloc (.cells #[.string h.prev, .string h.root, .int .i64 h.time, .int .i64 h.diff, .int .i64 h.nonce] 36)) w.heap.size 67 #[.string top.sum, .int .i64 top.work, .int .i64 top.count]) := (CBk.new w _ _).alloc _
  have L0 : Hid (Below w.heap.size w ((w.alloc (.cells #[.string top.sum, .int .i64 top.work, .int .i64 top.count] 67)).alloc (.cells #[.string h.prev, .string h.root, .int .i64 h.time, .int .i64 h.diff, .int .i64 h.nonce] 36))) := ((Below.refl _ w).alloc (Nat.le_refl _) _).alloc (by simp) _
  go_enter Tryz.func130, Tryz.ntmps130
  go_wp2_with fail
  refine (hph _ L0.out).mono ?_
  rintro e w1 ⟨rfl, b1⟩
  obtain ⟨g0, hg0⟩ : ∃ g0, g0 = w.heap.size := ⟨_, rfl⟩
  obtain ⟨g9, hg9⟩ : ∃ g9, g9 = w1.heap.size := ⟨_, rfl⟩
  have L1 : Hid (Below w.heap.size w w1) := L0.out.trans (b1.mono L0.out.size)
  have A1 : Hid (CBk w1 w.heap.size 67 #[.string top.sum, .int .i64 top.work, .int .i64 top.count]) := A0.out.call b1
  have CW : Hid (ClimbW w (w1.alloc (.cells #[.string lf.sum, .int .i64 lf.work, .int .i64 lf.count] 67)) g0 g9 top lf) := by
    refine ⟨by rw [hg0]; exact A1.out.alloc _, by rw [hg9]; exact CBk.new w1 _ _, ?_, by omega, L1.out.alloc L1.out.size _⟩
    have := A1.out.lt
    omega
  clear A0 L0 b1 hph L1 A1
  rw [← hg0]
  clear hg0
  go_wp2_with fail
  generalize w1.alloc (.cells #[.string lf.sum, .int .i64 lf.work, .int .i64 lf.count] 67) = W1 at CW ⊢
  rw [← hg9]
  clear hg9
  clear w1
  go_loopw [10, 17] (fun l i wr => ∃ (k : Nat) (q : PeakV) (lv : Int), k ≤ n ∧ i = .int .i64 (k : Int) ∧ l = .int .i64 lv ∧ Hid (ClimbW w wr g0 g9 top q) ∧ Hid (walkTo lf a ss k = some (q, lv)) ∧ Hid (Fine q lv k)) (fun _ i _ => n - (intOf i).toNat)
  case atStart => exact ⟨0, lf, 0, by omega, rfl, rfl, CW, HW0, HF0⟩
  case round =>
    clear CW HF0 HW0
    obtain ⟨k, q, lv, hk, rfl, rfl, CR, HWk, HFk⟩ := hrel
    by_cases hlt : k < n
    · have hkl : k < ss.length := by rw [← HN.out]; exact hlt
      have HAr : Hid (AtP wr g ss) := HA.out.below CR.out.b HA.out.1
      have q0 := AtP.c0 HAr.out k hkl
      have q1 := AtP.c1 HAr.out k hkl
      have q2 := AtP.c2 HAr.out k hkl
      have lk : (k : Int) < (n : Int) := by omega
      have lk0 : (0 : Int) ≤ (k : Int) := by omega
      have wk : IntKind.i64.wrap ((k : Int) + 1) = (k : Int) + 1 := by rw [IntKind.wrap_i64]; omega
      have HK1 : Hid (k + 1 ≤ n) := hlt
      have HX1 : Hid ((peakOkB (ss.getD k default) && decide ((ss.getD k default).count = q.count)) = false → R = -1) := fun hf => HS.out k q lv HWk.out hf hlt
      have HX2 := HL.out k q lv HWk.out
      have HX3 := HR.out k q lv HWk.out
      have HX2 : Hid _ := HX2
      have HX3 : Hid _ := HX3
      have hso := HSS.out k hkl
      clear HWk hkl HAr
      generalize ss.getD k default = s at q0 q1 q2 HX1 HX2 HX3 hso
      have CS : Hid (CBk (wr.alloc (.cells #[.string s.sum, .int .i64 s.work, .int .i64 s.count] 67)) wr.heap.size 67 #[.string s.sum, .int .i64 s.work, .int .i64 s.count]) := CBk.new wr _ _
      have CA : Hid (ClimbW w (wr.alloc (.cells #[.string s.sum, .int .i64 s.work, .int .i64 s.count] 67)) g0 g9 top q) := CR.out.call ((Below.refl _ wr).alloc (Nat.le_refl _) _)
      obtain ⟨gs, hgs⟩ : ∃ gs, gs = wr.heap.size := ⟨_, rfl⟩
      have HG9 : Hid (g9 < gs) := by show _ < _; rw [hgs]; exact CR.out.p.lt
      rw [← hgs] at CS
      obtain ⟨d0, d1, d2⟩ := CA.out.p.cells3
      go_wp2_with fail
      clear d0 d1 d2
      generalize wr.alloc (.cells #[.string s.sum, .int .i64 s.work, .int .i64 s.count] 67) = wa at CS CA ⊢
      rw [← hgs]
      clear hgs q0 q1 q2 CR
      have hal := implPeakAlike s q wa
      unfold peakVal at hal
      by_cases hcq : s.count = q.count
      · have hb1 : (peakOkB s && decide (s.count = q.count)) = true := by rw [hso, decide_eq_true hcq]; rfl
        have hcb : (s.count == q.count) = true := by simpa using hcq
        rw [hcb] at hal
        have hfl := fine_lt HFk.out hb1
        have hfi := peakOk_in hfl.1
        have hqi := peakOk_in hfl.2.2.1
        have HX2 := HX2.out hb1
        have HX3 := HX3.out hb1
        have hbit : (bits .and .i64 (a : Int) ((2 ^ k : Nat) : Int) != 0) = decide (a / 2 ^ k % 2 = 1) := bit_half ⟨a, by omega⟩ ⟨k, by have := hfl.2.2.2; omega⟩
        rw [← HFk.out.cnt] at hbit
        have hw3 : IntKind.i64.wrap (lv + s.work) = lv + s.work := by
          have h1 := HFk.out.l0
          have h2 := HFk.out.l1
          rw [IntKind.wrap_i64]; omega
        have hpb1 := fun w' (hb : Below w.heap.size w w') => implPeakBoth s q w' hfl.1 hfl.2.2.1 (HK.out.below hb HK.out.lt) (TabP.below HP.out hb (Nat.le_refl _))
        have hpb2 := fun w' (hb : Below w.heap.size w w') => implPeakBoth q s w' hfl.2.2.1 hfl.1 (HK.out.below hb HK.out.lt) (TabP.below HP.out hb (Nat.le_refl _))
        have HF1 : Hid (Fine (bothP s q) (lv + s.work) (k + 1)) := fine_left HFk.out hb1
        have HF2 : Hid (Fine (bothP q s) lv (k + 1)) := fine_right HFk.out hb1
        unfold peakVal at hpb1 hpb2
        clear HX1 HS hso hcq hcb hb1 hfl hfi hqi
        refine hal.mono ?_
        rintro e w3 ⟨rfl, b3⟩
        have CS3 : Hid (CBk w3 gs 67 #[.string s.sum, .int .i64 s.work, .int .i64 s.count]) := CS.out.call b3
        have CA3 : Hid (ClimbW w w3 g0 g9 top q) := CA.out.call b3
        clear CS CA b3 hal
        obtain ⟨c0, c1, c2⟩ := CS3.out.cells3
        obtain ⟨d0, d1, d2⟩ := CA3.out.p.cells3
        obtain ⟨r, hr⟩ : ∃ r, r = bits .and .i64 (a : Int) q.count := ⟨_, rfl⟩
        rw [← hr] at hbit
        replace hr := hr.symm
        by_cases hbv : a / 2 ^ k % 2 = 1
        · rw [decide_eq_true hbv] at hbit
          have hr0 : ¬ r = 0 := by simpa using hbit
          have HXW : Hid (walkTo lf a ss (k + 1) = some (bothP s q, lv + s.work)) := HX2 hbv
          have hp1 := hpb1 _ CA3.out.b
          clear hpb1 hpb2 HX2 HX3 HF2 hbv HFk
          go_wp2_with fail
          refine hp1.mono ?_
          rintro e w4 ⟨rfl, b4⟩
          have CA4 : Hid (ClimbW w w4 g0 g9 top q) := CA3.out.call b4
          clear CS3 CA3 b4 hp1 c0 c1 c2 d0 d1 d2 hr
          obtain ⟨d0, d1, d2⟩ := CA4.out.p.cells3
          obtain ⟨f0, f1, f2⟩ := CA4.out.p.free3
          have CA5 : Hid _ := CA4.out.store (bothP s q)
          generalize bothP s q = nq at CA5 HF1 HXW
          clear CA4
          go_wp2_with fail
          go_roundw
          case rel => exact ⟨k + 1, nq, lv + s.work, HK1.out, by go_num, rfl, CA5, HXW, HF1⟩
          case measure => have := HK1.out; simp [intOf]; omega
        · rw [decide_eq_false hbv] at hbit
          have hr0 : r = 0 := by simpa using hbit
          have HXW : Hid (walkTo lf a ss (k + 1) = some (bothP q s, lv)) := HX3 hbv
          have hp2 := hpb2 _ CA3.out.b
          clear hpb1 hpb2 HX2 HX3 HF1 hbv HFk hw3
          go_wp2_with fail
          refine hp2.mono ?_
          rintro e w4 ⟨rfl, b4⟩
          have CA4 : Hid (ClimbW w w4 g0 g9 top q) := CA3.out.call b4
          clear CS3 CA3 b4 hp2 c0 c1 c2 d0 d1 d2 hr
          obtain ⟨d0, d1, d2⟩ := CA4.out.p.cells3
          obtain ⟨f0, f1, f2⟩ := CA4.out.p.free3
          have CA5 : Hid _ := CA4.out.store (bothP q s)
          generalize bothP q s = nq at CA5 HF2 HXW
          clear CA4
          go_wp2_with fail
          go_roundw
          case rel => exact ⟨k + 1, nq, lv, HK1.out, by go_num, rfl, CA5, HXW, HF2⟩
          case measure => have := HK1.out; simp [intOf]; omega
      · have HV : Hid (R = -1) := HX1.out (by rw [hso, decide_eq_false hcq]; rfl)
        have hcb : (s.count == q.count) = false := by simpa using hcq
        rw [hcb] at hal
        clear HX1 HX2 HX3 HS HL HR HGOO hso hcq hcb
        refine hal.mono ?_
        rintro e w3 ⟨rfl, b3⟩
        have CA3 : Hid (ClimbW w w3 g0 g9 top q) := CA.out.call b3
        clear CS CA b3 hal
        go_wp2_with fail
        go_ret
        exact ⟨by rw [HV.out]; rfl, CA3.out.b⟩
    · obtain rfl : k = n := by omega
      have HV : Hid (R = if samePB q top = true then lv else -1) := HGOO.out q lv HWk.out
      obtain ⟨d0, d1, d2⟩ := CR.out.p.cells3
      obtain ⟨t0, t1, t2⟩ := CR.out.t.cells3
      have hse := runSamePk q top
      have hgd := eqPkG
      generalize samePB q top = sm at hse HV
      clear HS HL HR HGOO HWk HFk
      cases sm with
      | true =>
        go_wp2_with fail
        go_ret
        exact ⟨by rw [HV.out]; rfl, CR.out.b⟩
      | false =>
        go_wp2_with fail
        go_ret
        exact ⟨by rw [HV.out]; rfl, CR.out.b⟩

end Go.Proofs.YtkajpkfhedfmaaaGreatDoor

set_option linter.unusedVariables false
namespace Go.Proofs.YtkajpkfhedfmaaaGreatDoor
open Go.RowKit Go.Deep

set_option maxHeartbeats 1000000 in
set_option maxRecDepth 100000 in
theorem implSteps1 (p : PeakV) (w : World) :
    Calls Tryz.prog 154 #[.agg #[.string p.sum, .int .i64 p.work, .int .i64 p.count]] w fun e w' => e = .returned (.bool (!peakOkB p)) ∧ Below w.heap.size w w' := by
  have hpo := fun w' => implPeakOk p w'
  have L0 : Hid (Below w.heap.size w (w.alloc (.cells #[.string p.sum, .int .i64 p.work, .int .i64 p.count] 67))) := (Below.refl _ w).alloc (Nat.le_refl _) _
  generalize peakOkB p = R at hpo ⊢
  go_enter Tryz.func154, Tryz.ntmps154
  go_wp2_with fail
  refine (hpo _).mono ?_
  rintro e w1 ⟨rfl, b1⟩
  go_wp2_with fail
  go_ret
  exact ⟨rfl, L0.out.trans (b1.mono L0.out.size)⟩

set_option maxHeartbeats 1000000 in
set_option maxRecDepth 100000 in
theorem implIndexSteps (g n cap : Nat) (ss : List PeakV) (w : World) (h : AtP w g ss) (hn : n = ss.length) (hm : n ≤ 8) :
    Calls Tryz.prog 167 #[.slice (some ⟨g, 0, none⟩) n cap, .func (.func 154) #[] #[]] w fun e w' => (∃ x : Int, e = .returned (.int .i64 x) ∧ decide (0 ≤ x) = !stepsB ss) ∧ Below w.heap.size w w' := by
  have HA : Hid (AtP w g ss) := h
  have HN : Hid (n = ss.length) := hn
  have HBAD : Hid (∀ k, k < n → peakOkB (ss.getD k default) = false → stepsB ss = false) := fun k hk he => steps_bad (by omega) he
  have HGOO : Hid ((∀ k, k < n → peakOkB (ss.getD k default) = true) → stepsB ss = true) := fun hf => steps_good (by omega) (fun i hi => hf i (by omega))
  generalize stepsB ss = R at HBAD HGOO ⊢
  clear h hn
  go_enter Tryz.func167, Tryz.ntmps167
  go_wp2_with fail
  go_loopw [5, 8] (fun _ i wr => ∃ k : Nat, k ≤ n ∧ i = .int .i64 (k : Int) ∧ Hid (Below w.heap.size w wr) ∧ Hid (∀ j, j < k → peakOkB (ss.getD j default) = true)) (fun _ i _ => n - (intOf i).toNat)
  case atStart => exact ⟨0, by omega, rfl, Below.refl _ _, fun j hj => by omega⟩
  case round =>
    obtain ⟨k, hk, rfl, HB, HQ⟩ := hrel
    by_cases hlt : k < n
    · have hkl : k < ss.length := by rw [← HN.out]; exact hlt
      have HAr : Hid (AtP wr g ss) := HA.out.below HB.out HA.out.1
      have q0 := AtP.c0 HAr.out k hkl
      have q1 := AtP.c1 HAr.out k hkl
      have q2 := AtP.c2 HAr.out k hkl
      have lk : (k : Int) < (n : Int) := by omega
      have lk0 : (0 : Int) ≤ (k : Int) := by omega
      have wk : IntKind.i64.wrap ((k : Int) + 1) = (k : Int) + 1 := by rw [IntKind.wrap_i64]; omega
      have HK1 : Hid (k + 1 ≤ n) := hlt
      have HH : Hid (peakOkB (ss.getD k default) = false → R = false) := HBAD.out k hlt
      have HQ2 : Hid (peakOkB (ss.getD k default) = true → ∀ j, j < k + 1 → peakOkB (ss.getD j default) = true) := by
        intro h j hj
        rcases Nat.lt_or_ge j k with h' | h'
        · exact HQ.out j h'
        · obtain rfl : j = k := by omega
          exact h
      have hcl := implSteps1 (ss.getD k default) wr
      clear HQ HBAD HGOO hkl
      generalize peakOkB (ss.getD k default) = ok at hcl HH HQ2
      generalize ss.getD k default = c at q0 q1 q2 hcl
      cases ok with
      | false =>
        have HV : Hid (R = false) := HH.out rfl
        clear HH HQ2
        go_wp2_with fail
        refine hcl.mono ?_
        rintro e w1 ⟨rfl, b1⟩
        have HB1 : Hid (Below w.heap.size w w1) := HB.out.trans (b1.mono HB.out.size)
        clear b1
        go_wp2_with fail
        go_ret
        exact ⟨⟨_, rfl, by rw [HV.out]; exact decide_eq_true lk0⟩, HB1.out⟩
      | true =>
        have HQ3 : Hid (∀ j, j < k + 1 → peakOkB (ss.getD j default) = true) := HQ2.out rfl
        clear HH HQ2
        go_wp2_with fail
        refine hcl.mono ?_
        rintro e w1 ⟨rfl, b1⟩
        have HB1 : Hid (Below w.heap.size w w1) := HB.out.trans (b1.mono HB.out.size)
        clear b1
        go_wp2_with fail
        go_roundw
        case rel => exact ⟨k + 1, HK1.out, by go_num, HB1, HQ3⟩
        case measure => have := HK1.out; simp [intOf]; omega
    · obtain rfl : k = n := by omega
      have HV : Hid (R = true) := HGOO.out HQ.out
      clear HBAD HGOO HQ
      go_wp2_with fail
      go_ret
      exact ⟨⟨-1, rfl, by rw [HV.out]; rfl⟩, HB.out⟩

set_option maxHeartbeats 1000000 in
set_option maxRecDepth 100000 in
theorem implStepsOk (g n cap : Nat) (ss : List PeakV) (w : World) (h : AtP w g ss) (hn : n = ss.length) (hm : n ≤ 1048576) :
    Calls Tryz.prog 129 #[.slice (some ⟨g, 0, none⟩) n cap] w fun e w' => e = .returned (.bool (stepsB ss)) ∧ Below w.heap.size w w' := by
  by_cases h8 : n ≤ 8
  · have hix := implIndexSteps g n cap ss w h hn h8
    have hcf : Calls Tryz.prog 153 #[.slice (some ⟨g, 0, none⟩) n cap, .func (.func 154) #[] #[]] w fun e w' => e = .returned (.bool (!stepsB ss)) ∧ Below w.heap.size w w' := by
      generalize stepsB ss = R at hix ⊢
      clear h hn
      go_enter Tryz.func153, Tryz.ntmps153
      go_wp2_with fail
      refine hix.mono ?_
      rintro e w1 ⟨⟨x, rfl, hx⟩, b1⟩
      go_wp2_with fail
      go_ret
      exact ⟨by rw [← hx]; rfl, b1⟩
    clear hix
    generalize stepsB ss = R at hcf ⊢
    have h9 : ¬ (8 : Int) < (n : Int) := by omega
    have h7 : (n : Int) ≤ 8 := by omega
    clear h hn
    cases R with
    | true =>
      go_enter Tryz.func129, Tryz.ntmps129
      go_wp2_with fail
      refine hcf.mono ?_
      rintro e w1 ⟨rfl, b1⟩
      go_wp2_with fail
      go_ret
      exact ⟨rfl, b1⟩
    | false =>
      go_enter Tryz.func129, Tryz.ntmps129
      go_wp2_with fail
      refine hcf.mono ?_
      rintro e w1 ⟨rfl, b1⟩
      go_wp2_with fail
      go_ret
      exact ⟨rfl, b1⟩
  · have HV : Hid (stepsB ss = false) := steps_long (by omega)
    generalize stepsB ss = R at HV ⊢
    have h9 : (8 : Int) < (n : Int) := by omega
    have h7 : ¬ (n : Int) ≤ 8 := by omega
    clear h hn
    go_enter Tryz.func129, Tryz.ntmps129
    go_wp2_with fail
    go_ret
    exact ⟨by rw [HV.out]; rfl, Below.refl _ _⟩

end Go.Proofs.YtkajpkfhedfmaaaGreatDoor

set_option linter.unusedVariables false
namespace Go.Proofs.YtkajpkfhedfmaaaGreatDoor
open Go.ChangeShapes Go.WideShapes Go.ChangeAt Go.RowKit Go.Deep Go.Joins

theorem CBk.two {w : World} {g : Nat} {T : TypeId} {a b : Value} (h : CBk w g T #[a, b]) : w.cell? ⟨g, 0, none⟩ = some a ∧ w.cell? ⟨g, 1, none⟩ = some b ∧ w.frozen? ⟨g, 0, none⟩ = false ∧ w.frozen? ⟨g, 1, none⟩ = false :=
  ⟨h.cell 0, h.cell 1, h.frozen 0, h.frozen 1⟩
theorem CBk.out2 {w : World} {g : Nat} {T : TypeId} {a b : Value} (h : CBk w g T #[a, b]) : w.cell? ⟨g, 0, none⟩ = some a ∧ w.cell? ⟨g, 1, none⟩ = some b := ⟨h.cell 0, h.cell 1⟩
/-- A proof of the laws. -/
structure LPrf where
  pa : Option Addr
  pn : Nat
  pc : Nat
  pl : List PeakV
  sa : Option Addr
  sn : Nat
  sc : Nat
  sl : List PeakV
def lprfVal (L : LPrf) : Value := .agg #[.slice L.pa L.pn L.pc, .slice L.sa L.sn L.sc]
structure IsPrf (w : World) (L : LPrf) : Prop where
  p : IsPeaks w L.pa L.pn L.pc L.pl
  s : IsPeaks w L.sa L.sn L.sc L.sl
theorem peaks_below {w w' : World} {a : Option Addr} {len cap : Nat} {ps : List PeakV} (h : IsPeaks w a len cap ps) (hb : Below w.heap.size w w') : IsPeaks w' a len cap ps := by
  have hat := fun i hi => h.at hb i hi
  rcases h with h1 | ⟨x, hx, h1, h2, h3, h4, h5⟩
  · exact .inl h1
  · refine .inr ⟨x, hx, h1, h2, h3, fun i hi => ?_, h5⟩
    obtain ⟨y, hy, hc⟩ := hat i hi
    rw [hx] at hy
    obtain rfl := Option.some.inj hy
    exact hc
theorem IsPrf.below {w w' : World} {L : LPrf} (h : IsPrf w L) (hb : Below w.heap.size w w') : IsPrf w' L := ⟨peaks_below h.p hb, peaks_below h.s hb⟩
theorem shape_slice2 {P : Program} {H : Type} {enc : TypeId × Value → H} {W : World} {base : Nat} {sp : Nat → Bool} {held : Bool} {n : Nat} {t e : TypeId} {v : Value} {y : DataW H × List MemPlace} (ht : P.underlying t = some (.slice e)) (h : DataW.trod enc P W base sp held n t [v] = some y) : ∃ a len cap, v = .slice a len cap := by
  rcases open_slice ht h with ⟨hcs, _⟩ | ⟨x, l, c, m, n, D, Pl, hcs, _⟩
  · simp at hcs
    exact ⟨_, _, _, hcs⟩
  · simp at hcs
    exact ⟨_, _, _, hcs⟩
structure SmallPrf (L : LPrf) : Prop where
  pn : L.pn ≤ 1048576
  ps : ∀ i, i < L.pn → (L.pl.getD i default).sum.size ≤ 1048576
  sn : L.sn ≤ 1048576
  ss : ∀ i, i < L.sn → (L.sl.getD i default).sum.size ≤ 1048576
/-- A proof in memory of its own. -/
structure PrfV where
  g : Nat
  n : Nat
  c : Nat
  ps : List PeakV
  sg : Nat
  sn : Nat
  sc : Nat
  ss : List PeakV
def prfVal (s : PrfV) : Value := .agg #[.slice (some ⟨s.g, 0, none⟩) s.n s.c, .slice (some ⟨s.sg, 0, none⟩) s.sn s.sc]
structure CopyPrf (B : Nat) (L : LPrf) (v : PrfV) (w : World) : Prop where
  p : RowP w v.g L.pl
  ps : v.ps = L.pl
  pn : v.n = L.pn
  pc : v.c = v.n
  st : RowP w v.sg L.sl
  ss : v.ss = L.sl
  sn : v.sn = L.sn
  sc : v.sc = v.sn
  lo : B ≤ v.g
  up : v.g < v.sg
theorem CopyPrf.below {B : Nat} {L : LPrf} {s : PrfV} {w w' : World} (h : CopyPrf B L s w) (hb : Below w.heap.size w w') : CopyPrf B L s w' :=
  ⟨h.p.below hb h.p.lt, h.ps, h.pn, h.pc, h.st.below hb h.st.lt, h.ss, h.sn, h.sc, h.lo, h.up⟩
theorem rowP_other {w : World} {g g' : Nat} {l : List PeakV} (h : RowP w g l) (hg : g' ≠ g) (j : Nat) (v : Value) : RowP (w.setCell ⟨g', j, none⟩ v) g l := by
  unfold RowP RowF at h ⊢; simp [World.setCell, Array.getElem?_modify, h, hg]

end Go.Proofs.YtkajpkfhedfmaaaGreatDoor

