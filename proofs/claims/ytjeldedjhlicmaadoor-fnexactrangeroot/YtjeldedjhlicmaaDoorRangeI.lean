/-
  Whether peaks can be a range: the model, the program.
-/
import Derived.Test.YtjeldedjhlicmaaDoorRangeT
set_option linter.unusedVariables false
namespace Go.Proofs.YtjeldedjhlicmaaDoor
open Go.RowKit Go.Deep

def stepOk (ps : List PeakV) (i : Nat) : Bool := peakOkB (ps.getD i default) && (twoB (ps.getD i default).count && (decide (i = 0) || decide ((ps.getD i default).count < (ps.getD (i - 1) default).count)))
def cntTo (ps : List PeakV) : Nat → Int
  | 0 => 0
  | k + 1 => cntTo ps k + (ps.getD k default).count
def rangeOkB (ps : List PeakV) : Bool := (List.range ps.length).all (stepOk ps) && decide (cntTo ps ps.length ≤ 20)
theorem rangeOk_no {ps : List PeakV} (i : Nat) (hi : i < ps.length) (h : stepOk ps i = false) : rangeOkB ps = false := by
  have : (List.range ps.length).all (stepOk ps) = false := by
    rw [List.all_eq_false]
    exact ⟨i, List.mem_range.2 hi, by rw [h]; decide⟩
  rw [rangeOkB, this, Bool.false_and]
theorem rangeOk_end {ps : List PeakV} (h : ∀ i, i < ps.length → stepOk ps i = true) : rangeOkB ps = decide (cntTo ps ps.length ≤ 20) := by
  have : (List.range ps.length).all (stepOk ps) = true := by
    rw [List.all_eq_true]
    exact fun i hi => h i (List.mem_range.1 hi)
  rw [rangeOkB, this, Bool.true_and]

set_option maxHeartbeats 1000000 in
set_option maxRecDepth 100000 in
theorem implRangeOk (g n cap : Nat) (ps : List PeakV) (w : World) (h : AtP w g ps) (hn : n = ps.length) (hm : n ≤ 1073741824) :
    Calls Tryd.prog 49 #[.slice (some ⟨g, 0, none⟩) n cap] w fun e w' => e = .returned (.bool (rangeOkB ps)) ∧ Below w.heap.size w w' := by
  have HA : Hid (AtP w g ps) := h
  have HN : Hid (n = ps.length) := hn
  clear h hn
  go_enter Tryd.func49, Tryd.ntmps49
  go_wp2_with fail
  go_loopw [3, 8] (fun m i wr => ∃ (k : Nat) (x : Int), k ≤ n ∧ i = .int .i64 (k : Int) ∧ m = .int .i64 x ∧ 0 ≤ x ∧ x ≤ 20 * (k : Int) ∧ Hid (x = cntTo ps k) ∧ Hid (∀ q, q < k → stepOk ps q = true) ∧ Hid (Below w.heap.size w wr)) (fun _ i _ => n - (intOf i).toNat)
  case atStart => exact ⟨0, 0, by omega, rfl, rfl, by omega, by omega, rfl, fun q hq => by omega, Below.refl _ _⟩
  case round =>
    obtain ⟨k, x, hk, rfl, rfl, hx0, hx1, HX, HS, HB⟩ := hrel
    by_cases hlt : k < n
    · have hkl : k < ps.length := by rw [← HN.out]; exact hlt
      have HAr : Hid (AtP wr g ps) := HA.out.below HB.out HA.out.1
      have c0 := AtP.c0 HAr.out k hkl
      have c1 := AtP.c1 HAr.out k hkl
      have c2 := AtP.c2 HAr.out k hkl
      have lk : (k : Int) < (n : Int) := by omega
      have lk0 : (0 : Int) ≤ (k : Int) := by omega
      have HK : Hid (k + 1 ≤ n) := hlt
      have HKL : Hid (k < ps.length) := hkl
      have HC : Hid (cntTo ps (k + 1) = x + (ps.getD k default).count) := by show _ = _; rw [cntTo, ← HX.out]
      have HST : Hid (stepOk ps k = (peakOkB (ps.getD k default) && (twoB (ps.getD k default).count && (decide (k = 0) || decide ((ps.getD k default).count < (ps.getD (k - 1) default).count))))) := rfl
      have HNX : Hid (stepOk ps k = true → ∀ q, q < k + 1 → stepOk ps q = true) := by
        intro h q hq
        rcases Nat.lt_or_ge q k with h' | h'
        · exact HS.out q h'
        · obtain rfl : q = k := by omega
          exact h
      have hpk := fun w' => implPeakOk (ps.getD k default) w'
      have HPI : Hid (peakOkB (ps.getD k default) = true → 1 ≤ (ps.getD k default).count ∧ (ps.getD k default).count ≤ 20) := fun h => ⟨(peakOk_in h).1, (peakOk_in h).2.1⟩
      generalize ps.getD k default = p at c0 c1 c2 HC HST hpk HPI
      have hblk : ∀ (w1 : World), Below (wr.alloc (.cells #[.string p.sum, .int .i64 p.work, .int .i64 p.count] 63)).heap.size (wr.alloc (.cells #[.string p.sum, .int .i64 p.work, .int .i64 p.count] 63)) w1 → w1.cell? ⟨wr.heap.size, 2, none⟩ = some (.int .i64 p.count) := by
        intro w1 b1
        rw [b1.cell (p := ⟨wr.heap.size, 2, none⟩) (by simp), Lib.cell_of_heap (heap_alloc_new _ _)]
        rfl
      clear hkl
      cases hok : peakOkB p with
      | false =>
        have HNO : Hid (rangeOkB ps = false) := rangeOk_no k HKL.out (by rw [HST.out, hok, Bool.false_and])
        simp only [hok] at hpk
        go_wp2_with (go_at_call 74; refine (hpk _).mono ?_; rintro e w1 ⟨rfl, b1⟩)
        go_ret
        exact ⟨by rw [HNO.out]; rfl, HB.out.trans (((Below.refl wr.heap.size wr).alloc (Nat.le_refl _) _).trans (b1.mono (by simp)) |>.mono HB.out.size)⟩
      | true =>
        simp only [hok] at hpk
        obtain ⟨hc1, hc20⟩ := HPI.out hok
        have hw : IntKind.u64.wrap p.count = p.count := by rcases upTo20 hc1 hc20 with h | h | h | h | h | h | h | h | h | h | h | h | h | h | h | h | h | h | h | h <;> rw [h] <;> rfl
        cases htw : twoB p.count with
        | false =>
          have HNO : Hid (rangeOkB ps = false) := rangeOk_no k HKL.out (by rw [HST.out, hok, htw]; rfl)
          have hon := fun w' => implOnes p.count w' hc1 hc20
          simp only [htw] at hon
          go_wp2_with (first
            | (go_at_call 74; refine (hpk _).mono ?_; rintro e w1 ⟨rfl, b1⟩; have q2 := hblk _ b1)
            | (go_at_call 75; refine (hon _).mono ?_; rintro e w2 ⟨rfl, r, rfl, hr⟩))
          go_ret
          exact ⟨by rw [HNO.out]; rfl, HB.out.trans (((Below.refl wr.heap.size wr).alloc (Nat.le_refl _) _).trans (b1.mono (by simp)) |>.mono HB.out.size)⟩
        | true =>
          have hon := fun w' => implOnes p.count w' hc1 hc20
          simp only [htw] at hon
          have hwx : IntKind.i64.wrap (x + p.count) = x + p.count := by rw [IntKind.wrap_i64]; omega
          by_cases hk0 : k = 0
          · subst hk0
            have HST2 : Hid (∀ q, q < 0 + 1 → stepOk ps q = true) := HNX.out (by rw [HST.out, hok, htw]; rfl)
            clear HST HNX HPI
            go_wp2_with (first
              | (go_at_call 74; refine (hpk _).mono ?_; rintro e w1 ⟨rfl, b1⟩; have q2 := hblk _ b1)
              | (go_at_call 75; refine (hon _).mono ?_; rintro e w2 ⟨rfl, r, rfl, hr⟩))
            have HB1 : Hid (Below w.heap.size w w2) := HB.out.trans (((Below.refl wr.heap.size wr).alloc (Nat.le_refl _) _).trans (b1.mono (by simp)) |>.mono HB.out.size)
            have hq0 : decide ((0 : Int) < 0) = false := rfl
            have q3 : w2.drew.cell? ⟨wr.heap.size, 2, none⟩ = some (.int .i64 p.count) := q2
            clear b1 hblk
            go_big_region
            go_wp2_with fail
            go_roundw
            case rel => exact ⟨1, x + p.count, HK.out, by go_num, rfl, by omega, by omega, HC.out.symm, HST2, HB1.out.drew⟩
            case measure => have := HK.out; simp [intOf]; omega
          · obtain ⟨j, rfl⟩ : ∃ j, k = j + 1 := ⟨k - 1, by omega⟩
            have hjl : j < ps.length := by have := HKL.out; omega
            have d2 := AtP.c2 HAr.out j hjl
            have HST3 : Hid (stepOk ps (j + 1) = decide (p.count < (ps.getD j default).count)) := by
              show _ = _
              rw [HST.out, hok, htw]
              simp
            obtain ⟨k2, hk2⟩ : ∃ k2, k2 = j + 1 := ⟨_, rfl⟩
            rw [← hk2] at c0 c1 c2 HC HK HKL HST3 HNX lk lk0 hx1 HS HX ⊢
            generalize ps.getD j default = pr at d2 HST3
            have hlk : ∀ (w1 : World), Below (wr.alloc (.cells #[.string p.sum, .int .i64 p.work, .int .i64 p.count] 63)).heap.size (wr.alloc (.cells #[.string p.sum, .int .i64 p.work, .int .i64 p.count] 63)) w1 → w1.cell? ⟨g, j * 3 + 2, none⟩ = some (.int .i64 pr.count) := by
              intro w1 b1
              have hg := HAr.out.1
              rw [b1.cell (p := ⟨g, j * 3 + 2, none⟩) (by simp; omega), ((Below.refl wr.heap.size wr).alloc (Nat.le_refl _) _).cell (p := ⟨g, j * 3 + 2, none⟩) hg]
              exact d2
            have HJ : Hid (k2 = j + 1) := hk2
            clear HST HPI hjl hk0 hlt hk2 hk
            by_cases hdec : p.count < pr.count
            · have HST2 : Hid (∀ q, q < k2 + 1 → stepOk ps q = true) := HNX.out (by rw [HST3.out]; exact decide_eq_true hdec)
              clear HNX HST3
              go_wp2_with (first
                | (go_at_call 74; refine (hpk _).mono ?_; rintro e w1 ⟨rfl, b1⟩; have q2 := hblk _ b1; have q4 := hlk _ b1)
                | (go_at_call 75; refine (hon _).mono ?_; rintro e w2 ⟨rfl, r, rfl, hr⟩))
              have HB1 : Hid (Below w.heap.size w w2) := HB.out.trans (((Below.refl wr.heap.size wr).alloc (Nat.le_refl _) _).trans (b1.mono (by simp)) |>.mono HB.out.size)
              have q3 : w2.drew.cell? ⟨wr.heap.size, 2, none⟩ = some (.int .i64 p.count) := q2
              have q5 : w2.drew.cell? ⟨g, j * 3 + 2, none⟩ = some (.int .i64 pr.count) := q4
              clear b1 hblk hlk
              have hq0 : decide ((0 : Int) < (k2 : Int)) = true := decide_eq_true (by have := HJ.out; omega)
              have hq1 : decide (pr.count ≤ p.count) = false := decide_eq_false (by omega)
              have hw2 : IntKind.i64.wrap ((k2 : Int) - 1) = (j : Int) := by rw [IntKind.wrap_i64]; have := HJ.out; omega
              have hq4 : 0 < k2 := by have := HJ.out; omega
              have hq6 : (j : Int) < (n : Int) := by have := HJ.out; omega
              have hq8 : (0 : Int) ≤ (j : Int) := by omega
              go_big_region
              go_wp2_with fail
              go_roundw
              case rel => exact ⟨k2 + 1, x + p.count, HK.out, by go_num, rfl, by omega, by omega, HC.out.symm, HST2, HB1.out.drew⟩
              case measure => have := HK.out; simp [intOf]; omega
            · have HNO : Hid (rangeOkB ps = false) := rangeOk_no k2 HKL.out (by rw [HST3.out]; exact decide_eq_false hdec)
              clear HNX HST3
              go_wp2_with (first
                | (go_at_call 74; refine (hpk _).mono ?_; rintro e w1 ⟨rfl, b1⟩; have q2 := hblk _ b1; have q4 := hlk _ b1)
                | (go_at_call 75; refine (hon _).mono ?_; rintro e w2 ⟨rfl, r, rfl, hr⟩))
              have HB1 : Hid (Below w.heap.size w w2) := HB.out.trans (((Below.refl wr.heap.size wr).alloc (Nat.le_refl _) _).trans (b1.mono (by simp)) |>.mono HB.out.size)
              have q3 : w2.drew.cell? ⟨wr.heap.size, 2, none⟩ = some (.int .i64 p.count) := q2
              have q5 : w2.drew.cell? ⟨g, j * 3 + 2, none⟩ = some (.int .i64 pr.count) := q4
              clear b1 hblk hlk
              have hq0 : decide ((0 : Int) < (k2 : Int)) = true := decide_eq_true (by have := HJ.out; omega)
              have hq1 : decide (pr.count ≤ p.count) = true := decide_eq_true (by omega)
              have hw2 : IntKind.i64.wrap ((k2 : Int) - 1) = (j : Int) := by rw [IntKind.wrap_i64]; have := HJ.out; omega
              have hq4 : 0 < k2 := by have := HJ.out; omega
              have hq6 : (j : Int) < (n : Int) := by have := HJ.out; omega
              have hq8 : (0 : Int) ≤ (j : Int) := by omega
              go_big_region
              go_wp2_with fail
              go_ret
              exact ⟨by rw [HNO.out]; rfl, HB1.out.drew⟩
    · obtain rfl : k = n := by omega
      have HE : Hid (rangeOkB ps = decide (x ≤ 20)) := by
        show _ = _
        rw [rangeOk_end (fun i hi => HS.out i (by rw [HN.out]; exact hi)), HX.out, HN.out]
      go_wp2_with fail
      go_ret
      exact ⟨by rw [HE.out]; rfl, HB.out⟩

end Go.Proofs.YtjeldedjhlicmaaDoor
