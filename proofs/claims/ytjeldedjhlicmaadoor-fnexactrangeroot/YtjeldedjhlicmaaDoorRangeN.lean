/-
  How many heads a range has, and how much work: the program, the specification, the law.
-/
import Derived.Test.YtjeldedjhlicmaaDoorRangeL
set_option linter.unusedVariables false
namespace Go.Proofs.YtjeldedjhlicmaaDoor
open Go.RowKit Go.Deep

def wrkTo (ps : List PeakV) : Nat → Int
  | 0 => 0
  | k + 1 => wrkTo ps k + (ps.getD k default).work
def rangeMany (ps : List PeakV) : Int × Int := if rangeOkB ps = true then (cntTo ps ps.length, wrkTo ps ps.length) else (-1, -1)
theorem many_no {ps : List PeakV} (h : rangeOkB ps = false) : rangeMany ps = (-1, -1) := by rw [rangeMany, h]; rfl
theorem many_yes {ps : List PeakV} (h : rangeOkB ps = true) : rangeMany ps = (cntTo ps ps.length, wrkTo ps ps.length) := by rw [rangeMany, if_pos h]
theorem rangeOk_at {ps : List PeakV} (h : rangeOkB ps = true) (i : Nat) (hi : i < ps.length) : 1 ≤ (ps.getD i default).count ∧ (ps.getD i default).count ≤ 20 ∧ (ps.getD i default).count ≤ (ps.getD i default).work ∧ (ps.getD i default).work ≤ (ps.getD i default).count * 8 := by
  rw [rangeOkB, Bool.and_eq_true, List.all_eq_true] at h
  have := h.1 i (List.mem_range.2 hi)
  rw [stepOk, Bool.and_eq_true] at this
  exact peakOk_in this.1

set_option maxHeartbeats 1000000 in
set_option maxRecDepth 100000 in
theorem specL5Many (g n cap : Nat) (ps : List PeakV) (w : World) (h : AtP w g ps) (hn : n = ps.length) (hm : n ≤ 1048576) (hr : rangeOkB ps = true) :
    Calls Tryd.prog 87 #[.slice (some ⟨g, 0, none⟩) n cap] w fun e w' => e = .returned (.tuple #[.int .i64 (cntTo ps n), .int .i64 (wrkTo ps n)]) ∧ Below w.heap.size w w' := by
  have HA : Hid (AtP w g ps) := h
  have HN : Hid (n = ps.length) := hn
  have HR : Hid (∀ i, i < ps.length → 1 ≤ (ps.getD i default).count ∧ (ps.getD i default).count ≤ 20 ∧ (ps.getD i default).count ≤ (ps.getD i default).work ∧ (ps.getD i default).work ≤ (ps.getD i default).count * 8) := fun i hi => rangeOk_at hr i hi
  clear h hn hr
  go_enter Tryd.func87, Tryd.ntmps87
  go_wp2_with fail
  go_loopw [4, 5, 6] (fun m v i wr => ∃ (k : Nat) (x y : Int), k ≤ n ∧ i = .int .i64 (k : Int) ∧ m = .int .i64 x ∧ v = .int .i64 y ∧ 0 ≤ x ∧ x ≤ 20 * (k : Int) ∧ 0 ≤ y ∧ y ≤ 160 * (k : Int) ∧ Hid (x = cntTo ps k) ∧ Hid (y = wrkTo ps k) ∧ Hid (Below w.heap.size w wr)) (fun _ _ i _ => n - (intOf i).toNat)
  case atStart => exact ⟨0, 0, 0, by omega, rfl, rfl, rfl, by omega, by omega, by omega, by omega, rfl, rfl, Below.refl _ _⟩
  case round =>
    obtain ⟨k, x, y, hk, rfl, rfl, rfl, hx0, hx1, hy0, hy1, HX, HY, HB⟩ := hrel
    by_cases hlt : k < n
    · have hkl : k < ps.length := by rw [← HN.out]; exact hlt
      have HAr : Hid (AtP wr g ps) := HA.out.below HB.out HA.out.1
      have c0 := AtP.c0 HAr.out k hkl
      have c1 := AtP.c1 HAr.out k hkl
      have c2 := AtP.c2 HAr.out k hkl
      have lk : (k : Int) < (n : Int) := by omega
      have HK : Hid (k + 1 ≤ n) := hlt
      obtain ⟨p1, p2, p3, p4⟩ := HR.out k hkl
      have HC : Hid (x + (ps.getD k default).count = cntTo ps (k + 1)) := by show _ = _; rw [cntTo, ← HX.out]
      have HD : Hid (y + (ps.getD k default).work = wrkTo ps (k + 1)) := by show _ = _; rw [wrkTo, ← HY.out]
      generalize ps.getD k default = p at c0 c1 c2 p1 p2 p3 p4 HC HD
      have wx : IntKind.i64.wrap (x + p.count) = x + p.count := by rw [IntKind.wrap_i64]; omega
      have wy : IntKind.i64.wrap (y + p.work) = y + p.work := by rw [IntKind.wrap_i64]; omega
      clear hkl HX HY
      go_wp2_with fail
      go_roundw
      case rel => exact ⟨k + 1, x + p.count, y + p.work, HK.out, by go_num, rfl, rfl, by omega, by omega, by omega, by omega, HC, HD, HB.out⟩
      case measure => have := HK.out; simp [intOf]; omega
    · obtain rfl : k = n := by omega
      go_wp2_with fail
      go_ret2
      exact ⟨by rw [← HX.out, ← HY.out]; rfl, HB.out⟩

end Go.Proofs.YtjeldedjhlicmaaDoor
