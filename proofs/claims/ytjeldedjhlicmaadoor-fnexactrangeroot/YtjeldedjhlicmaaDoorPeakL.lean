/-
  The laws' own functions on lists of peaks: copies, comparisons.
-/
import Derived.Test.YtjeldedjhlicmaaDoorPeakM
import Derived.Test.YtjeldedjhlicmaaDoorFlatM
import Derived.BigRegion
import Derived.Deep.RegionWith
import Derived.Deep.OwnRows
set_option linter.unusedVariables false
namespace Go.Proofs.YtjeldedjhlicmaaDoor
open Go.RowKit Go.Deep

def pEnc (p : PeakV) : List Value := [.string p.sum, .int .i64 p.work, .int .i64 p.count]
theorem pEnc_len (p : PeakV) : (pEnc p).length = 3 := rfl
abbrev RowP (w : World) (g : Nat) (l : List PeakV) : Prop := RowF pEnc 63 w g l
abbrev AtP (w : World) (g : Nat) (l : List PeakV) : Prop := AtF pEnc 3 w g l
theorem AtP.c0 {w : World} {g : Nat} {l : List PeakV} (h : AtP w g l) (i : Nat) (hi : i < l.length) : w.cell? ⟨g, i * 3, none⟩ = some (.string (l.getD i default).sum) := h.2 i 0 hi (by decide)
theorem AtP.c1 {w : World} {g : Nat} {l : List PeakV} (h : AtP w g l) (i : Nat) (hi : i < l.length) : w.cell? ⟨g, i * 3 + 1, none⟩ = some (.int .i64 (l.getD i default).work) := h.2 i 1 hi (by decide)
theorem AtP.c2 {w : World} {g : Nat} {l : List PeakV} (h : AtP w g l) (i : Nat) (hi : i < l.length) : w.cell? ⟨g, i * 3 + 2, none⟩ = some (.int .i64 (l.getD i default).count) := h.2 i 2 hi (by decide)
theorem infoPeak : (Tryd.prog.info? 63).map (fun i => (i.zero, i.size, i.bytes)) = some (some (.agg #[.string ⟨#[]⟩, .int .i64 0, .int .i64 0]), 3, 32) := by kernel_rfl
def zeroP : PeakV := ⟨⟨#[]⟩, 0, 0⟩
theorem makeP (n : Nat) (hn : n ≤ 1099511627776) (w : World) : (Instr.makeSlice 24 (.int .i64 (n : Int)) (.int .i64 (n : Int))).run Tryd.prog w = .ok (.slice (some ⟨w.heap.size, 0, none⟩) n n) (w.alloc (.cells ((List.replicate n zeroP).flatMap pEnc).toArray 63)) := by
  obtain ⟨i, hi, hz, hs, hb⟩ := info_parts infoPeak
  have hb' : (i.bytes : Int) * (n : Int) ≤ 281474976710656 := by rw [hb]; omega
  have hr := run_make (P := Tryd.prog) w 24 63 i _ Tryd.underlying24 hi hz .i64 .i64 (n : Int) (n : Int) (by omega) (by omega) hb' (by omega)
  simp only [Int.toNat_natCast, hs, Value.cells] at hr
  rw [← made_flat 3 pEnc pEnc_len (by decide) zeroP n]
  exact hr
theorem RowP.put {w : World} {g : Nat} {l : List PeakV} (h : RowP w g l) (i : Nat) (hi : i < l.length) (p : PeakV) :
    RowP (((w.setCell ⟨g, i * 3, none⟩ (.string p.sum)).setCell ⟨g, i * 3 + 1, none⟩ (.int .i64 p.work)).setCell ⟨g, i * 3 + 2, none⟩ (.int .i64 p.count)) g (l.set i p) := by
  show _ = _
  rw [← flat_put 3 pEnc pEnc_len l i p hi]
  exact rowSet (rowSet (rowSet h _) _) _

set_option maxHeartbeats 1000000 in
set_option maxRecDepth 100000 in
theorem toPeaks (a : Option Addr) (len cap : Nat) (ps : List PeakV) (w w0 : World) (h0 : IsPeaks w0 a len cap ps) (hw : Below w0.heap.size w0 w) (hn : len ≤ 1048576) :
    Calls Tryd.prog 20 #[.slice a len cap] w fun e w' => e = .returned (.slice (some ⟨w.heap.size, 0, none⟩) len len) ∧ RowP w' w.heap.size ps ∧ Below w.heap.size w w' := by
  have hmk := makeP len (by omega)
  have HP : Hid (IsPeaks w0 a len cap ps) := h0
  have HW : Hid (Below w0.heap.size w0 w) := hw
  have HLn : Hid (ps.length = len) := h0.len
  clear h0 hw
  go_enter Tryd.func20, Tryd.ntmps20
  go_wp2_with fail
  clear hmk
  go_loopw [4] (fun i wr => ∃ k : Nat, k ≤ len ∧ i = .int .i64 (k : Int) ∧ Hid (RowP wr w.heap.size (ps.take k ++ List.replicate (len - k) zeroP)) ∧ Hid (Below w.heap.size w wr)) (fun i _ => len - (intOf i).toNat)
  case atStart => exact ⟨0, by omega, rfl, heap_alloc_new w _, (Below.refl _ w).alloc (Nat.le_refl _) _⟩
  case round =>
    obtain ⟨k, hk, rfl, HR, HB⟩ := hrel
    by_cases hlt : k < len
    · obtain ⟨x, rfl, c0, c1, c2⟩ := HP.out.at (HW.out.trans (HB.out.mono HW.out.size)) k hlt
      have HK : Hid (k + 1 ≤ len) := hlt
      have HS : Hid ((ps.take k ++ List.replicate (len - k) zeroP).set k (ps.getD k default) = ps.take (k + 1) ++ List.replicate (len - (k + 1)) zeroP) := set_nextF zeroP ps len k (by rw [HLn.out]; exact hlt) hlt
      have HKL : Hid (k < (ps.take k ++ List.replicate (len - k) zeroP).length) := by show _ < _; simp [HLn.out]; omega
      have lk : (k : Int) < (len : Int) := by omega
      generalize ps.getD k default = p at c0 c1 c2 HS
      go_wp2_with fail
      refine (toPeak1 p _).mono ?_
      rintro e w1 ⟨rfl, b1⟩
      have HR1 : Hid (RowP w1 w.heap.size (ps.take k ++ List.replicate (len - k) zeroP)) := HR.out.below b1 HR.out.lt
      have HB1 : Hid (Below w.heap.size w w1) := HB.out.trans (b1.mono HB.out.size)
      have f0 := HR1.out.frozen (k * 3)
      have f1 := HR1.out.frozen (k * 3 + 1)
      have f2 := HR1.out.frozen (k * 3 + 2)
      have d0 := AtP.c0 (HR1.out.at 3 pEnc_len) k HKL.out
      have d1 := AtP.c1 (HR1.out.at 3 pEnc_len) k HKL.out
      have d2 := AtP.c2 (HR1.out.at 3 pEnc_len) k HKL.out
      generalize (ps.take k ++ List.replicate (len - k) zeroP).getD k default = o at d0 d1 d2
      clear b1 c0 c1 c2
      go_wp2_with fail
      go_roundw
      case rel =>
        refine ⟨k + 1, HK.out, by go_num, ?_, ((HB1.out.setCell (p := ⟨w.heap.size, k * 3, none⟩) (Nat.le_refl _) _).setCell (p := ⟨w.heap.size, k * 3 + 1, none⟩) (Nat.le_refl _) _).setCell (p := ⟨w.heap.size, k * 3 + 2, none⟩) (Nat.le_refl _) _⟩
        have := RowP.put HR1.out k HKL.out p
        rw [HS.out] at this
        exact this
      case measure => have := HK.out; simp [intOf]; omega
    · have HE : Hid (ps.take k ++ List.replicate (len - k) zeroP = ps) := by
        show _ = _
        rw [List.take_of_length_le (by rw [HLn.out]; omega), show len - k = 0 from by omega]
        simp
      go_wp2_with fail
      go_ret
      refine ⟨rfl, ?_, HB.out⟩
      rw [← HE.out]
      exact HR.out

set_option maxHeartbeats 1000000 in
set_option maxRecDepth 100000 in
theorem eqPeaks (g1 g2 n c1 c2 : Nat) (ps : List PeakV) (w : World) (h1 : AtP w g1 ps) (h2 : AtP w g2 ps) (hn : n = ps.length) (hm : n ≤ 1073741824) :
    Calls Tryd.prog 12 #[.slice (some ⟨g1, 0, none⟩) n c1, .slice (some ⟨g2, 0, none⟩) n c2] w fun e w' => e = .returned (.bool true) ∧ Below w.heap.size w w' := by
  have HA : Hid (AtP w g1 ps ∧ AtP w g2 ps ∧ Below w.heap.size w w) := ⟨h1, h2, Below.refl _ w⟩
  have HN : Hid (n = ps.length) := hn
  clear h1 h2 hn
  go_enter Tryd.func12, Tryd.ntmps12
  go_wp2_with fail
  go_loopw [5] (fun i wr => ∃ k : Nat, k ≤ n ∧ i = .int .i64 (k : Int) ∧ Hid (AtP wr g1 ps ∧ AtP wr g2 ps ∧ Below w.heap.size w wr)) (fun i _ => n - (intOf i).toNat)
  case atStart => exact ⟨0, by omega, rfl, HA⟩
  case round =>
    clear HA
    obtain ⟨k, hk, rfl, HA⟩ := hrel
    by_cases hlt : k < n
    · have hkz : k < ps.length := by rw [← HN.out]; exact hlt
      have d0 := AtP.c0 HA.out.1 k hkz
      have d1 := AtP.c1 HA.out.1 k hkz
      have d2 := AtP.c2 HA.out.1 k hkz
      have e0 := AtP.c0 HA.out.2.1 k hkz
      have e1 := AtP.c1 HA.out.2.1 k hkz
      have e2 := AtP.c2 HA.out.2.1 k hkz
      have HK : Hid (k + 1 ≤ n) := hlt
      generalize ps.getD k default = p at d0 d1 d2 e0 e1 e2
      have lk : (k : Int) < (n : Int) := by omega
      clear hkz
      go_wp2_with fail
      go_region_with (go_at_call 40; refine (eqPeak1 p _).mono ?_; rintro e w1 ⟨rfl, b1⟩)
      all_goals
        have HA1 : Hid (AtP w1 g1 ps ∧ AtP w1 g2 ps ∧ Below w.heap.size w w1) := ⟨HA.out.1.drew.below b1 HA.out.1.1, HA.out.2.1.drew.below b1 HA.out.2.1.1, HA.out.2.2.drew.trans (b1.mono HA.out.2.2.size)⟩
        clear b1
        go_wp2_with fail
        go_roundw
        case rel => exact ⟨k + 1, HK.out, by go_num, HA1⟩
        case measure => have := HK.out; simp [intOf]; omega
    · go_wp2_with fail
      go_ret
      exact ⟨rfl, HA.out.2.2⟩

end Go.Proofs.YtjeldedjhlicmaaDoor
