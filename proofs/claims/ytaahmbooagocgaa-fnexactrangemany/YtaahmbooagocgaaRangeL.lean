/-
  A list of peaks opened; the laws on RangeOk and RangeMany.
-/
import Derived.Test.YtaahmbooagocgaaRangeS
import Derived.Test.YtaahmbooagocgaaOpenM
import Derived.ProofKit
import Derived.OpenShut
import Derived.ShutString
import Derived.ChangeOld
set_option linter.unusedVariables false
namespace Go.Proofs.Ytaahmbooagocgaa
open Go.ChangeShapes Go.WideShapes Go.ChangeAt Go.RowKit Go.Deep

theorem partsPeak {cs : List Value} {a0 a1 a2 : Value} (hl : cs.length = 3) (h0 : (cs.drop 0).take 1 = [a0]) (h1 : (cs.drop 1).take 1 = [a1]) (h2 : (cs.drop 2).take 1 = [a2]) : cs = [a0, a1, a2] := by
  match cs, hl with
  | [x0, x1, x2], _ =>
    simp at h0 h1 h2
    subst h0 h1 h2
    rfl
theorem oneP_i : Try.prog.cellsOf 3 = 1 := by kernel_rfl
theorem oneP_s : Try.prog.cellsOf 9 = 1 := by kernel_rfl
theorem sizeLPeak : Try.prog.cellsOf 33 = 3 := by kernel_rfl
set_option maxRecDepth 100000 in
theorem invPeak {H : Type} {enc : TypeId × Value → H} {W : World} {base : Nat} {sp : Nat → Bool} {held : Bool} (n : Nat) (cs : List Value) (y : DataW H × List MemPlace) (h : DataW.trod enc Try.prog W base sp held n 33 cs = some y) (hl : cs.length = 3) : ∃ v : PeakV, cs = pEnc v ∧ v.sum.size ≤ maxLen := by
  obtain ⟨xs, n, _, _, _, hlen, hx⟩ := DataW.trod_struct Try.underlying33 h
  match xs, hlen with
  | [y0, y1, y2], _ =>
    have g0 := hx 0 _ rfl
    have g1 := hx 1 _ rfl
    have g2 := hx 2 _ rfl
    obtain ⟨s0, e0, _, z0⟩ := DataW.trod_string Try.underlying9 g0
    replace e0 : (cs.drop 0).take (Try.prog.cellsOf 9) = [_] := e0
    rw [oneP_s] at e0
    obtain ⟨s1, e1, _, z1⟩ := DataW.trod_int Try.underlying3 g1
    replace e1 : (cs.drop 1).take (Try.prog.cellsOf 3) = [_] := e1
    rw [oneP_i] at e1
    obtain ⟨s2, e2, _, z2⟩ := DataW.trod_int Try.underlying3 g2
    replace e2 : (cs.drop 2).take (Try.prog.cellsOf 3) = [_] := e2
    rw [oneP_i] at e2
    exact ⟨⟨s0, s1, s2⟩, partsPeak hl e0 e1 e2, z0⟩
theorem open_peaks {H : Type} {enc : TypeId × Value → H} {W : World} {base : Nat} {sp : Nat → Bool} {held : Bool} {a : Option Addr} {len cap : Nat} {d : DataW H} {p : List MemPlace} (h : DataW.Trod enc Try.prog W base sp held 22 (.slice a len cap) d p) : ∃ l : List PeakV, IsPeaks W a len cap l := by
  obtain ⟨l, hl⟩ := open_flat (α := PeakV) pEnc (fun v => v.sum.size ≤ maxLen) Try.underlying22 sizeLPeak (fun n cs y h1 h2 => invPeak n cs y h1 h2) h
  refine ⟨l, ?_⟩
  rcases hl with h0 | ⟨x, hx, h1, h2, h3, h4, h5⟩
  · exact .inl h0
  · refine .inr ⟨x, hx, h1, h2, h3, fun i hi => ⟨h4 i 0 hi (by decide), h4 i 1 hi (by decide), h4 i 2 hi (by decide)⟩, ?_⟩
    intro p hp
    obtain ⟨i, hi, rfl⟩ := List.mem_iff_getElem.1 hp
    have := h5 i (by omega)
    rwa [List.getD_eq_getElem?_getD, List.getElem?_eq_getElem hi] at this

set_option maxHeartbeats 1000000 in
set_option maxRecDepth 100000 in
theorem specRangeOk (g n cap : Nat) (ps : List PeakV) (w : World) (h : AtP w g ps) (hn : n = ps.length) (hm : n ≤ 1073741824) (hz : ∀ i, i < ps.length → (ps.getD i default).sum.size ≤ maxLen) :
    Calls Try.prog 6 #[.slice (some ⟨g, 0, none⟩) n cap] w fun e w' => e = .returned (.bool (rangeOkB ps)) ∧ Below w.heap.size w w' := by
  have hs := specL5Ok g n cap ps w h hn hm hz
  generalize rangeOkB ps = b at hs ⊢
  clear h hz hn
  go_enter Try.func6, Try.ntmps6
  go_wp2_with fail
  refine hs.mono ?_
  rintro e w1 ⟨rfl, b1⟩
  go_wp2_with fail
  go_ret
  exact ⟨rfl, b1⟩

set_option maxHeartbeats 1000000 in
set_option maxRecDepth 100000 in
theorem walk_FnExactRangeOk (a : Option Addr) (len cap : Nat) (ps : List PeakV) (w : World) (h : IsPeaks w a len cap ps) :
    Calls Try.prog 3 #[.slice a len cap] w fun e w' => e = .returned (.bool true) ∧ Below w.heap.size w w' := by
  have H0 : Hid (IsPeaks w a len cap ps) := h
  have HLn : Hid (len = ps.length) := h.len.symm
  clear h
  go_enter Try.func3, Try.ntmps3
  go_wp2_with fail
  refine (szPeaks a len cap ps w H0.out).mono ?_
  rintro e w0 ⟨b0, rfl | ⟨r, rfl, hl3, hsm⟩⟩
  · go_wp2_with fail
    go_ret
    exact ⟨rfl, b0⟩
  have HZ : Hid (∀ i, i < ps.length → (ps.getD i default).sum.size ≤ maxLen) := by
    intro i hi
    have := hsm i (by rw [HLn.out]; exact hi)
    unfold maxLen
    omega
  clear hsm
  have hl4 : len ≤ 1073741824 := by omega
  have hr0 : ¬ (r : Int) < 0 := by omega
  go_wp2_with fail
  refine (toPeaks a len cap ps _ w H0.out b0 hl3).mono ?_
  rintro e w1 ⟨rfl, r1, b1⟩
  have HB1 : Hid (Below w.heap.size w w1) := b0.trans (b1.mono b0.size)
  go_wp2_with fail
  refine (specRangeOk w0.heap.size len len ps _ (r1.at 3 pEnc_len) HLn.out hl4 HZ.out).mono ?_
  rintro e w2 ⟨rfl, b2⟩
  have HB2 : Hid (Below w.heap.size w w2) := HB1.out.trans (b2.mono HB1.out.size)
  clear r1 b1 b2 b0 HB1
  have HI : Hid (∀ w', AtP w' w2.heap.size ps → Calls Try.prog 8 #[.slice (some ⟨w2.heap.size, 0, none⟩) len len] w' fun e w'' => e = .returned (.bool (rangeOkB ps)) ∧ Below w'.heap.size w' w'') := fun w' h1 => implRangeOk w2.heap.size len len ps w' h1 HLn.out hl4
  generalize rangeOkB ps = R at HI ⊢
  go_wp2_with fail
  refine (toPeaks a len cap ps _ w H0.out HB2.out hl3).mono ?_
  rintro e w3 ⟨rfl, r3, b3⟩
  have HR3 : Hid (RowP w3 w2.heap.size ps) := r3
  have HB3 : Hid (Below w.heap.size w w3) := HB2.out.trans (b3.mono HB2.out.size)
  clear r3 b3
  go_wp2_with fail
  refine (HI.out _ (HR3.out.at 3 pEnc_len)).mono ?_
  rintro e w4 ⟨rfl, b4⟩
  have HR4 : Hid (RowP w4 w2.heap.size ps) := HR3.out.below b4 HR3.out.lt
  have HB4 : Hid (Below w.heap.size w w4) := HB3.out.trans (b4.mono HB3.out.size)
  clear b4 HI
  cases R <;>
  · go_wp2_with fail
    refine (toPeaks a len cap ps _ w H0.out HB4.out hl3).mono ?_
    rintro e w5 ⟨rfl, r5, b5⟩
    have HR5 : Hid (RowP w5 w4.heap.size ps) := r5
    have HR45 : Hid (RowP w5 w2.heap.size ps) := HR4.out.below b5 HR4.out.lt
    have HB5 : Hid (Below w.heap.size w w5) := HB4.out.trans (b5.mono HB4.out.size)
    clear r5 b5
    go_wp2_with fail
    refine (eqPeaks w2.heap.size w4.heap.size len len len ps _ (HR45.out.at 3 pEnc_len) (HR5.out.at 3 pEnc_len) HLn.out hl4).mono ?_
    rintro e w6 ⟨rfl, b6⟩
    go_wp2_with fail
    go_ret
    exact ⟨rfl, HB5.out.trans (b6.mono HB5.out.size)⟩

end Go.Proofs.Ytaahmbooagocgaa
