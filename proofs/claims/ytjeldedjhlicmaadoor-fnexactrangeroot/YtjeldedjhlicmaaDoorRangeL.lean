/-
  A list of peaks opened; the laws on RangeOk and RangeMany.
-/
import Derived.Test.YtjeldedjhlicmaaDoorRangeS
import Derived.Test.YtjeldedjhlicmaaDoorOpenM
import Derived.ProofKit
import Derived.OpenShut
import Derived.ShutString
import Derived.ChangeOld
set_option linter.unusedVariables false
namespace Go.Proofs.YtjeldedjhlicmaaDoor
open Go.ChangeShapes Go.WideShapes Go.ChangeAt Go.RowKit Go.Deep

theorem partsPeak {cs : List Value} {a0 a1 a2 : Value} (hl : cs.length = 3) (h0 : (cs.drop 0).take 1 = [a0]) (h1 : (cs.drop 1).take 1 = [a1]) (h2 : (cs.drop 2).take 1 = [a2]) : cs = [a0, a1, a2] := by
  match cs, hl with
  | [x0, x1, x2], _ =>
    simp at h0 h1 h2
    subst h0 h1 h2
    rfl
theorem oneP_i : Tryd.prog.cellsOf 3 = 1 := by kernel_rfl
theorem oneP_s : Tryd.prog.cellsOf 9 = 1 := by kernel_rfl
theorem sizeLPeak : Tryd.prog.cellsOf 72 = 3 := by kernel_rfl
set_option maxRecDepth 100000 in
theorem invPeak {H : Type} {enc : TypeId × Value → H} {W : World} {base : Nat} {sp : Nat → Bool} {held : Bool} (n : Nat) (cs : List Value) (y : DataW H × List MemPlace) (h : DataW.trod enc Tryd.prog W base sp held n 72 cs = some y) (hl : cs.length = 3) : ∃ v : PeakV, cs = pEnc v ∧ v.sum.size ≤ maxLen := by
  obtain ⟨xs, n, _, _, _, hlen, hx⟩ := DataW.trod_struct Tryd.underlying72 h
  match xs, hlen with
  | [y0, y1, y2], _ =>
    have g0 := hx 0 _ rfl
    have g1 := hx 1 _ rfl
    have g2 := hx 2 _ rfl
    obtain ⟨s0, e0, _, z0⟩ := DataW.trod_string Tryd.underlying9 g0
    replace e0 : (cs.drop 0).take (Tryd.prog.cellsOf 9) = [_] := e0
    rw [oneP_s] at e0
    obtain ⟨s1, e1, _, z1⟩ := DataW.trod_int Tryd.underlying3 g1
    replace e1 : (cs.drop 1).take (Tryd.prog.cellsOf 3) = [_] := e1
    rw [oneP_i] at e1
    obtain ⟨s2, e2, _, z2⟩ := DataW.trod_int Tryd.underlying3 g2
    replace e2 : (cs.drop 2).take (Tryd.prog.cellsOf 3) = [_] := e2
    rw [oneP_i] at e2
    exact ⟨⟨s0, s1, s2⟩, partsPeak hl e0 e1 e2, z0⟩
theorem open_peaks {H : Type} {enc : TypeId × Value → H} {W : World} {base : Nat} {sp : Nat → Bool} {held : Bool} {a : Option Addr} {len cap : Nat} {d : DataW H} {p : List MemPlace} (h : DataW.Trod enc Tryd.prog W base sp held 33 (.slice a len cap) d p) : ∃ l : List PeakV, IsPeaks W a len cap l := by
  obtain ⟨l, hl⟩ := open_flat (α := PeakV) pEnc (fun v => v.sum.size ≤ maxLen) Tryd.underlying33 sizeLPeak (fun n cs y h1 h2 => invPeak n cs y h1 h2) h
  refine ⟨l, ?_⟩
  rcases hl with h0 | ⟨x, hx, h1, h2, h3, h4, h5⟩
  · exact .inl h0
  · refine .inr ⟨x, hx, h1, h2, h3, fun i hi => ⟨h4 i 0 hi (by decide), h4 i 1 hi (by decide), h4 i 2 hi (by decide)⟩, ?_⟩
    intro p hp
    obtain ⟨i, hi, rfl⟩ := List.mem_iff_getElem.1 hp
    have := h5 i (by omega)
    rwa [List.getD_eq_getElem?_getD, List.getElem?_eq_getElem hi] at this

end Go.Proofs.YtjeldedjhlicmaaDoor
