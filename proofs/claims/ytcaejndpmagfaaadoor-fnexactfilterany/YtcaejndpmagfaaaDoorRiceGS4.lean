/-
  The specification's RiceGet.
-/
import Derived.Test.YtcaejndpmagfaaaDoorRiceGS3
import Derived.Test.YtcaejndpmagfaaaDoorRiceGM
import Derived.Test.YtcaejndpmagfaaaDoorRiceS3
set_option linter.unusedVariables false
namespace Go.Proofs.YtcaejndpmagfaaaDoor
open Go.Shelf Go.RowKit

/-- What comes back: nothing, or a row of the call's own that holds the numbers. -/
def GotRow (B : Nat) (v : Value) (w : World) : Option (List Nat) → Prop
  | none => v = .slice none 0 0
  | some l => OutRow B v l w
theorem toNat_map (l : List Nat) : (l.map fun n : Nat => (n : Int)).map Int.toNat = l := by
  rw [List.map_map]
  conv => rhs; rw [← List.map_id l]
  apply List.map_congr_left
  intro x _
  simp
theorem outRow_at {B : Nat} {g n cap : Nat} {l : List Nat} {w : World} (h : OutRow B (.slice (some ⟨g, 0, none⟩) n cap) l w) : At w g (l.map fun n : Nat => (n : Int)) := by
  obtain ⟨⟨g', cap', hv⟩, hrow⟩ := h
  simp only [Value.slice.injEq, Option.some.injEq, Addr.mk.injEq, and_true] at hv
  obtain ⟨rfl, rfl, rfl⟩ := hv
  obtain ⟨cur, hc, hlt⟩ := ownsRow_type hrow g rfl
  refine ⟨hlt, fun i hi => ?_⟩
  have hil : i < l.length := by simpa using hi
  rw [intCell_at hrow i hil]
  simp [List.getElem?_eq_getElem hil]

set_option maxHeartbeats 1000000 in
set_option maxRecDepth 100000 in
theorem specRiceGet (s : ByteArray) (many k : Int) (w : World) (hsm : s.size ≤ 1048576) :
    Calls Tryd.prog 56 #[.string s, .int .i64 many, .int .i64 k] w fun e w' => ∃ v, e = .returned (.tuple #[v, .bool (riceGet s.data.toList many k).isSome]) ∧ GotRow w.heap.size v w' (riceGet s.data.toList many k) ∧ Below w.heap.size w w' := by
  cases h1 : inB many 0 40 with
  | false =>
    have HG : Hid (riceGet s.data.toList many k = none) := riceGet_bad (by
      have : decide (0 ≤ many ∧ many ≤ 40) = false := h1
      simp only [getOk, this, Bool.false_and])
    rw [HG.out]
    go_enter Tryd.func56, Tryd.ntmps56
    go_wp2_with (go_at_call 38; refine (specIn _ _ _ _).mono ?_; rintro e w1 ⟨rfl, rfl⟩)
    go_ret2
    exact ⟨_, rfl, rfl, Below.refl _ _⟩
  | true =>
    cases h2 : inB k 0 8 with
    | false =>
      have HG : Hid (riceGet s.data.toList many k = none) := riceGet_bad (by
        have : decide (0 ≤ k ∧ k ≤ 8) = false := h2
        simp only [getOk, this, Bool.and_false, Bool.false_and])
      rw [HG.out]
      go_enter Tryd.func56, Tryd.ntmps56
      go_wp2_with (go_at_call 38; refine (specIn _ _ _ _).mono ?_; rintro e w1 ⟨rfl, rfl⟩)
      go_ret2
      exact ⟨_, rfl, rfl, Below.refl _ _⟩
    | true =>
      by_cases h3 : (600 : Int) < (s.size : Int)
      · have HG : Hid (riceGet s.data.toList many k = none) := riceGet_bad (by
          have : decide (s.data.toList.length ≤ 600) = false := decide_eq_false (by simp; omega)
          simp only [getOk, this, Bool.and_false])
        rw [HG.out]
        go_enter Tryd.func56, Tryd.ntmps56
        go_wp2_with (go_at_call 38; refine (specIn _ _ _ _).mono ?_; rintro e w1 ⟨rfl, rfl⟩)
        go_ret2
        exact ⟨_, rfl, rfl, Below.refl _ _⟩
      · have hm := of_decide_eq_true h1
        have hk := of_decide_eq_true h2
        obtain ⟨mn, rfl⟩ := Int.eq_ofNat_of_zero_le hm.1
        obtain ⟨kn, rfl⟩ := Int.eq_ofNat_of_zero_le hk.1
        have hs6 : s.size ≤ 600 := by omega
        have hok : getOk s.data.toList (mn : Int) (kn : Int) = true := by
          have e1 : decide (0 ≤ (mn : Int) ∧ (mn : Int) ≤ 40) = true := h1
          have e2 : decide (0 ≤ (kn : Int) ∧ (kn : Int) ≤ 8) = true := h2
          have e3 : decide (s.data.toList.length ≤ 600) = true := decide_eq_true (by simp; omega)
          simp only [getOk, e1, e2, e3, Bool.and_self]
        have HOK : Hid (getOk s.data.toList (mn : Int) (kn : Int) = true) := hok
        have hm40 : mn ≤ 40 := by omega
        have hk8 : kn ≤ 8 := by omega
        clear hok hm hk
        go_enter Tryd.func56, Tryd.ntmps56
        go_wp2_with (go_at_call 38; refine (specIn _ _ _ _).mono ?_; rintro e w1 ⟨rfl, rfl⟩)
        refine (specRead s mn kn _ hs6 hm40 hk8).mono ?_
        rintro e w1 ⟨⟨rfl, hno⟩ | ⟨v, out, p, rfl, hrow, hlen, hrd⟩, hb1⟩
        · have HG : Hid (riceGet s.data.toList (mn : Int) (kn : Int) = none) := riceGet_no (fun l => by simpa using hno l)
          have HB1 : Hid (Below w.heap.size w w1) := hb1
          clear hno hb1
          go_wp2_with fail
          go_ret2
          rw [HG.out]
          exact ⟨_, rfl, rfl, HB1.out⟩
        · obtain ⟨g, cap, rfl⟩ := hrow.1
          have HR : Hid (OutRow w.heap.size (.slice (some ⟨g, 0, none⟩) out.length cap) out w1) := hrow
          have HB1 : Hid (Below w.heap.size w w1) := hb1
          have HRD : Hid (ReadTo kn mn s.data.toList out p) := hrd
          have HLN : Hid (out.length = mn) := hlen
          have HAT : Hid (At w1 g (out.map fun n : Nat => (n : Int))) := outRow_at hrow
          clear hrow hb1 hrd hlen
          go_wp2_with fail
          refine (specRice g out.length cap (out.map fun n : Nat => (n : Int)) kn _ HAT.out (by simp) hk8 (by simp [HLN.out]; exact hm40) (by
            intro i hi
            have hil : i < out.length := by simpa using hi
            have := HRD.out.1 (out[i]) (List.getElem_mem hil)
            simp [List.getElem?_eq_getElem hil]
            omega)).mono ?_
          rintro e w2 ⟨rfl, hb2⟩
          rw [toNat_map]
          have HB2 : Hid (Below w.heap.size w w2) := HB1.out.trans (hb2.mono HB1.out.size)
          have HR2 : Hid (OutRow w.heap.size (.slice (some ⟨g, 0, none⟩) out.length cap) out w2) := by
            refine ⟨HR.out.1, ownsRow_keep HR.out.2 (fun g' hg' => ?_)⟩
            obtain ⟨cur, hc, hlt⟩ := ownsRow_type HR.out.2 g' hg'
            exact hb2.block g' hlt
          clear hb2
          by_cases he : riceB kn out = s.data.toList
          · have HG : Hid (riceGet s.data.toList (mn : Int) (kn : Int) = some out) := riceGet_yes HOK.out ⟨HLN.out, HRD.out.1, he⟩
            go_wp2_with fail
            go_ret2
            rw [HG.out]
            exact ⟨_, rfl, HR2.out, HB2.out⟩
          · have HG : Hid (riceGet s.data.toList (mn : Int) (kn : Int) = none) := riceGet_no (fun l hl => by
              have hl' : Writes kn mn s.data.toList l := hl
              have h1 := (HRD.out.2 l hl').1
              rw [HLN.out, ← hl'.1, List.take_length] at h1
              exact he (by rw [← h1]; exact hl'.2.2))
            have hne : (riceB kn out == s.toList) = false := by
              rw [ByteArray.toList_eq]
              simpa using he
            clear he
            go_wp2_with fail
            go_ret2
            rw [HG.out]
            exact ⟨_, rfl, rfl, HB2.out⟩

end Go.Proofs.YtcaejndpmagfaaaDoor
