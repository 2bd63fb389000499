/-
  The program's RiceGet.
-/
import Derived.Test.YtcaejndpmagfaaaDoorRiceGI5
import Derived.Test.YtcaejndpmagfaaaDoorRiceGS4
import Derived.Test.YtcaejndpmagfaaaDoorRiceI4
set_option linter.unusedVariables false
namespace Go.Proofs.YtcaejndpmagfaaaDoor
open Go.Shelf Go.RowKit

theorem put_writes {kn mn : Nat} {o : List UInt8} {out : List Nat} (hk : kn ≤ 8) (hm : mn ≤ 40) (hl : out.length = mn) (hr : readT kn mn (unpack o) (0, false, 0) [] = out) :
    ricePut (out.map fun n : Nat => (n : Int)) (kn : Int) = o ↔ Writes kn mn o out := by
  constructor
  · intro h
    cases hk2 : riceOkB (out.map fun n : Nat => (n : Int)) (kn : Int) with
    | true =>
      rw [ricePut_yes hk2, toNat_map, Int.toNat_natCast] at h
      refine ⟨hl, ?_, h⟩
      intro x hx
      obtain ⟨i, hi, rfl⟩ := List.mem_iff_getElem.1 hx
      have := riceOk_at hk2 i (by simpa using hi)
      rw [List.getD_eq_getElem?_getD, List.getElem?_map, List.getElem?_eq_getElem hi] at this
      simp at this
      omega
    | false =>
      rw [ricePut_no hk2] at h
      subst h
      have e : out = [] := by rw [← hr]; rfl
      subst e
      rw [riceOk_yes (by simp) (by omega) (by simp)] at hk2
      cases hk2
  · rintro ⟨h1, h2, h3⟩
    rw [ricePut_yes (riceOk_yes (by simp; omega) (by omega) ?_), toNat_map, Int.toNat_natCast]
    · exact h3
    · intro i hi
      have hil : i < out.length := by simpa using hi
      have := h2 (out[i]) (List.getElem_mem hil)
      rw [List.getD_eq_getElem?_getD, List.getElem?_map, List.getElem?_eq_getElem hil]
      simp
      omega

set_option maxHeartbeats 1000000 in
set_option maxRecDepth 100000 in
theorem implRiceGet (s : ByteArray) (many k : Int) (w : World) :
    Calls Tryd.prog 33 #[.string s, .int .i64 many, .int .i64 k] w fun e w' => ∃ v, e = .returned (.tuple #[v, .bool (riceGet s.data.toList many k).isSome]) ∧ GotRow w.heap.size v w' (riceGet s.data.toList many k) ∧ Below w.heap.size w w' := by
  cases hok : getOk s.data.toList many k with
  | false =>
    have HG : Hid (riceGet s.data.toList many k = none) := riceGet_bad hok
    rw [HG.out]
    by_cases h1 : (600 : Int) < (s.size : Int)
    · clear hok
      go_enter Tryd.func33, Tryd.ntmps33
      go_wp2_with fail
      go_ret2
      exact ⟨_, rfl, rfl, Below.refl _ _⟩
    · by_cases h2 : many < 0
      · clear hok
        go_enter Tryd.func33, Tryd.ntmps33
        go_wp2_with fail
        go_ret2
        exact ⟨_, rfl, rfl, Below.refl _ _⟩
      · by_cases h3 : (40 : Int) < many
        · clear hok
          go_enter Tryd.func33, Tryd.ntmps33
          go_wp2_with fail
          go_ret2
          exact ⟨_, rfl, rfl, Below.refl _ _⟩
        · have h4 : bitsOk k = false := by
            cases hb : bitsOk k with
            | false => rfl
            | true =>
              have e1 : decide (0 ≤ many ∧ many ≤ 40) = true := decide_eq_true (by omega)
              have e2 : decide (0 ≤ k ∧ k ≤ 8) = true := hb
              have e3 : decide (s.data.toList.length ≤ 600) = true := decide_eq_true (by simp; omega)
              simp only [getOk, e1, e2, e3, Bool.and_self] at hok
              cases hok
          clear hok
          go_enter Tryd.func33, Tryd.ntmps33
          go_wp2_with (go_at_call 48; refine (bitsOkI _ _).mono ?_; rintro e w1 ⟨rfl, rfl⟩)
          go_ret2
          exact ⟨_, rfl, rfl, Below.refl _ _⟩
  | true =>
    have hok2 := hok
    simp only [getOk, Bool.and_eq_true, decide_eq_true_eq] at hok2
    obtain ⟨⟨⟨hm0, hm40⟩, hk0, hk8⟩, hs6⟩ := hok2
    have hb : bitsOk k = true := decide_eq_true ⟨hk0, hk8⟩
    have HOK : Hid (getOk s.data.toList many k = true) := hok
    have hs6' : s.size ≤ 600 := by simpa using hs6
    obtain ⟨mn, rfl⟩ := Int.eq_ofNat_of_zero_le hm0
    obtain ⟨kn, rfl⟩ := Int.eq_ofNat_of_zero_le hk0
    have hm2 : mn ≤ 40 := by omega
    have hk2 : kn ≤ 8 := by omega
    have h1 : ¬ (600 : Int) < (s.size : Int) := by omega
    have h2 : ¬ (mn : Int) < 0 := by omega
    have h3 : ¬ (40 : Int) < (mn : Int) := by omega
    clear hok hs6
    go_enter Tryd.func33, Tryd.ntmps33
    go_wp2_with first
      | (go_at_call 48; refine (bitsOkI _ _).mono ?_; rintro e w1 ⟨rfl, rfl⟩)
    refine (implNumbers s mn kn _ hs6' hm2 hk2).mono ?_
    rintro e w1 ⟨v, rfl, hrow, hb1⟩
    obtain ⟨out, hout⟩ : ∃ out, readT kn mn (unpack s.data.toList) (0, false, 0) [] = out := ⟨_, rfl⟩
    rw [hout] at hrow
    obtain ⟨g, cap, rfl⟩ := hrow.1
    have HR : Hid (OutRow w.heap.size (.slice (some ⟨g, 0, none⟩) out.length cap) out w1) := hrow
    have HB1 : Hid (Below w.heap.size w w1) := hb1
    have HO : Hid (readT kn mn (unpack s.data.toList) (0, false, 0) [] = out) := hout
    clear hrow hb1 hout
    by_cases hl : out.length = mn
    · have hq : ((out.length : Nat) : Int) = ((mn : Nat) : Int) := by omega
      have HL : Hid (out.length = mn) := hl
      have HAT : Hid (At w1 g (out.map fun n : Nat => (n : Int))) := outRow_at HR.out
      clear hl
      have HPW := put_writes hk2 hm2 HL.out HO.out
      obtain ⟨pt, hpt⟩ : ∃ pt, ricePut (out.map fun n : Nat => (n : Int)) (kn : Int) = pt := ⟨_, rfl⟩
      have hput := implRicePut g out.length cap (out.map fun n : Nat => (n : Int)) (kn : Int) w1 HAT.out (by simp)
      rw [hpt] at hput HPW
      have HW : Hid (pt = s.data.toList ↔ Writes kn mn s.data.toList out) := HPW
      clear HPW hpt
      by_cases he : pt = s.data.toList
      · have hee : (pt == s.toList) = true := by rw [ByteArray.toList_eq]; simpa using he
        have HG : Hid (riceGet s.data.toList (mn : Int) (kn : Int) = some out) := riceGet_yes HOK.out (HW.out.1 he)
        clear he
        go_wp2_with (go_at_call 50; refine hput.mono ?_; rintro e w2 ⟨rfl, hb2⟩)
        go_ret2
        rw [HG.out]
        refine ⟨_, rfl, ⟨HR.out.1, ownsRow_keep HR.out.2 (fun g' hg' => ?_)⟩, HB1.out.trans (hb2.mono HB1.out.size)⟩
        obtain ⟨cur, hc, hlt⟩ := ownsRow_type HR.out.2 g' hg'
        exact hb2.block g' hlt
      · have hee : (pt == s.toList) = false := by rw [ByteArray.toList_eq]; simpa using he
        have HG : Hid (riceGet s.data.toList (mn : Int) (kn : Int) = none) := riceGet_no (fun l hl' => by
          have hl2 : Writes kn mn s.data.toList l := hl'
          have h1 := writes_one hl2
          rw [HO.out] at h1
          subst h1
          exact he (HW.out.2 hl2))
        clear he
        go_wp2_with (go_at_call 50; refine hput.mono ?_; rintro e w2 ⟨rfl, hb2⟩)
        go_ret2
        rw [HG.out]
        exact ⟨_, rfl, rfl, HB1.out.trans (hb2.mono HB1.out.size)⟩
    · have hq : ¬ ((out.length : Nat) : Int) = ((mn : Nat) : Int) := by omega
      have HG : Hid (riceGet s.data.toList (mn : Int) (kn : Int) = none) := riceGet_no (fun l hl' => by
        have hl2 : Writes kn mn s.data.toList l := hl'
        have := writes_one hl2
        rw [HO.out] at this
        subst this
        exact hl hl2.1)
      clear hl
      go_wp2_with fail
      go_ret2
      rw [HG.out]
      exact ⟨_, rfl, rfl, HB1.out⟩

end Go.Proofs.YtcaejndpmagfaaaDoor
