/-
  The specification's reading of numbers: the walk.
-/
import Derived.Test.YtcaejndpmagfaaaDoorRiceGS2
import Derived.OwnWalk
set_option linter.unusedVariables false
namespace Go.Proofs.YtcaejndpmagfaaaDoor
open Go.Shelf Go.RowKit

/-- What has been read: so many numbers, and for every list that is written just so: its first ones, and its next place. -/
def ReadTo (k many : Nat) (o : List UInt8) (out : List Nat) (p : Nat) : Prop :=
  (∀ x ∈ out, x ≤ 60000) ∧ ∀ l, Writes k many o l → l.take out.length = out ∧ placeOf k l out.length = p
def OutRow (B : Nat) (v : Value) (out : List Nat) (w : World) : Prop := (∃ g cap, v = .slice (some ⟨g, 0, none⟩) out.length cap) ∧ w.ownsRow B 3 1 v out.length (intCells out)

def sliceLen : Value → Nat
  | .slice _ n _ => n
  | _ => 0
theorem newRow (w : World) : OutRow w.heap.size (.slice (some ⟨w.heap.size, 0, none⟩) 0 0) [] (w.alloc (.cells #[] 3)) :=
  ⟨⟨_, _, rfl⟩, rfl, .inr ⟨_, _, #[], rfl, Nat.le_refl _, heap_alloc_new w _, Nat.le_refl _, by unfold maxLen; omega, rfl, rfl⟩⟩
theorem readTo_start (k many : Nat) (o : List UInt8) : ReadTo k many o [] 0 :=
  ⟨by simp, fun l _ => ⟨by simp, by simp [placeOf_zero]⟩⟩
theorem bitAt_nonneg {o : List UInt8} {p : Nat} (h : p < 8 * o.length) : 0 ≤ bitAt o p := by rw [bitAt_in h]; omega
theorem readTo_none {k many : Nat} {o : List UInt8} {out : List Nat} {p m : Nat} {v : Int} (h : ReadTo k many o out p) (hj : out.length < many) (hv : ∀ l, Writes k many o l → v = ((l.getD out.length 0 : Nat) : Int) ∧ m = placeOf k l (out.length + 1)) (hbad : 8 * o.length < m ∨ 60000 < v) : ∀ l, ¬ Writes k many o l := by
  intro l hl
  obtain ⟨h1, h2⟩ := hv l hl
  have hjl : out.length < l.length := by rw [hl.1]; exact hj
  rcases hbad with hb | hb
  · have hn := numB_length k (l.getD out.length 0)
    have hpos : 0 < (numB k (l.getD out.length 0)).length := by rw [hn]; exact Nat.add_pos_left (Nat.succ_pos _) _
    have h3 := (num_at hl out.length hj ((numB k (l.getD out.length 0)).length - 1) (Nat.sub_lt hpos Nat.one_pos)).1
    rw [placeOf_succ k l out.length hjl] at h2
    generalize (numB k (l.getD out.length 0)).length = N at *
    omega
  · have h3 : l.getD out.length 0 ≤ 60000 := by
      refine hl.2.1 _ ?_
      simp [List.getElem?_eq_getElem hjl]
    omega
theorem readTo_next {k many : Nat} {o : List UInt8} {out : List Nat} {p m vn : Nat} (h : ReadTo k many o out p) (hj : out.length < many) (hv : ∀ l, Writes k many o l → (vn : Int) = ((l.getD out.length 0 : Nat) : Int) ∧ m = placeOf k l (out.length + 1)) (hs : vn ≤ 60000) : ReadTo k many o (out ++ [vn]) m := by
  refine ⟨?_, ?_⟩
  · intro x hx
    rcases List.mem_append.1 hx with hx | hx
    · exact h.1 x hx
    · simp at hx; omega
  · intro l hl
    obtain ⟨h1, h2⟩ := hv l hl
    have hjl : out.length < l.length := by rw [hl.1]; exact hj
    refine ⟨?_, by rw [List.length_append]; exact h2.symm⟩
    rw [List.length_append, List.length_singleton, List.take_add_one, (h.2 l hl).1, List.getElem?_eq_getElem hjl]
    have e : l.getD out.length 0 = l[out.length] := by rw [List.getD_eq_getElem?_getD, List.getElem?_eq_getElem hjl]; rfl
    rw [e] at h1
    have : vn = l[out.length] := by omega
    simp [this]

set_option maxHeartbeats 1000000 in
set_option maxRecDepth 100000 in
theorem specRead (s : ByteArray) (many k : Nat) (w : World) (hs : s.size ≤ 600) (hm : many ≤ 40) (hk : k ≤ 8) :
    Calls Tryd.prog 75 #[.string s, .int .i64 (many : Int), .int .i64 (k : Int)] w fun e w' =>
      ((e = .returned (.tuple #[.slice none 0 0, .int .i64 (-1)]) ∧ ∀ l, ¬ Writes k many s.data.toList l) ∨
       ∃ (v : Value) (out : List Nat) (p : Nat), e = .returned (.tuple #[v, .int .i64 (p : Int)]) ∧ OutRow w.heap.size v out w' ∧ out.length = many ∧ ReadTo k many s.data.toList out p) ∧ Below w.heap.size w w' := by
  obtain ⟨i1, hi1, hz1, hz2, hz3⟩ := info_parts infoIntB
  have HW0 : Hid (OutRow w.heap.size (.slice (some ⟨w.heap.size, 0, none⟩) 0 0) [] (w.alloc (.cells #[] 3))) := newRow w
  have HB0 : Hid (Below w.heap.size w (w.alloc (.cells #[] 3))) := (Below.refl _ w).alloc (Nat.le_refl _) _
  have ho : s.data.toList.length = s.size := by simp
  obtain ⟨S8, hS8⟩ : ∃ S8 : Nat, S8 = 8 * s.size := ⟨_, rfl⟩
  have hS : S8 ≤ 4800 := by omega
  have HS8 : Hid (8 * s.data.toList.length = S8) := by show _ = _; rw [ho, hS8]
  have rS : (s.size : Int) * 8 = (S8 : Int) := by omega
  have HBI : Hid (∀ q, Calls Tryd.prog 89 #[.string s, .int .i64 ((q : Nat) : Int)] w (fun e w' => True) → True) := fun _ _ => trivial
  clear HBI ho hS8
  go_enter Tryd.func75, Tryd.ntmps75
  go_wp2_with fail
  go_loopw [8, 9] (fun v a wr => ∃ (out : List Nat) (p : Nat), out.length ≤ many ∧ p ≤ S8 ∧ a = .int .i64 (p : Int) ∧ Hid (OutRow w.heap.size v out wr) ∧ Hid (ReadTo k many s.data.toList out p) ∧ Hid (Below w.heap.size w wr)) (fun v _ _ => many - sliceLen v)
  case atStart => exact ⟨[], 0, by simp, by omega, rfl, HW0, readTo_start _ _ _, HB0⟩
  case round =>
    clear HW0 HB0
    obtain ⟨out, p, hol, hp, rfl, HR, HT, HB⟩ := hrel
    obtain ⟨⟨g, cap, rfl⟩, hrow⟩ := HR.out
    obtain ⟨j, hj⟩ : ∃ j, j = out.length := ⟨_, rfl⟩
    have HJ : Hid (j = out.length) := hj
    rw [← hj] at hol HR hrow ⊢
    by_cases hlt : j < many
    · have hcl : (j : Int) < (many : Int) := by omega
      clear hj hrow
      go_wp2_with fail
      go_loop [9, 10] (fun a x => ∃ n m : Nat, m ≤ S8 ∧ a = .int .i64 (m : Int) ∧ x = .int .i64 (n : Int) ∧ n ≤ S8 ∧ Hid (m = p + n) ∧ Hid (∀ q, q < n → bitAt s.data.toList (p + q) = 1)) (fun a _ => S8 + 1 - (intOf a).toNat)
      case atStart => exact ⟨0, p, hp, rfl, rfl, by omega, rfl, fun q hq => by omega⟩
      case round =>
        obtain ⟨n, m, hm8, rfl, rfl, hn8, HM, HA⟩ := hrel
        have hm6 : m ≤ 1000000 := by omega
        by_cases hb1 : bitAt s.data.toList m = 1
        · have hmS : m < S8 := by
            rcases Nat.lt_or_ge m S8 with h' | h'
            · exact h'
            · rw [bitAt_out (by rw [HS8.out]; omega)] at hb1
              cases hb1
          have HA2 : Hid (∀ q, q < n + 1 → bitAt s.data.toList (p + q) = 1) := by
            intro q hq
            rcases Nat.lt_or_ge q n with h' | h'
            · exact HA.out q h'
            · rw [show q = n from by omega, ← HM.out]; exact hb1
          have HMS : Hid (m < S8 ∧ n < S8) := ⟨hmS, by have := HM.out; omega⟩
          go_wp2_with (go_at_call 89; refine (specBit s m _ hs hm6).mono ?_; rintro e w1 ⟨rfl, rfl⟩)
          go_round
          case rel => exact ⟨n + 1, m + 1, HMS.out.1, by go_num, by go_num, HMS.out.2, by show _ = _; have := HM.out; omega, HA2⟩
          case measure => have := HMS.out.1; simp [intOf]; omega
        · have hbf : (bitAt s.data.toList m == 1) = false := by simpa using hb1
          have HNE : Hid (bitAt s.data.toList (p + n) ≠ 1) := by show _ ≠ _; rw [← HM.out]; exact hb1
          clear hb1
          go_wp2_with (go_at_call 89; refine (specBit s m _ hs hm6).mono ?_; rintro e w1 ⟨rfl, rfl⟩)
          have HPL : Hid (∀ l, Writes k many s.data.toList l → placeOf k l j = p) := fun l hl => by rw [HJ.out]; exact (HT.out.2 l hl).2
          have HN1 : Hid (∀ l, Writes k many s.data.toList l → n = l.getD j 0 / 2 ^ k) := by
            intro l hl
            have e := HPL.out l hl
            exact ones_end hl j hlt n (fun q hq => by rw [e]; exact HA.out q hq) (by rw [e]; exact HNE.out)
          go_loop [9, 10, 11] (fun a x i => ∃ (t m2 P : Nat) (v : Int), t ≤ k ∧ m2 ≤ 4900 ∧ P ≤ 256 ∧ a = .int .i64 (m2 : Int) ∧ x = .int .i64 v ∧ i = .int .i64 (t : Int) ∧ 1 - (P : Int) ≤ v ∧ v ≤ 5000 * (P : Int) - 1 ∧ Hid (m2 = p + n + 1 + t) ∧ Hid (P = 2 ^ t) ∧ Hid (m2 ≤ S8 → 0 ≤ v) ∧ Hid (∀ l, Writes k many s.data.toList l → v = ((l.getD j 0 / 2 ^ (k - t) : Nat) : Int))) (fun _ _ i => k - (intOf i).toNat)
          case atStart => exact ⟨0, m + 1, 1, (n : Int), by omega, by omega, by omega, by go_num, rfl, rfl, by omega, by omega, by show _ = _; have := HM.out; omega, rfl, fun _ => by omega, fun l hl => by rw [HN1.out l hl]; rfl⟩
          case round =>
            obtain ⟨t, m2, P, v, ht, hm2, hP, rfl, rfl, rfl, hv1, hv2, HM2, HP, HV0, HV⟩ := hrel
            have hm26 : m2 ≤ 1000000 := by omega
            by_cases htk : t < k
            · have hbr := bitAt_range s.data.toList m2
              have HTK : Hid (t + 1 ≤ k ∧ m2 + 1 ≤ 4900) := by
                have := HM2.out
                have := HM.out
                exact ⟨htk, by omega⟩
              have HP2 : Hid (2 * P = 2 ^ (t + 1)) := by show _ = _; rw [HP.out, Nat.pow_succ]; omega
              have HP3 : Hid (2 * P ≤ 256) := by
                show _ ≤ _
                rw [HP2.out]
                exact Nat.pow_le_pow_right (n := 2) (by decide) (show t + 1 ≤ 8 by omega)
              have HV2 : Hid (∀ l, Writes k many s.data.toList l → v * 2 + bitAt s.data.toList m2 = ((l.getD j 0 / 2 ^ (k - (t + 1)) : Nat) : Int)) := by
                intro l hl
                have := low_step hl j hlt t htk v (HV.out l hl)
                rw [HPL.out l hl, ← HN1.out l hl, ← HM2.out] at this
                exact this
              have HV3 : Hid (m2 + 1 ≤ S8 → 0 ≤ v * 2 + bitAt s.data.toList m2) := by
                intro h
                have h1 := HV0.out (by omega)
                have h2 := bitAt_nonneg (o := s.data.toList) (p := m2) (by rw [HS8.out]; omega)
                omega
              have hnext : 1 - ((2 * P : Nat) : Int) ≤ v * 2 + bitAt s.data.toList m2 ∧ v * 2 + bitAt s.data.toList m2 ≤ 5000 * ((2 * P : Nat) : Int) - 1 := by omega
              generalize hbb : bitAt s.data.toList m2 = bt at hbr HV2 HV3 hnext
              have HBB : Hid (bitAt s.data.toList m2 = bt) := hbb
              clear hbb
              go_wp2_with (go_at_call 89; refine (specBit s m2 _ hs hm26).mono ?_; rw [HBB.out]; rintro e w1 ⟨rfl, rfl⟩)
              go_round
              case rel => exact ⟨t + 1, m2 + 1, 2 * P, v * 2 + bt, HTK.out.1, HTK.out.2, HP3.out, by go_num, by go_num, by go_num, hnext.1, hnext.2, by show _ = _; have := HM2.out; omega, HP2, HV3, HV2⟩
              case measure => have := HTK.out.1; simp [intOf]; omega
            · have HVE : Hid (∀ l, Writes k many s.data.toList l → v = ((l.getD out.length 0 : Nat) : Int) ∧ m2 = placeOf k l (out.length + 1)) := by
                intro l hl
                have h1 := HV.out l hl
                have hjl : out.length < l.length := by rw [hl.1, ← HJ.out]; exact hlt
                rw [show k - t = 0 from by omega] at h1
                refine ⟨by rw [h1, ← HJ.out]; simp, ?_⟩
                rw [placeOf_succ k l out.length hjl, numB_length, ← HJ.out, HPL.out l hl, ← HN1.out l hl, HM2.out]
                omega
              have HJM : Hid (out.length < many) := by show _ < _; rw [← HJ.out]; exact hlt
              by_cases hbad : S8 < m2 ∨ 60000 < v
              · have HNO : Hid (∀ l, ¬ Writes k many s.data.toList l) := readTo_none HT.out HJM.out HVE.out (by rw [HS8.out]; exact hbad)
                by_cases hb2 : (S8 : Int) < (m2 : Int)
                · go_wp2_with fail
                  go_ret2
                  exact ⟨.inl ⟨rfl, HNO.out⟩, HB.out⟩
                · have hb3 : 60000 < v := by omega
                  go_wp2_with fail
                  go_ret2
                  exact ⟨.inl ⟨rfl, HNO.out⟩, HB.out⟩
              · have hv0 : 0 ≤ v := HV0.out (by omega)
                obtain ⟨vn, rfl⟩ := Int.eq_ofNat_of_zero_le hv0
                have hb2 : ¬ (S8 : Int) < (m2 : Int) := by omega
                have hb3 : ¬ (60000 : Int) < (vn : Int) := by omega
                have HNX : Hid (ReadTo k many s.data.toList (out ++ [vn]) m2) := readTo_next HT.out HJM.out HVE.out (by omega)
                have hrow := HR.out.2
                have HM28 : Hid (m2 ≤ S8) := by show _ ≤ _; omega
                clear hbad
                go_wp2_with (at_builtin; refine wp_app1 rfl _ _ 31 rfl w.heap.size 3 i1 (.int .i64 0) 8 Tryd.underlying31 hi1 hz1 hz2 hz3 rfl _ out.length (intCells out) ?ca hrow (.int .i64 (vn : Int)) rfl rfl ?c3 ?c4 ?c5 ?_)
                case c3 => have := HJM.out; unfold maxLen; omega
                case c4 => have := HJM.out; omega
                case c5 => exact HB.out.size
                intro g2 cap2 w2 hown2 hb4 hoth
                have HJ2 : Hid (out.length + 1 = (out ++ [vn]).length) := by show _ = _; simp
                have HR2 : Hid (OutRow w.heap.size (.slice (some ⟨g2, 0, none⟩) (out.length + 1) cap2) (out ++ [vn]) w2) := by
                  refine ⟨⟨g2, cap2, by rw [HJ2.out]⟩, ?_⟩
                  have e : intCells (out ++ [vn]) = intCells out ++ [.int .i64 (vn : Int)] := by simp [intCells]
                  rw [e, ← HJ2.out]
                  exact hown2
                have HB2 : Hid (Below w.heap.size w w2) := HB.out.trans hb4
                clear hown2 hb4 hoth hrow
                go_wp2_with fail
                go_roundw
                case rel => exact ⟨out ++ [vn], m2, by rw [← HJ2.out]; exact HJM.out, HM28.out, rfl, HR2, HNX, HB2⟩
                case measure => have h1 := HJM.out; have h2 := HJ.out; simp only [sliceLen]; omega
    · have HE : Hid (out.length = many) := by have := HJ.out; show _ = _; omega
      go_wp2_with fail
      go_ret2
      refine ⟨.inr ⟨_, out, p, rfl, ?_, HE.out, HT.out⟩, HB.out⟩
      have := HR.out
      exact this

end Go.Proofs.YtcaejndpmagfaaaDoor
