/-
  Texts that the last part needs, joined.
-/
import Derived.Test.YteihpdnbehnnhaaPart1
import Derived.OwnWalk
import Derived.Test.YteihpdnbehnnhaaProg
import Derived.WalkKit
import Derived.Lib.BufferRead
import Derived.WalkSpells
import Derived.Below
import Derived.Lib.Builder
import Derived.Laws.BitsLemmas
import Derived.Laws.MakeOwn
import Derived.Maps.AppendAt
import Derived.Lib.FrozenHead2
import Derived.Lib.OthersKept
import Derived.Laws.Externs
import Derived.Lib.UnsafeStr
import Derived.BigRegion
import Derived.Deep.MidRow
import Derived.Deep.RegionWith
import Derived.RegionTactic
set_option linter.unusedVariables false
namespace Go.Proofs.Yteihpdnbehnnhaa
open Go.Shelf Go.RowKit

/-- What has been read: so many numbers, and for every list that is written just so: its first ones, and its next place. -/
def ReadTo (k many : Nat) (o : List UInt8) (out : List Nat) (p : Nat) : Prop :=
  (∀ x ∈ out, x ≤ 60000) ∧ ∀ l, Writes k many o l → l.take out.length = out ∧ placeOf k l out.length = p
def OutRow (B : Nat) (v : Value) (out : List Nat) (w : World) : Prop := (∃ g cap, v = .slice (some ⟨g, 0, none⟩) out.length cap) ∧ w.ownsRow B 3 1 v out.length (intCells out)

def sliceLen : Value → Nat
  | .slice _ n _ => n
  | _ => 0
theorem newRow (w : World) : OutRow w.heap.size (.slice (some ⟨w.heap.size, 0, none⟩) 0 0) [] (w.alloc (.cells #[] 3)) :=
  ⟨⟨_, _, rfl⟩, rfl, .inr ⟨_, _, #[], rfl, Nat.le_refl _, heap_alloc_new w _, Nat.le_refl _, by unfold maxLen; omega, rfl, rfl⟩⟩
theorem readTo_start (k many : Nat) (o : List UInt8) : ReadTo k many o [] 0 :=
  ⟨by simp, fun l _ => ⟨by simp, by simp [placeOf_zero]⟩⟩
theorem bitAt_nonneg {o : List UInt8} {p : Nat} (h : p < 8 * o.length) : 0 ≤ bitAt o p := by rw [bitAt_in h]; omega
theorem readTo_none {k many : Nat} {o : List UInt8} {out : List Nat} {p m : Nat} {v : Int} (h : ReadTo k many o out p) (hj : out.length < many) (hv : ∀ l, Writes k many o l → v = ((l.getD out.length 0 : Nat) : Int) ∧ m = placeOf k l (out.length + 1)) (hbad : 8 * o.length < m ∨ 60000 < v) : ∀ l, ¬ Writes k many o l := by
  intro l hl
  obtain ⟨h1, h2⟩ := hv l hl
  have hjl : out.length < l.length := by rw [hl.1]; exact hj
  rcases hbad with hb | hb
  · have hn := numB_length k (l.getD out.length 0)
    have hpos : 0 < (numB k (l.getD out.length 0)).length := by rw [hn]; exact Nat.add_pos_left (Nat.succ_pos _) _
    have h3 := (num_at hl out.length hj ((numB k (l.getD out.length 0)).length - 1) (Nat.sub_lt hpos Nat.one_pos)).1
    rw [placeOf_succ k l out.length hjl] at h2
    generalize (numB k (l.getD out.length 0)).length = N at *
    omega
  · have h3 : l.getD out.length 0 ≤ 60000 := by
      refine hl.2.1 _ ?_
      simp [List.getElem?_eq_getElem hjl]
    omega
theorem readTo_next {k many : Nat} {o : List UInt8} {out : List Nat} {p m vn : Nat} (h : ReadTo k many o out p) (hj : out.length < many) (hv : ∀ l, Writes k many o l → (vn : Int) = ((l.getD out.length 0 : Nat) : Int) ∧ m = placeOf k l (out.length + 1)) (hs : vn ≤ 60000) : ReadTo k many o (out ++ [vn]) m := by
  refine ⟨?_, ?_⟩
  · intro x hx
    rcases List.mem_append.1 hx with hx | hx
    · exact h.1 x hx
    · simp at hx; omega
  · intro l hl
    obtain ⟨h1, h2⟩ := hv l hl
    have hjl : out.length < l.length := by rw [hl.1]; exact hj
    refine ⟨?_, by rw [List.length_append]; exact h2.symm⟩
    rw [List.length_append, List.length_singleton, List.take_add_one, (h.2 l hl).1, List.getElem?_eq_getElem hjl]
    have e : l.getD out.length 0 = l[out.length] := by rw [List.getD_eq_getElem?_getD, List.getElem?_eq_getElem hjl]; rfl
    rw [e] at h1
    have : vn = l[out.length] := by omega
    simp [this]

set_option maxHeartbeats 1000000 in
set_option maxRecDepth 100000 in
theorem specRead (s : ByteArray) (many k : Nat) (w : World) (hs : s.size ≤ 600) (hm : many ≤ 40) (hk : k ≤ 8) :
    Calls Try.prog 31 #[.string s, .int .i64 (many : Int), .int .i64 (k : Int)] w fun e w' =>
      ((e = .returned (.tuple #[.slice none 0 0, .int .i64 (-1)]) ∧ ∀ l, ¬ Writes k many s.data.toList l) ∨
       ∃ (v : Value) (out : List Nat) (p : Nat), e = .returned (.tuple #[v, .int .i64 (p : Int)]) ∧ OutRow w.heap.size v out w' ∧ out.length = many ∧ ReadTo k many s.data.toList out p) ∧ Below w.heap.size w w' := by
  obtain ⟨i1, hi1, hz1, hz2, hz3⟩ := info_parts infoIntB
  have HW0 : Hid (OutRow w.heap.size (.slice (some ⟨w.heap.size, 0, none⟩) 0 0) [] (w.alloc (.cells #[] 3))) := newRow w
  have HB0 : Hid (Below w.heap.size w (w.alloc (.cells #[] 3))) := (Below.refl _ w).alloc (Nat.le_refl _) _
  have ho : s.data.toList.length = s.size := by simp
  obtain ⟨S8, hS8⟩ : ∃ S8 : Nat, S8 = 8 * s.size := ⟨_, rfl⟩
  have hS : S8 ≤ 4800 := by omega
  have HS8 : Hid (8 * s.data.toList.length = S8) := by show _ = _; rw [ho, hS8]
  have rS : (s.size : Int) * 8 = (S8 : Int) := by omega
  have HBI : Hid (∀ q, Calls Try.prog 46 #[.string s, .int .i64 ((q : Nat) : Int)] w (fun e w' => True) → True) := fun _ _ => trivial
  clear HBI ho hS8
  go_enter Try.func31, Try.ntmps31
  go_wp2_with fail
  go_loopw [8, 9] (fun v a wr => ∃ (out : List Nat) (p : Nat), out.length ≤ many ∧ p ≤ S8 ∧ a = .int .i64 (p : Int) ∧ Hid (OutRow w.heap.size v out wr) ∧ Hid (ReadTo k many s.data.toList out p) ∧ Hid (Below w.heap.size w wr)) (fun v _ _ => many - sliceLen v)
  case atStart => exact ⟨[], 0, by simp, by omega, rfl, HW0, readTo_start _ _ _, HB0⟩
  case round =>
    clear HW0 HB0
    obtain ⟨out, p, hol, hp, rfl, HR, HT, HB⟩ := hrel
    obtain ⟨⟨g, cap, rfl⟩, hrow⟩ := HR.out
    obtain ⟨j, hj⟩ : ∃ j, j = out.length := ⟨_, rfl⟩
    have HJ : Hid (j = out.length) := hj
    rw [← hj] at hol HR hrow ⊢
    by_cases hlt : j < many
    · have hcl : (j : Int) < (many : Int) := by omega
      clear hj hrow
      go_wp2_with fail
      go_loop [9, 10] (fun a x => ∃ n m : Nat, m ≤ S8 ∧ a = .int .i64 (m : Int) ∧ x = .int .i64 (n : Int) ∧ n ≤ S8 ∧ Hid (m = p + n) ∧ Hid (∀ q, q < n → bitAt s.data.toList (p + q) = 1)) (fun a _ => S8 + 1 - (intOf a).toNat)
      case atStart => exact ⟨0, p, hp, rfl, rfl, by omega, rfl, fun q hq => by omega⟩
      case round =>
        obtain ⟨n, m, hm8, rfl, rfl, hn8, HM, HA⟩ := hrel
        have hm6 : m ≤ 1000000 := by omega
        by_cases hb1 : bitAt s.data.toList m = 1
        · have hmS : m < S8 := by
            rcases Nat.lt_or_ge m S8 with h' | h'
            · exact h'
            · rw [bitAt_out (by rw [HS8.out]; omega)] at hb1
              cases hb1
          have HA2 : Hid (∀ q, q < n + 1 → bitAt s.data.toList (p + q) = 1) := by
            intro q hq
            rcases Nat.lt_or_ge q n with h' | h'
            · exact HA.out q h'
            · rw [show q = n from by omega, ← HM.out]; exact hb1
          have HMS : Hid (m < S8 ∧ n < S8) := ⟨hmS, by have := HM.out; omega⟩
          go_wp2_with (go_at_call 46; refine (specBit s m _ hs hm6).mono ?_; rintro e w1 ⟨rfl, rfl⟩)
          go_round
          case rel => exact ⟨n + 1, m + 1, HMS.out.1, by go_num, by go_num, HMS.out.2, by show _ = _; have := HM.out; omega, HA2⟩
          case measure => have := HMS.out.1; simp [intOf]; omega
        · have hbf : (bitAt s.data.toList m == 1) = false := by simpa using hb1
          have HNE : Hid (bitAt s.data.toList (p + n) ≠ 1) := by show _ ≠ _; rw [← HM.out]; exact hb1
          clear hb1
          go_wp2_with (go_at_call 46; refine (specBit s m _ hs hm6).mono ?_; rintro e w1 ⟨rfl, rfl⟩)
          have HPL : Hid (∀ l, Writes k many s.data.toList l → placeOf k l j = p) := fun l hl => by rw [HJ.out]; exact (HT.out.2 l hl).2
          have HN1 : Hid (∀ l, Writes k many s.data.toList l → n = l.getD j 0 / 2 ^ k) := by
            intro l hl
            have e := HPL.out l hl
            exact ones_end hl j hlt n (fun q hq => by rw [e]; exact HA.out q hq) (by rw [e]; exact HNE.out)
          go_loop [9, 10, 11] (fun a x i => ∃ (t m2 P : Nat) (v : Int), t ≤ k ∧ m2 ≤ 4900 ∧ P ≤ 256 ∧ a = .int .i64 (m2 : Int) ∧ x = .int .i64 v ∧ i = .int .i64 (t : Int) ∧ 1 - (P : Int) ≤ v ∧ v ≤ 5000 * (P : Int) - 1 ∧ Hid (m2 = p + n + 1 + t) ∧ Hid (P = 2 ^ t) ∧ Hid (m2 ≤ S8 → 0 ≤ v) ∧ Hid (∀ l, Writes k many s.data.toList l → v = ((l.getD j 0 / 2 ^ (k - t) : Nat) : Int))) (fun _ _ i => k - (intOf i).toNat)
          case atStart => exact ⟨0, m + 1, 1, (n : Int), by omega, by omega, by omega, by go_num, rfl, rfl, by omega, by omega, by show _ = _; have := HM.out; omega, rfl, fun _ => by omega, fun l hl => by rw [HN1.out l hl]; rfl⟩
          case round =>
            obtain ⟨t, m2, P, v, ht, hm2, hP, rfl, rfl, rfl, hv1, hv2, HM2, HP, HV0, HV⟩ := hrel
            have hm26 : m2 ≤ 1000000 := by omega
            by_cases htk : t < k
            · have hbr := bitAt_range s.data.toList m2
              have HTK : Hid (t + 1 ≤ k ∧ m2 + 1 ≤ 4900) := by
                have := HM2.out
                have := HM.out
                exact ⟨htk, by omega⟩
              have HP2 : Hid (2 * P = 2 ^ (t + 1)) := by show _ = _; rw [HP.out, Nat.pow_succ]; omega
              have HP3 : Hid (2 * P ≤ 256) := by
                show _ ≤ _
                rw [HP2.out]
                exact Nat.pow_le_pow_right (n := 2) (by decide) (show t + 1 ≤ 8 by omega)
              have HV2 : Hid (∀ l, Writes k many s.data.toList l → v * 2 + bitAt s.data.toList m2 = ((l.getD j 0 / 2 ^ (k - (t + 1)) : Nat) : Int)) := by
                intro l hl
                have := low_step hl j hlt t htk v (HV.out l hl)
                rw [HPL.out l hl, ← HN1.out l hl, ← HM2.out] at this
                exact this
              have HV3 : Hid (m2 + 1 ≤ S8 → 0 ≤ v * 2 + bitAt s.data.toList m2) := by
                intro h
                have h1 := HV0.out (by omega)
                have h2 := bitAt_nonneg (o := s.data.toList) (p := m2) (by rw [HS8.out]; omega)
                omega
              have hnext : 1 - ((2 * P : Nat) : Int) ≤ v * 2 + bitAt s.data.toList m2 ∧ v * 2 + bitAt s.data.toList m2 ≤ 5000 * ((2 * P : Nat) : Int) - 1 := by omega
              generalize hbb : bitAt s.data.toList m2 = bt at hbr HV2 HV3 hnext
              have HBB : Hid (bitAt s.data.toList m2 = bt) := hbb
              clear hbb
              go_wp2_with (go_at_call 46; refine (specBit s m2 _ hs hm26).mono ?_; rw [HBB.out]; rintro e w1 ⟨rfl, rfl⟩)
              go_round
              case rel => exact ⟨t + 1, m2 + 1, 2 * P, v * 2 + bt, HTK.out.1, HTK.out.2, HP3.out, by go_num, by go_num, by go_num, hnext.1, hnext.2, by show _ = _; have := HM2.out; omega, HP2, HV3, HV2⟩
              case measure => have := HTK.out.1; simp [intOf]; omega
            · have HVE : Hid (∀ l, Writes k many s.data.toList l → v = ((l.getD out.length 0 : Nat) : Int) ∧ m2 = placeOf k l (out.length + 1)) := by
                intro l hl
                have h1 := HV.out l hl
                have hjl : out.length < l.length := by rw [hl.1, ← HJ.out]; exact hlt
                rw [show k - t = 0 from by omega] at h1
                refine ⟨by rw [h1, ← HJ.out]; simp, ?_⟩
                rw [placeOf_succ k l out.length hjl, numB_length, ← HJ.out, HPL.out l hl, ← HN1.out l hl, HM2.out]
                omega
              have HJM : Hid (out.length < many) := by show _ < _; rw [← HJ.out]; exact hlt
              by_cases hbad : S8 < m2 ∨ 60000 < v
              · have HNO : Hid (∀ l, ¬ Writes k many s.data.toList l) := readTo_none HT.out HJM.out HVE.out (by rw [HS8.out]; exact hbad)
                by_cases hb2 : (S8 : Int) < (m2 : Int)
                · go_wp2_with fail
                  go_ret2
                  exact ⟨.inl ⟨rfl, HNO.out⟩, HB.out⟩
                · have hb3 : 60000 < v := by omega
                  go_wp2_with fail
                  go_ret2
                  exact ⟨.inl ⟨rfl, HNO.out⟩, HB.out⟩
              · have hv0 : 0 ≤ v := HV0.out (by omega)
                obtain ⟨vn, rfl⟩ := Int.eq_ofNat_of_zero_le hv0
                have hb2 : ¬ (S8 : Int) < (m2 : Int) := by omega
                have hb3 : ¬ (60000 : Int) < (vn : Int) := by omega
                have HNX : Hid (ReadTo k many s.data.toList (out ++ [vn]) m2) := readTo_next HT.out HJM.out HVE.out (by omega)
                have hrow := HR.out.2
                have HM28 : Hid (m2 ≤ S8) := by show _ ≤ _; omega
                clear hbad
                go_wp2_with (at_builtin; refine wp_app1 rfl _ _ 22 rfl w.heap.size 3 i1 (.int .i64 0) 8 Try.underlying22 hi1 hz1 hz2 hz3 rfl _ out.length (intCells out) ?ca hrow (.int .i64 (vn : Int)) rfl rfl ?c3 ?c4 ?c5 ?_)
                case c3 => have := HJM.out; unfold maxLen; omega
                case c4 => have := HJM.out; omega
                case c5 => exact HB.out.size
                intro g2 cap2 w2 hown2 hb4 hoth
                have HJ2 : Hid (out.length + 1 = (out ++ [vn]).length) := by show _ = _; simp
                have HR2 : Hid (OutRow w.heap.size (.slice (some ⟨g2, 0, none⟩) (out.length + 1) cap2) (out ++ [vn]) w2) := by
                  refine ⟨⟨g2, cap2, by rw [HJ2.out]⟩, ?_⟩
                  have e : intCells (out ++ [vn]) = intCells out ++ [.int .i64 (vn : Int)] := by simp [intCells]
                  rw [e, ← HJ2.out]
                  exact hown2
                have HB2 : Hid (Below w.heap.size w w2) := HB.out.trans hb4
                clear hown2 hb4 hoth hrow
                go_wp2_with fail
                go_roundw
                case rel => exact ⟨out ++ [vn], m2, by rw [← HJ2.out]; exact HJM.out, HM28.out, rfl, HR2, HNX, HB2⟩
                case measure => have h1 := HJM.out; have h2 := HJ.out; simp only [sliceLen]; omega
    · have HE : Hid (out.length = many) := by have := HJ.out; show _ = _; omega
      go_wp2_with fail
      go_ret2
      refine ⟨.inr ⟨_, out, p, rfl, ?_, HE.out, HT.out⟩, HB.out⟩
      have := HR.out
      exact this

end Go.Proofs.Yteihpdnbehnnhaa

set_option linter.unusedVariables false
namespace Go.Proofs.Yteihpdnbehnnhaa
open Go.RowKit
def inB (n lo hi : Int) : Bool := decide (lo ≤ n ∧ n ≤ hi)
theorem inB_yes {n lo hi : Int} (h : lo ≤ n ∧ n ≤ hi) : inB n lo hi = true := decide_eq_true h
theorem inB_no {n lo hi : Int} (h : ¬ (lo ≤ n ∧ n ≤ hi)) : inB n lo hi = false := decide_eq_false h

theorem specIn (n lo hi : Int) (w : World) :
    Calls Try.prog 25 #[.int .i64 n, .int .i64 lo, .int .i64 hi] w fun e w' => e = .returned (.bool (inB n lo hi)) ∧ w = w' := by
  by_cases h1 : lo ≤ n
  · by_cases h2 : n ≤ hi
    · have h3 : decide (n ≤ hi) = true := decide_eq_true h2
      rw [inB_yes ⟨h1, h2⟩]
      go_enter Try.func25, Try.ntmps25
      go_wp2
      go_ret
      exact ⟨rfl, rfl⟩
    · have h3 : decide (n ≤ hi) = false := decide_eq_false h2
      rw [inB_no (fun h => h2 h.2)]
      go_enter Try.func25, Try.ntmps25
      go_wp2
      go_ret
      exact ⟨rfl, rfl⟩
  · have h3 : decide (lo ≤ n) = false := decide_eq_false h1
    rw [inB_no (fun h => h1 h.1)]
    go_enter Try.func25, Try.ntmps25
    go_wp2
    go_ret
    exact ⟨rfl, rfl⟩

end Go.Proofs.Yteihpdnbehnnhaa

set_option linter.unusedVariables false
namespace Go.Proofs.Yteihpdnbehnnhaa
open Go.RowKit

theorem SB.lt {B b : Nat} {s : List UInt8 × List Nat} {w : World} (h : SB B b s w) : b < w.heap.size := by
  obtain ⟨_, v, u, h, _⟩ := h; exact h.lt

set_option maxHeartbeats 1000000 in
set_option maxRecDepth 100000 in
theorem numberS (B b : Nat) (s : List UInt8 × List Nat) (n k : Nat) (w : World) (h : SB B b s w) (hok : okB s) (hn : n ≤ 60000) (hk : k ≤ 8) (hlen : s.1.length ≤ 100000000) :
    Calls Try.prog 43 #[.pointer (some ⟨b, 0, none⟩), .int .i64 (n : Int), .int .i64 (k : Int)] w fun e w' => e = .returned (.tuple #[]) ∧ SB B b (runB s (lowB n k)) w' ∧ Below B w w' := by
  obtain ⟨F, hF⟩ : ∃ F, F = runB s (lowB n k) := ⟨_, rfl⟩
  rw [← hF]
  have HF1 : Hid (runB s (lowB n k) = F) := hF.symm
  have HS : Hid (SB B b s w ∧ okB s ∧ s.1.length ≤ 100000000) := ⟨h, hok, hlen⟩
  clear hF h hok hlen
  go_enter Try.func43, Try.ntmps43
  go_wp2_with fail
  go_loopw [6] (fun i wr => ∃ (r : Nat) (x : Int) (c : List UInt8 × List Nat), r ≤ k ∧ i = .int .i64 x ∧ Hid (x = (r : Int) - 1) ∧ Hid (runB c (lowB n r) = F) ∧ Hid (okB c) ∧ Hid (c.1.length ≤ 100000010 - r) ∧ Hid (SB B b c wr) ∧ Hid (Below B w wr)) (fun i _ => (intOf i + 1).toNat)
  case atStart => exact ⟨k, _, s, by omega, rfl, rfl, HF1, HS.out.2.1, by have := HS.out.2.2; show _ ≤ _; omega, HS.out.1, Below.refl B w⟩
  case round =>
    clear HF1 HS
    obtain ⟨r, x, c, hr, rfl, HX, HF, HO, HL, HW, HB⟩ := hrel
    rcases r with _ | m
    · have hx : ¬ (0 : Int) ≤ x := by have := HX.out; omega
      have HE : Hid (c = F) := HF.out
      go_wp2_with fail
      go_end0
      rw [← HE.out]
      exact ⟨rfl, HW.out, HB.out⟩
    · obtain rfl : x = (m : Int) := by have := HX.out; omega
      obtain ⟨q, hq⟩ : ∃ q : Nat, q = n / 2 ^ m := ⟨_, rfl⟩
      have rq : (n : Int) / 2 ^ m = (q : Int) := by rw [hq]; simp
      have hqn : q ≤ 60000 := by rw [hq]; exact Nat.le_trans (Nat.div_le_self _ _) hn
      obtain ⟨bt, hbt⟩ : ∃ bt : Nat, bt = q % 2 := ⟨_, rfl⟩
      have hb1 : bt ≤ 1 := by omega
      have rb2 : (q : Int) % 2 = (bt : Int) := by omega
      have HF2 : Hid (runB (stepB c bt) (lowB n m) = F) := by
        show _ = _
        rw [← HF.out, hbt, hq]
        rfl
      have hm0 : (0 : Int) ≤ (m : Int) := by omega
      clear hq hbt HX
      go_wp2_with fail
      refine (putS B b c bt _ HW.out HO.out hb1 (by have := HL.out; omega)).mono ?_
      rintro e w2 ⟨rfl, hw2, hb2⟩
      have HW2 : Hid (SB B b (stepB c bt) w2) := hw2
      have HB2 : Hid (Below B w w2) := HB.out.trans hb2
      clear hw2 hb2
      go_wp2_with fail
      go_roundw
      case rel =>
        refine ⟨m, _, stepB c bt, by omega, rfl, ?_, HF2, stepB_ok HO.out hb1, ?_, HW2, HB2⟩
        · show _ = _
          first | rfl | omega
        · have h1 := stepB_len c bt
          have h2 := HL.out
          show _ ≤ _
          omega
      case measure => simp [intOf]

theorem convBack {B : Nat} {v : Value} {l : List UInt8} {w : World} (h : w.ownsRow B 5 1 v l.length (Lib.byteCells l)) : (convert 31 9 v).run Try.prog w = .ok (.string ⟨l.toArray⟩) w := by
  rcases h.2 with ⟨h1, h2⟩ | ⟨g, cap, cur, hv, _, hc, _, _, _, ht⟩
  · obtain rfl : l = [] := List.length_eq_zero_iff.1 h2
    rw [h1]
    exact Lib.run_convert_nil_bytes w 31 9 5 0 Try.underlying31 Try.underlying5 Try.underlying9
  · rw [hv]
    refine run_convert_bytes_back (P := Try.prog) w 31 9 5 ⟨g, 0, none⟩ cap l Try.underlying31 Try.underlying5 Try.underlying9 ?_
    intro j hj
    rw [Addr.add_mid, Nat.zero_add, Lib.cell_of_heap hc, ← Array.getElem?_toList]
    have h3 : cur.toList[j]? = (Lib.byteCells l)[j]? := by rw [← ht, List.getElem?_take]; simp [hj]
    rw [h3]
    simp [Lib.byteCells, List.getElem?_eq_getElem hj]
/-- How many bits wait, out of the block. -/
def waits (b : Nat) (w : World) : Nat := match w.cell? ⟨b, 1, none⟩ with
  | some (.slice _ n _) => if n = 0 then 0 else 8 - n
  | _ => 0
theorem SB.c1 {B b : Nat} {s : List UInt8 × List Nat} {w : World} (h : SB B b s w) : ∃ a cap, w.cell? ⟨b, 1, none⟩ = some (.slice a s.2.length cap) := by
  obtain ⟨_, v, u, hs, _, hl⟩ := h
  rcases hl.2 with ⟨h1, h2⟩ | ⟨g, cap, cur, hv, _⟩
  · exact ⟨none, 0, by rw [hs.c1, h1, h2]⟩
  · exact ⟨_, cap, by rw [hs.c1, hv]⟩
theorem waits_eq {B b : Nat} {s : List UInt8 × List Nat} {w : World} (h : SB B b s w) : waits b w = if s.2.length = 0 then 0 else 8 - s.2.length := by
  obtain ⟨a, cap, hc⟩ := h.c1
  simp only [waits, hc]

set_option maxHeartbeats 1000000 in
set_option maxRecDepth 100000 in
theorem endS (B b : Nat) (s : List UInt8 × List Nat) (w : World) (h : SB B b s w) (hok : okB s) (hlen : s.1.length ≤ 100000000) :
    Calls Try.prog 44 #[.pointer (some ⟨b, 0, none⟩)] w fun e w' => e = .returned (.string ⟨(fillB s).toArray⟩) ∧ Below B w w' := by
  have HS : Hid (SB B b s w ∧ okB s ∧ s.1.length ≤ 100000000) := ⟨h, hok, hlen⟩
  clear h hok hlen
  go_enter Try.func44, Try.ntmps44
  go_wp2_with fail
  go_loopw [] (fun wr => ∃ c : List UInt8 × List Nat, Hid (fillB c = fillB s) ∧ Hid (okB c) ∧ Hid (c.1.length ≤ 100000009 - waits b wr) ∧ Hid (SB B b c wr) ∧ Hid (Below B w wr)) (fun wr => waits b wr)
  case atStart =>
    refine ⟨s, rfl, HS.out.2.1, ?_, HS.out.1, Below.refl B w⟩
    have h1 := waits_eq HS.out.1
    have h2 := HS.out.2.2
    show _ ≤ _
    split at h1 <;> omega
  case round =>
    obtain ⟨c, HF, HO, HL, HW, HB⟩ := hrel
    obtain ⟨a1, cap1, c1⟩ := HW.out.c1
    have Hm := waits_eq HW.out
    by_cases h0 : c.2.length = 0
    · have hx : ¬ (0 : Int) < (c.2.length : Int) := by omega
      have HE : Hid (fillB s = c.1) := by
        show _ = _
        rw [← HF.out, fillB_end (List.length_eq_zero_iff.1 h0)]
      clear h0 Hm
      obtain ⟨hB, v, u, hs, ho, hl⟩ := HW.out
      have c0 := hs.c0
      have HO2 : Hid (wr.ownsRow B 5 1 v c.1.length (Lib.byteCells c.1)) := ho
      have hcv := convBack ho
      clear hs ho hl
      go_wp2_with fail
      go_ret
      rw [HE.out]
      exact ⟨rfl, HB.out⟩
    · have hx : (0 : Int) < (c.2.length : Int) := by omega
      have HM : Hid (waits b wr = 8 - c.2.length) := by show _ = _; rw [Hm, if_neg h0]
      have HN : Hid (¬ c.2.length = 0) := h0
      clear h0 Hm
      go_wp2_with fail
      refine (putS B b c 0 _ HW.out HO.out (by omega) (by have := HL.out; omega)).mono ?_
      rintro e w1 ⟨rfl, hw1, hb1⟩
      have HW1 : Hid (SB B b (stepB c 0) w1) := hw1
      have HB1 : Hid (Below B w w1) := HB.out.trans hb1
      have HM1 : Hid (waits b w1 < 8 - c.2.length) := by
        show _ < _
        have h8 := HO.out.1
        have hn := HN.out
        rw [waits_eq hw1]
        unfold stepB
        split
        · simp; omega
        · simp; omega
      have HL1 : Hid ((stepB c 0).1.length ≤ 100000009 - waits b w1) := by
        have h1 := stepB_len c 0
        have h2 := HL.out
        have h3 := HM.out
        have h4 := HM1.out
        show _ ≤ _
        omega
      clear hw1 hb1 c1 hx
      go_wp2_with fail
      go_roundw
      case rel =>
        refine ⟨stepB c 0, ?_, stepB_ok HO.out (by omega), HL1, HW1, HB1⟩
        show _ = _
        rw [← HF.out]
        exact fillB_step HO.out.1 (fun e => HN.out (by rw [e]; rfl))
      case measure => rw [HM.out]; exact HM1.out

end Go.Proofs.Yteihpdnbehnnhaa

set_option linter.unusedVariables false
namespace Go.Proofs.Yteihpdnbehnnhaa
open Go.RowKit

theorem bitsNew (w : World) : SB w.heap.size w.heap.size ([], []) (w.alloc (.cells #[.slice none 0 0, .slice none 0 0] 68)) :=
  ⟨Nat.le_refl _, _, _, heap_alloc_new w _, ⟨rfl, .inl ⟨rfl, rfl⟩⟩, ⟨rfl, .inl ⟨rfl, rfl⟩⟩⟩

set_option maxHeartbeats 1000000 in
set_option maxRecDepth 100000 in
theorem specNumbers (g n cap : Nat) (zs : List Int) (w : World) (h : At w g zs) (hn : n = zs.length) (hm : n ≤ 1073741824) :
    Calls Try.prog 24 #[.slice (some ⟨g, 0, none⟩) n cap] w fun e w' => e = .returned (.bool (zs.all numOk && decide (zs.length ≤ 40))) ∧ w = w' := by
  have HA : Hid (At w g zs) := h
  have HN : Hid (n = zs.length) := hn
  clear h hn
  go_enter Try.func24, Try.ntmps24
  go_wp2
  go_loop [3] (fun i => ∃ j : Nat, j ≤ n ∧ i = .int .i64 (j : Int) ∧ Hid (∀ m, m < zs.length → m < j → numOk (zs.getD m 0) = true)) (fun i => n - (intOf i).toNat)
  case atStart => exact ⟨0, by omega, rfl, fun m _ h => by omega⟩
  case round =>
    obtain ⟨j, hj, rfl, HALL⟩ := hrel
    by_cases hlt : j < n
    · have hjz : j < zs.length := by rw [← HN.out]; exact hlt
      have cj := HA.out.2 j hjz
      have HJ : Hid (j + 1 ≤ n) := hlt
      cases hz : numOk (zs.getD j 0) with
      | true =>
        have HZ : Hid (numOk (zs.getD j 0) = true) := hz
        have hin : inB (zs.getD j 0) 0 60000 = true := hz
        generalize zs.getD j 0 = z at cj hin
        clear hjz hz
        go_wp2_with (go_at_call 25; refine (specIn _ _ _ _).mono ?_; rintro e w1 ⟨rfl, rfl⟩)
        go_round
        case rel =>
          refine ⟨j + 1, HJ.out, by go_num, ?_⟩
          intro m hm' hmj
          rcases Nat.lt_or_ge m j with h | h
          · exact HALL.out m hm' h
          · obtain rfl : m = j := by omega
            exact HZ.out
        case measure => have := HJ.out; simp [intOf]; omega
      | false =>
        have HNO : Hid ((zs.all numOk && decide (zs.length ≤ 40)) = false) := by
          show _ = _
          have : zs.all numOk = false := by
            rw [← Bool.not_eq_true, List.all_eq_true]
            intro hh
            have := hh (zs.getD j 0) (by simp [List.getElem?_eq_getElem hjz])
            rw [hz] at this
            cases this
          rw [this]; rfl
        have hin : inB (zs.getD j 0) 0 60000 = false := hz
        generalize zs.getD j 0 = z at cj hin
        clear hjz hz
        go_wp2_with (go_at_call 25; refine (specIn _ _ _ _).mono ?_; rintro e w1 ⟨rfl, rfl⟩)
        go_ret
        rw [HNO.out]
        exact ⟨rfl, rfl⟩
    · have HY : Hid ((zs.all numOk && decide (zs.length ≤ 40)) = decide ((n : Int) ≤ 40)) := by
        show _ = _
        have : zs.all numOk = true := by
          rw [List.all_eq_true]
          intro z hz
          obtain ⟨i, hi, rfl⟩ := List.mem_iff_getElem.1 hz
          have := HALL.out i hi (by have := HN.out; omega)
          rw [List.getD_eq_getElem?_getD, List.getElem?_eq_getElem hi] at this
          exact this
        rw [this, ← HN.out]
        simp
        omega
      go_wp2
      go_ret
      rw [HY.out]
      exact ⟨rfl, rfl⟩

set_option maxHeartbeats 1000000 in
set_option maxRecDepth 100000 in
theorem specRice (g n cap : Nat) (zs : List Int) (kn : Nat) (w : World) (h : At w g zs) (hn : n = zs.length) (hk8 : kn ≤ 8) (hl40 : zs.length ≤ 40) (hz : ∀ i, i < zs.length → 0 ≤ zs.getD i 0 ∧ zs.getD i 0 ≤ 60000) :
    Calls Try.prog 26 #[.slice (some ⟨g, 0, none⟩) n cap, .int .i64 (kn : Int)] w fun e w' => e = .returned (.string ⟨(riceB kn (zs.map Int.toNat)).toArray⟩) ∧ Below w.heap.size w w' := by
  have HA : Hid (At w g zs) := h
  have HN : Hid (n = zs.length) := hn
  have hn40 : n ≤ 40 := by rw [hn]; exact hl40
  have HZ : Hid (∀ i, i < zs.length → 0 ≤ zs.getD i 0 ∧ zs.getD i 0 ≤ 60000) := hz
  have HL : Hid (∀ i, (upTo kn zs i).1.length ≤ 10000000) := fun i => upTo_len hk8 hl40 HZ.out i
  have HE : Hid (fillB (upTo kn zs zs.length) = riceB kn (zs.map Int.toNat)) := upTo_end kn zs
  have HW0 : Hid (SB w.heap.size w.heap.size (upTo kn zs 0) (w.alloc (.cells #[.slice none 0 0, .slice none 0 0] 68))) := by rw [upTo_zero]; exact bitsNew w
  have HB0 : Hid (Below w.heap.size w (w.alloc (.cells #[.slice none 0 0, .slice none 0 0] 68))) := (Below.refl _ w).alloc (Nat.le_refl _) _
  obtain ⟨R, hR⟩ : ∃ R, R = riceB kn (zs.map Int.toNat) := ⟨_, rfl⟩
  rw [← hR] at HE ⊢
  have hgs := h.1
  clear h hn hz hR hl40
  go_enter Try.func26, Try.ntmps26
  go_wp2_with fail
  go_loopw [6] (fun i wr => ∃ j : Nat, j ≤ n ∧ i = .int .i64 (j : Int) ∧ Hid (SB w.heap.size w.heap.size (upTo kn zs j) wr) ∧ Hid (Below w.heap.size w wr)) (fun i _ => n - (intOf i).toNat)
  case atStart => exact ⟨0, by omega, rfl, HW0, HB0⟩
  case round =>
    clear HW0 HB0
    obtain ⟨j, hj, rfl, HW, HB⟩ := hrel
    by_cases hlt : j < n
    · have hjz : j < zs.length := by rw [← HN.out]; exact hlt
      have HJN : Hid (j + 1 ≤ n) := hlt
      have HAT : Hid (∀ w', Below w.heap.size w w' → w'.cell? ⟨g, j, none⟩ = some (.int .i64 (zs.getD j 0))) := fun w' hb' => (HA.out.below hb' hgs).2 j hjz
      have hz := HZ.out j hjz
      have HS : Hid (upTo kn zs (j + 1) = runB (upTo kn zs j) (numB kn (zs.getD j 0).toNat)) := upTo_succ kn zs j hjz
      generalize zs.getD j 0 = z at HAT hz HS
      obtain ⟨zn, rfl⟩ := Int.eq_ofNat_of_zero_le hz.1
      rw [Int.toNat_natCast] at HS
      have hzn : zn ≤ 60000 := by omega
      have cj := HAT.out wr HB.out
      obtain ⟨N, hN⟩ : ∃ N : Nat, N = zn / 2 ^ kn := ⟨_, rfl⟩
      have hNn : N ≤ 60000 := by rw [hN]; exact Nat.le_trans (Nat.div_le_self _ _) hzn
      have rsh : (zn : Int) / 2 ^ kn = (N : Int) := by rw [hN]; simp
      obtain ⟨F, hF⟩ : ∃ F, F = upTo kn zs (j + 1) := ⟨_, rfl⟩
      rw [← hF] at HS
      have HF0 : Hid (runB (upTo kn zs j) (List.replicate N 1 ++ 0 :: lowB zn kn) = F) := by show _ = _; rw [HS.out, hN]; rfl
      have HFF : Hid (F = upTo kn zs (j + 1)) := hF
      have HO0 : Hid (okB (upTo kn zs j)) := upTo_ok _ _ _
      have HL0 : Hid ((upTo kn zs j).1.length ≤ 10000000) := HL.out j
      obtain ⟨c0, hc0⟩ : ∃ c0, c0 = upTo kn zs j := ⟨_, rfl⟩
      rw [← hc0] at HF0 HO0 HL0 HW
      clear hz hjz hN hF HS hc0
      go_wp2_with fail
      go_loopw [7] (fun i wr => ∃ (t : Nat) (c : List UInt8 × List Nat), t ≤ N ∧ i = .int .i64 (t : Int) ∧ Hid (runB c (List.replicate t 1 ++ 0 :: lowB zn kn) = F) ∧ Hid (okB c) ∧ Hid (c.1.length ≤ 10060000 - t) ∧ Hid (SB w.heap.size w.heap.size c wr) ∧ Hid (Below w.heap.size w wr)) (fun i _ => (intOf i).toNat)
      case atStart => exact ⟨N, c0, by omega, rfl, HF0, HO0, by have := HL0.out; show _ ≤ _; omega, HW, HB⟩
      case round =>
        clear HF0 HO0 HL0 HW HB cj
        obtain ⟨t, c, ht, rfl, HF, HO, HLc, HW, HB⟩ := hrel
        rcases t with _ | t
        · have HF1 : Hid (runB (stepB c 0) (lowB zn kn) = F) := HF.out
          go_wp2_with fail
          refine (putS w.heap.size w.heap.size c 0 _ HW.out HO.out (by omega) (by have := HLc.out; omega)).mono ?_
          rintro e w2 ⟨rfl, hw2, hb2⟩
          have HW2 : Hid (SB w.heap.size w.heap.size (stepB c 0) w2) := hw2
          have HB2 : Hid (Below w.heap.size w w2) := HB.out.trans hb2
          have cj2 : w2.cell? ⟨g, j, none⟩ = some (.int .i64 (zn : Int)) := HAT.out w2 HB2.out
          have cj3 : w2.drew.cell? ⟨g, j, none⟩ = some (.int .i64 (zn : Int)) := cj2
          obtain ⟨P2, hP2⟩ : ∃ P2 : Nat, P2 = 2 ^ kn := ⟨_, rfl⟩
          have hP0 : 0 < P2 := by rw [hP2]; exact Nat.pow_pos (by decide)
          have hP8 : P2 ≤ 256 := by rw [hP2]; exact Nat.pow_le_pow_right (n := 2) (by decide) hk8
          have rp : (2 : Int) ^ kn = (P2 : Int) := by rw [hP2]; simp
          have HRM : Hid (lowB (zn % P2) kn = lowB zn kn) := by show _ = _; rw [hP2]; exact lowB_mod zn kn kn (Nat.le_refl _)
          obtain ⟨r, hr⟩ : ∃ r : Nat, r = zn % P2 := ⟨_, rfl⟩
          have hrn : r ≤ 60000 := by rw [hr]; exact Nat.le_trans (Nat.mod_le _ _) hzn
          have rr : (zn : Int) % (P2 : Int) = (r : Int) := by rw [hr]; simp
          have rt : Int.tmod (zn : Int) (P2 : Int) = (r : Int) := by rw [Int.tmod_eq_emod_of_nonneg (by omega)]; exact rr
          rw [← hr] at HRM
          have hPne : ¬ (P2 : Int) = 0 := by omega
          have hPw : IntKind.i64.wrap (P2 : Int) = (P2 : Int) := by rw [IntKind.wrap_i64]; omega
          have lj : (j : Int) < (n : Int) := by have := HJN.out; omega
          have HF2 : Hid (runB (stepB c 0) (lowB r kn) = F) := by show _ = _; rw [HRM.out]; exact HF1.out
          have HO2 : Hid (okB (stepB c 0)) := stepB_ok HO.out (by omega)
          have HL2 : Hid ((stepB c 0).1.length ≤ 100000000) := by
            have h1 := stepB_len c 0
            have h2 := HLc.out
            show _ ≤ _
            omega
          clear hw2 hb2 hP2 rsh hr
          go_wp2_with fail
          go_region_with (go_at_call 43; refine (numberS w.heap.size w.heap.size (stepB c 0) r kn _ ?_ HO2.out hrn hk8 HL2.out).mono ?_; exact HW2.out; rintro e w3 ⟨rfl, hw3, hb3⟩)
          all_goals
            have HW3 : Hid (SB w.heap.size w.heap.size (upTo kn zs (j + 1)) w3) := by rw [← HFF.out, ← HF2.out]; exact hw3
            have HB3 : Hid (Below w.heap.size w w3) := HB2.out.drew.trans hb3
            clear hw3 hb3
            go_wp2_with fail
            go_roundw
            case rel => exact ⟨j + 1, HJN.out, by go_num, HW3, HB3⟩
            case measure => have := HJN.out; simp [intOf]; omega
        · have HF1 : Hid (runB (stepB c 1) (List.replicate t 1 ++ 0 :: lowB zn kn) = F) := HF.out
          have hpos : (0 : Int) < ((t + 1 : Nat) : Int) := by omega
          go_wp2_with fail
          refine (putS w.heap.size w.heap.size c 1 _ HW.out HO.out (by omega) (by have := HLc.out; omega)).mono ?_
          rintro e w2 ⟨rfl, hw2, hb2⟩
          have HW2 : Hid (SB w.heap.size w.heap.size (stepB c 1) w2) := hw2
          have HB2 : Hid (Below w.heap.size w w2) := HB.out.trans hb2
          clear hw2 hb2
          go_wp2_with fail
          go_roundw
          case rel =>
            refine ⟨t, stepB c 1, by omega, by go_num, HF1, stepB_ok HO.out (by omega), ?_, HW2, HB2⟩
            have h1 := stepB_len c 1
            have h2 := HLc.out
            show _ ≤ _
            omega
          case measure => simp [intOf]
    · have HJ : Hid (upTo kn zs j = upTo kn zs zs.length) := by
        show _ = _
        rw [show j = zs.length from by rw [← HN.out]; omega]
      go_wp2_with fail
      refine (endS w.heap.size w.heap.size (upTo kn zs j) _ HW.out (upTo_ok _ _ _) (by have := HL.out j; omega)).mono ?_
      rintro e w2 ⟨rfl, hb2⟩
      rw [HJ.out, HE.out]
      go_wp2_with fail
      go_ret
      exact ⟨rfl, HB.out.trans hb2⟩

end Go.Proofs.Yteihpdnbehnnhaa

set_option linter.unusedVariables false
namespace Go.Proofs.Yteihpdnbehnnhaa
open Go.Shelf Go.RowKit

/-- What comes back: nothing, or a row of the call's own that holds the numbers. -/
def GotRow (B : Nat) (v : Value) (w : World) : Option (List Nat) → Prop
  | none => v = .slice none 0 0
  | some l => OutRow B v l w
theorem toNat_map (l : List Nat) : (l.map fun n : Nat => (n : Int)).map Int.toNat = l := by
  rw [List.map_map]
  conv => rhs; rw [← List.map_id l]
  apply List.map_congr_left
  intro x _
  simp
theorem outRow_at {B : Nat} {g n cap : Nat} {l : List Nat} {w : World} (h : OutRow B (.slice (some ⟨g, 0, none⟩) n cap) l w) : At w g (l.map fun n : Nat => (n : Int)) := by
  obtain ⟨⟨g', cap', hv⟩, hrow⟩ := h
  simp only [Value.slice.injEq, Option.some.injEq, Addr.mk.injEq, and_true] at hv
  obtain ⟨rfl, rfl, rfl⟩ := hv
  obtain ⟨cur, hc, hlt⟩ := ownsRow_type hrow g rfl
  refine ⟨hlt, fun i hi => ?_⟩
  have hil : i < l.length := by simpa using hi
  rw [intCell_at hrow i hil]
  simp [List.getElem?_eq_getElem hil]

set_option maxHeartbeats 1000000 in
set_option maxRecDepth 100000 in
theorem specRiceGet (s : ByteArray) (many k : Int) (w : World) (hsm : s.size ≤ 1048576) :
    Calls Try.prog 13 #[.string s, .int .i64 many, .int .i64 k] w fun e w' => ∃ v, e = .returned (.tuple #[v, .bool (riceGet s.data.toList many k).isSome]) ∧ GotRow w.heap.size v w' (riceGet s.data.toList many k) ∧ Below w.heap.size w w' := by
  cases h1 : inB many 0 40 with
  | false =>
    have HG : Hid (riceGet s.data.toList many k = none) := riceGet_bad (by
      have : decide (0 ≤ many ∧ many ≤ 40) = false := h1
      simp only [getOk, this, Bool.false_and])
    rw [HG.out]
    go_enter Try.func13, Try.ntmps13
    go_wp2_with (go_at_call 25; refine (specIn _ _ _ _).mono ?_; rintro e w1 ⟨rfl, rfl⟩)
    go_ret2
    exact ⟨_, rfl, rfl, Below.refl _ _⟩
  | true =>
    cases h2 : inB k 0 8 with
    | false =>
      have HG : Hid (riceGet s.data.toList many k = none) := riceGet_bad (by
        have : decide (0 ≤ k ∧ k ≤ 8) = false := h2
        simp only [getOk, this, Bool.and_false, Bool.false_and])
      rw [HG.out]
      go_enter Try.func13, Try.ntmps13
      go_wp2_with (go_at_call 25; refine (specIn _ _ _ _).mono ?_; rintro e w1 ⟨rfl, rfl⟩)
      go_ret2
      exact ⟨_, rfl, rfl, Below.refl _ _⟩
    | true =>
      by_cases h3 : (600 : Int) < (s.size : Int)
      · have HG : Hid (riceGet s.data.toList many k = none) := riceGet_bad (by
          have : decide (s.data.toList.length ≤ 600) = false := decide_eq_false (by simp; omega)
          simp only [getOk, this, Bool.and_false])
        rw [HG.out]
        go_enter Try.func13, Try.ntmps13
        go_wp2_with (go_at_call 25; refine (specIn _ _ _ _).mono ?_; rintro e w1 ⟨rfl, rfl⟩)
        go_ret2
        exact ⟨_, rfl, rfl, Below.refl _ _⟩
      · have hm := of_decide_eq_true h1
        have hk := of_decide_eq_true h2
        obtain ⟨mn, rfl⟩ := Int.eq_ofNat_of_zero_le hm.1
        obtain ⟨kn, rfl⟩ := Int.eq_ofNat_of_zero_le hk.1
        have hs6 : s.size ≤ 600 := by omega
        have hok : getOk s.data.toList (mn : Int) (kn : Int) = true := by
          have e1 : decide (0 ≤ (mn : Int) ∧ (mn : Int) ≤ 40) = true := h1
          have e2 : decide (0 ≤ (kn : Int) ∧ (kn : Int) ≤ 8) = true := h2
          have e3 : decide (s.data.toList.length ≤ 600) = true := decide_eq_true (by simp; omega)
          simp only [getOk, e1, e2, e3, Bool.and_self]
        have HOK : Hid (getOk s.data.toList (mn : Int) (kn : Int) = true) := hok
        have hm40 : mn ≤ 40 := by omega
        have hk8 : kn ≤ 8 := by omega
        clear hok hm hk
        go_enter Try.func13, Try.ntmps13
        go_wp2_with (go_at_call 25; refine (specIn _ _ _ _).mono ?_; rintro e w1 ⟨rfl, rfl⟩)
        refine (specRead s mn kn _ hs6 hm40 hk8).mono ?_
        rintro e w1 ⟨⟨rfl, hno⟩ | ⟨v, out, p, rfl, hrow, hlen, hrd⟩, hb1⟩
        · have HG : Hid (riceGet s.data.toList (mn : Int) (kn : Int) = none) := riceGet_no (fun l => by simpa using hno l)
          have HB1 : Hid (Below w.heap.size w w1) := hb1
          clear hno hb1
          go_wp2_with fail
          go_ret2
          rw [HG.out]
          exact ⟨_, rfl, rfl, HB1.out⟩
        · obtain ⟨g, cap, rfl⟩ := hrow.1
          have HR : Hid (OutRow w.heap.size (.slice (some ⟨g, 0, none⟩) out.length cap) out w1) := hrow
          have HB1 : Hid (Below w.heap.size w w1) := hb1
          have HRD : Hid (ReadTo kn mn s.data.toList out p) := hrd
          have HLN : Hid (out.length = mn) := hlen
          have HAT : Hid (At w1 g (out.map fun n : Nat => (n : Int))) := outRow_at hrow
          clear hrow hb1 hrd hlen
          go_wp2_with fail
          refine (specRice g out.length cap (out.map fun n : Nat => (n : Int)) kn _ HAT.out (by simp) hk8 (by simp [HLN.out]; exact hm40) (by
            intro i hi
            have hil : i < out.length := by simpa using hi
            have := HRD.out.1 (out[i]) (List.getElem_mem hil)
            simp [List.getElem?_eq_getElem hil]
            omega)).mono ?_
          rintro e w2 ⟨rfl, hb2⟩
          rw [toNat_map]
          have HB2 : Hid (Below w.heap.size w w2) := HB1.out.trans (hb2.mono HB1.out.size)
          have HR2 : Hid (OutRow w.heap.size (.slice (some ⟨g, 0, none⟩) out.length cap) out w2) := by
            refine ⟨HR.out.1, ownsRow_keep HR.out.2 (fun g' hg' => ?_)⟩
            obtain ⟨cur, hc, hlt⟩ := ownsRow_type HR.out.2 g' hg'
            exact hb2.block g' hlt
          clear hb2
          by_cases he : riceB kn out = s.data.toList
          · have HG : Hid (riceGet s.data.toList (mn : Int) (kn : Int) = some out) := riceGet_yes HOK.out ⟨HLN.out, HRD.out.1, he⟩
            go_wp2_with fail
            go_ret2
            rw [HG.out]
            exact ⟨_, rfl, HR2.out, HB2.out⟩
          · have HG : Hid (riceGet s.data.toList (mn : Int) (kn : Int) = none) := riceGet_no (fun l hl => by
              have hl' : Writes kn mn s.data.toList l := hl
              have h1 := (HRD.out.2 l hl').1
              rw [HLN.out, ← hl'.1, List.take_length] at h1
              exact he (by rw [← h1]; exact hl'.2.2))
            have hne : (riceB kn out == s.toList) = false := by
              rw [ByteArray.toList_eq]
              simpa using he
            clear he
            go_wp2_with fail
            go_ret2
            rw [HG.out]
            exact ⟨_, rfl, rfl, HB2.out⟩

end Go.Proofs.Yteihpdnbehnnhaa

set_option linter.unusedVariables false
namespace Go.Proofs.Yteihpdnbehnnhaa
open Go.RowKit

theorem ownsRow_mono {B C : Nat} {e : TypeId} {v : Value} {n : Nat} {xs : List Value} {w : World} (h : w.ownsRow C e 1 v n xs) (hB : B ≤ C) : w.ownsRow B e 1 v n xs := by
  refine ⟨h.1, ?_⟩
  rcases h.2 with h2 | ⟨g, cap, cur, hv, h2, h3⟩
  · exact .inl h2
  · exact .inr ⟨g, cap, cur, hv, by omega, h3⟩

theorem OutRow.keep {B g n cap C : Nat} {l : List Nat} {w w' : World} (h : OutRow B (.slice (some ⟨g, 0, none⟩) n cap) l w) (hb : Below C w w') (hg : g < C) : OutRow B (.slice (some ⟨g, 0, none⟩) n cap) l w' :=
  ⟨h.1, ownsRow_keep h.2 (fun g' hg' => by obtain rfl : g = g' := by simpa [Value.ownBlock] using hg'
                                           exact hb.block g hg)⟩
theorem OutRow.lt {B g n cap : Nat} {l : List Nat} {w : World} (h : OutRow B (.slice (some ⟨g, 0, none⟩) n cap) l w) : B ≤ g ∧ g < w.heap.size := by
  obtain ⟨⟨g', cap', hv⟩, hrow⟩ := h
  simp only [Value.slice.injEq, Option.some.injEq, Addr.mk.injEq, and_true] at hv
  obtain ⟨rfl, rfl, rfl⟩ := hv
  obtain ⟨cur, hc, hlt⟩ := ownsRow_type hrow g rfl
  refine ⟨?_, hlt⟩
  rcases hrow.2 with ⟨h2, _⟩ | ⟨g', cap', cur, hv, h2, _⟩
  · cases h2
  · simp only [Value.slice.injEq, Option.some.injEq, Addr.mk.injEq, and_true] at hv
    rw [hv.1]
    exact h2

end Go.Proofs.Yteihpdnbehnnhaa

namespace Go.Proofs.Yteihpdnbehnnhaa
open Go.RowKit

def rotr (x k : Nat) : Nat := x / 2 ^ k ||| x * 2 ^ (32 - k) % 4294967296
def sig0 (x : Nat) : Nat := rotr x 7 ^^^ rotr x 18 ^^^ x / 8
def sig1 (x : Nat) : Nat := rotr x 17 ^^^ rotr x 19 ^^^ x / 1024
def big0 (x : Nat) : Nat := rotr x 2 ^^^ rotr x 13 ^^^ rotr x 22
def big1 (x : Nat) : Nat := rotr x 6 ^^^ rotr x 11 ^^^ rotr x 25
def chs (e f g : Nat) : Nat := (e &&& f) ^^^ ((4294967295 ^^^ e) &&& g)
def maj (a b c : Nat) : Nat := (a &&& b) ^^^ (a &&& c) ^^^ (b &&& c)

theorem rotr_lt (x k : Nat) (hx : x < 4294967296) : rotr x k < 4294967296 := by
  have h1 : x / 2 ^ k < 2 ^ 32 := Nat.lt_of_le_of_lt (Nat.div_le_self _ _) hx
  have h2 : x * 2 ^ (32 - k) % 4294967296 < 2 ^ 32 := Nat.mod_lt _ (by decide)
  exact Nat.or_lt_two_pow h1 h2
theorem xor_lt {a b : Nat} (ha : a < 4294967296) (hb : b < 4294967296) : a ^^^ b < 4294967296 := Nat.xor_lt_two_pow (n := 32) ha hb
theorem and_lt {a b : Nat} (hb : b < 4294967296) : a &&& b < 4294967296 := Nat.and_lt_two_pow (n := 32) a hb
theorem or_lt {a b : Nat} (ha : a < 4294967296) (hb : b < 4294967296) : a ||| b < 4294967296 := Nat.or_lt_two_pow (n := 32) ha hb
theorem sig0_lt (x : Nat) (hx : x < 4294967296) : sig0 x < 4294967296 := xor_lt (xor_lt (rotr_lt _ _ hx) (rotr_lt _ _ hx)) (by omega)
theorem sig1_lt (x : Nat) (hx : x < 4294967296) : sig1 x < 4294967296 := xor_lt (xor_lt (rotr_lt _ _ hx) (rotr_lt _ _ hx)) (by omega)
theorem big0_lt (x : Nat) (hx : x < 4294967296) : big0 x < 4294967296 := xor_lt (xor_lt (rotr_lt _ _ hx) (rotr_lt _ _ hx)) (rotr_lt _ _ hx)
theorem big1_lt (x : Nat) (hx : x < 4294967296) : big1 x < 4294967296 := xor_lt (xor_lt (rotr_lt _ _ hx) (rotr_lt _ _ hx)) (rotr_lt _ _ hx)
theorem chs_lt (e f g : Nat) (hf : f < 4294967296) (hg : g < 4294967296) : chs e f g < 4294967296 := xor_lt (and_lt hf) (and_lt hg)
theorem maj_lt (a b c : Nat) (hb : b < 4294967296) (hc : c < 4294967296) : maj a b c < 4294967296 := xor_lt (xor_lt (and_lt hb) (and_lt hc)) (and_lt hc)

/-! ### The model's own operations on such numbers -/
theorem wraps_i64 (n : Int) (h₀ : 0 ≤ n) (h₁ : n < 2 ^ 63) : IntKind.i64.wrap n = n := by rw [IntKind.wrap_i64]; omega
theorem wraps_u32 (n : Int) (h₀ : 0 ≤ n) (h₁ : n < 2 ^ 32) : IntKind.u32.wrap n = n := by rw [IntKind.wrap_u32]; omega
theorem or64 (a b : Nat) (ha : a < 4294967296) (hb : b < 4294967296) : bits .or .i64 (a : Int) (b : Int) = ((a ||| b : Nat) : Int) :=
  (bits_nat .i64 63 (by decide) wraps_i64 a b (by omega) (by omega)).2
theorem and64 (a b : Nat) (ha : a < 9223372036854775808) (hb : b < 9223372036854775808) : bits .and .i64 (a : Int) (b : Int) = ((a &&& b : Nat) : Int) :=
  (bits_nat .i64 63 (by decide) wraps_i64 a b (by omega) (by omega)).1
theorem xor_of (k : IntKind) (j : Nat) (hj : j ≤ k.bits) (hk : ∀ n : Int, 0 ≤ n → n < 2 ^ j → k.wrap n = n) (a b : Nat) (ha : a < 2 ^ j) (hb : b < 2 ^ j) :
    bits .xor k a b = ((a ^^^ b : Nat) : Int) := by
  have hp : 2 ^ j ≤ 2 ^ k.bits := Nat.pow_le_pow_right (by decide) hj
  have ha' : a % 2 ^ k.bits = a := Nat.mod_eq_of_lt (Nat.lt_of_lt_of_le ha hp)
  have hb' : b % 2 ^ k.bits = b := Nat.mod_eq_of_lt (Nat.lt_of_lt_of_le hb hp)
  simp only [bits, BitVec.ofInt_natCast, BitVec.toNat_xor, BitVec.toNat_ofNat, ha', hb']
  refine hk _ (Int.natCast_nonneg _) ?_
  have := Nat.xor_lt_two_pow ha hb
  exact_mod_cast this
theorem xor64 (a b : Nat) (ha : a < 4294967296) (hb : b < 4294967296) : bits .xor .i64 (a : Int) (b : Int) = ((a ^^^ b : Nat) : Int) :=
  xor_of .i64 63 (by decide) wraps_i64 a b (by omega) (by omega)
theorem mask64 (a : Nat) (ha : a < 9223372036854775808) : bits .and .i64 (a : Int) 4294967295 = ((a % 4294967296 : Nat) : Int) := by
  have := bits_mask .i64 63 (by decide) wraps_i64 32 (by decide) (a : Int) (by omega) (by omega)
  simpa using this
theorem or32 (a b : Nat) (ha : a < 4294967296) (hb : b < 4294967296) : bits .or .u32 (a : Int) (b : Int) = ((a ||| b : Nat) : Int) :=
  (bits_nat .u32 32 (by decide) wraps_u32 a b (by omega) (by omega)).2
theorem and32 (a b : Nat) (ha : a < 4294967296) (hb : b < 4294967296) : bits .and .u32 (a : Int) (b : Int) = ((a &&& b : Nat) : Int) :=
  (bits_nat .u32 32 (by decide) wraps_u32 a b (by omega) (by omega)).1
theorem xor32 (a b : Nat) (ha : a < 4294967296) (hb : b < 4294967296) : bits .xor .u32 (a : Int) (b : Int) = ((a ^^^ b : Nat) : Int) :=
  xor_of .u32 32 (by decide) wraps_u32 a b (by omega) (by omega)

/-! ### The rounds -/
structure St where
  (a b c d e f g h : Nat)
def St.ok (s : St) : Prop := s.a < 4294967296 ∧ s.b < 4294967296 ∧ s.c < 4294967296 ∧ s.d < 4294967296 ∧ s.e < 4294967296 ∧ s.f < 4294967296 ∧ s.g < 4294967296 ∧ s.h < 4294967296
def St.step (s : St) (m w : Nat) : St :=
  let one := s.h + big1 s.e + chs s.e s.f s.g + m + w
  let two := big0 s.a + maj s.a s.b s.c
  ⟨(one + two) % 4294967296, s.a, s.b, s.c, (s.d + one) % 4294967296, s.e, s.f, s.g⟩
theorem St.step_ok (s : St) (m w : Nat) (h : s.ok) : (s.step m w).ok := by
  obtain ⟨h1, h2, h3, h4, h5, h6, h7, h8⟩ := h
  exact ⟨Nat.mod_lt _ (by decide), h1, h2, h3, Nat.mod_lt _ (by decide), h5, h6, h7⟩
def rounds (ms ws : List Nat) (s : St) : Nat → St
  | 0 => s
  | k + 1 => (rounds ms ws s k).step (ms.getD k 0) (ws.getD k 0)
theorem rounds_ok (ms ws : List Nat) (s : St) (h : s.ok) (k : Nat) : (rounds ms ws s k).ok := by
  induction k with
  | zero => exact h
  | succ k ih => exact St.step_ok _ _ _ ih

def first16 (b : List Nat) : List Nat := (List.range 16).map fun i => b.getD (4 * i) 0 * 16777216 + b.getD (4 * i + 1) 0 * 65536 + b.getD (4 * i + 2) 0 * 256 + b.getD (4 * i + 3) 0
def schedTo (b : List Nat) : Nat → List Nat
  | 0 => first16 b
  | k + 1 => let w := schedTo b k; w ++ [(w.getD k 0 + sig0 (w.getD (k + 1) 0) + w.getD (k + 9) 0 + sig1 (w.getD (k + 14) 0)) % 4294967296]
theorem schedTo_length (b : List Nat) (k : Nat) : (schedTo b k).length = 16 + k := by
  induction k with
  | zero => simp [schedTo, first16]
  | succ k ih => simp [schedTo, ih]; omega
theorem schedTo_lt (b : List Nat) (hb : ∀ x ∈ b, x < 256) (k : Nat) : ∀ x ∈ schedTo b k, x < 4294967296 := by
  induction k with
  | zero =>
    intro x hx
    simp only [schedTo, first16, List.mem_map] at hx
    obtain ⟨i, _, rfl⟩ := hx
    have g : ∀ j, b.getD j 0 < 256 := by
      intro j
      by_cases hj : j < b.length
      · simp [List.getElem?_eq_getElem hj]; exact hb _ (List.getElem_mem _)
      · simp [List.getElem?_eq_none (by omega : b.length ≤ j)]
    have := g (4 * i); have := g (4 * i + 1); have := g (4 * i + 2); have := g (4 * i + 3)
    omega
  | succ k ih =>
    intro x hx
    simp only [schedTo, List.mem_append, List.mem_singleton] at hx
    rcases hx with hx | rfl
    · exact ih x hx
    · exact Nat.mod_lt _ (by decide)
theorem getD_lt {l : List Nat} (h : ∀ x ∈ l, x < 4294967296) (i : Nat) : l.getD i 0 < 4294967296 := by
  by_cases hj : i < l.length
  · simp [List.getElem?_eq_getElem hj]; exact h _ (List.getElem_mem _)
  · simp [List.getElem?_eq_none (by omega : l.length ≤ i)]

/-! ### Rows of numbers that the call has made -/
def RowN (T : TypeId) (w : World) (g : Nat) (l : List Nat) : Prop := w.heap[g]? = some (.cells ((l.map fun n : Nat => Value.int .i64 (n : Int)).toArray) T (0, 0))
theorem RowN.lt {T : TypeId} {w : World} {g : Nat} {l : List Nat} (h : RowN T w g l) : g < w.heap.size := by
  rcases Nat.lt_or_ge g w.heap.size with h' | h'
  · exact h'
  · simp [RowN, Array.getElem?_eq_none h'] at h
theorem RowN.cell {T : TypeId} {w : World} {g : Nat} {l : List Nat} (h : RowN T w g l) (i : Nat) (hi : i < l.length) : w.cell? ⟨g, i, none⟩ = some (.int .i64 ((l.getD i 0 : Nat) : Int)) := by
  rw [Lib.cell_of_heap h]
  simp [List.getElem?_eq_getElem hi]
theorem RowN.frozen {T : TypeId} {w : World} {g : Nat} {l : List Nat} (h : RowN T w g l) (i : Nat) : w.frozen? ⟨g, i, none⟩ = false := Lib.frozen_of_heap h i
theorem RowN.set {T : TypeId} {w : World} {g : Nat} {l : List Nat} (h : RowN T w g l) (i v : Nat) : RowN T (w.setCell ⟨g, i, none⟩ (.int .i64 (v : Int))) g (l.set i v) := by
  unfold RowN at h ⊢
  simp only [World.setCell, Array.getElem?_modify, h]
  simp [List.map_set]
theorem RowN.keep {T : TypeId} {w w' : World} {g : Nat} {l : List Nat} (h : RowN T w g l) (hk : w'.heap[g]? = w.heap[g]?) : RowN T w' g l := by
  unfold RowN at h ⊢; rw [hk]; exact h
theorem RowN.below {T : TypeId} {w w' : World} {g B : Nat} {l : List Nat} (h : RowN T w g l) (hb : Below B w w') (hg : g < B) : RowN T w' g l := h.keep (hb.block g hg)

theorem RowN.drew {T : TypeId} {w : World} {g : Nat} {l : List Nat} (h : RowN T w g l) : RowN T w.drew g l := h
theorem set_next (f : List Nat) (n k : Nat) (hk : k < f.length) (hn : k < n) : (f.take k ++ List.replicate (n - k) 0).set k (f.getD k 0) = f.take (k + 1) ++ List.replicate (n - (k + 1)) 0 := by
  have e : n - k = (n - (k + 1)) + 1 := by omega
  have hl : (f.take k).length = k := by simp; omega
  rw [e, List.replicate_succ, List.set_append_right _ _ (by omega), hl, Nat.sub_self, List.set_cons_zero]
  have ht : f.take (k + 1) = f.take k ++ [f.getD k 0] := by
    have hg : f.getD k 0 = f[k] := by simp [List.getElem?_eq_getElem hk]
    rw [hg]
    exact List.take_succ_eq_append_getElem hk
  rw [ht, List.append_assoc]
  rfl
theorem or4 (x0 x1 x2 x3 : Nat) (h0 : x0 < 256) (h1 : x1 < 256) (h2 : x2 < 256) (h3 : x3 < 256) :
    bits .or .i64 (bits .or .i64 (bits .or .i64 ((x0 : Int) * 16777216) ((x1 : Int) * 65536)) ((x2 : Int) * 256)) (x3 : Int) = ((x0 * 16777216 + x1 * 65536 + x2 * 256 + x3 : Nat) : Int) := by
  have e0 : (x0 : Int) * 16777216 = ((x0 * 16777216 : Nat) : Int) := by simp
  have e1 : (x1 : Int) * 65536 = ((x1 * 65536 : Nat) : Int) := by simp
  have e2 : (x2 : Int) * 256 = ((x2 * 256 : Nat) : Int) := by simp
  have o1 : x0 * 16777216 ||| x1 * 65536 = x0 * 16777216 + x1 * 65536 := by
    have := (Nat.two_pow_add_eq_or_of_lt (i := 24) (by omega : x1 * 65536 < 2 ^ 24) x0).symm
    rw [show (2 : Nat) ^ 24 * x0 = x0 * 16777216 from by omega] at this
    exact this
  have o2 : x0 * 16777216 + x1 * 65536 ||| x2 * 256 = x0 * 16777216 + x1 * 65536 + x2 * 256 := by
    have := (Nat.two_pow_add_eq_or_of_lt (i := 16) (by omega : x2 * 256 < 2 ^ 16) (x0 * 256 + x1)).symm
    rw [show (2 : Nat) ^ 16 * (x0 * 256 + x1) = x0 * 16777216 + x1 * 65536 from by omega] at this
    exact this
  have o3 : x0 * 16777216 + x1 * 65536 + x2 * 256 ||| x3 = x0 * 16777216 + x1 * 65536 + x2 * 256 + x3 := by
    have := (Nat.two_pow_add_eq_or_of_lt (i := 8) (by omega : x3 < 2 ^ 8) (x0 * 65536 + x1 * 256 + x2)).symm
    rw [show (2 : Nat) ^ 8 * (x0 * 65536 + x1 * 256 + x2) = x0 * 16777216 + x1 * 65536 + x2 * 256 from by omega] at this
    exact this
  rw [e0, e1, e2, or64 _ _ (by omega) (by omega), o1, or64 _ _ (by omega) (by omega), o2, or64 _ _ (by omega) (by omega), o3]
theorem first16_at (b : List Nat) (k : Nat) (h : k < 16) : (first16 b).getD k 0 = b.getD (4 * k) 0 * 16777216 + b.getD (4 * k + 1) 0 * 65536 + b.getD (4 * k + 2) 0 * 256 + b.getD (4 * k + 3) 0 := by
  simp [first16, h]
theorem byte_getD {b : List Nat} (hb : ∀ x ∈ b, x < 256) (i : Nat) : b.getD i 0 < 256 := by
  by_cases hj : i < b.length
  · simp [List.getElem?_eq_getElem hj]; exact hb _ (List.getElem_mem _)
  · simp [List.getElem?_eq_none (by omega : b.length ≤ i)]
theorem sched_at (b : List Nat) (k n i : Nat) (hi : i < 16 + k) : (schedTo b k ++ List.replicate n 0).getD i 0 = (schedTo b k).getD i 0 := by
  have := schedTo_length b k
  simp [List.getElem?_append_left (by omega : i < (schedTo b k).length)]
theorem sched_set (b : List Nat) (k : Nat) (hk : k < 48) (v : Nat) (hv : v = ((schedTo b k).getD k 0 + sig0 ((schedTo b k).getD (k + 1) 0) + (schedTo b k).getD (k + 9) 0 + sig1 ((schedTo b k).getD (k + 14) 0)) % 4294967296) :
    (schedTo b k ++ List.replicate (48 - k) 0).set (16 + k) v = schedTo b (k + 1) ++ List.replicate (48 - (k + 1)) 0 := by
  have hl := schedTo_length b k
  have e : 48 - k = (48 - (k + 1)) + 1 := by omega
  rw [e, List.replicate_succ, List.set_append_right _ _ (by omega), hl, Nat.sub_self, List.set_cons_zero, schedTo, hv]
  simp

def St.toL (s : St) : List Nat := [s.a, s.b, s.c, s.d, s.e, s.f, s.g, s.h]
def St.plus (s t : St) : St := ⟨(s.a + t.a) % 4294967296, (s.b + t.b) % 4294967296, (s.c + t.c) % 4294967296, (s.d + t.d) % 4294967296, (s.e + t.e) % 4294967296, (s.f + t.f) % 4294967296, (s.g + t.g) % 4294967296, (s.h + t.h) % 4294967296⟩
theorem St.plus_ok (s t : St) : (s.plus t).ok := ⟨Nat.mod_lt _ (by decide), Nat.mod_lt _ (by decide), Nat.mod_lt _ (by decide), Nat.mod_lt _ (by decide), Nat.mod_lt _ (by decide), Nat.mod_lt _ (by decide), Nat.mod_lt _ (by decide), Nat.mod_lt _ (by decide)⟩
theorem St.toL_lt (s : St) (h : s.ok) : ∀ x ∈ s.toL, x < 4294967296 := by
  intro x hx
  obtain ⟨h1, h2, h3, h4, h5, h6, h7, h8⟩ := h
  simp only [St.toL, List.mem_cons, List.not_mem_nil, or_false] at hx
  rcases hx with rfl | rfl | rfl | rfl | rfl | rfl | rfl | rfl <;> assumption
theorem plus_at (s t : St) (k : Nat) (h : k < 8) : (s.plus t).toL.getD k 0 = (s.toL.getD k 0 + t.toL.getD k 0) % 4294967296 := by
  match k, h with
  | 0, _ => rfl
  | 1, _ => rfl
  | 2, _ => rfl
  | 3, _ => rfl
  | 4, _ => rfl
  | 5, _ => rfl
  | 6, _ => rfl
  | 7, _ => rfl
/-- The state behind a block of 64 bytes. -/
def mix (ms : List Nat) (s : St) (b : List Nat) : St := s.plus (rounds ms (schedTo b 48) s 64)

theorem x3 (p q r v : Nat) (hp : p < 4294967296) (hq : q < 4294967296) (hr : r < 4294967296) (hv : v = p ^^^ q ^^^ r) : bits .xor .i64 (bits .xor .i64 (p : Int) (q : Int)) (r : Int) = (v : Int) := by
  rw [xor64 _ _ hp hq, xor64 _ _ (xor_lt hp hq) hr, hv]
theorem ch64 (e f g v : Nat) (he : e < 4294967296) (hf : f < 4294967296) (hg : g < 4294967296) (hv : v = chs e f g) :
    bits .xor .i64 (bits .and .i64 (e : Int) (f : Int)) (bits .and .i64 (bits .xor .i64 4294967295 (e : Int)) (g : Int)) = (v : Int) := by
  have h1 : bits .xor .i64 4294967295 (e : Int) = ((4294967295 ^^^ e : Nat) : Int) := xor64 4294967295 e (by decide) he
  have h2 : 4294967295 ^^^ e < 4294967296 := xor_lt (by decide) he
  rw [h1, and64 _ _ (by omega) (by omega), and64 _ _ (by omega) (by omega), xor64 _ _ (and_lt hf) (and_lt hg), hv]
  rfl
theorem mj64 (a b c v : Nat) (ha : a < 4294967296) (hb : b < 4294967296) (hc : c < 4294967296) (hv : v = maj a b c) :
    bits .xor .i64 (bits .xor .i64 (bits .and .i64 (a : Int) (b : Int)) (bits .and .i64 (a : Int) (c : Int))) (bits .and .i64 (b : Int) (c : Int)) = (v : Int) := by
  rw [and64 _ _ (by omega) (by omega), and64 _ _ (by omega) (by omega), and64 _ _ (by omega) (by omega)]
  exact x3 _ _ _ _ (and_lt hb) (and_lt hc) (and_lt hc) (by rw [hv]; rfl)

/-! ### A text in whole pieces of 64 -/
def padLen (n : Nat) : Nat := (n + 72) / 64 * 64
/-- A list whose last places hold the bytes of a number, the lowest last, so many of them. -/
def endB (l : List Nat) (n : Nat) : Nat → List Nat
  | 0 => l
  | j + 1 => (endB l n j).set (l.length - 1 - j) (n / 2 ^ (8 * j) % 256)
theorem endB_length (l : List Nat) (n j : Nat) : (endB l n j).length = l.length := by
  induction j with
  | zero => rfl
  | succ j ih => simp [endB, ih]
def padN (t : List UInt8) : List Nat := endB (t.map (·.toNat) ++ 128 :: List.replicate (padLen t.length - t.length - 1) 0) (t.length * 8) 8
theorem padN_length (t : List UInt8) : (padN t).length = padLen t.length := by
  rw [padN, endB_length]
  simp [padLen]
  omega
theorem endB_lt (l : List Nat) (n j : Nat) (h : ∀ x ∈ l, x < 256) : ∀ x ∈ endB l n j, x < 256 := by
  induction j with
  | zero => exact h
  | succ j ih =>
    intro x hx
    rcases List.mem_or_eq_of_mem_set hx with hx | rfl
    · exact ih x hx
    · exact Nat.mod_lt _ (by decide)
theorem padN_lt (t : List UInt8) : ∀ x ∈ padN t, x < 256 := by
  refine endB_lt _ _ _ ?_
  intro x hx
  simp only [List.mem_append, List.mem_map, List.mem_cons, List.mem_replicate] at hx
  rcases hx with ⟨b, _, rfl⟩ | rfl | ⟨_, rfl⟩
  · exact b.toNat_lt
  · decide
  · decide
def zerosN (n : Nat) : Array Value := ((List.replicate n (0 : Nat)).map fun n : Nat => Value.int .i64 (n : Int)).toArray
theorem madeCells_zero (n : Nat) : madeCells #[.int .i64 0] n = zerosN n := by
  unfold madeCells zerosN
  apply Array.ext
  · simp
  · intro i h1 h2
    simp [Nat.mod_one]

end Go.Proofs.Yteihpdnbehnnhaa

set_option linter.unusedVariables false
namespace Go.Proofs.Yteihpdnbehnnhaa
open Go.RowKit Go.Shelf
attribute [local go_sem] Oper.semAt_some

theorem ownFrom_cells {β : Type} (B b : Nat) (f : β → Array Value) (t : TypeId) : OwnFrom B (fun s W => W.heap[b]? = some (.cells (f s) t (0, 0))) := by
  intro s X Y row hs hg hr
  refine (hg.block b (Array.getElem?_eq_some_iff.1 hs).1 (fun e => ?_)).trans hs
  obtain ⟨_, o, ho, hc⟩ := hr b e.symm
  rw [hs] at ho
  cases ho
  cases hc
/-- Another block than the row and the box lies as it lay, behind the append and the store. -/
theorem append_other {W w1 : World} {n₀ B b : Nat} {t e : TypeId} {c : Array Value} {fz : Nat × Nat} {v v' : Value} {k : Nat} {xs : List Value} {tmp : Obj}
    (h : W.heap[b]? = some (.cells c t fz)) (hte : t ≠ e) (hrow : W.ownsRow n₀ e 1 v k xs) (hgrow : (W.alloc tmp).grownBy w1 v.ownBlock) (hB : b ≠ B) : (w1.setCell ⟨B, 0, none⟩ v').heap[b]? = W.heap[b]? := by
  have hlt : b < W.heap.size := (Array.getElem?_eq_some_iff.1 h).1
  rw [Below.heap_setCell _ _ _ b (fun e => hB (by rw [e]))]
  rw [hgrow.block b (by simp; omega) ?_]
  · exact Below.heap_alloc _ _ _ hlt
  · rcases hrow.2 with ⟨rfl, _⟩ | ⟨g, cap, cur, rfl, _, hgb, _⟩
    · simp [Value.ownBlock]
    · intro e'
      obtain rfl : b = g := by simpa [Value.ownBlock] using e'
      rw [h] at hgb
      simp at hgb
      exact hte hgb.2.1
theorem Only.keepsOthers {b : Nat} {w w' : World} {c : Array Value} {t : TypeId} {fz : Nat × Nat} (h : Only b w w') (hb : w.heap[b]? = some (.cells c t fz)) : KeepsOthers w w' :=
  ⟨by rw [h.size]; exact Nat.le_refl _, fun k o hk ho => by
    rw [h.block k (fun e => ?_)]
    · exact hk
    · subst e
      rw [hb] at hk
      cases hk
      cases ho⟩

/-- Between two rounds: the list in its box, how many are wanted, the reader; in blocks from h on. -/
def NumL (h kn mn : Nat) (pre : List Bit) (W : World) : Prop := ∃ v, Boxed W (h + 1 + 1) 22 v ∧ W.ownsRow (h + 1) 3 1 v (runT kn pre).2.length (intCells (runT kn pre).2) ∧ (∃ g cap, v = .slice (some ⟨g, 0, none⟩) (runT kn pre).2.length cap)
def NumM (h kn mn : Nat) (pre : List Bit) (W : World) : Prop := Boxed W h 3 (.int .i64 (mn : Int)) ∧ RR (h + 1 + 1 + 1) kn (runT kn pre).1 W
theorem numL_own (h kn mn B : Nat) : OwnFrom B (NumL h kn mn) := Own.from (holdsRow_own (h + 1) (h + 1 + 1) 22 3 1 (fun pre => (runT kn pre).2.length) (fun pre => intCells (runT kn pre).2) (fun pre v => ∃ g cap, v = .slice (some ⟨g, 0, none⟩) (runT kn pre).2.length cap)) B
theorem numM_own (h kn mn B : Nat) : OwnFrom B (NumM h kn mn) := OwnFrom.and (Own.from (boxed_own h 3 (fun _ => .int .i64 (mn : Int))) B) (ownFrom_cells B (h + 1 + 1 + 1) (fun pre => #[.int .i64 (kn : Int), .int .i64 ((runT kn pre).1.1 : Int), .bool (runT kn pre).1.2.1, .int .i64 ((runT kn pre).1.2.2 : Int)]) 74)

theorem Only.row {b : Nat} {w w' : World} {c : Array Value} {t e : TypeId} {fz : Nat × Nat} {n k : Nat} {v : Value} {xs : List Value} (h : Only b w w') (hb : w.heap[b]? = some (.cells c t fz)) (hte : t ≠ e) (hr : w.ownsRow n e 1 v k xs) : w'.ownsRow n e 1 v k xs := by
  refine ownsRow_keep hr (fun g hg => h.block g (fun e' => ?_))
  subst e'
  obtain ⟨cur, hc, _⟩ := ownsRow_type hr g hg
  rw [hb] at hc
  simp at hc
  exact hte hc.2.1

def numW (s : ByteArray) (mn kn : Nat) (w : World) : World :=
  ((((w.alloc (.cells #[.int .i64 (mn : Int)] 3)).alloc (.cells (madeCells #[.int .i64 0] mn) 3)).alloc (.cells #[.slice (some ⟨w.heap.size + 1, 0, none⟩) 0 mn] 22)).alloc
    (.cells #[.int .i64 (kn : Int), .int .i64 0, .bool false, .int .i64 0] 74)).alloc (.cells #[.string s] 9)
theorem numW_size (s : ByteArray) (mn kn : Nat) (w : World) : (numW s mn kn w).heap.size = w.heap.size + 5 := by simp [numW]
theorem madeCells_size0 (n : Nat) : (madeCells #[.int .i64 0] n).size = n := by rw [madeCells_zero]; simp [zerosN]
theorem alloc_new {w : World} {n : Nat} (o : Obj) (h : w.heap.size = n) : (w.alloc o).heap[n]? = some o := by subst h; exact World.alloc_heap_new w o
theorem numW_h1 (s : ByteArray) (mn kn : Nat) (w : World) : (numW s mn kn w).heap[w.heap.size + 1]? = some (.cells (madeCells #[.int .i64 0] mn) 3 (0, 0)) := by
  unfold numW
  rw [Below.heap_alloc _ _ _ (by simp), Below.heap_alloc _ _ _ (by simp), Below.heap_alloc _ _ _ (by simp)]
  exact alloc_new _ (by simp)
theorem numW_h4 (s : ByteArray) (mn kn : Nat) (w : World) : (numW s mn kn w).heap[w.heap.size + 1 + 1 + 1 + 1]? = some (.cells #[.string s] 9 (0, 0)) := by
  unfold numW
  exact alloc_new _ (by simp)
theorem numW_L (s : ByteArray) (mn kn : Nat) (w : World) (hm : mn ≤ 40) : NumL w.heap.size kn mn [] (numW s mn kn w) := by
  refine ⟨.slice (some ⟨w.heap.size + 1, 0, none⟩) 0 mn, ?_, ⟨rfl, .inr ⟨_, _, _, rfl, Nat.le_refl _, numW_h1 s mn kn w, Nat.zero_le _, by unfold maxLen; omega, by rw [madeCells_size0]; omega, rfl⟩⟩, ⟨_, _, rfl⟩⟩
  unfold numW Boxed
  rw [Below.heap_alloc _ _ _ (by simp), Below.heap_alloc _ _ _ (by simp)]
  exact alloc_new _ (by simp)
theorem numW_M (s : ByteArray) (mn kn : Nat) (w : World) : NumM w.heap.size kn mn [] (numW s mn kn w) := by
  refine ⟨?_, ?_⟩
  · unfold numW
    exact (((((Boxed.new w 3 (.int .i64 (mn : Int))).alloc _).alloc _).alloc _).alloc _)
  · unfold numW RR
    rw [Below.heap_alloc _ _ _ (by simp)]
    exact alloc_new _ (by simp)
theorem numW_below (s : ByteArray) (mn kn : Nat) (w : World) : Below w.heap.size w (numW s mn kn w) :=
  ((((((Below.refl _ w).alloc (Nat.le_refl _) _).alloc (by simp) _).alloc (by simp; omega) _).alloc (by simp; omega) _).alloc (by simp; omega) _)

set_option maxHeartbeats 4000000 in
set_option maxRecDepth 100000 in
theorem implNumbers (s : ByteArray) (mn kn : Nat) (w : World) (hs : s.size ≤ 600) (hm : mn ≤ 40) (hk : kn ≤ 8) :
    Calls Try.prog 33 #[.string s, .int .i64 (mn : Int), .int .i64 (kn : Int)] w fun e w' => ∃ v, e = .returned v ∧ OutRow w.heap.size v (readT kn mn (unpack s.data.toList) (0, false, 0) []) w' ∧ Below w.heap.size w w' := by
  refine (callsIn_wide (n := 8)).1 ?_
  obtain ⟨i0, hi, hz0, hz1, hz2⟩ := info_parts infoIntG
  refine callsIn_of_wp_marks Try.func33 rfl trivial ?_ rfl
  simp only [Try.ntmps33, List.size_toArray, List.length_cons, List.length_nil, Nat.reduceAdd, Nat.reduceSub, Array.replicate_succ, Array.replicate_zero, List.push_toArray, List.append_toArray, List.nil_append, List.cons_append]
  have hmk := makeCap mn (by omega)
  gi_wp2_with (refine ⟨trivial, ?_⟩; gi_at_call 47; refine (bitsMake Fence.wide (8 - 1) trivial rfl _ _).mono ?_; rintro e w' ⟨rfl, rfl⟩)
  clear hmk
  have hL0 := numW_L s mn kn w hm
  have hM0 := numW_M s mn kn w
  have hB0 := numW_below s mn kn w
  have hZ0 := numW_size s mn kn w
  have hT0 := numW_h4 s mn kn w
  show Code.wpIn Fence.wide 8 Try.prog _ _ _ (numW s mn kn w)
  generalize numW s mn kn w = W0 at hL0 hM0 hB0 hZ0 hT0 ⊢
  refine wpIn_rangeFunc_ownF rfl (by omega) (gf := 56) (lb := #[.pointer (some ⟨w.heap.size + 1 + 1 + 1 + 1, 0, none⟩)]) rfl trivial (enters_of Try.func56 (by kernel_rfl) rfl)
    (bits_stops Fence.wide (8 - 1) trivial rfl (by omega) (w.heap.size + 1 + 1 + 1 + 1) s hs W0 (by omega) (by rw [Lib.cell_of_heap hT0]; rfl)) (fun h k => KeepsAt.t h k) (KeepsAt.b (by omega)) (Below.refl _ _) (fun _ => rfl)
    (fun pre W => (NumL w.heap.size kn mn pre W ∧ NumM w.heap.size kn mn pre W) ∧ (OpenT kn mn pre ∧ W.heap[w.heap.size + 1 + 1 + 1 + 1]? = some (.cells #[.string s] 9 (0, 0))) ∧ Below w.heap.size w W)
    (fun c pre W => NumL w.heap.size kn mn pre.dropLast W ∧ (c = .exit 0 ∧ OpenT kn mn pre.dropLast ∧ (runT kn pre.dropLast).2.length = mn) ∧ Below w.heap.size w W)
    (OwnFrom.and (OwnFrom.and (numL_own w.heap.size kn mn _) (numM_own w.heap.size kn mn _)) (OwnFrom.and (OwnFrom.and (ownFrom_pure _ _) (ownFrom_cells _ _ (fun _ => #[.string s]) _)) (ownFrom_below (by omega) (by omega))))
    (fun c => OwnFrom.and (fun pre X Y row hs hg hr => numL_own w.heap.size kn mn W0.heap.size pre.dropLast X Y row hs hg hr) (OwnFrom.and (ownFrom_pure _ _) (ownFrom_below (by omega) (by omega))))
    ⟨⟨hL0, hM0⟩, ⟨openT_nil kn mn, hT0⟩, hB0⟩
    (fun x => { tmps := #[.string s, .int .i64 (mn : Int), .int .i64 (kn : Int), undef, .pointer (some ⟨w.heap.size, 0, none⟩), undef, .slice none 0 0, .pointer (some ⟨w.heap.size + 1 + 1, 0, none⟩), .pointer (some ⟨w.heap.size + 1 + 1 + 1, 0, none⟩), .int .i64 ((x.1 : Nat) : Int), undef, undef, .int .i64 (mn : Int), .slice (some ⟨w.heap.size + 1, 0, none⟩) 0 mn, .int .i64 (kn : Int), .agg #[.int .i64 (kn : Int), .int .i64 0, .bool false, .int .i64 0], .string s, .func (.func 56) #[] #[.pointer (some ⟨w.heap.size + 1 + 1 + 1 + 1, 0, none⟩)], .int .i64 ((x.1 : Nat) : Int), undef, undef, undef, undef, undef, undef, undef, undef, undef, undef, undef, undef, undef, undef, undef], defers := [] }) ?assign ?body ?done ?stop
  case assign =>
    intro l x W K hK
    gi_wp2
    exact hK
  case body =>
    rintro l pre x W ⟨⟨⟨v, bL, rL, g, cap, rfl⟩, bM, hR⟩, ⟨hO, hT⟩, hB⟩ hlt
    have hst0 : runT kn (pre ++ [x]) = stepT kn (runT kn pre) x.1 := runT_snoc kn pre x
    obtain ⟨nn, rr, ll, out, hst⟩ : ∃ nn rr ll out, runT kn pre = ((nn, rr, ll), out) := ⟨_, _, _, _, rfl⟩
    have HK : Hid (OpenT kn mn pre ∧ W.heap[w.heap.size + 1 + 1 + 1 + 1]? = some (.cells #[.string s] 9 (0, 0)) ∧ Below w.heap.size w W) := ⟨hO, hT, hB⟩
    have hsm := okT_small hO.2.2 hk (by omega)
    have hle := hO.2.1
    rw [hst] at rL bL hR hst0 hsm hle
    have HR : Hid (RR (w.heap.size + 1 + 1 + 1) kn (nn, rr, ll) W) := hR
    have HL : Hid (Boxed W (w.heap.size + 1 + 1) 22 (.slice (some ⟨g, 0, none⟩) out.length cap) ∧ W.ownsRow (w.heap.size + 1) 3 1 (.slice (some ⟨g, 0, none⟩) out.length cap) out.length (intCells out)) := ⟨bL, rL⟩
    have HM : Hid (Boxed W w.heap.size 3 (.int .i64 (mn : Int))) := bM
    have cL := bL.cell
    have cM := bM.cell
    dsimp only at cL
    have HS : Hid (runT kn pre = ((nn, rr, ll), out)) := hst
    have HS0 : Hid (runT kn (pre ++ [x]) = stepT kn ((nn, rr, ll), out) x.1) := hst0
    have HSM : Hid (nn < 1000000000000 ∧ ll ≤ 8 ∧ (rr = true → 1 ≤ ll)) := hsm
    have HLE : Hid (out.length ≤ mn) := hle
    clear hO hR hT hB bL rL bM hst hst0 hsm hle
    by_cases hfull : out.length = mn
    · have hq : (((out.length : Nat) : Int) == ((mn : Nat) : Int)) = true := by simp [hfull]
      gi_wp2
      refine ⟨KeepsOthers.refl _, ?_⟩
      dsimp only
      rw [List.dropLast_concat]
      refine ⟨⟨_, HL.out.1, by rw [HS.out]; exact HL.out.2, ⟨g, cap, by rw [HS.out]⟩⟩, ⟨rfl, HK.out.1, by rw [HS.out]; exact hfull⟩, HK.out.2.2⟩
    · have hq : (((out.length : Nat) : Int) == ((mn : Nat) : Int)) = false := by simp; omega
      have HN : Hid (OpenT kn mn (pre ++ [x])) := openT_snoc HK.out.1 (by rw [HS.out]; exact hfull) x
      have HF : Hid (¬ out.length = mn) := hfull
      clear hfull
      obtain ⟨st', o, htk⟩ : ∃ st' o, takeM kn (nn, rr, ll) x.1 = (st', o) := ⟨_, _, rfl⟩
      have htake := takeI (w.heap.size + 1 + 1 + 1) kn nn ll x.1 rr W HR.out x.2 HSM.out.1 hk HSM.out.2.1 HSM.out.2.2
      rw [htk] at htake
      have HTK : Hid (takeM kn (nn, rr, ll) x.1 = (st', o)) := htk
      clear htk
      cases o with
      | none =>
        dsimp only [Option.getD, Option.isSome] at htake
        gi_wp2_with (refine ⟨trivial, ?_⟩; gi_at_call 48; refine (CallsIn.inRound l (callsIn_wide.2 htake)).mono ?_; rintro e w1 ⟨rfl, hR1, hO1⟩)
        have hst : runT kn (pre ++ [x]) = (st', out) := by rw [HS0.out]; simp [stepT, HTK.out]
        have hb1 : w1.heap[w.heap.size + 1 + 1 + 1 + 1]? = W.heap[w.heap.size + 1 + 1 + 1 + 1]? := hO1.block _ (by omega)
        refine ⟨hO1.keepsOthers HR.out, World.cell?_of_block hb1, ⟨⟨.slice (some ⟨g, 0, none⟩) out.length cap, ?_, ?_, ⟨g, cap, ?_⟩⟩, ?_, ?_⟩, ⟨HN.out, hb1.trans HK.out.2.1⟩, HK.out.2.2.trans (hO1.below (by omega))⟩
        · exact (hO1.block _ (by omega)).trans HL.out.1
        · rw [hst]
          exact hO1.row HR.out (by decide) HL.out.2
        · rw [hst]
        · exact (hO1.block _ (by omega)).trans HM.out
        · rw [hst]
          exact hR1
      | some n =>
        dsimp only [Option.getD, Option.isSome] at htake
        gi_wp2_with first
          | (refine ⟨trivial, ?_⟩; gi_at_call 48; refine (CallsIn.inRound l (callsIn_wide.2 htake)).mono ?_; rintro e w1 ⟨rfl, hR1, hO1⟩; have bL1 : Boxed w1 (w.heap.size + 1 + 1) 22 (.slice (some ⟨g, 0, none⟩) out.length cap) := (hO1.block _ (by omega)).trans HL.out.1; have rL1 := hO1.row HR.out (by decide) HL.out.2; have cL1 := bL1.cell; have hsz : w.heap.size + 1 ≤ w1.heap.size := by have := bL1.lt; omega)
          | (gi_at_builtin; refine wpListIn_append_own _ rfl _ _ 22 rfl (w.heap.size + 1) 3 i0 (.int .i64 0) 1 8 Try.underlying22 hi hz0 hz1 hz2 rfl (by decide) _ _ _ rfl (rL1.alloc _) ⟨w1.heap.size, 0, none⟩ 1 1 [.int .i64 (n : Int)] rfl rfl (cell_one_new _ _ _) (by simp [Value.oneCell']) (by have := HLE.out; unfold maxLen; omega) (by have := HLE.out; omega) (by simp; omega) ?_; intro v' w2 hown' hgrow _; obtain ⟨g', cap', rfl⟩ := ownsRow_succ hown'; obtain ⟨hv1, hv2, hr2, hk2, hb2⟩ := bL1.appended (by decide) rL1 hsz (by omega) hown' hgrow; have hc1 := hv1.cell; have hf1 := hv1.frozen)
        have hst : runT kn (pre ++ [x]) = (st', out ++ [n]) := by rw [HS0.out]; simp [stepT, HTK.out]
        have hb1 : w1.heap[w.heap.size + 1 + 1 + 1 + 1]? = W.heap[w.heap.size + 1 + 1 + 1 + 1]? := hO1.block _ (by omega)
        have hb3 := append_other (B := w.heap.size + 1 + 1) (v' := .slice (some ⟨g', 0, none⟩) (out.length + 1) cap') (hb1.trans HK.out.2.1) (by decide) rL1 hgrow (by omega)
        have hb4 := append_other (B := w.heap.size + 1 + 1) (v' := .slice (some ⟨g', 0, none⟩) (out.length + 1) cap') hR1 (by decide) rL1 hgrow (by omega)
        refine ⟨(hO1.keepsOthers HR.out).trans hk2, World.cell?_of_block (hb3.trans hb1), ⟨⟨_, hv2, ?_, ⟨g', cap', ?_⟩⟩, ?_, ?_⟩, ⟨HN.out, hb3.trans (hb1.trans HK.out.2.1)⟩, (HK.out.2.2.trans (hO1.below (by omega))).trans (hb2.mono (by omega))⟩
        · rw [hst]
          simpa [intCells] using hr2
        · rw [hst]
          simp
        · exact (hb2.block _ (by omega)).trans ((hO1.block _ (by omega)).trans HM.out)
        · rw [hst]
          exact hb4.trans hR1
  case done =>
    rintro D ys W hD rfl ⟨⟨⟨v, bL, rL, g, cap, rfl⟩, bM, hR⟩, ⟨hO, hT⟩, hB⟩ hK
    have cL := bL.cell
    gi_wp2
    refine ⟨by simp, .inl ⟨_, _, rfl, run_takeDeferred hK, ?_⟩⟩
    refine ⟨_, results_tmp rfl _ _ _, _, rfl, ?_, hB.trans (belowK_b (w := w) (Nat.le_refl _) W D _ _ (by omega) hK rfl rfl)⟩
    have e : readT kn mn (unpack s.data.toList) (0, false, 0) [] = (runT kn (bitsTo s (8 * s.size))).2 := by rw [unpack_bits]; exact openT_end hO
    rw [e]
    exact ⟨⟨g, cap, rfl⟩, ownsRow_putObj (ownsRow_mono rL (Nat.le_succ _)) _ hK rfl⟩
  case stop =>
    rintro D c pre W hD ⟨q, hq, rfl⟩ ⟨⟨v, bL, rL, g, cap, rfl⟩, ⟨rfl, hO, hfull⟩, hB⟩ hK
    have cL := bL.cell
    have HF : Hid ((runT kn (bitsTo s q).dropLast).2.length = mn) := hfull
    clear hfull
    gi_wp2
    refine ⟨by simp, .inl ⟨_, _, rfl, run_takeDeferred hK, ?_⟩⟩
    refine ⟨_, results_tmp rfl _ _ _, _, rfl, ?_, hB.trans (belowK_b (w := w) (Nat.le_refl _) W D _ _ (by omega) hK rfl rfl)⟩
    have e : readT kn mn (unpack s.data.toList) (0, false, 0) [] = (runT kn (bitsTo s q).dropLast).2 := by
      obtain ⟨rest, hr⟩ := bitsTo_split s (q - 1) (by omega)
      have hd : (bitsTo s q).dropLast = bitsTo s (q - 1) := by
        cases q with
        | zero => rfl
        | succ q => rw [bitsTo_succ, List.dropLast_concat]; rfl
      have hfull := HF.out
      rw [hd] at hO hfull ⊢
      rw [hr]
      exact openT_full hO hfull rest
    rw [e]
    exact ⟨⟨g, cap, rfl⟩, ownsRow_putObj (ownsRow_mono rL (Nat.le_succ _)) _ hK rfl⟩

end Go.Proofs.Yteihpdnbehnnhaa

set_option linter.unusedVariables false
namespace Go.Proofs.Yteihpdnbehnnhaa
open Go.Shelf Go.RowKit

theorem sizeBuilderR : (Try.prog.info? 46).map (fun i => i.size) = some 2 := by kernel_rfl
theorem liesWriter : liesAt Try.prog Try.prog.depth 48 (4 / Try.prog.cellsOf 48) 0 46 1 = true := by kernel_rfl
theorem infoByteR : (Try.prog.info? 5).map (fun i => (i.zero, i.size, i.bytes)) = some (some (.int .u8 0), 1, 1) := by kernel_rfl

/-- The writer's block. -/
def WAt (b : Nat) (p v x y : Value) (w : World) : Prop := w.heap[b]? = some (.cells #[p, v, x, y] 48 (0, 0))
theorem WAt.c0 {b : Nat} {p v x y : Value} {w : World} (h : WAt b p v x y w) : w.cell? ⟨b, 0, none⟩ = some p := by rw [Lib.cell_of_heap h]; rfl
theorem WAt.c1 {b : Nat} {p v x y : Value} {w : World} (h : WAt b p v x y w) : w.cell? ⟨b, 1, none⟩ = some v := by rw [Lib.cell_of_heap h]; rfl
theorem WAt.c2 {b : Nat} {p v x y : Value} {w : World} (h : WAt b p v x y w) : w.cell? ⟨b, 2, none⟩ = some x := by rw [Lib.cell_of_heap h]; rfl
theorem WAt.c3 {b : Nat} {p v x y : Value} {w : World} (h : WAt b p v x y w) : w.cell? ⟨b, 3, none⟩ = some y := by rw [Lib.cell_of_heap h]; rfl
theorem WAt.fz {b : Nat} {p v x y : Value} {w : World} (h : WAt b p v x y w) (i : Nat) : w.frozen? ⟨b, i, none⟩ = false := Lib.frozen_of_heap h i
theorem WAt.lt {b : Nat} {p v x y : Value} {w : World} (h : WAt b p v x y w) : b < w.heap.size := by
  rcases Nat.lt_or_ge b w.heap.size with h' | h'
  · exact h'
  · simp [WAt, Array.getElem?_eq_none h'] at h
theorem WAt.set0 {b : Nat} {p v x y : Value} {w : World} (h : WAt b p v x y w) (u : Value) : WAt b u v x y (w.setCell ⟨b, 0, none⟩ u) := by
  unfold WAt at h ⊢
  simp only [World.setCell, Array.getElem?_modify, h]
  simp
theorem WAt.set1 {b : Nat} {p v x y : Value} {w : World} (h : WAt b p v x y w) (u : Value) : WAt b p u x y (w.setCell ⟨b, 1, none⟩ u) := by
  unfold WAt at h ⊢
  simp only [World.setCell, Array.getElem?_modify, h]
  simp
theorem WAt.set2 {b : Nat} {p v x y : Value} {w : World} (h : WAt b p v x y w) (u : Value) : WAt b p v u y (w.setCell ⟨b, 2, none⟩ u) := by
  unfold WAt at h ⊢
  simp only [World.setCell, Array.getElem?_modify, h]
  simp
theorem WAt.set3 {b : Nat} {p v x y : Value} {w : World} (h : WAt b p v x y w) (u : Value) : WAt b p v x u (w.setCell ⟨b, 3, none⟩ u) := by
  unfold WAt at h ⊢
  simp only [World.setCell, Array.getElem?_modify, h]
  simp
theorem WAt.drew {b : Nat} {p v x y : Value} {w : World} (h : WAt b p v x y w) : WAt b p v x y w.drew := h

/-- A row of bytes that the call has made stands, whatever is written into another block. -/
theorem ownsRow_setCell {base : Nat} {e : TypeId} {v : Value} {n : Nat} {xs : List Value} {w : World} (h : w.ownsRow base e 1 v n xs) (b i : Nat) (u : Value) (hne : v.ownBlock ≠ some b) : (w.setCell ⟨b, i, none⟩ u).ownsRow base e 1 v n xs := by
  refine ⟨h.1, ?_⟩
  rcases h.2 with h2 | ⟨g, cap, cur, hv, h2⟩
  · exact .inl h2
  · refine .inr ⟨g, cap, cur, hv, h2.1, ?_, h2.2.2⟩
    have : g ≠ b := by
      intro he
      rw [hv] at hne
      exact hne (by simp [Value.ownBlock, he])
    rw [Below.heap_setCell w ⟨b, i, none⟩ u g this]
    exact h2.2.1

/-- The writer: its bytes so far, and the two cells behind the builder. -/
def WB (B b : Nat) (o : List UInt8) (x y : Value) (w : World) : Prop :=
  B ≤ b ∧ ∃ p v, (p = .pointer none ∨ p = .pointer (some ⟨b, 0, none⟩)) ∧ WAt b p v x y w ∧ w.ownsRow B 5 1 v o.length (Lib.byteCells o) ∧ v.ownBlock ≠ some b ∧ (o = [] → v = .slice none 0 0)
theorem WB.lt {B b : Nat} {o : List UInt8} {x y : Value} {w : World} (h : WB B b o x y w) : b < w.heap.size := by
  obtain ⟨_, p, v, _, h, _⟩ := h; exact h.lt
theorem WB.set2 {B b : Nat} {o : List UInt8} {x y : Value} {w : World} (h : WB B b o x y w) (u : Value) : WB B b o u y (w.setCell ⟨b, 2, none⟩ u) := by
  obtain ⟨hB, p, v, hp, hw, ho, hne, h0⟩ := h
  exact ⟨hB, p, v, hp, hw.set2 u, ownsRow_setCell ho b 2 u hne, hne, h0⟩
theorem WB.set3 {B b : Nat} {o : List UInt8} {x y : Value} {w : World} (h : WB B b o x y w) (u : Value) : WB B b o x u (w.setCell ⟨b, 3, none⟩ u) := by
  obtain ⟨hB, p, v, hp, hw, ho, hne, h0⟩ := h
  exact ⟨hB, p, v, hp, hw.set3 u, ownsRow_setCell ho b 3 u hne, hne, h0⟩
theorem WB.drew {B b : Nat} {o : List UInt8} {x y : Value} {w : World} (h : WB B b o x y w) : WB B b o x y w.drew := h

set_option maxHeartbeats 1000000 in
set_option maxRecDepth 100000 in
theorem copyCheck_usedW (b : Nat) (w : World) (h0 : w.cell? ⟨b, 0, none⟩ = some (.pointer (some ⟨b, 0, none⟩))) :
    Calls Try.prog 62 #[.pointer (some ⟨b, 0, none⟩)] w fun e w' => e = .returned (.tuple #[]) ∧ w' = w := by
  obtain ⟨j, hj, _⟩ := Option.map_eq_some_iff.1 sizeBuilderR
  go_enter Try.func62, Try.ntmps62
  go_wp2
  rw [Lib.run_neq_ptr_same w _ Try.underlying44 hj]
  go_wp2
  go_end0
  exact ⟨rfl, rfl⟩

set_option maxHeartbeats 1000000 in
set_option maxRecDepth 100000 in
theorem copyCheck_freshW (b : Nat) (w : World) (h0 : w.cell? ⟨b, 0, none⟩ = some (.pointer none)) (hsh : w.shape? b = some (48, 4)) (hfz : w.frozen? ⟨b, 0, none⟩ = false) :
    Calls Try.prog 62 #[.pointer (some ⟨b, 0, none⟩)] w fun e w' => e = .returned (.tuple #[]) ∧ w' = w.setCell ⟨b, 0, none⟩ (.pointer (some ⟨b, 0, none⟩)) := by
  obtain ⟨j, hj, hjs⟩ := Option.map_eq_some_iff.1 sizeBuilderR
  go_enter Try.func62, Try.ntmps62
  go_wp2
  rw [Lib.run_to_unsafe w ⟨b, 0, none⟩ Try.underlying44 Try.underlying100 hj (by rw [hjs]; decide) hsh (Nat.zero_lt_succ 3)]
  simp only [Result.andThen]
  rw [Oper.upon_value]
  go_wp2
  rw [run_callFunc_extern Try.func73 (by kernel_rfl) (by kernel_rfl) (by kernel_rfl) (e := Extern.AbiNoEscape.same) (by kernel_rfl)]
  rw [Lib.run_noEscape]
  simp only [Result.andThen]
  rw [Oper.upon_value]
  go_wp2
  rw [Lib.run_from_unsafe w ⟨b, 0, none⟩ Try.underlying100 Try.underlying44 hj hsh liesWriter]
  simp only [Result.andThen]
  rw [Oper.upon_value]
  go_wp2
  go_end0
  exact ⟨rfl, rfl⟩

theorem copyCheckW (B b : Nat) (p v x y : Value) (n : Nat) (xs : List Value) (w : World) (hB : B ≤ b) (hp : p = .pointer none ∨ p = .pointer (some ⟨b, 0, none⟩)) (h : WAt b p v x y w) (ho : w.ownsRow B 5 1 v n xs) (hne : v.ownBlock ≠ some b) :
    Calls Try.prog 62 #[.pointer (some ⟨b, 0, none⟩)] w fun e w' => e = .returned (.tuple #[]) ∧ WAt b (.pointer (some ⟨b, 0, none⟩)) v x y w' ∧ w'.ownsRow B 5 1 v n xs ∧ Below B w w' ∧ w'.heap.size = w.heap.size := by
  rcases hp with rfl | rfl
  · refine (copyCheck_freshW b w h.c0 (by unfold WAt at h; simp [World.shape?, h]) (h.fz 0)).mono ?_
    rintro e w' ⟨rfl, rfl⟩
    exact ⟨rfl, h.set0 _, ownsRow_setCell ho b 0 _ hne, (Below.refl B w).setCell (p := ⟨b, 0, none⟩) hB _, by simp [World.setCell]⟩
  · refine (copyCheck_usedW b w h.c0).mono ?_
    rintro e w' ⟨rfl, rfl⟩
    exact ⟨rfl, h, ho, Below.refl B _, rfl⟩

set_option maxHeartbeats 2000000 in
set_option maxRecDepth 100000 in
theorem writeByteW (B b : Nat) (o : List UInt8) (c : UInt8) (x y : Value) (w : World) (h : WB B b o x y w) (hlen : o.length + 1 ≤ 140737488355328) :
    Calls Try.prog 55 #[.pointer (some ⟨b, 0, none⟩), .int .u8 (c.toNat : Int)] w fun e w' => e = .returned .nilIface ∧ WB B b (o ++ [c]) x y w' ∧ Below B w w' := by
  obtain ⟨i0, hi, hz0, hz1, hz2⟩ := info_parts infoByteR
  obtain ⟨hB, p, v, hp, hw, ho, hne, _⟩ := h
  have hlt := hw.lt
  go_enter Try.func55, Try.ntmps55
  go_wp2_with (go_at_call 62; refine (copyCheckW B b p v x y o.length (Lib.byteCells o) _ hB hp hw ho hne).mono ?_)
  rintro e w1 ⟨rfl, hw1, ho1, hb1, hs1⟩
  have Hs1 : Hid (w1.heap.size = w.heap.size) := hs1
  have Hw1 : Hid (WAt b (.pointer (some ⟨b, 0, none⟩)) v x y w1) := hw1
  have c0 := hw1.c0
  have c1 := hw1.c1
  clear hs1 hw hw1 ho
  go_wp2_with (at_builtin; refine wp_app1 rfl _ _ 31 rfl B 5 i0 (.int .u8 0) 1 Try.underlying31 hi hz0 hz1 hz2 rfl _ o.length (Lib.byteCells o) rfl ho1 (.int .u8 (c.toNat : Int)) rfl rfl ?c3 ?c4 ?c5 ?_)
  case c3 => unfold maxLen; omega
  case c4 => omega
  case c5 => rw [Hs1.out]; omega
  intro g cap w2 hown hb2 hoth
  have hw2 : WAt b (.pointer (some ⟨b, 0, none⟩)) v x y w2 := by
    unfold WAt
    rw [hoth b (by rw [Hs1.out]; exact hlt) hne]
    exact Hw1.out
  have d0 := hw2.c0
  have d1 := hw2.c1
  have f1 := hw2.fz 1
  have HW2 : Hid (WAt b (.pointer (some ⟨b, 0, none⟩)) v x y w2) := hw2
  have hgb : g ≠ b := by
    intro he
    rcases hown.2 with ⟨h1, _⟩ | ⟨g', cap', cur, hv, _, hc, _⟩
    · cases h1
    · simp only [Value.slice.injEq, Option.some.injEq, Addr.mk.injEq, and_true, true_and] at hv
      obtain ⟨rfl, _⟩ := hv
      rw [he] at hc
      rw [HW2.out] at hc
      simp only [Option.some.injEq, Obj.cells.injEq] at hc
      exact absurd hc.2.1 (by decide)
  have HO : Hid (w2.ownsRow B 5 1 (.slice (some ⟨g, 0, none⟩) (o.length + 1) cap) (o.length + 1) (Lib.byteCells o ++ [.int .u8 (c.toNat : Int)])) := hown
  have HB2 : Hid (Below B w1 w2) := hb2
  clear hw2 hown hoth hb2
  go_wp2
  go_ret
  have hne2 : (Value.slice (some ⟨g, 0, none⟩) (o.length + 1) cap).ownBlock ≠ some b := by simp [Value.ownBlock, hgb]
  refine ⟨rfl, ⟨hB, _, _, .inr rfl, HW2.out.set1 _, ?_, hne2, fun h => by simp at h⟩, (hb1.trans HB2.out).setCell (p := ⟨b, 1, none⟩) hB _⟩
  have := ownsRow_setCell HO.out b 1 (.slice (some ⟨g, 0, none⟩) (o.length + 1) cap) hne2
  simpa [Lib.byteCells] using this

theorem cellsByte : Try.prog.cellsOf 5 = 1 := by kernel_rfl

set_option maxHeartbeats 2000000 in
set_option maxRecDepth 100000 in
theorem stringW (B b : Nat) (o : List UInt8) (x y : Value) (w : World) (h : WB B b o x y w) :
    Calls Try.prog 30 #[.pointer (some ⟨b, 0, none⟩)] w fun e w' => e = .returned (.string ⟨o.toArray⟩) ∧ Below B w w' := by
  obtain ⟨hB, p, v, hp, hw, ho, hne, h0⟩ := h
  by_cases he : o = []
  · have hv := h0 he
    subst hv
    subst he
    have hUS : ∀ (W : World) (q : Option Addr), (Builtin.unsafeString_ #[71, 3] 9 #[.pointer q, .int .i64 0]).run Try.prog W = .ok (.string .empty) W := fun W q => Lib.run_unsafeString_none W _ _ _ q
    have c1 : w.drew.cell? ⟨b, 1, none⟩ = some (.slice none 0 0) := hw.c1
    have hSD : (Builtin.unsafeSliceData_ #[31] 71 #[.slice none 0 0]).run Try.prog w.drew = .ok (.pointer none) w.drew := rfl
    go_enter Try.func30, Try.ntmps30
    go_wp2
    go_region
    all_goals (go_wp2; go_ret; exact ⟨rfl, Below.drew (Below.refl B w)⟩)
  · have hl0 : o.length ≠ 0 := by simpa using he
    obtain ⟨g, cap, cur, rfl, hbg, hg, hnc, hcm, hcs, htake⟩ : ∃ g cap cur, v = .slice (some ⟨g, 0, none⟩) o.length cap ∧ B ≤ g ∧ w.heap[g]? = some (.cells cur 5 (0, 0)) ∧ o.length ≤ cap ∧ cap ≤ maxLen ∧ cur.size = cap * 1 ∧ cur.toList.take (o.length * 1) = Lib.byteCells o := by
      rcases ho.2 with ⟨_, hz⟩ | ⟨g, cap, cur, hv, r⟩
      · exact absurd hz hl0
      · exact ⟨g, cap, cur, hv, r⟩
    have c1 : w.drew.cell? ⟨b, 1, none⟩ = some (.slice (some ⟨g, 0, none⟩) o.length cap) := hw.c1
    have hSD : (Builtin.unsafeSliceData_ #[31] 71 #[.slice (some ⟨g, 0, none⟩) o.length cap]).run Try.prog w.drew = .ok (.pointer (some ⟨g, 0, none⟩)) w.drew :=
      Lib.run_unsafeSliceData_row _ _ _ _ _ _ (by omega)
    have hUS : (Builtin.unsafeString_ #[71, 3] 9 #[.pointer (some ⟨g, 0, none⟩), .int .i64 o.length]).run Try.prog w.drew = .ok (.string ⟨o.toArray⟩) (w.drew.freeze ⟨g, 0, none⟩ o.length) := by
      refine Lib.run_unsafeString_row w.drew 71 3 9 5 Try.underlying71 cellsByte g cur.size (by have hg' : w.drew.heap[g]? = some (.cells cur 5 (0, 0)) := hg; simp [World.shape?, hg']) o he (by omega) (by unfold maxLen at hcm; omega) ?_
      intro j z hz
      have hj : j < o.length := by
        rcases Nat.lt_or_ge j o.length with h' | h'
        · exact h'
        · simp [List.getElem?_eq_none h'] at hz
      have hg' : w.drew.heap[g]? = some (.cells cur 5 (0, 0)) := hg
      have hcell : w.drew.cell? ⟨g, j, none⟩ = cur[j]? := Lib.cell_of_heap hg' j
      have h3 : cur.toList[j]? = (Lib.byteCells o)[j]? := by rw [← htake, List.getElem?_take]; simp [hj]
      have : w.drew.cell? ⟨g, j, none⟩ = some (.int .u8 z.toNat) := by
        rw [hcell, ← Array.getElem?_toList, h3]
        simp [Lib.byteCells, hz]
      rw [Addr.add_mid, Nat.zero_add]
      exact this
    have HB : Hid (Below B w (w.drew.freeze ⟨g, 0, none⟩ o.length)) := Lib.below_freeze (Below.drew (Below.refl B w)) (p := ⟨g, 0, none⟩) hbg _
    clear hw ho htake hcs hg
    go_enter Try.func30, Try.ntmps30
    go_wp2
    go_region
    all_goals (go_wp2; go_ret; exact ⟨rfl, HB.out⟩)

end Go.Proofs.Yteihpdnbehnnhaa

set_option linter.unusedVariables false
namespace Go.Proofs.Yteihpdnbehnnhaa
open Go.RowKit

def WR (B b : Nat) (s : List UInt8 × List Nat) (w : World) : Prop := WB B b s.1 (.int .u8 (valB s.2 : Int)) (.int .i64 (s.2.length : Int)) w

theorem or8 (q b : Nat) (hq : q < 128) (hb : b ≤ 1) : bits .or .u8 ((q : Int) * 2 % 256) (b : Int) = ((q * 2 + b : Nat) : Int) := by
  have e : (q : Int) * 2 % 256 = ((q * 2 : Nat) : Int) := by omega
  rw [e, (bits_nat .u8 8 (by decide) (fun m h0 h1 => by rw [IntKind.wrap_u8]; omega) (q * 2) b (by omega) (by omega)).2]
  have := (Nat.two_pow_add_eq_or_of_lt (i := 1) (by omega : b < 2 ^ 1) q).symm
  rw [show (2 : Nat) ^ 1 * q = q * 2 from by omega] at this
  rw [this]
theorem writeByteN (B b : Nat) (o : List UInt8) (v : Nat) (hv : v < 256) (x y : Value) (w : World) (h : WB B b o x y w) (hlen : o.length + 1 ≤ 140737488355328) :
    Calls Try.prog 55 #[.pointer (some ⟨b, 0, none⟩), .int .u8 (v : Int)] w fun e w' => e = .returned .nilIface ∧ WB B b (o ++ [UInt8.ofNat v]) x y w' ∧ Below B w w' := by
  have := writeByteW B b o (UInt8.ofNat v) x y w h hlen
  rw [show ((UInt8.ofNat v).toNat : Int) = (v : Int) from by simp; omega] at this
  exact this

set_option maxHeartbeats 1000000 in
set_option maxRecDepth 100000 in
theorem bitI (B b : Nat) (s : List UInt8 × List Nat) (bit : Nat) (w : World) (h : WR B b s w) (hok : okB s) (hb : bit ≤ 1) (hlen : s.1.length + 1 ≤ 140737488355328) :
    Calls Try.prog 45 #[.pointer (some ⟨b, 0, none⟩), .int .i64 (bit : Int)] w fun e w' => e = .returned (.tuple #[]) ∧ WR B b (stepB s bit) w' ∧ Below B w w' := by
  obtain ⟨o, l⟩ := s
  have hv := valB_lt l hok.2
  have hl8 : l.length < 8 := hok.1
  have HWB : Hid (WB B b o (.int .u8 (valB l : Int)) (.int .i64 (l.length : Int)) w) := h
  have hB := h.1
  obtain ⟨_, p, v, hp, hw, ho, hne⟩ := h
  have c2 := hw.c2
  have c3 := hw.c3
  have f2 := hw.fz 2
  have f3 := hw.fz 3
  clear hw ho hne hp
  have hsn := valB_snoc l bit
  have hq : valB l < 128 := by
    have : 2 ^ l.length ≤ 2 ^ 7 := Nat.pow_le_pow_right (by decide) (by omega)
    omega
  have ror := or8 (valB l) bit hq hb
  rw [← hsn] at ror
  have HV : Hid (valB (l ++ [bit]) < 256) := by show _ < _; rw [hsn]; omega
  generalize hqv : valB l = q at c2 ror HWB
  have HVV : Hid (∃ u, u = valB (l ++ [bit])) := ⟨_, rfl⟩
  obtain ⟨u, hu⟩ := HVV.out
  rw [← hu] at ror HV
  have HU : Hid (u = valB (l ++ [bit])) := hu
  clear hsn hu HVV hqv hv
  by_cases h7 : l.length = 7
  · have HS : Hid (stepB (o, l) bit = (o ++ [UInt8.ofNat u], [])) := by
      show _ = _
      rw [HU.out]
      simp [stepB, h7]
    have c3' : w.cell? ⟨b, 3, none⟩ = some (.int .i64 7) := by rw [c3, h7]; rfl
    rw [h7] at HWB
    clear c3 h7
    go_enter Try.func45, Try.ntmps45
    go_wp2_with fail
    have HW1 : Hid (WB B b o (.int .u8 (u : Int)) (.int .i64 8) ((w.setCell ⟨b, 2, none⟩ (.int .u8 (u : Int))).setCell ⟨b, 3, none⟩ (.int .i64 8))) := (HWB.out.set2 _).set3 _
    have HB1 : Hid (Below B w ((w.setCell ⟨b, 2, none⟩ (.int .u8 (u : Int))).setCell ⟨b, 3, none⟩ (.int .i64 8))) := ((Below.refl B w).setCell (p := ⟨b, 2, none⟩) hB _).setCell (p := ⟨b, 3, none⟩) hB _
    go_region_with (go_at_call 55; refine (writeByteN B b o u HV.out (.int .u8 (u : Int)) (.int .i64 8) _ ?_ hlen).mono ?_; exact HW1.out.drew; rintro e w2 ⟨rfl, hw2, hb2⟩)
    all_goals
      obtain ⟨_, p2, v2, hp2, hwa2, ho2, hne2⟩ := id hw2
      have d2 := hwa2.fz 2
      have d3 := hwa2.fz 3
      have e2 := hwa2.c2
      have e3 := hwa2.c3
      have HW2 : Hid (WB B b (o ++ [UInt8.ofNat u]) (.int .u8 (u : Int)) (.int .i64 8) w2) := hw2
      have HB2 : Hid (Below B w w2) := HB1.out.drew.trans hb2
      clear hwa2 ho2 hne2 hp2 hw2 hb2 HB1 HW1
      go_wp2_with fail
      go_end0
      refine ⟨rfl, ?_, (HB2.out.setCell (p := ⟨b, 2, none⟩) hB _).setCell (p := ⟨b, 3, none⟩) hB _⟩
      rw [HS.out]
      exact (HW2.out.set2 _).set3 _
  · have HS : Hid (stepB (o, l) bit = (o, l ++ [bit])) := by
      show _ = _
      simp [stepB, h7]
    obtain ⟨m, hm⟩ : ∃ m : Nat, m = l.length := ⟨_, rfl⟩
    rw [← hm] at c3 HWB h7
    have HM : Hid (m = l.length) := hm
    have hm7 : m < 7 := by omega
    clear hm hl8 h7
    go_enter Try.func45, Try.ntmps45
    go_wp2_with fail
    go_end0
    refine ⟨rfl, ?_, ((Below.refl B w).setCell (p := ⟨b, 2, none⟩) hB _).setCell (p := ⟨b, 3, none⟩) hB _⟩
    rw [HS.out]
    show WB B b o (.int .u8 ((valB (l ++ [bit]) : Nat) : Int)) (.int .i64 (((l ++ [bit]).length : Nat) : Int)) _
    rw [← HU.out, List.length_append, ← HM.out]
    exact (HWB.out.set2 _).set3 _

end Go.Proofs.Yteihpdnbehnnhaa

set_option linter.unusedVariables false
namespace Go.Proofs.Yteihpdnbehnnhaa
open Go.RowKit

set_option maxHeartbeats 1000000 in
set_option maxRecDepth 100000 in
theorem numberI (B b : Nat) (s : List UInt8 × List Nat) (n k : Nat) (w : World) (h : WR B b s w) (hok : okB s) (hn : n ≤ 60000) (hk : k ≤ 8) (hlen : s.1.length ≤ 1000000000) :
    Calls Try.prog 28 #[.pointer (some ⟨b, 0, none⟩), .int .i64 (n : Int), .int .i64 (k : Int)] w fun e w' => e = .returned (.tuple #[]) ∧ WR B b (runB s (numB k n)) w' ∧ Below B w w' := by
  obtain ⟨N, hN⟩ : ∃ N : Nat, N = n / 2 ^ k := ⟨_, rfl⟩
  have hNn : N ≤ 60000 := by rw [hN]; exact Nat.le_trans (Nat.div_le_self _ _) hn
  have HF : Hid (runB s (List.replicate N 1 ++ 0 :: lowB n k) = runB s (numB k n)) := by show _ = _; rw [hN]; rfl
  obtain ⟨F, hF⟩ : ∃ F, F = runB s (numB k n) := ⟨_, rfl⟩
  rw [← hF] at HF ⊢
  have rsh : (n : Int) / 2 ^ k = (N : Int) := by rw [hN]; simp
  clear hF hN
  go_enter Try.func28, Try.ntmps28
  have HS : Hid (WR B b s w ∧ okB s ∧ s.1.length ≤ 1000000000) := ⟨h, hok, hlen⟩
  clear h hok hlen
  go_wp2_with fail
  go_loopw [10] (fun i wr => ∃ (j : Nat) (c : List UInt8 × List Nat), j ≤ N ∧ i = .int .i64 (j : Int) ∧ Hid (runB c (List.replicate (N - j) 1 ++ 0 :: lowB n k) = F) ∧ Hid (okB c) ∧ Hid (c.1.length ≤ 1000000000 + j) ∧ Hid (WR B b c wr) ∧ Hid (Below B w wr)) (fun i _ => N - (intOf i).toNat)
  case atStart => exact ⟨0, s, by omega, rfl, HF, HS.out.2.1, HS.out.2.2, HS.out.1, Below.refl B w⟩
  case round =>
    obtain ⟨j, c, hj, rfl, HF, HO, HL, HW, HB⟩ := hrel
    by_cases hlt : j < N
    · go_wp2_with fail
      refine (bitI B b c 1 _ HW.out HO.out (by omega) (by have := HL.out; omega)).mono ?_
      rintro e w1 ⟨rfl, hw1, hb1⟩
      have HW1 : Hid (WR B b (stepB c 1) w1) := hw1
      have HB1 : Hid (Below B w w1) := HB.out.trans hb1
      clear hw1 hb1
      go_wp2_with fail
      go_roundw
      case rel =>
        refine ⟨j + 1, stepB c 1, by omega, by go_num, ?_, stepB_ok HO.out (by omega), ?_, HW1, HB1⟩
        · show _ = _
          rw [← HF.out, show N - j = (N - (j + 1)) + 1 from by omega, List.replicate_succ]
          rfl
        · have h1 := stepB_len c 1
          have h2 := HL.out
          show _ ≤ _
          omega
      case measure => simp [intOf]; omega
    · have HF1 : Hid (runB (stepB c 0) (lowB n k) = F) := by
        show _ = _
        rw [← HF.out, show N - j = 0 from by omega]
        rfl
      go_wp2_with fail
      refine (bitI B b c 0 _ HW.out HO.out (by omega) (by have := HL.out; omega)).mono ?_
      rintro e w1 ⟨rfl, hw1, hb1⟩
      have HW1 : Hid (WR B b (stepB c 0) w1) := hw1
      have HB1 : Hid (Below B w w1) := HB.out.trans hb1
      have HO1 : Hid (okB (stepB c 0)) := stepB_ok HO.out (by omega)
      have HL1 : Hid ((stepB c 0).1.length ≤ 1000000000 + 60001) := by
        have h1 := stepB_len c 0
        have h2 := HL.out
        show _ ≤ _
        omega
      clear hw1 hb1 HF HW HB HO HL
      obtain ⟨c1, hc1⟩ : ∃ c1, c1 = stepB c 0 := ⟨_, rfl⟩
      rw [← hc1] at HF1 HW1 HO1 HL1
      clear hc1 rsh hj hlt
      go_wp2_with fail
      go_loopw [6] (fun i wr => ∃ (r : Nat) (x : Int) (c : List UInt8 × List Nat), r ≤ k ∧ i = .int .i64 x ∧ Hid (x = (r : Int) - 1) ∧ Hid (runB c (lowB n r) = F) ∧ Hid (okB c) ∧ Hid (c.1.length ≤ 1000070001 - r) ∧ Hid (WR B b c wr) ∧ Hid (Below B w wr)) (fun i _ => (intOf i + 1).toNat)
      case atStart => exact ⟨k, _, c1, by omega, rfl, rfl, HF1, HO1, by have := HL1.out; show _ ≤ _; omega, HW1, HB1⟩
      case round =>
        clear HF1 HO1 HL1 HW1 HB1
        obtain ⟨r, x, c, hr, rfl, HX, HF, HO, HL, HW, HB⟩ := hrel
        rcases r with _ | m
        · have hx : ¬ (0 : Int) ≤ x := by have := HX.out; omega
          have HE : Hid (c = F) := HF.out
          go_wp2_with fail
          go_end0
          rw [← HE.out]
          exact ⟨rfl, HW.out, HB.out⟩
        · obtain rfl : x = (m : Int) := by have := HX.out; omega
          obtain ⟨q, hq⟩ : ∃ q : Nat, q = n / 2 ^ m := ⟨_, rfl⟩
          have rq : (n : Int) / 2 ^ m = (q : Int) := by rw [hq]; simp
          have hqn : q ≤ 60000 := by rw [hq]; exact Nat.le_trans (Nat.div_le_self _ _) hn
          obtain ⟨bt, hbt⟩ : ∃ bt : Nat, bt = q % 2 := ⟨_, rfl⟩
          have hb1 : bt ≤ 1 := by omega
          have rb : bits .and .i64 (q : Int) 1 = (bt : Int) := by
            have := (bits_nat .i64 63 (by decide) (fun m h0 h1 => by rw [IntKind.wrap_i64]; omega) q 1 (by omega) (by omega)).1
            rw [Nat.and_one_is_mod, ← hbt] at this
            exact this
          have rb2 : (q : Int) % 2 = (bt : Int) := by omega
          have HF2 : Hid (runB (stepB c bt) (lowB n m) = F) := by
            show _ = _
            rw [← HF.out, hbt, hq]
            rfl
          have hm0 : (0 : Int) ≤ (m : Int) := by omega
          clear hq hbt HX
          go_wp2_with fail
          refine (bitI B b c bt _ HW.out HO.out hb1 (by have := HL.out; omega)).mono ?_
          rintro e w2 ⟨rfl, hw2, hb2⟩
          have HW2 : Hid (WR B b (stepB c bt) w2) := hw2
          have HB2 : Hid (Below B w w2) := HB.out.trans hb2
          clear hw2 hb2
          go_wp2_with fail
          go_roundw
          case rel =>
            refine ⟨m, _, stepB c bt, by omega, rfl, ?_, HF2, stepB_ok HO.out hb1, ?_, HW2, HB2⟩
            · show _ = _
              first | rfl | omega
            · have h1 := stepB_len c bt
              have h2 := HL.out
              show _ ≤ _
              omega
          case measure => simp [intOf]

end Go.Proofs.Yteihpdnbehnnhaa

set_option linter.unusedVariables false
namespace Go.Proofs.Yteihpdnbehnnhaa
open Go.RowKit

def manyOf (b : Nat) (w : World) : Nat := match w.cell? ⟨b, 3, none⟩ with
  | some (.int _ z) => if z = 0 then 0 else (8 - z).toNat
  | _ => 0
theorem manyOf_eq {b : Nat} {w : World} {m : Nat} (h : w.cell? ⟨b, 3, none⟩ = some (.int .i64 (m : Int))) : manyOf b w = if m = 0 then 0 else 8 - m := by
  simp only [manyOf, h]
  by_cases h0 : m = 0
  · simp [h0]
  · rw [if_neg (by omega), if_neg h0]; omega
theorem WR.c3 {B b : Nat} {s : List UInt8 × List Nat} {w : World} (h : WR B b s w) : w.cell? ⟨b, 3, none⟩ = some (.int .i64 (s.2.length : Int)) := by
  obtain ⟨_, p, v, _, hw, _⟩ := h
  exact hw.c3

set_option maxHeartbeats 1000000 in
set_option maxRecDepth 100000 in
theorem fillI (B b : Nat) (s : List UInt8 × List Nat) (w : World) (h : WR B b s w) (hok : okB s) (hlen : s.1.length ≤ 1000000000) :
    Calls Try.prog 29 #[.pointer (some ⟨b, 0, none⟩)] w fun e w' => e = .returned (.tuple #[]) ∧ WR B b (fillB s, []) w' ∧ Below B w w' := by
  have HS : Hid (WR B b s w ∧ okB s ∧ s.1.length ≤ 1000000000) := ⟨h, hok, hlen⟩
  clear h hok hlen
  go_enter Try.func29, Try.ntmps29
  go_wp2_with fail
  go_loopw [] (fun wr => ∃ c : List UInt8 × List Nat, Hid (fillB c = fillB s) ∧ Hid (okB c) ∧ Hid (c.1.length ≤ 1000000009 - manyOf b wr) ∧ Hid (WR B b c wr) ∧ Hid (Below B w wr)) (fun wr => manyOf b wr)
  case atStart =>
    refine ⟨s, rfl, HS.out.2.1, ?_, HS.out.1, Below.refl B w⟩
    have h1 := manyOf_eq HS.out.1.c3
    have h2 := HS.out.2.2
    show _ ≤ _
    split at h1 <;> omega
  case round =>
    obtain ⟨c, HF, HO, HL, HW, HB⟩ := hrel
    have c3 := HW.out.c3
    have Hm := manyOf_eq c3
    by_cases h0 : c.2.length = 0
    · have hx : ¬ (0 : Int) < (c.2.length : Int) := by omega
      have HE : Hid (c = (fillB s, [])) := by
        show _ = _
        have h1 : c.2 = [] := List.length_eq_zero_iff.1 h0
        rw [← HF.out, fillB_end h1, ← h1]
      clear h0 Hm
      go_wp2_with fail
      go_end0
      rw [← HE.out]
      exact ⟨rfl, HW.out, HB.out⟩
    · have hx : (0 : Int) < (c.2.length : Int) := by omega
      have HM : Hid (manyOf b wr = 8 - c.2.length) := by show _ = _; rw [Hm, if_neg h0]
      have HN : Hid (¬ c.2.length = 0) := h0
      clear h0 Hm
      go_wp2_with fail
      refine (bitI B b c 0 _ HW.out HO.out (by omega) (by have := HL.out; omega)).mono ?_
      rintro e w1 ⟨rfl, hw1, hb1⟩
      have HW1 : Hid (WR B b (stepB c 0) w1) := hw1
      have HB1 : Hid (Below B w w1) := HB.out.trans hb1
      have HM1 : Hid (manyOf b w1 < 8 - c.2.length) := by
        show _ < _
        have h8 := HO.out.1
        have hn := HN.out
        rw [manyOf_eq hw1.c3]
        unfold stepB
        split
        · simp; omega
        · simp; omega
      have HL1 : Hid ((stepB c 0).1.length ≤ 1000000009 - manyOf b w1) := by
        have h1 := stepB_len c 0
        have h2 := HL.out
        have h3 := HM.out
        have h4 := HM1.out
        show _ ≤ _
        omega
      clear hw1 hb1 c3 hx
      go_wp2_with fail
      go_roundw
      case rel =>
        refine ⟨stepB c 0, ?_, stepB_ok HO.out (by omega), HL1, HW1, HB1⟩
        show _ = _
        rw [← HF.out]
        exact fillB_step HO.out.1 (fun e => HN.out (by rw [e]; rfl))
      case measure => rw [HM.out]; exact HM1.out

end Go.Proofs.Yteihpdnbehnnhaa

