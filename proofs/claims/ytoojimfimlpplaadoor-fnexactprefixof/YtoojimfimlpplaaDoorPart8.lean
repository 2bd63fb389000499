/-
  At every list of heads and number the program's PrefixOf answers what the specification answers, its answer owns its memory, the arguments stand. The package variables that the row lists are as the program's text lays them.
-/
import Derived.Test.YtoojimfimlpplaaDoorPart1
import Derived.Test.YtoojimfimlpplaaDoorPart2
import Derived.Test.YtoojimfimlpplaaDoorPart3
import Derived.Test.YtoojimfimlpplaaDoorPart4
import Derived.Test.YtoojimfimlpplaaDoorPart5
import Derived.Test.YtoojimfimlpplaaDoorPart6
import Derived.Test.YtoojimfimlpplaaDoorPart7
import Derived.Maps.AppendAt
import Derived.Test.YtoojimfimlpplaaDoorCards
import Derived.Test.YtoojimfimlpplaaDoorTie
import Derived.WalkKit
import Derived.ProofKit
import Derived.OpenShut
import Derived.ShutString
import Derived.ChangeOld
import Derived.ChangeVars
import Derived.Below
import Derived.Carry
import Derived.Deep.DeepHandedRow
import Derived.Lib.LaidTab
set_option linter.unusedVariables false
namespace Go.Proofs.YtoojimfimlpplaaDoor
open Go.RowKit Go.Deep Go.Joins

theorem rem_nat (p c : Nat) : Int.tmod (p : Int) ((c : Int) * 2) = ((p % (c * 2) : Nat) : Int) := by
  rw [show ((c : Int) * 2) = ((c * 2 : Nat) : Int) from by omega]
  rfl

set_option maxHeartbeats 1000000 in
set_option maxRecDepth 100000 in
theorem implAligned (p t : Nat) (w : World) (h0 : 0 < t) (ht : t ≤ 20) :
    Calls Tryd.prog 24 #[.int .i64 (p : Int), .int .i64 (t : Int)] w fun e w' => e = .returned (.int .i64 ((2 ^ high p t : Nat) : Int)) ∧ Below w.heap.size w w' := by
  have HT : Hid (0 < t ∧ t ≤ 20) := ⟨h0, ht⟩
  obtain ⟨R, hR⟩ : ∃ R : Nat, R = 2 ^ high p t := ⟨_, rfl⟩
  rw [← hR]
  have HR : Hid (R = 2 ^ high p t) := hR
  clear h0 ht hR
  go_enter Tryd.func24, Tryd.ntmps24
  go_wp2_with fail
  go_loopw [5] (fun v wr => ∃ (i f c : Nat), v = .int .i64 (c : Int) ∧ Hid (c = 2 ^ i ∧ alN p t f i = high p t ∧ 5 ≤ i + f ∧ c ≤ t) ∧ Hid (Below w.heap.size w wr)) (fun v _ => 40 - (intOf v).toNat)
  case atStart => exact ⟨0, 5, 1, rfl, ⟨rfl, rfl, by omega, HT.out.1⟩, Below.refl _ w⟩
  case round =>
    obtain ⟨i, f, c, rfl, HC, HB⟩ := hrel
    have hc20 : c ≤ 20 := by have := HC.out.2.2.2; have := HT.out.2; omega
    have hc0 : 0 < c := by rw [HC.out.1]; exact Nat.two_pow_pos i
    have hw : IntKind.i64.wrap ((c : Int) * 2) = (c : Int) * 2 := by rw [IntKind.wrap_i64]; omega
    have hnz : ¬ (c : Int) * 2 = 0 := by omega
    have hre := rem_nat p c
    have HST := alN_stop p t HT.out.2 f i HC.out.2.2.1
    by_cases h1 : (c : Int) * 2 ≤ (t : Int)
    · obtain ⟨q, hq⟩ : ∃ q : Nat, q = p % (c * 2) := ⟨_, rfl⟩
      rw [← hq] at hre
      by_cases hq0 : q = 0
      · have hi1 : c * 2 = 2 ^ (i + 1) := by rw [HC.out.1, Nat.pow_succ]
        have hcc : (2 ^ i * 2 ≤ t ∧ p % (2 ^ i * 2) = 0) := by rw [← HC.out.1]; exact ⟨by omega, by rw [← hq]; exact hq0⟩
        obtain ⟨f', rfl⟩ : ∃ f', f = f' + 1 := by
          cases f with
          | zero => exact absurd hcc HST
          | succ f => exact ⟨f, rfl⟩
        have HC2 : Hid (c * 2 = 2 ^ (i + 1) ∧ alN p t f' (i + 1) = high p t ∧ 5 ≤ i + 1 + f' ∧ c * 2 ≤ t) := by
          have h2 := HC.out.2.1
          rw [alN, if_pos hcc] at h2
          exact ⟨hi1, h2, by have := HC.out.2.2.1; omega, by omega⟩
        rw [hq0] at hre
        clear HC HST hcc hi1 hq hq0
        have hcz : ((0 : Nat) : Int) = 0 := rfl
        rw [hcz] at hre
        go_wp2_with fail
        go_roundw
        case rel => exact ⟨i + 1, f', c * 2, by go_num, HC2, HB⟩
        case measure => simp [intOf]; omega
      · have hqz : ¬ (q : Int) = 0 := by omega
        have HV : Hid (c = R) := by
          have hcc : ¬ (2 ^ i * 2 ≤ t ∧ p % (2 ^ i * 2) = 0) := by rw [← HC.out.1, ← hq]; exact fun h => hq0 h.2
          have h2 := HC.out.2.1
          show _ = _
          rw [HC.out.1, HR.out, ← h2]
          congr 1
          cases f with
          | zero => rfl
          | succ f => rw [alN, if_neg hcc]
        clear HC HST hq hq0
        go_wp2_with fail
        go_ret
        exact ⟨by rw [← HV.out]; rfl, HB.out⟩
    · have HV : Hid (c = R) := by
        have hcc : ¬ (2 ^ i * 2 ≤ t ∧ p % (2 ^ i * 2) = 0) := by rw [← HC.out.1]; exact fun h => h1 (by have := h.1; omega)
        have h2 := HC.out.2.1
        show _ = _
        rw [HC.out.1, HR.out, ← h2]
        congr 1
        cases f with
        | zero => rfl
        | succ f => rw [alN, if_neg hcc]
      clear HC HST
      go_wp2_with fail
      go_ret
      exact ⟨by rw [← HV.out]; rfl, HB.out⟩

/-- Peaks in a row of one's own, or none. -/
def PkR (B : Nat) (v : Value) (l : List PeakV) (w : World) : Prop := w.ownsRow B 50 3 v l.length (l.flatMap pEnc)
theorem PkR.pks {B : Nat} {v : Value} {l : List PeakV} {w : World} (h : PkR B v l w) : Pks B v l w := by
  rcases h.2 with ⟨rfl, h2⟩ | ⟨g, cap, cur, rfl, h2⟩
  · exact .inl ⟨rfl, List.eq_nil_of_length_eq_zero h2⟩
  · exact .inr (PBk.frow (FRow.of h rfl))
theorem PkR.below {B : Nat} {v : Value} {l : List PeakV} {w w' : World} (h : PkR B v l w) (hb : Below w.heap.size w w') : PkR B v l w' := by
  rcases h.2 with ⟨rfl, h2⟩ | ⟨g, cap, cur, rfl, h2⟩
  · exact ⟨h.1, .inl ⟨rfl, h2⟩⟩
  · exact (FRow.below (FRow.of h rfl) hb).2
def PoxPost (l : List HeadV) (m : Int) (w : World) (e : Ending) (w' : World) : Prop := ∃ v, e = .returned v ∧ Pks w.heap.size v (prefL l m) w' ∧ Below w.heap.size w w'
theorem pox_no {l : List HeadV} {m : Int} {w w' : World} (h : ¬ (headsB l = true ∧ 0 ≤ m ∧ m ≤ (l.length : Int))) (hb : Below w.heap.size w w') : PoxPost l m w (.returned (.slice none 0 0)) w' := ⟨_, rfl, .inl ⟨rfl, prefL_no h⟩, hb⟩
theorem pox_yes {l : List HeadV} {m : Int} {w w' : World} {v : Value} (h : PkR w.heap.size v (prefL l m) w') (hb : Below w.heap.size w w') : PoxPost l m w (.returned v) w' := ⟨_, rfl, h.pks, hb⟩

set_option maxHeartbeats 4000000 in
set_option maxRecDepth 100000 in
theorem implPrefixOf (g n cap : Nat) (l : List HeadV) (m : Int) (w : World) (hA : AtHead w g l) (hn : n = l.length) (hm : n ≤ 1048576) (hc : n ≤ cap) (hK : RowG w shaK) (hP : TabP w) :
    Calls Tryd.prog 8 #[.slice (some ⟨g, 0, none⟩) n cap, .int .i64 m] w fun e w' => PoxPost l m w e w' := by
  obtain ⟨i0, hi, hz0, hz1, hz2⟩ := info3 infoPeak
  have hhs := implRangeHeadsOk g n cap l w hA hn hm
  have HN : Hid (n = l.length) := hn
  have HC : Hid (n ≤ cap) := hc
  have HNO : Hid (∀ w', ¬ (headsB l = true ∧ 0 ≤ m ∧ m ≤ (l.length : Int)) → Below w.heap.size w w' → PoxPost l m w (.returned (.slice none 0 0)) w') := fun w' h hb => pox_no h hb
  have HYES : Hid (∀ w' v, PkR w.heap.size v (prefL l m) w' → Below w.heap.size w w' → PoxPost l m w (.returned v) w') := fun w' v h hb => pox_yes h hb
  have HRO : Hid (headsB l = true → ∀ (k j : Nat) (w' : World), k + 2 ^ j ≤ n → Below w.heap.size w w' → Calls Tryd.prog 25 #[.slice (some ⟨g, k * 5, none⟩) (2 ^ j) (cap - k)] w' fun e w'' => ∃ g5 c5, e = .returned (.slice (some ⟨g5, 0, none⟩) 1 c5) ∧ AtP w'' g5 [treeT (leafF l) k j] ∧ Below w'.heap.size w' w'') := fun hk k j w' h1 hb => by
    have h2 := implRangeOfO g (k * 5) (2 ^ j) (cap - k) ((l.drop k).take (2 ^ j)) w' ((AtHO.of hA k (2 ^ j) (by omega)).below hb hA.1) (sub_len (by omega)).symm (by omega) (hK.below hb hK.lt) (TabP.below hP hb (Nat.le_refl _))
    refine h2.mono ?_
    rintro e w'' ⟨v, rfl, hv, hb2⟩
    rw [ofL, if_pos (sub_heads hk k (2 ^ j) (by omega)), sub_len (by omega), of_sub (by omega)] at hv
    rcases hv with ⟨_, h3⟩ | ⟨g5, c5, rfl, h4, _, _⟩
    · cases h3
    · exact ⟨g5, c5, rfl, h4, hb2⟩
  have HPM : Hid (headsB l = true → prefL l m = prefL l m) := fun _ => rfl
  cases hk : headsB l with
  | false =>
    have HV : Hid (∀ w', Below w.heap.size w w' → PoxPost l m w (.returned (.slice none 0 0)) w') := fun w' hb => HNO.out w' (by rw [hk]; exact fun h => absurd h.1 (by decide)) hb
    rw [hk] at hhs
    clear HNO HYES HRO HPM hA hn hm hc hK hP
    generalize PoxPost l m w = Q at HV ⊢
    go_enter Tryd.func8, Tryd.ntmps8
    go_wp2_with fail
    refine hhs.mono ?_
    rintro e w1 ⟨rfl, b1⟩
    go_wp2_with fail
    exact HV.out _ b1
  | true =>
  have HKK : Hid (headsB l = true) := hk
  have HM : Hid (n ≤ 20) := by show _ ≤ _; have := heads_len hk; omega
  have HRO2 : Hid _ := HRO.out hk
  rw [hk] at hhs
  clear hk HRO HPM hA hn hm hc hK hP
  by_cases hm0 : m < 0
  · have HV : Hid (∀ w', Below w.heap.size w w' → PoxPost l m w (.returned (.slice none 0 0)) w') := fun w' hb => HNO.out w' (fun h => absurd h.2.1 (by omega)) hb
    clear HNO HYES HRO2
    generalize PoxPost l m w = Q at HV ⊢
    go_enter Tryd.func8, Tryd.ntmps8
    go_wp2_with fail
    refine hhs.mono ?_
    rintro e w1 ⟨rfl, b1⟩
    go_wp2_with fail
    exact HV.out _ b1
  obtain ⟨M, rfl⟩ : ∃ M : Nat, m = (M : Int) := ⟨m.toNat, by omega⟩
  by_cases hmn : (n : Int) < (M : Int)
  · have HV : Hid (∀ w', Below w.heap.size w w' → PoxPost l (M : Int) w (.returned (.slice none 0 0)) w') := fun w' hb => HNO.out w' (fun h => absurd h.2.2 (by have := HN.out; omega)) hb
    clear HNO HYES HRO2
    generalize PoxPost l (M : Int) w = Q at HV ⊢
    go_enter Tryd.func8, Tryd.ntmps8
    go_wp2_with fail
    refine hhs.mono ?_
    rintro e w1 ⟨rfl, b1⟩
    go_wp2_with fail
    exact HV.out _ b1
  have HE : Hid (prefL l (M : Int) = prefT l (n - M) M) := by
    show _ = _
    rw [prefL_yes ⟨HKK.out, by omega, by have := HN.out; omega⟩, Int.toNat_natCast, HN.out]
  have HLN : Hid ((prefL l (M : Int)).length ≤ 20) := prefL_len l _
  clear HNO
  generalize PoxPost l (M : Int) w = Q at HYES ⊢
  generalize prefL l (M : Int) = A at HYES HE HLN
  have hdn : decide (n < M) = false := decide_eq_false (by omega)
  have hdz : decide ((M : Int) < 0) = false := decide_eq_false (by omega)
  go_enter Tryd.func8, Tryd.ntmps8
  go_wp2_with fail
  refine hhs.mono ?_
  rintro e w1 ⟨rfl, b1⟩
  have B1 : Hid (Below w.heap.size w w1) := b1
  have R1 : Hid (PkR w.heap.size (.slice none 0 0) [] w1) := ⟨rfl, .inl ⟨rfl, rfl⟩⟩
  clear b1 hhs
  go_wp2_with fail
  go_loopw [5, 6] (fun v a wr => ∃ (k f : Nat) (L : List PeakV), k ≤ n ∧ a = .int .i64 (k : Int) ∧ Hid (PkR w.heap.size v L wr) ∧ Hid (L ++ prefT l f k = A) ∧ Hid (l.length ≤ k + f) ∧ Hid (Below w.heap.size w wr)) (fun _ a _ => n - (intOf a).toNat)
  case atStart => exact ⟨M, n - M, [], by omega, rfl, R1, HE.out.symm, by show _ ≤ _; have := HN.out; omega, B1⟩
  case round =>
    clear R1 B1 HE hmn hm0 hdn hdz
    obtain ⟨k, f, L, hkn, rfl, R, HA, HF, HB⟩ := hrel
    by_cases hlt : k < n
    · have lk : (k : Int) < (n : Int) := by omega
      have hm20 := HM.out
      obtain ⟨f', hf', hpf⟩ := prefT_step (l := l) (f := f) (a := k) (by rw [← HN.out]; exact hlt) HF.out
      rw [← HN.out] at hf' hpf
      have hal := implAligned k (n - k) wr (by omega) (by omega)
      have hle := high_le (p := k) (t := n - k) (by omega)
      have hro := HRO2.out k (high k (n - k))
      generalize high k (n - k) = j at hal hle hro hf' hpf
      obtain ⟨c, hcj⟩ : ∃ c, c = 2 ^ j := ⟨_, rfl⟩
      rw [← hcj] at hal hle hro hf' hpf
      have hc0 : 0 < c := by rw [hcj]; exact Nat.two_pow_pos j
      have HA2 : Hid ((L ++ [treeT (leafF l) k j]) ++ prefT l f' (k + c) = A) := by
        show _ = _
        rw [← HA.out, hpf, List.append_assoc]
        rfl
      have HF2 : Hid (l.length ≤ k + c + f') := by show _ ≤ _; have := HN.out; omega
      have HL1 : Hid (L.length + 1 ≤ 20) := by
        have h1 := congrArg List.length HA2.out
        simp only [List.length_append, List.length_cons, List.length_nil] at h1
        have := HLN.out
        show _ ≤ _
        omega
      have HKC : Hid (k + c ≤ n) := by show _ ≤ _; omega
      have hw1 : IntKind.i64.wrap ((n : Int) - (k : Int)) = ((n - k : Nat) : Int) := by rw [IntKind.wrap_i64]; omega
      have hw2 : IntKind.i64.wrap ((k : Int) + (c : Int)) = ((k + c : Nat) : Int) := by rw [IntKind.wrap_i64]; omega
      generalize treeT (leafF l) k j = T at hro HA2
      clear HA HF hpf hf' hcj
      go_wp2_with fail
      refine hal.mono ?_
      rintro e w2 ⟨rfl, b2⟩
      have B2 : Hid (Below w.heap.size w w2) := HB.out.trans (b2.mono HB.out.size)
      have R2 : Hid (PkR w.heap.size u5 L w2) := R.out.below b2
      have hro2 := hro w2 (by omega) B2.out
      clear b2 hal hro R HB
      have l1 : ¬ ((k + c : Nat) : Int) < (k : Int) := by omega
      have l2 : (k : Int) ≤ ((k + c : Nat) : Int) := by omega
      have l3 : ((k + c : Nat) : Int) ≤ (cap : Int) := by have := HC.out; omega
      have l4 : (0 : Int) ≤ (k : Int) := by omega
      go_wp2_with fail
      refine Calls.mono hro2 ?_
      rintro e w3 ⟨g5, c5, rfl, hat5, b3⟩
      have B3 : Hid (Below w.heap.size w w3) := B2.out.trans (b3.mono B2.out.size)
      have R3 : Hid (PkR w.heap.size u5 L w3) := R2.out.below b3
      have HNW : Hid (∀ j u, (pEnc T)[j]? = some u → w3.cell? ((⟨g5, 0, none⟩ : Addr).add j) = some u) := by
        intro j u hj
        have := newsPeaks hat5 (Below.refl _ w3) j u (by simpa using hj)
        exact this
      have hx1 : L.length + 1 ≤ maxLen := by have := HL1.out; unfold maxLen; omega
      have hx2 : (L.length + 1) * 32 ≤ 140737488355328 := by have := HL1.out; omega
      have hu := pEnc_one T
      have hsz := B3.out.size
      clear hro2 b3 R2 B2 hat5
      go_wp2_with (at_builtin; refine wpList_append_own_at _ rfl _ _ 24 rfl w.heap.size 50 i0 (.agg #[.string ⟨#[]⟩, .int .i64 0, .int .i64 0]) 3 32 Tryd.underlying24 hi hz0 hz1 hz2 rfl (by decide) u5 L.length (L.flatMap pEnc) rfl R3.out ⟨g5, 0, none⟩ 1 c5 (pEnc T) rfl rfl HNW.out hu hx1 hx2 hsz ?_; intro v4 w4 hown4 hgrow4 hnil4 hblk4)
      have R4 : Hid (PkR w.heap.size v4 (L ++ [T]) w4) := by
        show World.ownsRow _ _ _ _ _ _ _
        rw [List.length_append, List.flatMap_append]
        simpa using hown4
      have B4 : Hid (Below w.heap.size w w4) := B3.out.grown hgrow4 hsz (fun j hj => (World.ownsRow.lt R3.out j hj).1)
      clear hown4 hgrow4 hnil4 hblk4 B3 R3 hx1 hx2 hu hsz HNW
      go_wp2_with fail
      go_roundw
      case rel => exact ⟨k + c, f', L ++ [T], HKC.out, by go_num, R4, HA2, HF2, B4⟩
      case measure => have := HKC.out; simp [intOf]; omega
    · obtain rfl : k = n := by omega
      have HE2 : Hid (L = A) := by
        show _ = _
        rw [← HA.out, prefT_end l f k (by rw [← HN.out]; exact Nat.le_refl _), List.append_nil]
      go_wp2_with fail
      exact HYES.out _ _ (by rw [← HE2.out]; exact R.out) HB.out

end Go.Proofs.YtoojimfimlpplaaDoor

set_option linter.unusedVariables false
namespace Go.Proofs.YtoojimfimlpplaaDoor
open Go.RowKit Go.Deep

set_option maxHeartbeats 8000000 in
set_option maxRecDepth 100000 in
theorem specL11Of (g n cap : Nat) (l : List HeadV) (M : Nat) (w : World) (hA : AtHead w g l) (hn : n = l.length) (hc : n ≤ cap) (hk : headsB l = true) (hM : M ≤ n) :
    Calls Tryd.prog 21 #[.slice (some ⟨g, 0, none⟩) n cap, .int .i64 (M : Int)] w fun e w' => ∃ v, e = .returned v ∧ PRow w.heap.size v (prefL l (M : Int)) w' ∧ Below w.heap.size w w' := by
  obtain ⟨i0, hi, hz0, hz1, hz2⟩ := info3 infoPeak
  have HN : Hid (n = l.length) := hn
  have HC : Hid (n ≤ cap) := hc
  have HM : Hid (n ≤ 20) := by show _ ≤ _; have := heads_len hk; omega
  have HOF : Hid (∀ (k j : Nat) (w' : World), k + 2 ^ j ≤ n → Below w.heap.size w w' → Calls Tryd.prog 41 #[.slice (some ⟨g, k * 5, none⟩) (2 ^ j) (cap - k)] w' fun e w'' => ∃ v, e = .returned v ∧ PRow w'.heap.size v [treeT (leafF l) k j] w'' ∧ Below w'.heap.size w' w'') := fun k j w' h1 hb => by
    have h2 := specL5OfO g (k * 5) (2 ^ j) (cap - k) ((l.drop k).take (2 ^ j)) w' ((AtHO.of hA k (2 ^ j) (by omega)).below hb hA.1) (sub_len (by omega)).symm (by have := heads_len hk; omega) (heads_at (sub_heads hk k (2 ^ j) (by omega)))
    rw [of_sub (by omega)] at h2
    exact h2
  have HE : Hid (prefL l (M : Int) = prefT l (n - M) M) := by
    show _ = _
    rw [prefL_yes ⟨hk, by omega, by omega⟩, Int.toNat_natCast, hn]
  have HLN : Hid ((prefL l (M : Int)).length ≤ 20) := prefL_len l _
  generalize prefL l (M : Int) = A at HE HLN ⊢
  have R0 : Hid (PRow w.heap.size (.slice (some ⟨w.heap.size, 0, none⟩) 0 0) [] (w.alloc (.cells #[] 50))) := frow_new pEnc 50 3 w
  have B0 : Hid (Below w.heap.size w (w.alloc (.cells #[] 50))) := (Below.refl _ w).alloc (Nat.le_refl _) _
  clear hA hn hc hk
  go_enter Tryd.func21, Tryd.ntmps21
  go_wp2_with fail
  generalize w.alloc (.cells #[] 50) = W0 at R0 B0 ⊢
  go_loopw [1, 5] (fun a out wr => ∃ (k f g5 c5 : Nat) (L : List PeakV), k ≤ n ∧ a = .int .i64 (k : Int) ∧ out = .slice (some ⟨g5, 0, none⟩) L.length c5 ∧ Hid (PRow w.heap.size (.slice (some ⟨g5, 0, none⟩) L.length c5) L wr) ∧ Hid (L ++ prefT l f k = A) ∧ Hid (l.length ≤ k + f) ∧ Hid (Below w.heap.size w wr)) (fun a _ _ => n - (intOf a).toNat)
  case atStart => exact ⟨M, n - M, w.heap.size, 0, [], hM, rfl, rfl, R0, HE.out.symm, by show _ ≤ _; have := HN.out; omega, B0⟩
  case round =>
    clear R0 B0 HE hM
    obtain ⟨k, f, g5, c5, L, hkn, rfl, rfl, R, HA, HF, HB⟩ := hrel
    by_cases hlt : k < n
    · have lk : (k : Int) < (n : Int) := by omega
      have hm20 := HM.out
      obtain ⟨f', hf', hpf⟩ := prefT_step (l := l) (f := f) (a := k) (by rw [← HN.out]; exact hlt) HF.out
      rw [← HN.out] at hf' hpf
      have hle := high_le (p := k) (t := n - k) (by omega)
      have hof0 := HOF.out k (high k (n - k)) wr
      have HHI : Hid (alN k (n - k) 5 0 = high k (n - k)) := rfl
      generalize high k (n - k) = j at HHI hle hof0 hf' hpf
      obtain ⟨c, hcj⟩ : ∃ c, c = 2 ^ j := ⟨_, rfl⟩
      have HCJ : Hid (c = 2 ^ j) := hcj
      rw [← hcj] at hle hof0 hf' hpf
      have hc0 : 0 < c := by rw [hcj]; exact Nat.two_pow_pos j
      have HA2 : Hid ((L ++ [treeT (leafF l) k j]) ++ prefT l f' (k + c) = A) := by
        show _ = _
        rw [← HA.out, hpf, List.append_assoc]
        rfl
      have HF2 : Hid (l.length ≤ k + c + f') := by show _ ≤ _; have := HN.out; omega
      have HL1 : Hid (L.length + 1 ≤ 20) := by
        have h1 := congrArg List.length HA2.out
        simp only [List.length_append, List.length_cons, List.length_nil] at h1
        have := HLN.out
        show _ ≤ _
        omega
      have HKC : Hid (k + c ≤ n) := by show _ ≤ _; omega
      have hof := hof0 (by omega) HB.out
      generalize treeT (leafF l) k j = T at hof HA2
      clear HA HF hpf hf' hcj hof0
      obtain ⟨wo, rfl⟩ : ∃ wo, wo = wr := ⟨wr, rfl⟩
      by_cases hk0 : k = 0
      · subst hk0
        have hwk : ((0 : Nat) : Int) = 0 := rfl
        rw [hwk]
        simp only [Nat.zero_mul, Nat.sub_zero] at hof
        go_wp2_with fail
        go_loopw [6] (fun v wx => v = .int .i64 1 ∧ Hid (wx = wo)) (fun _ _ => 0)
        case atStart => exact ⟨rfl, rfl⟩
        case round =>
          obtain ⟨rfl, HW⟩ := hrel
          obtain rfl : wo = wr := HW.out.symm
          by_cases h2n : (2 : Int) ≤ (n : Int)
          · have hd9 : Int.tmod 0 2 = 0 := rfl
            go_wp2_with fail
            go_loopw [6] (fun v wx => ∃ (i f c1 : Nat), v = .int .i64 (c1 : Int) ∧ Hid (c1 = 2 ^ i ∧ alN 0 (n - 0) f i = j ∧ 5 ≤ i + f ∧ c1 ≤ n) ∧ Hid (wx = wo)) (fun v _ => 40 - (intOf v).toNat)
            case atStart => exact ⟨0, 5, 1, rfl, ⟨rfl, HHI.out, by omega, by omega⟩, rfl⟩
            case round =>
              obtain ⟨i, f2, c1, rfl, HC1, HW⟩ := hrel
              obtain rfl : wo = wr := HW.out.symm
              have hc20 : c1 ≤ 20 := by have := HC1.out.2.2.2; omega
              have hc10 : 0 < c1 := by rw [HC1.out.1]; exact Nat.two_pow_pos i
              have hw : IntKind.i64.wrap ((c1 : Int) * 2) = (c1 : Int) * 2 := by rw [IntKind.wrap_i64]; omega
              have HST := alN_stop 0 (n - 0) (by omega) f2 i HC1.out.2.2.1
              by_cases h1 : (c1 : Int) * 2 ≤ (n : Int)
              · have hi1 : c1 * 2 = 2 ^ (i + 1) := by rw [HC1.out.1, Nat.pow_succ]
                have hcc : (2 ^ i * 2 ≤ n - 0 ∧ 0 % (2 ^ i * 2) = 0) := by rw [← HC1.out.1]; exact ⟨by omega, Nat.zero_mod _⟩
                obtain ⟨f3, rfl⟩ : ∃ f3, f2 = f3 + 1 := by
                  cases f2 with
                  | zero => exact absurd hcc HST
                  | succ f2 => exact ⟨f2, rfl⟩
                have HC2 : Hid (c1 * 2 = 2 ^ (i + 1) ∧ alN 0 (n - 0) f3 (i + 1) = j ∧ 5 ≤ i + 1 + f3 ∧ c1 * 2 ≤ n) := by
                  have h2 := HC1.out.2.1
                  rw [alN, if_pos hcc] at h2
                  exact ⟨hi1, h2, by have := HC1.out.2.2.1; omega, by omega⟩
                clear HC1 HST hcc hi1 hof
                go_wp2_with fail
                go_roundw
                case rel => exact ⟨i + 1, f3, c1 * 2, by go_num, HC2, trivial⟩
                case measure => simp [intOf]; omega
              · have HV : c1 = c := by
                  have hcc : ¬ (2 ^ i * 2 ≤ n - 0 ∧ 0 % (2 ^ i * 2) = 0) := by rw [← HC1.out.1]; exact fun h => h1 (by have := h.1; omega)
                  have h2 := HC1.out.2.1
                  rw [HC1.out.1, HCJ.out, ← h2]
                  congr 1
                  cases f2 with
                  | zero => rfl
                  | succ f2 => rw [alN, if_neg hcc]
                clear HC1 HST
                subst HV
                have hw2 : IntKind.i64.wrap ((0 : Int) + (c1 : Int)) = (c1 : Int) := by rw [IntKind.wrap_i64]; omega
                have l3 : (c1 : Int) ≤ (cap : Int) := by have := HC.out; have := HKC.out; omega
                clear HW hd9
                go_wp2_with fail
                refine hof.mono ?_
                rintro e w2 ⟨v2, rfl, r2, b2⟩
                have B2 : Hid (Below w.heap.size w w2) := HB.out.trans (b2.mono HB.out.size)
                obtain ⟨⟨g7, c7, hv2⟩, -⟩ := id r2
                have hat := (FRow.at pEnc_len (by rw [hv2] at r2; exact r2)).1
                subst hv2
                have q0 : w2.cell? ⟨g7, 0, none⟩ = some (.string T.sum) := AtP.c0 hat 0 Nat.zero_lt_one
                have q1 : w2.cell? ⟨g7, 1, none⟩ = some (.int .i64 T.work) := AtP.c1 hat 0 Nat.zero_lt_one
                have q2 : w2.cell? ⟨g7, 2, none⟩ = some (.int .i64 T.count) := AtP.c2 hat 0 Nat.zero_lt_one
                have R2 : Hid (PRow w.heap.size (.slice (some ⟨g5, 0, none⟩) L.length c5) L w2) := R.out.below b2
                have hx1 : L.length + 1 ≤ maxLen := by have := HL1.out; unfold maxLen; omega
                have hx2 : (L.length + 1) * 32 ≤ 140737488355328 := by have := HL1.out; omega
                have hu := pEnc_one T
                have hsz := B2.out.size
                clear hof r2 b2 R HB hat
                simp only [List.length_cons, List.length_nil, Nat.zero_add]
                go_wp2_with (at_builtin; refine wp_appN rfl _ _ 24 rfl w.heap.size 50 i0 (.agg #[.string ⟨#[]⟩, .int .i64 0, .int .i64 0]) 3 32 1 Tryd.underlying24 hi hz0 hz1 hz2 rfl (by decide) (by decide) _ _ _ rfl R2.out.2 (pEnc T) (by first | rfl | simp [Act.eval]) rfl hu hx1 hx2 hsz ?_; intro g4 c4 w4 hown4 hb4 hkeep4)
                have R4 : Hid (PRow w.heap.size (.slice (some ⟨g4, 0, none⟩) (L ++ [T]).length c4) (L ++ [T]) w4) := by
                  refine FRow.of ?_ rfl
                  rw [List.flatMap_append, List.length_append]
                  simpa using hown4
                have B4 : Hid (Below w.heap.size w w4) := B2.out.trans hb4
                have HLE : Hid ((L ++ [T]).length = L.length + 1) := by show _ = _; simp
                clear hown4 hb4 hkeep4 B2 R2 q0 q1 q2 hx1 hx2 hu hsz
                rw [← HLE.out]
                go_wp2_with fail
                go_roundw
                case rel => exact ⟨0 + c1, f', g4, c4, L ++ [T], HKC.out, by go_num, rfl, R4, HA2, HF2, B4⟩
                case measure => have := HKC.out; simp [intOf]; omega
          · have hd9 : Int.tmod 0 2 = 0 := rfl
            go_wp2_with fail
            go_loopw [6] (fun v wx => ∃ (i f c1 : Nat), v = .int .i64 (c1 : Int) ∧ Hid (c1 = 2 ^ i ∧ alN 0 (n - 0) f i = j ∧ 5 ≤ i + f ∧ c1 ≤ n) ∧ Hid (wx = wo)) (fun v _ => 40 - (intOf v).toNat)
            case atStart => exact ⟨0, 5, 1, rfl, ⟨rfl, HHI.out, by omega, by omega⟩, rfl⟩
            case round =>
              obtain ⟨i, f2, c1, rfl, HC1, HW⟩ := hrel
              obtain rfl : wo = wr := HW.out.symm
              have hc20 : c1 ≤ 20 := by have := HC1.out.2.2.2; omega
              have hc10 : 0 < c1 := by rw [HC1.out.1]; exact Nat.two_pow_pos i
              have hw : IntKind.i64.wrap ((c1 : Int) * 2) = (c1 : Int) * 2 := by rw [IntKind.wrap_i64]; omega
              have HST := alN_stop 0 (n - 0) (by omega) f2 i HC1.out.2.2.1
              by_cases h1 : (c1 : Int) * 2 ≤ (n : Int)
              · have hi1 : c1 * 2 = 2 ^ (i + 1) := by rw [HC1.out.1, Nat.pow_succ]
                have hcc : (2 ^ i * 2 ≤ n - 0 ∧ 0 % (2 ^ i * 2) = 0) := by rw [← HC1.out.1]; exact ⟨by omega, Nat.zero_mod _⟩
                obtain ⟨f3, rfl⟩ : ∃ f3, f2 = f3 + 1 := by
                  cases f2 with
                  | zero => exact absurd hcc HST
                  | succ f2 => exact ⟨f2, rfl⟩
                have HC2 : Hid (c1 * 2 = 2 ^ (i + 1) ∧ alN 0 (n - 0) f3 (i + 1) = j ∧ 5 ≤ i + 1 + f3 ∧ c1 * 2 ≤ n) := by
                  have h2 := HC1.out.2.1
                  rw [alN, if_pos hcc] at h2
                  exact ⟨hi1, h2, by have := HC1.out.2.2.1; omega, by omega⟩
                clear HC1 HST hcc hi1 hof
                go_wp2_with fail
                go_roundw
                case rel => exact ⟨i + 1, f3, c1 * 2, by go_num, HC2, trivial⟩
                case measure => simp [intOf]; omega
              · have HV : c1 = c := by
                  have hcc : ¬ (2 ^ i * 2 ≤ n - 0 ∧ 0 % (2 ^ i * 2) = 0) := by rw [← HC1.out.1]; exact fun h => h1 (by have := h.1; omega)
                  have h2 := HC1.out.2.1
                  rw [HC1.out.1, HCJ.out, ← h2]
                  congr 1
                  cases f2 with
                  | zero => rfl
                  | succ f2 => rw [alN, if_neg hcc]
                clear HC1 HST
                subst HV
                have hw2 : IntKind.i64.wrap ((0 : Int) + (c1 : Int)) = (c1 : Int) := by rw [IntKind.wrap_i64]; omega
                have l3 : (c1 : Int) ≤ (cap : Int) := by have := HC.out; have := HKC.out; omega
                clear HW hd9
                go_wp2_with fail
                refine hof.mono ?_
                rintro e w2 ⟨v2, rfl, r2, b2⟩
                have B2 : Hid (Below w.heap.size w w2) := HB.out.trans (b2.mono HB.out.size)
                obtain ⟨⟨g7, c7, hv2⟩, -⟩ := id r2
                have hat := (FRow.at pEnc_len (by rw [hv2] at r2; exact r2)).1
                subst hv2
                have q0 : w2.cell? ⟨g7, 0, none⟩ = some (.string T.sum) := AtP.c0 hat 0 Nat.zero_lt_one
                have q1 : w2.cell? ⟨g7, 1, none⟩ = some (.int .i64 T.work) := AtP.c1 hat 0 Nat.zero_lt_one
                have q2 : w2.cell? ⟨g7, 2, none⟩ = some (.int .i64 T.count) := AtP.c2 hat 0 Nat.zero_lt_one
                have R2 : Hid (PRow w.heap.size (.slice (some ⟨g5, 0, none⟩) L.length c5) L w2) := R.out.below b2
                have hx1 : L.length + 1 ≤ maxLen := by have := HL1.out; unfold maxLen; omega
                have hx2 : (L.length + 1) * 32 ≤ 140737488355328 := by have := HL1.out; omega
                have hu := pEnc_one T
                have hsz := B2.out.size
                clear hof r2 b2 R HB hat
                simp only [List.length_cons, List.length_nil, Nat.zero_add]
                go_wp2_with (at_builtin; refine wp_appN rfl _ _ 24 rfl w.heap.size 50 i0 (.agg #[.string ⟨#[]⟩, .int .i64 0, .int .i64 0]) 3 32 1 Tryd.underlying24 hi hz0 hz1 hz2 rfl (by decide) (by decide) _ _ _ rfl R2.out.2 (pEnc T) (by first | rfl | simp [Act.eval]) rfl hu hx1 hx2 hsz ?_; intro g4 c4 w4 hown4 hb4 hkeep4)
                have R4 : Hid (PRow w.heap.size (.slice (some ⟨g4, 0, none⟩) (L ++ [T]).length c4) (L ++ [T]) w4) := by
                  refine FRow.of ?_ rfl
                  rw [List.flatMap_append, List.length_append]
                  simpa using hown4
                have B4 : Hid (Below w.heap.size w w4) := B2.out.trans hb4
                have HLE : Hid ((L ++ [T]).length = L.length + 1) := by show _ = _; simp
                clear hown4 hb4 hkeep4 B2 R2 q0 q1 q2 hx1 hx2 hu hsz
                rw [← HLE.out]
                go_wp2_with fail
                go_roundw
                case rel => exact ⟨0 + c1, f', g4, c4, L ++ [T], HKC.out, by go_num, rfl, R4, HA2, HF2, B4⟩
                case measure => have := HKC.out; simp [intOf]; omega
      · have hk1 : (0 : Int) < (k : Int) := by omega
        have hk2 : ¬ (k : Int) = 0 := by omega
        go_wp2_with fail
        go_loopw [6] (fun v wx => ∃ (i f c1 : Nat), v = .int .i64 (c1 : Int) ∧ Hid (c1 = 2 ^ i ∧ alN k (n - k) f i = j ∧ 5 ≤ i + f ∧ c1 ≤ n - k) ∧ Hid (wx = wo)) (fun v _ => 40 - (intOf v).toNat)
        case atStart => exact ⟨0, 5, 1, rfl, ⟨rfl, HHI.out, by omega, by omega⟩, rfl⟩
        case round =>
          obtain ⟨i, f2, c1, rfl, HC1, HW⟩ := hrel
          obtain rfl : wo = wr := HW.out.symm
          have hc20 : c1 ≤ 20 := by have := HC1.out.2.2.2; omega
          have hc10 : 0 < c1 := by rw [HC1.out.1]; exact Nat.two_pow_pos i
          have hw : IntKind.i64.wrap ((c1 : Int) * 2) = (c1 : Int) * 2 := by rw [IntKind.wrap_i64]; omega
          have hw3 : IntKind.i64.wrap ((k : Int) + (c1 : Int) * 2) = (k : Int) + (c1 : Int) * 2 := by rw [IntKind.wrap_i64]; omega
          have hnz : ¬ (c1 : Int) * 2 = 0 := by omega
          have hre := rem_nat k c1
          have HST := alN_stop k (n - k) (by omega) f2 i HC1.out.2.2.1
          obtain ⟨q, hq⟩ : ∃ q : Nat, q = k % (c1 * 2) := ⟨_, rfl⟩
          rw [← hq] at hre
          have HVN : ¬ (2 ^ i * 2 ≤ n - k ∧ k % (2 ^ i * 2) = 0) → c1 = c := fun hcc => by
            have h2 := HC1.out.2.1
            rw [HC1.out.1, HCJ.out, ← h2]
            congr 1
            cases f2 with
            | zero => rfl
            | succ f2 => rw [alN, if_neg hcc]
          have HVN : Hid _ := HVN
          by_cases hq0 : q = 0
          · have hqi : (q : Int) = 0 := by omega
            rw [hqi] at hre
            by_cases h1 : (k : Int) + (c1 : Int) * 2 ≤ (n : Int)
            · have hi1 : c1 * 2 = 2 ^ (i + 1) := by rw [HC1.out.1, Nat.pow_succ]
              have hcc : (2 ^ i * 2 ≤ n - k ∧ k % (2 ^ i * 2) = 0) := by rw [← HC1.out.1]; exact ⟨by omega, by rw [← hq]; exact hq0⟩
              obtain ⟨f3, rfl⟩ : ∃ f3, f2 = f3 + 1 := by
                cases f2 with
                | zero => exact absurd hcc HST
                | succ f2 => exact ⟨f2, rfl⟩
              have HC2 : Hid (c1 * 2 = 2 ^ (i + 1) ∧ alN k (n - k) f3 (i + 1) = j ∧ 5 ≤ i + 1 + f3 ∧ c1 * 2 ≤ n - k) := by
                have h2 := HC1.out.2.1
                rw [alN, if_pos hcc] at h2
                exact ⟨hi1, h2, by have := HC1.out.2.2.1; omega, by omega⟩
              clear HC1 HST hcc hi1 hof HVN hq hqi hq0
              go_wp2_with fail
              go_roundw
              case rel => exact ⟨i + 1, f3, c1 * 2, by go_num, HC2, trivial⟩
              case measure => simp [intOf]; omega
            · have HV : c1 = c := HVN.out (by rw [← HC1.out.1]; exact fun h => h1 (by have := h.1; omega))
              clear HC1 HST HVN hq hq0 hqi
              subst HV
              have hw2 : IntKind.i64.wrap ((k : Int) + (c1 : Int)) = ((k + c1 : Nat) : Int) := by rw [IntKind.wrap_i64]; omega
              have l2 : (k : Int) ≤ ((k + c1 : Nat) : Int) := by omega
              have l3 : ((k + c1 : Nat) : Int) ≤ (cap : Int) := by have := HC.out; have := HKC.out; omega
              have l4 : (0 : Int) ≤ (k : Int) := by omega
              clear HW
              go_wp2_with fail
              refine hof.mono ?_
              rintro e w2 ⟨v2, rfl, r2, b2⟩
              have B2 : Hid (Below w.heap.size w w2) := HB.out.trans (b2.mono HB.out.size)
              obtain ⟨⟨g7, c7, hv2⟩, -⟩ := id r2
              have hat := (FRow.at pEnc_len (by rw [hv2] at r2; exact r2)).1
              subst hv2
              have q0 : w2.cell? ⟨g7, 0, none⟩ = some (.string T.sum) := AtP.c0 hat 0 Nat.zero_lt_one
              have q1 : w2.cell? ⟨g7, 1, none⟩ = some (.int .i64 T.work) := AtP.c1 hat 0 Nat.zero_lt_one
              have q2 : w2.cell? ⟨g7, 2, none⟩ = some (.int .i64 T.count) := AtP.c2 hat 0 Nat.zero_lt_one
              have R2 : Hid (PRow w.heap.size (.slice (some ⟨g5, 0, none⟩) L.length c5) L w2) := R.out.below b2
              have hx1 : L.length + 1 ≤ maxLen := by have := HL1.out; unfold maxLen; omega
              have hx2 : (L.length + 1) * 32 ≤ 140737488355328 := by have := HL1.out; omega
              have hu := pEnc_one T
              have hsz := B2.out.size
              clear hof r2 b2 R HB hat
              simp only [List.length_cons, List.length_nil, Nat.zero_add]
              go_wp2_with (at_builtin; refine wp_appN rfl _ _ 24 rfl w.heap.size 50 i0 (.agg #[.string ⟨#[]⟩, .int .i64 0, .int .i64 0]) 3 32 1 Tryd.underlying24 hi hz0 hz1 hz2 rfl (by decide) (by decide) _ _ _ rfl R2.out.2 (pEnc T) (by first | rfl | simp [Act.eval]) rfl hu hx1 hx2 hsz ?_; intro g4 c4 w4 hown4 hb4 hkeep4)
              have R4 : Hid (PRow w.heap.size (.slice (some ⟨g4, 0, none⟩) (L ++ [T]).length c4) (L ++ [T]) w4) := by
                refine FRow.of ?_ rfl
                rw [List.flatMap_append, List.length_append]
                simpa using hown4
              have B4 : Hid (Below w.heap.size w w4) := B2.out.trans hb4
              have HLE : Hid ((L ++ [T]).length = L.length + 1) := by show _ = _; simp
              clear hown4 hb4 hkeep4 B2 R2 q0 q1 q2 hx1 hx2 hu hsz
              rw [← HLE.out]
              go_wp2_with fail
              go_roundw
              case rel => exact ⟨k + c1, f', g4, c4, L ++ [T], HKC.out, by go_num, rfl, R4, HA2, HF2, B4⟩
              case measure => have := HKC.out; simp [intOf]; omega
          · have hqz : ¬ (q : Int) = 0 := by omega
            have HV : c1 = c := HVN.out (by rw [← HC1.out.1, ← hq]; exact fun h => hq0 h.2)
            clear HC1 HST HVN hq hq0
            subst HV
            have hw2 : IntKind.i64.wrap ((k : Int) + (c1 : Int)) = ((k + c1 : Nat) : Int) := by rw [IntKind.wrap_i64]; omega
            have l2 : (k : Int) ≤ ((k + c1 : Nat) : Int) := by omega
            have l3 : ((k + c1 : Nat) : Int) ≤ (cap : Int) := by have := HC.out; have := HKC.out; omega
            have l4 : (0 : Int) ≤ (k : Int) := by omega
            clear HW
            go_wp2_with fail
            refine hof.mono ?_
            rintro e w2 ⟨v2, rfl, r2, b2⟩
            have B2 : Hid (Below w.heap.size w w2) := HB.out.trans (b2.mono HB.out.size)
            obtain ⟨⟨g7, c7, hv2⟩, -⟩ := id r2
            have hat := (FRow.at pEnc_len (by rw [hv2] at r2; exact r2)).1
            subst hv2
            have q0 : w2.cell? ⟨g7, 0, none⟩ = some (.string T.sum) := AtP.c0 hat 0 Nat.zero_lt_one
            have q1 : w2.cell? ⟨g7, 1, none⟩ = some (.int .i64 T.work) := AtP.c1 hat 0 Nat.zero_lt_one
            have q2 : w2.cell? ⟨g7, 2, none⟩ = some (.int .i64 T.count) := AtP.c2 hat 0 Nat.zero_lt_one
            have R2 : Hid (PRow w.heap.size (.slice (some ⟨g5, 0, none⟩) L.length c5) L w2) := R.out.below b2
            have hx1 : L.length + 1 ≤ maxLen := by have := HL1.out; unfold maxLen; omega
            have hx2 : (L.length + 1) * 32 ≤ 140737488355328 := by have := HL1.out; omega
            have hu := pEnc_one T
            have hsz := B2.out.size
            clear hof r2 b2 R HB hat
            simp only [List.length_cons, List.length_nil, Nat.zero_add]
            go_wp2_with (at_builtin; refine wp_appN rfl _ _ 24 rfl w.heap.size 50 i0 (.agg #[.string ⟨#[]⟩, .int .i64 0, .int .i64 0]) 3 32 1 Tryd.underlying24 hi hz0 hz1 hz2 rfl (by decide) (by decide) _ _ _ rfl R2.out.2 (pEnc T) (by first | rfl | simp [Act.eval]) rfl hu hx1 hx2 hsz ?_; intro g4 c4 w4 hown4 hb4 hkeep4)
            have R4 : Hid (PRow w.heap.size (.slice (some ⟨g4, 0, none⟩) (L ++ [T]).length c4) (L ++ [T]) w4) := by
              refine FRow.of ?_ rfl
              rw [List.flatMap_append, List.length_append]
              simpa using hown4
            have B4 : Hid (Below w.heap.size w w4) := B2.out.trans hb4
            have HLE : Hid ((L ++ [T]).length = L.length + 1) := by show _ = _; simp
            clear hown4 hb4 hkeep4 B2 R2 q0 q1 q2 hx1 hx2 hu hsz
            rw [← HLE.out]
            go_wp2_with fail
            go_roundw
            case rel => exact ⟨k + c1, f', g4, c4, L ++ [T], HKC.out, by go_num, rfl, R4, HA2, HF2, B4⟩
            case measure => have := HKC.out; simp [intOf]; omega
    · obtain rfl : k = n := by omega
      have HE2 : Hid (L = A) := by
        show _ = _
        rw [← HA.out, prefT_end l f k (by rw [← HN.out]; exact Nat.le_refl _), List.append_nil]
      go_wp2_with fail
      go_ret
      exact ⟨_, rfl, by rw [← HE2.out]; exact R.out, HB.out⟩

end Go.Proofs.YtoojimfimlpplaaDoor

set_option linter.unusedVariables false
namespace Go.Proofs.YtoojimfimlpplaaDoor
open Go.RowKit Go.Deep

/-- A block of heads that may be written. -/
def HdBk (w : World) (g n : Nat) : Prop := ∃ cur : Array Value, w.heap[g]? = some (.cells cur 43 (0, 0)) ∧ n * 5 ≤ cur.size
theorem HdBk.lt {w : World} {g n : Nat} (h : HdBk w g n) : g < w.heap.size := by
  obtain ⟨cur, h1, _⟩ := h
  rcases Nat.lt_or_ge g w.heap.size with h' | h'
  · exact h'
  · simp [Array.getElem?_eq_none h'] at h1
theorem HdBk.keep {w w' : World} {g n : Nat} (h : HdBk w g n) (hk : w'.heap[g]? = w.heap[g]?) : HdBk w' g n := by
  obtain ⟨cur, h1, h2⟩ := h
  exact ⟨cur, hk.trans h1, h2⟩
theorem HdBk.below {w w' : World} {g n B : Nat} (h : HdBk w g n) (hb : Below B w w') (hg : g < B) : HdBk w' g n := h.keep (hb.block g hg)
theorem HdBk.cell {w : World} {g n : Nat} (h : HdBk w g n) (i : Nat) (hi : i < n * 5) : (∃ v, w.cell? ⟨g, i, none⟩ = some v) ∧ w.frozen? ⟨g, i, none⟩ = false := by
  obtain ⟨cur, h1, h2⟩ := h
  refine ⟨?_, Lib.frozen_of_heap h1 i⟩
  rw [Lib.cell_of_heap h1]
  have hic : i < cur.size := by omega
  exact ⟨cur[i], Array.getElem?_eq_getElem hic⟩
theorem HdBk.set {w : World} {g n : Nat} (h : HdBk w g n) (i : Nat) (v : Value) : HdBk (w.setCell ⟨g, i, none⟩ v) g n := by
  obtain ⟨cur, h1, h2⟩ := h
  exact ⟨cur.setIfInBounds i v, by simp [World.setCell, Array.getElem?_modify, h1], by simpa using h2⟩
theorem HdBk.of {w : World} {g : Nat} {l : List HeadV} (h : RowHead w g l) : HdBk w g l.length := ⟨_, h, by simp [flat_length 5 enHead enHead_len]⟩
def MHPost (g n k : Nat) (w : World) (e : Ending) (w' : World) : Prop := e = .returned (.int .i64 ((k + 5 * n : Nat) : Int)) ∧ (∀ c, c < w.heap.size → c ≠ g → w'.heap[c]? = w.heap[c]?) ∧ Below 0 w w'
set_option maxHeartbeats 2000000 in
set_option maxRecDepth 100000 in
theorem markHeads (g n cap k : Nat) (w : World) (h : HdBk w g n) (hn : n ≤ 1048576) (hk : k ≤ 1000000000) :
    Calls Tryd.prog 11 #[.slice (some ⟨g, 0, none⟩) n cap, .int .i64 (k : Int)] w fun e w' => MHPost g n k w e w' := by
  have H0 : Hid (HdBk w g n) := h
  clear h
  have HQ : Hid (∀ e w', e = .returned (.int .i64 ((k + 5 * n : Nat) : Int)) → (∀ c, c < w.heap.size → c ≠ g → w'.heap[c]? = w.heap[c]?) → Below 0 w w' → MHPost g n k w e w') := fun e w' h1 h2 h3 => ⟨h1, h2, h3⟩
  generalize MHPost g n k w = Q at HQ ⊢
  go_enter Tryd.func11, Tryd.ntmps11
  go_wp2_with fail
  go_loopw [1, 5] (fun m i wr => ∃ j : Nat, j ≤ n ∧ i = .int .i64 (j : Int) ∧ m = .int .i64 ((k + 5 * j : Nat) : Int) ∧ Hid (HdBk wr g n ∧ (∀ c, c < w.heap.size → c ≠ g → wr.heap[c]? = w.heap[c]?) ∧ Below 0 w wr)) (fun _ i _ => n - (intOf i).toNat)
  case atStart => exact ⟨0, by omega, rfl, rfl, H0.out, fun c _ _ => rfl, Below.refl _ _⟩
  case round =>
    clear H0
    obtain ⟨j, hj, rfl, rfl, HS⟩ := hrel
    by_cases hlt : j < n
    · have hmk := fun (w' : World) => markText (k + 5 * j) (by omega) w'
      have hmk2 := fun (w' : World) => markText (k + 5 * j + 1) (by omega) w'
      have lj : (j : Int) < (n : Int) := by omega
      have lj0 : (0 : Int) ≤ (j : Int) := by omega
      have HK1 : Hid (j + 1 ≤ n) := hlt
      have hgl := HS.out.1.lt
      obtain ⟨m, hm⟩ : ∃ m, m = k + 5 * j := ⟨_, rfl⟩
      have HM1 : Hid (((m : Int) + 1 + 1 + 1 + 1 + 1) = ((k + 5 * (j + 1) : Nat) : Int)) := by show _ = _; omega
      rw [← hm] at hmk hmk2 ⊢
      have e1 : ((m + 1 : Nat) : Int) = (m : Int) + 1 := by omega
      rw [e1] at hmk2
      have wk : IntKind.i64.wrap ((m : Int) + 1) = (m : Int) + 1 := by rw [IntKind.wrap_i64]; omega
      have wk2 : IntKind.i64.wrap ((m : Int) + 1 + 1) = (m : Int) + 1 + 1 := by rw [IntKind.wrap_i64]; omega
      have wk3 : IntKind.i64.wrap ((m : Int) + 1 + 1 + 1) = (m : Int) + 1 + 1 + 1 := by rw [IntKind.wrap_i64]; omega
      have wk4 : IntKind.i64.wrap ((m : Int) + 1 + 1 + 1 + 1) = (m : Int) + 1 + 1 + 1 + 1 := by rw [IntKind.wrap_i64]; omega
      have wk5 : IntKind.i64.wrap ((m : Int) + 1 + 1 + 1 + 1 + 1) = (m : Int) + 1 + 1 + 1 + 1 + 1 := by rw [IntKind.wrap_i64]; omega
      have wj : IntKind.i64.wrap ((j : Int) + 1) = (j : Int) + 1 := by rw [IntKind.wrap_i64]; omega
      generalize mkS (m + 1) = ms2 at hmk2
      generalize mkS m = ms at hmk
      clear hm e1
      go_wp2_with fail
      refine (hmk _).mono ?_
      rintro e w1 ⟨rfl, b1⟩
      have HS1 : Hid (HdBk (w1.setCell ⟨g, j * 5, none⟩ (.string ms)) g n ∧ (∀ c, c < w.heap.size → c ≠ g → (w1.setCell ⟨g, j * 5, none⟩ (.string ms)).heap[c]? = w.heap[c]?) ∧ Below 0 w (w1.setCell ⟨g, j * 5, none⟩ (.string ms))) :=
        ⟨(HS.out.1.below b1 hgl).set _ _, setOff (fun c hc hne => (b1.block c (Nat.lt_of_lt_of_le hc HS.out.2.2.size)).trans (HS.out.2.1 c hc hne)), (HS.out.2.2.trans (b1.mono (Nat.zero_le _))).setCell (p := ⟨g, j * 5, none⟩) (Nat.zero_le _) _⟩
      obtain ⟨⟨v0, q0⟩, z0⟩ := (HS.out.1.below b1 hgl).cell (j * 5) (by omega)
      clear HS b1 hgl
      go_wp2_with fail
      clear q0 z0
      generalize w1.setCell ⟨g, j * 5, none⟩ (.string ms) = w2 at HS1 ⊢
      clear w1
      have hgl := HS1.out.1.lt
      refine (hmk2 _).mono ?_
      rintro e w3 ⟨rfl, b3⟩
      have HS3 : Hid (HdBk w3 g n ∧ (∀ c, c < w.heap.size → c ≠ g → w3.heap[c]? = w.heap[c]?) ∧ Below 0 w w3) :=
        ⟨HS1.out.1.below b3 hgl, fun c hc hne => (b3.block c (Nat.lt_of_lt_of_le hc HS1.out.2.2.size)).trans (HS1.out.2.1 c hc hne), HS1.out.2.2.trans (b3.mono (Nat.zero_le _))⟩
      obtain ⟨⟨v1, q1⟩, z1⟩ := HS3.out.1.cell (j * 5 + 1) (by omega)
      obtain ⟨⟨v2, q2⟩, z2⟩ := HS3.out.1.cell (j * 5 + 2) (by omega)
      obtain ⟨⟨v3, q3⟩, z3⟩ := HS3.out.1.cell (j * 5 + 3) (by omega)
      obtain ⟨⟨v4, q4⟩, z4⟩ := HS3.out.1.cell (j * 5 + 4) (by omega)
      have HN : Hid (HdBk ((((w3.setCell ⟨g, j * 5 + 1, none⟩ (.string ms2)).setCell ⟨g, j * 5 + 2, none⟩ (.int .i64 ((m : Int) + 1 + 1))).setCell ⟨g, j * 5 + 3, none⟩ (.int .i64 ((m : Int) + 1 + 1 + 1))).setCell ⟨g, j * 5 + 4, none⟩ (.int .i64 ((m : Int) + 1 + 1 + 1 + 1))) g n ∧ (∀ c, c < w.heap.size → c ≠ g → ((((w3.setCell ⟨g, j * 5 + 1, none⟩ (.string ms2)).setCell ⟨g, j * 5 + 2, none⟩ (.int .i64 ((m : Int) + 1 + 1))).setCell ⟨g, j * 5 + 3, none⟩ (.int .i64 ((m : Int) + 1 + 1 + 1))).setCell ⟨g, j * 5 + 4, none⟩ (.int .i64 ((m : Int) + 1 + 1 + 1 + 1))).heap[c]? = w.heap[c]?) ∧ Below 0 w ((((w3.setCell ⟨g, j * 5 + 1, none⟩ (.string ms2)).setCell ⟨g, j * 5 + 2, none⟩ (.int .i64 ((m : Int) + 1 + 1))).setCell ⟨g, j * 5 + 3, none⟩ (.int .i64 ((m : Int) + 1 + 1 + 1))).setCell ⟨g, j * 5 + 4, none⟩ (.int .i64 ((m : Int) + 1 + 1 + 1 + 1)))) :=
        ⟨(((HS3.out.1.set _ _).set _ _).set _ _).set _ _, setOff (setOff (setOff (setOff HS3.out.2.1))), (((HS3.out.2.2.setCell (p := ⟨g, j * 5 + 1, none⟩) (Nat.zero_le _) _).setCell (p := ⟨g, j * 5 + 2, none⟩) (Nat.zero_le _) _).setCell (p := ⟨g, j * 5 + 3, none⟩) (Nat.zero_le _) _).setCell (p := ⟨g, j * 5 + 4, none⟩) (Nat.zero_le _) _⟩
      clear HS1 HS3 b3 hgl hmk hmk2
      go_wp2_with fail
      go_roundw
      case rel => exact ⟨j + 1, HK1.out, by go_num, by show Value.int .i64 _ = Value.int .i64 _; rw [HM1.out], HN⟩
      case measure => have := HK1.out; simp [intOf]; omega
    · obtain rfl : j = n := by omega
      go_wp2_with fail
      exact HQ.out _ _ rfl HS.out.2.1 HS.out.2.2

end Go.Proofs.YtoojimfimlpplaaDoor

set_option linter.unusedVariables false
namespace Go.Proofs.YtoojimfimlpplaaDoor
open Go.ChangeShapes Go.WideShapes Go.ChangeAt Go.RowKit Go.Deep

set_option maxHeartbeats 2000000 in
set_option maxRecDepth 100000 in
theorem specPrefixOf (g n cap : Nat) (l : List HeadV) (m : Int) (w : World) (hA : AtHead w g l) (hn : n = l.length) (hm : n ≤ 1048576) (hc : n ≤ cap) (hz : ∀ i, i < l.length → (l.getD i default).prev.size ≤ maxLen ∧ (l.getD i default).root.size ≤ maxLen) :
    Calls Tryd.prog 6 #[.slice (some ⟨g, 0, none⟩) n cap, .int .i64 m] w fun e w' => PoxPost l m w e w' := by
  have hhs := specL5Heads g n cap l w hA hn hm hz
  have HOF : Hid (headsB l = true → ∀ (M : Nat), m = (M : Int) → M ≤ n → ∀ w', Below w.heap.size w w' → Calls Tryd.prog 21 #[.slice (some ⟨g, 0, none⟩) n cap, .int .i64 m] w' fun e w'' => ∃ v, e = .returned v ∧ PRow w'.heap.size v (prefL l m) w'' ∧ Below w'.heap.size w' w'') := fun hk M hM h1 w' hb => by
    subst hM
    exact specL11Of g n cap l M w' (hA.below hb hA.1) hn hc hk h1
  have HN : Hid (n = l.length) := hn
  have HNO : Hid (∀ w', ¬ (headsB l = true ∧ 0 ≤ m ∧ m ≤ (n : Int)) → Below w.heap.size w w' → PoxPost l m w (.returned (.slice none 0 0)) w') := fun w' h hb => pox_no (by rw [← hn]; exact h) hb
  have HYES : Hid (∀ w1 w' v, Below w.heap.size w w1 → PRow w1.heap.size v (prefL l m) w' → Below w.heap.size w w' → PoxPost l m w (.returned v) w') := fun w1 w' v h1 h2 hb => ⟨v, rfl, (Or.inr (PBk.frow (h2.mono h1.size))), hb⟩
  generalize PoxPost l m w = Q at HNO HYES ⊢
  generalize prefL l m = A at HOF HYES
  clear hA hn hm hc hz
  go_enter Tryd.func6, Tryd.ntmps6
  go_wp2_with fail
  cases hk : headsB l with
  | false =>
    have HV : Hid (∀ w', Below w.heap.size w w' → Q (.returned (.slice none 0 0)) w') := fun w' h => HNO.out w' (fun hh => by rw [hk] at hh; cases hh.1) h
    rw [hk] at hhs
    clear HOF HNO HYES hk
    refine hhs.mono ?_
    rintro e w1 ⟨rfl, b1⟩
    go_wp2_with fail
    exact HV.out _ b1
  | true =>
    have HO2 : Hid _ := HOF.out hk
    have HN2 : Hid (∀ w', ¬ (0 ≤ m ∧ m ≤ (n : Int)) → Below w.heap.size w w' → Q (.returned (.slice none 0 0)) w') := fun w' h hb => HNO.out w' (fun hh => h hh.2) hb
    rw [hk] at hhs
    clear HOF HNO hk
    refine hhs.mono ?_
    rintro e w1 ⟨rfl, b1⟩
    have B1 : Hid (Below w.heap.size w w1) := b1
    clear b1 hhs
    go_wp2_with fail
    refine (specIn _ _ _ _).mono ?_
    rintro e w2 ⟨rfl, rfl⟩
    by_cases hx : 0 ≤ m ∧ m ≤ (n : Int)
    · have hd : inB m 0 (n : Int) = true := inB_yes hx
      have hof := HO2.out m.toNat (by omega) (by omega) _ B1.out
      clear HO2 HN2
      simp only [hd]
      clear hd hx
      go_wp2_with fail
      refine Calls.mono hof ?_
      rintro e w3 ⟨v, rfl, hr, b3⟩
      have hq := HYES.out _ _ _ B1.out hr (B1.out.trans (b3.mono B1.out.size))
      have HQ : Hid _ := hq
      clear hof hr b3 HYES hq
      go_wp2_with fail
      exact HQ.out
    · have hd : inB m 0 (n : Int) = false := inB_no hx
      have hq := HN2.out _ hx B1.out
      have HQ : Hid _ := hq
      clear HO2 HN2 HYES hq
      simp only [hd]
      clear hd hx
      go_wp2_with fail
      exact HQ.out

set_option maxHeartbeats 8000000 in
set_option maxRecDepth 100000 in
theorem walk_FnExactPrefixOf (a : Option Addr) (len cap : Nat) (ps : List HeadV) (m : Int) (w : World) (h0 : IsHeads w a len cap ps) (hK : RowG w shaK) (hP : TabP w) :
    Calls Tryd.prog 3 #[.slice a len cap, .int .i64 m] w fun e w' => e = .returned (.bool true) ∧ Below w.heap.size w w' := by
  have HLN : Hid (ps.length = len) := h0.len
  have hsz := szHeads a len cap ps w h0
  have HTO : Hid (len ≤ 1048576 → ∀ w1, Below w.heap.size w w1 → Calls Tryd.prog 7 #[.slice a len cap] w1 fun e w' => e = .returned (.slice (some ⟨w1.heap.size, 0, none⟩) len len) ∧ RowHead w' w1.heap.size ps ∧ Below w1.heap.size w1 w') := fun hn w1 hb => toHeads a len cap ps w1 w h0 hb hn
  have HSP : Hid (len ≤ 1048576 → (∀ i, i < len → smallHead (ps.getD i default)) → ∀ g w1, RowHead w1 g ps → Calls Tryd.prog 6 #[.slice (some ⟨g, 0, none⟩) len len, .int .i64 m] w1 fun e w' => PoxPost ps m w1 e w') := fun hn hs g w1 hr =>
    specPrefixOf g len len ps m w1 (hr.at 5 enHead_len) HLN.out.symm hn (Nat.le_refl _) (fun i hi => by have := hs i (by rw [← HLN.out]; exact hi); unfold smallHead at this; unfold maxLen; omega)
  have HIM : Hid (len ≤ 1048576 → ∀ g w1, RowHead w1 g ps → Below w.heap.size w w1 → Calls Tryd.prog 8 #[.slice (some ⟨g, 0, none⟩) len len, .int .i64 m] w1 fun e w' => PoxPost ps m w1 e w') := fun hn g w1 hr hb =>
    implPrefixOf g len len ps m w1 (hr.at 5 enHead_len) HLN.out.symm hn (Nat.le_refl _) (hK.below hb hK.lt) (TabP.below hP hb (Nat.le_refl _))
  have HML : Hid ((prefL ps m).length ≤ 1048576) := Nat.le_trans (prefL_len ps m) (by decide)
  unfold PoxPost at HSP HIM
  generalize prefL ps m = l at HSP HIM HML
  clear h0 hK hP
  go_enter Tryd.func3, Tryd.ntmps3
  go_wp2_with fail
  refine hsz.mono ?_
  rintro e w2 ⟨b2, rfl | ⟨r, rfl, hr, hn, hs⟩⟩
  · clear HTO HSP HIM
    go_wp2_with fail
    go_ret
    exact ⟨rfl, b2⟩
  have B2 : Hid (Below w.heap.size w w2) := b2
  have hsp := HSP.out hn hs
  have hto := HTO.out hn
  have him := HIM.out hn
  clear HSP HTO HIM
  have HSP : Hid _ := hsp
  have HTO : Hid _ := hto
  have HIM : Hid _ := him
  clear b2 hsz hsp hto him hs
  have hr0 : ¬ (r : Int) < 0 := by omega
  go_wp2_with fail
  refine (HTO.out _ B2.out).mono ?_
  rintro e w3 ⟨rfl, r3, b3⟩
  have B3 : Hid (Below w.heap.size w w3) := B2.out.trans (b3.mono B2.out.size)
  have hsp := HSP.out _ _ r3
  clear B2 b3 r3 HSP hr0
  go_wp2_with fail
  refine Calls.mono hsp ?_
  rintro e w5 ⟨v5, rfl, p5, b5⟩
  have B5 : Hid (Below w.heap.size w w5) := B3.out.trans (b5.mono B3.out.size)
  have P5 : Hid (Pks 0 v5 l w5) := p5.mono (Nat.zero_le _)
  clear B3 b5 p5 hsp
  go_wp2_with fail
  refine (HTO.out _ B5.out).mono ?_
  rintro e w7 ⟨rfl, r7, b7⟩
  have HV5 : Hid (∀ g, blkOf v5 g → g < w5.heap.size) := fun g hg => (P5.out.blk hg).1
  have HG5 : Hid (w.heap.size ≤ w5.heap.size) := B5.out.size
  have B7 : Hid (Below w.heap.size w w7) := B5.out.trans (b7.mono B5.out.size)
  have P7 : Hid (Pks 0 v5 l w7) := P5.out.below b7
  obtain ⟨g8, hg8⟩ : ∃ g8, g8 = w5.heap.size := ⟨_, rfl⟩
  rw [← hg8] at r7 HV5 HG5 ⊢
  clear hg8
  have R7 : Hid (RowHead w7 g8 ps) := r7
  have him := HIM.out _ _ r7 B7.out
  clear B5 P5 b7 r7
  go_wp2_with fail
  refine Calls.mono him ?_
  rintro e w8 ⟨v8, rfl, p8, b8⟩
  have A8 : Hid (Below w.heap.size w w8) := B7.out.trans (b8.mono B7.out.size)
  have P8 : Hid (Pks 0 v5 l w8) := P7.out.below b8
  have R8 : Hid (RowHead w8 g8 ps) := R7.out.below b8 R7.out.lt
  have Q8 : Hid (Pks (g8 + 1) v8 l w8) := p8.mono R7.out.lt
  clear B7 P7 R7 b8 p8 him
  go_wp2_with fail
  refine (pksEq Q8.out P8.out HML.out).mono ?_
  rintro e w9 ⟨rfl, b9⟩
  have A9 : Hid (Below w.heap.size w w9) := A8.out.trans (b9.mono A8.out.size)
  have P9 : Hid (Pks 0 v5 l w9) := P8.out.below b9
  have R9 : Hid (RowHead w9 g8 ps) := R8.out.below b9 R8.out.lt
  have Q9 : Hid (Pks (g8 + 1) v8 l w9) := Q8.out.below b9
  clear A8 P8 R8 b9 Q8
  go_wp2_with fail
  refine (HTO.out _ A9.out).mono ?_
  rintro e w10 ⟨rfl, r10, b10⟩
  have A10 : Hid (Below w.heap.size w w10) := A9.out.trans (b10.mono A9.out.size)
  have P10 : Hid (Pks 0 v5 l w10) := P9.out.below b10
  have R10 : Hid (RowHead w10 g8 ps) := R9.out.below b10 R9.out.lt
  have Q10 : Hid (Pks (g8 + 1) v8 l w10) := Q9.out.below b10
  have heq := eqHeads g8 w9.heap.size len len len ps w10 (R10.out.at 5 enHead_len) (r10.at 5 enHead_len) HLN.out.symm (by omega)
  clear A9 P9 R9 b10 Q9 r10
  go_wp2_with fail
  refine heq.mono ?_
  rintro e w11 ⟨rfl, b11⟩
  have A11 : Hid (Below w.heap.size w w11) := A10.out.trans (b11.mono A10.out.size)
  have P11 : Hid (Pks 0 v5 l w11) := P10.out.below b11
  have R11 : Hid (RowHead w11 g8 ps) := R10.out.below b11 R10.out.lt
  have Q11 : Hid (Pks (g8 + 1) v8 l w11) := Q10.out.below b11
  have hmk := markHeads g8 len len 1 w11 (by have := HdBk.of R11.out; rw [HLN.out] at this; exact this) hn (by decide)
  clear A10 P10 R10 b11 Q10 heq
  go_wp2_with fail
  refine hmk.mono ?_
  rintro e w12 ⟨rfl, k12, f12⟩
  have A12 : Hid (Below w.heap.size w w12) := A11.out.trans ⟨f12.os, f12.tape, f12.output, f12.size, fun c hc => k12 c (Nat.lt_of_lt_of_le hc A11.out.size) (by have := HG5.out; omega)⟩
  have P12 : Hid (Pks 0 v5 l w12) := P11.out.keep f12.size (fun g hg => k12 g (P11.out.blk hg).1 (by have := HV5.out g hg; omega))
  have Q12 : Hid (Pks (g8 + 1) v8 l w12) := Q11.out.keep f12.size (fun g hg => k12 g (Q11.out.blk hg).1 (by have := (Q11.out.blk hg).2; omega))
  clear A11 P11 R11 Q11 hmk k12 f12
  obtain ⟨kk, hkk⟩ : ∃ kk, kk = 1 + 5 * len := ⟨_, rfl⟩
  rw [← hkk]
  clear hkk
  have hk0 : ¬ (kk : Int) < 0 := by omega
  go_wp2_with fail
  refine (pksEq Q12.out P12.out HML.out).mono ?_
  rintro e w13 ⟨rfl, b13⟩
  have A13 : Hid (Below w.heap.size w w13) := A12.out.trans (b13.mono A12.out.size)
  have P13 : Hid (Pks 0 v5 l w13) := P12.out.below b13
  have Q13 : Hid (Pks (g8 + 1) v8 l w13) := Q12.out.below b13
  have hmk := pksMark Q13.out HML.out
  clear A12 P12 b13 Q12 hk0
  obtain ⟨mm, hmm⟩ : ∃ mm, mm = 1 + 3 * l.length := ⟨_, rfl⟩
  rw [← hmm] at hmk
  have HMM : Hid (mm = 1 + 3 * l.length) := hmm
  clear hmm
  go_wp2_with fail
  refine hmk.mono ?_
  rintro e w14 ⟨rfl, hh14, f14, k14⟩
  have A14 : Hid (Below w.heap.size w w14) := A13.out.trans ⟨f14.os, f14.tape, f14.output, f14.size, fun c hc => k14 c (Nat.lt_of_lt_of_le hc A13.out.size) (by have := HG5.out; omega)⟩
  have P14 : Hid (Pks 0 v5 l w14) := P13.out.keep f14.size (fun g hg => k14 g (P13.out.blk hg).1 (by have := HV5.out g hg; omega))
  have H14 : Hid (HeldP v8 l.length w14) := hh14
  have hhe := pksHeld hh14 HML.out
  rw [← HMM.out] at hhe
  clear A13 P13 Q13 hmk hh14 f14 k14
  go_wp2_with fail
  refine hhe.mono ?_
  rintro e w15 ⟨rfl, b15⟩
  have A15 : Hid (Below w.heap.size w w15) := A14.out.trans (b15.mono A14.out.size)
  have P15 : Hid (Pks 0 v5 l w15) := P14.out.below b15
  have H15 : Hid (HeldP v8 l.length w15) := H14.out.below b15
  have hm0 : ¬ (mm : Int) < 0 := by omega
  clear A14 P14 H14 b15 hhe
  go_wp2_with fail
  refine (HTO.out _ A15.out).mono ?_
  rintro e w16 ⟨rfl, r16, b16⟩
  have A16 : Hid (Below w.heap.size w w16) := A15.out.trans (b16.mono A15.out.size)
  have P16 : Hid (Pks 0 v5 l w16) := P15.out.below b16
  have H16 : Hid (HeldP v8 l.length w16) := H15.out.below b16
  have him := HIM.out _ _ r16 A16.out
  clear A15 P15 H15 b16 r16
  go_wp2_with fail
  refine Calls.mono him ?_
  rintro e w18 ⟨v18, rfl, p18, b18⟩
  have A18 : Hid (Below w.heap.size w w18) := A16.out.trans (b18.mono A16.out.size)
  have P18 : Hid (Pks 0 v5 l w18) := P16.out.below b18
  have H18 : Hid (HeldP v8 l.length w18) := H16.out.below b18
  have heq := pksEq p18 P18.out HML.out
  clear A16 P16 H16 b18 p18 him
  go_wp2_with fail
  refine heq.mono ?_
  rintro e w19 ⟨rfl, b19⟩
  have A19 : Hid (Below w.heap.size w w19) := A18.out.trans (b19.mono A18.out.size)
  have hhe := pksHeld (H18.out.below b19) HML.out
  rw [← HMM.out] at hhe
  clear A18 P18 H18 b19 heq
  go_wp2_with fail
  refine hhe.mono ?_
  rintro e w20 ⟨rfl, b20⟩
  have A20 : Hid (Below w.heap.size w w20) := A19.out.trans (b20.mono A19.out.size)
  clear A19 b20 hhe
  go_wp2_with fail
  go_ret
  exact ⟨rfl, A20.out⟩

end Go.Proofs.YtoojimfimlpplaaDoor

namespace Go.Proofs.YtoojimfimlpplaaDoor
open Go.ChangeShapes Go.WideShapes Go.ChangeAt Go.RowKit
open Go.ChangeMaps (open_string shut_string)
set_option linter.unusedVariables false

theorem own_fnExactPrefixOf : ownKnob Tryd.prog.godebug = none := by kernel_rfl
theorem laid_fnExactPrefixOf : laidOutB Tryd.prog = true := by kernel_rfl
theorem table_fnExactPrefixOf {W : World} (h : laidMetH Tryd.prog Rows.fnExactPrefixOfRow.laid W) : RowG W shaK ∧ TabP W := tabs_of_laid h

theorem met_fnExactPrefixOf (os : Os) : laidMet Tryd.prog Rows.fnExactPrefixOfRow.laid ((laidWorld os).forCall (fun _ _ => 0) ⟨#[], #[.slice none 0 0, .int .i64 0], []⟩).memory :=
  laidMet_of_run' 8 (by kernel_rfl) (by kernel_rfl)
theorem reads_fnExactPrefixOf (os : Os) {H : Type} (enc : TypeId × Value → H) : ∃ places, DataW.whole enc Tryd.prog ((laidWorld os).forCall (fun _ _ => 0) ⟨#[], #[.slice none 0 0, .int .i64 0], []⟩).memory Tryd.f3.params.toList Rows.fnExactPrefixOfSpec.vars false (#[.slice none 0 0, .int .i64 0] : Array Value).toList 8 = some ([.nil, .lit (.int .i64 0)], [Rows.laid_loop_example_cordillera_impl_sumRounds], places) :=
  ⟨MemPlace.row ⟨0, 0, none⟩ 64, by kernel_rfl⟩

set_option maxRecDepth 100000 in
theorem lifted_fnExactPrefixOf (os : Os) (started : os.Started) (H : Type) (enc : TypeId × Value → H) (F : Stop.Interp) :
    ReturnsInHanded {} Tryd.checked os 3 .any ((OpenSpec.ofChange Rows.fnExactPrefixOfSpec).preRow enc Tryd.prog Tryd.f3 Rows.fnExactPrefixOfRow.domain false Rows.fnExactPrefixOfRow.laid) (((OpenSpec.ofChange Rows.fnExactPrefixOfSpec).at F).post enc Tryd.prog Tryd.f3 false true false false) := by
  obtain ⟨places, hx⟩ := reads_fnExactPrefixOf os enc
  refine returnsInHanded_of_row (C := Tryd.checked) (s := OpenSpec.ofChange Rows.fnExactPrefixOfSpec) own_fnExactPrefixOf started (by kernel_rfl) Tryd.func3
    (witness_row_at (enc := enc) (C := Tryd.checked) false (laidWorld os) #[.slice none 0 0, .int .i64 0] rfl (by kernel_rfl) (by kernel_rfl) (by kernel_rfl)
      (OpenSpec.preRow_of_cond 8 hx (by kernel_rfl) (fun k hk => by cases hk) (by kernel_rfl) (met_fnExactPrefixOf os))) ?_
  intro W base args ds gs before hval0 hW _ _ _ hL _ _
  have hval : ∀ (j : Nat) t v, Tryd.f3.params[j]? = some t → args[j]? = some v → Value.okWide Tryd.prog W .any base t v := hval0
  have hW' := hW
  obtain ⟨p, q, hA0, hV, rfl, hfz, hnd⟩ := hW
  have hA : DataW.TrodAll enc Tryd.prog W 0 (fun _ => true) true Tryd.f3.params.toList args.toList ds p := hA0
  rw [Tryd.params3] at hA hval
  obtain ⟨v0, vs0, d0, ds0, p0, q0, hargs, rfl, rfl, h0, r0⟩ := trodAll_cons hA
  obtain ⟨v1, vs1, d1, ds1, p1, q1, rfl, rfl, rfl, h1, r1⟩ := trodAll_cons r0
  obtain ⟨rfl, rfl, rfl⟩ := trodAll_nil r1
  obtain rfl : args = #[v0, v1] := by cases args; simp_all
  obtain ⟨gv, tv, cv, fv, dv, pv, rfl, hgv, htv, hvv, hdv, rfl⟩ := trodVars_one hV
  obtain ⟨a0, len0, cap0, rfl⟩ := okWide_slice Tryd.underlying22 (hval 0 22 v0 rfl rfl)
  have k0 := h0
  have lt0 : ∀ x ∈ p0, x.block < W.heap.size := by obtain ⟨m, hm⟩ := k0; exact DataW.trod_lt m _ _ _ hm
  obtain ⟨z0, w0⟩ := open_heads h0
  obtain ⟨a1, rfl, rfl, rfl, w1⟩ := open_int Tryd.underlying3 (hval 1 3 v1 rfl rfl) h1
  clear hA0 hval0
  refine (walk_FnExactPrefixOf a0 len0 cap0 z0 a1 W w0 (table_fnExactPrefixOf hL).1 (table_fnExactPrefixOf hL).2).mono fun e W' ⟨he, bel⟩ => ?_
  subst he
  obtain ⟨pv', hpv⟩ := varsBack laid_fnExactPrefixOf hgv htv hvv hdv bel
  exact ⟨_, rfl, _, _, _, [], _, pv', hW', trodAll_mk1 (shut_bool Tryd.underlying4 _), (trodAll_cons_mk (Below.trod laid_fnExactPrefixOf (by kernel_rfl) (of_decide_eq_true (by kernel_rfl)) k0 bel lt0) (trodAll_cons_mk (shut_int Tryd.underlying3 w1) trodAll_mk0)), hpv, bel.frame _, fun h => by cases h⟩

theorem fnExactPrefixOf_said : Rows.FnExactPrefixOfSaid :=
  OpenClaim.holds_of_cond 3 Tryd.f3 rfl rfl rfl rfl rfl rfl rfl ⟨rfl, rfl, rfl, rfl, rfl⟩ rfl rfl rfl rfl rfl (by kernel_rfl) Tryd.func3 (by kernel_rfl)
    (of_decide_eq_true (by kernel_rfl)) (by unfold Func.isWrapper; first | (rw [if_pos (by decide +kernel)]; kernel_rfl) | (rw [if_neg (by decide +kernel)]; exact ⟨rfl, rfl⟩))
    (fun os started H enc _ F => by rw [OpenClaim.pre_eq_preRow]; exact lifted_fnExactPrefixOf os started H enc F)
theorem plain_fnExactPrefixOf (f : FuncId) (fn : Func) (hf : Tryd.pinned.checked.prog.funcNamed "loop.example/cordillera/laws.FnExactPrefixOf" = some f) (hfn : Tryd.pinned.checked.prog.funcs[f]? = some fn) :
    false = Tryd.pinned.checked.prog.looks [] ∧ ∀ (j : Nat) t, fn.params[j]? = some t → Tryd.pinned.checked.prog.wantsStandIn t = false := by
  obtain rfl : f = 3 := Option.some.inj ((show Tryd.prog.funcNamed "loop.example/cordillera/laws.FnExactPrefixOf" = some 3 by kernel_rfl).symm.trans hf) |>.symm
  obtain rfl : fn = Tryd.f3 := (Option.some.inj (Tryd.func3.symm.trans hfn)).symm
  refine ⟨by kernel_rfl, fun j t ht => ?_⟩
  rw [Tryd.params3] at ht
  have hall : ∀ t ∈ (#[22, 3] : Array TypeId), Tryd.prog.wantsStandIn t = false := by
    intro t ht
    simp only [List.mem_toArray, List.mem_cons, List.not_mem_nil, or_false] at ht
    rcases ht with rfl | rfl <;> kernel_rfl
  exact hall t (Array.mem_of_getElem? ht)
theorem fnExactPrefixOf_holds : Rows.FnExactPrefixOfCardSaid :=
  Claim7.holds_tied_plain_at .later [] _ _ _ _ fnExactPrefixOf_said (fun _ h => by cases h) (by kernel_rfl) (fun _ h => by cases h) fnExactPrefixOf_row_tie rfl ⟨rfl, rfl⟩ (by kernel_rfl) rfl plain_fnExactPrefixOf (by kernel_rfl)
#print axioms fnExactPrefixOf_holds
end Go.Proofs.YtoojimfimlpplaaDoor

