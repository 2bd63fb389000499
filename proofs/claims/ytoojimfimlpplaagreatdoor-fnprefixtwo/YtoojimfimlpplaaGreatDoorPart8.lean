/-
  Texts that the last part needs, joined.
-/
import Derived.Test.YtoojimfimlpplaaGreatDoorPart1
import Derived.Test.YtoojimfimlpplaaGreatDoorPart2
import Derived.Test.YtoojimfimlpplaaGreatDoorPart3
import Derived.Test.YtoojimfimlpplaaGreatDoorPart4
import Derived.Test.YtoojimfimlpplaaGreatDoorPart5
import Derived.Test.YtoojimfimlpplaaGreatDoorPart6
import Derived.Test.YtoojimfimlpplaaGreatDoorPart7
import Derived.Maps.AppendAt
import Derived.BigRegion
import Derived.Deep.RegionHeld3
import Derived.Deep.AppendLies
import Derived.Deep.RegionWith
set_option linter.unusedVariables false
namespace Go.Proofs.YtoojimfimlpplaaGreatDoor
open Go.RowKit Go.Deep Go.Joins

theorem rem_nat (p c : Nat) : Int.tmod (p : Int) ((c : Int) * 2) = ((p % (c * 2) : Nat) : Int) := by
  rw [show ((c : Int) * 2) = ((c * 2 : Nat) : Int) from by omega]
  rfl

set_option maxHeartbeats 1000000 in
set_option maxRecDepth 100000 in
theorem implAligned (p t : Nat) (w : World) (h0 : 0 < t) (ht : t ≤ 20) :
    Calls Tryz.prog 16 #[.int .i64 (p : Int), .int .i64 (t : Int)] w fun e w' => e = .returned (.int .i64 ((2 ^ high p t : Nat) : Int)) ∧ Below w.heap.size w w' := by
  have HT : Hid (0 < t ∧ t ≤ 20) := ⟨h0, ht⟩
  obtain ⟨R, hR⟩ : ∃ R : Nat, R = 2 ^ high p t := ⟨_, rfl⟩
  rw [← hR]
  have HR : Hid (R = 2 ^ high p t) := hR
  clear h0 ht hR
  go_enter Tryz.func16, Tryz.ntmps16
  go_wp2_with fail
  go_loopw [5] (fun v wr => ∃ (i f c : Nat), v = .int .i64 (c : Int) ∧ Hid (c = 2 ^ i ∧ alN p t f i = high p t ∧ 5 ≤ i + f ∧ c ≤ t) ∧ Hid (Below w.heap.size w wr)) (fun v _ => 40 - (intOf v).toNat)
  case atStart => exact ⟨0, 5, 1, rfl, ⟨rfl, rfl, by omega, HT.out.1⟩, Below.refl _ w⟩
  case round =>
    obtain ⟨i, f, c, rfl, HC, HB⟩ := hrel
    have hc20 : c ≤ 20 := by have := HC.out.2.2.2; have := HT.out.2; omega
    have hc0 : 0 < c := by rw [HC.out.1]; exact Nat.two_pow_pos i
    have hw : IntKind.i64.wrap ((c : Int) * 2) = (c : Int) * 2 := by rw [IntKind.wrap_i64]; omega
    have hnz : ¬ (c : Int) * 2 = 0 := by omega
    have hre := rem_nat p c
    have HST := alN_stop p t HT.out.2 f i HC.out.2.2.1
    by_cases h1 : (c : Int) * 2 ≤ (t : Int)
    · obtain ⟨q, hq⟩ : ∃ q : Nat, q = p % (c * 2) := ⟨_, rfl⟩
      rw [← hq] at hre
      by_cases hq0 : q = 0
      · have hi1 : c * 2 = 2 ^ (i + 1) := by rw [HC.out.1, Nat.pow_succ]
        have hcc : (2 ^ i * 2 ≤ t ∧ p % (2 ^ i * 2) = 0) := by rw [← HC.out.1]; exact ⟨by omega, by rw [← hq]; exact hq0⟩
        obtain ⟨f', rfl⟩ : ∃ f', f = f' + 1 := by
          cases f with
          | zero => exact absurd hcc HST
          | succ f => exact ⟨f, rfl⟩
        have HC2 : Hid (c * 2 = 2 ^ (i + 1) ∧ alN p t f' (i + 1) = high p t ∧ 5 ≤ i + 1 + f' ∧ c * 2 ≤ t) := by
          have h2 := HC.out.2.1
          rw [alN, if_pos hcc] at h2
          exact ⟨hi1, h2, by have := HC.out.2.2.1; omega, by omega⟩
        rw [hq0] at hre
        clear HC HST hcc hi1 hq hq0
        have hcz : ((0 : Nat) : Int) = 0 := rfl
        rw [hcz] at hre
        go_wp2_with fail
        go_roundw
        case rel => exact ⟨i + 1, f', c * 2, by go_num, HC2, HB⟩
        case measure => simp [intOf]; omega
      · have hqz : ¬ (q : Int) = 0 := by omega
        have HV : Hid (c = R) := by
          have hcc : ¬ (2 ^ i * 2 ≤ t ∧ p % (2 ^ i * 2) = 0) := by rw [← HC.out.1, ← hq]; exact fun h => hq0 h.2
          have h2 := HC.out.2.1
          show _ = _
          rw [HC.out.1, HR.out, ← h2]
          congr 1
          cases f with
          | zero => rfl
          | succ f => rw [alN, if_neg hcc]
        clear HC HST hq hq0
        go_wp2_with fail
        go_ret
        exact ⟨by rw [← HV.out]; rfl, HB.out⟩
    · have HV : Hid (c = R) := by
        have hcc : ¬ (2 ^ i * 2 ≤ t ∧ p % (2 ^ i * 2) = 0) := by rw [← HC.out.1]; exact fun h => h1 (by have := h.1; omega)
        have h2 := HC.out.2.1
        show _ = _
        rw [HC.out.1, HR.out, ← h2]
        congr 1
        cases f with
        | zero => rfl
        | succ f => rw [alN, if_neg hcc]
      clear HC HST
      go_wp2_with fail
      go_ret
      exact ⟨by rw [← HV.out]; rfl, HB.out⟩

/-- Peaks in a row of one's own, or none. -/
def PkR (B : Nat) (v : Value) (l : List PeakV) (w : World) : Prop := w.ownsRow B 31 3 v l.length (l.flatMap pEnc)
theorem PkR.pks {B : Nat} {v : Value} {l : List PeakV} {w : World} (h : PkR B v l w) : Pks B v l w := by
  rcases h.2 with ⟨rfl, h2⟩ | ⟨g, cap, cur, rfl, h2⟩
  · exact .inl ⟨rfl, List.eq_nil_of_length_eq_zero h2⟩
  · exact .inr (PBk.frow (FRow.of h rfl))
theorem PkR.below {B : Nat} {v : Value} {l : List PeakV} {w w' : World} (h : PkR B v l w) (hb : Below w.heap.size w w') : PkR B v l w' := by
  rcases h.2 with ⟨rfl, h2⟩ | ⟨g, cap, cur, rfl, h2⟩
  · exact ⟨h.1, .inl ⟨rfl, h2⟩⟩
  · exact (FRow.below (FRow.of h rfl) hb).2
def PoxPost (l : List HeadV) (m : Int) (w : World) (e : Ending) (w' : World) : Prop := ∃ v, e = .returned v ∧ Pks w.heap.size v (prefL l m) w' ∧ Below w.heap.size w w'
theorem pox_no {l : List HeadV} {m : Int} {w w' : World} (h : ¬ (headsB l = true ∧ 0 ≤ m ∧ m ≤ (l.length : Int))) (hb : Below w.heap.size w w') : PoxPost l m w (.returned (.slice none 0 0)) w' := ⟨_, rfl, .inl ⟨rfl, prefL_no h⟩, hb⟩
theorem pox_yes {l : List HeadV} {m : Int} {w w' : World} {v : Value} (h : PkR w.heap.size v (prefL l m) w') (hb : Below w.heap.size w w') : PoxPost l m w (.returned v) w' := ⟨_, rfl, h.pks, hb⟩

set_option maxHeartbeats 4000000 in
set_option maxRecDepth 100000 in
theorem implPrefixOf (g n cap : Nat) (l : List HeadV) (m : Int) (w : World) (hA : AtHead w g l) (hn : n = l.length) (hm : n ≤ 1048576) (hc : n ≤ cap) (hK : RowG w shaK) (hP : TabP w) :
    Calls Tryz.prog 6 #[.slice (some ⟨g, 0, none⟩) n cap, .int .i64 m] w fun e w' => PoxPost l m w e w' := by
  obtain ⟨i0, hi, hz0, hz1, hz2⟩ := info3 infoPeak
  have hhs := implRangeHeadsOk g n cap l w hA hn hm
  have HN : Hid (n = l.length) := hn
  have HC : Hid (n ≤ cap) := hc
  have HNO : Hid (∀ w', ¬ (headsB l = true ∧ 0 ≤ m ∧ m ≤ (l.length : Int)) → Below w.heap.size w w' → PoxPost l m w (.returned (.slice none 0 0)) w') := fun w' h hb => pox_no h hb
  have HYES : Hid (∀ w' v, PkR w.heap.size v (prefL l m) w' → Below w.heap.size w w' → PoxPost l m w (.returned v) w') := fun w' v h hb => pox_yes h hb
  have HRO : Hid (headsB l = true → ∀ (k j : Nat) (w' : World), k + 2 ^ j ≤ n → Below w.heap.size w w' → Calls Tryz.prog 9 #[.slice (some ⟨g, k * 5, none⟩) (2 ^ j) (cap - k)] w' fun e w'' => ∃ g5 c5, e = .returned (.slice (some ⟨g5, 0, none⟩) 1 c5) ∧ AtP w'' g5 [treeT (leafF l) k j] ∧ Below w'.heap.size w' w'') := fun hk k j w' h1 hb => by
    have h2 := implRangeOfO g (k * 5) (2 ^ j) (cap - k) ((l.drop k).take (2 ^ j)) w' ((AtHO.of hA k (2 ^ j) (by omega)).below hb hA.1) (sub_len (by omega)).symm (by omega) (hK.below hb hK.lt) (TabP.below hP hb (Nat.le_refl _))
    refine h2.mono ?_
    rintro e w'' ⟨v, rfl, hv, hb2⟩
    rw [ofL, if_pos (sub_heads hk k (2 ^ j) (by omega)), sub_len (by omega), of_sub (by omega)] at hv
    rcases hv with ⟨_, h3⟩ | ⟨g5, c5, rfl, h4, _, _⟩
    · cases h3
    · exact ⟨g5, c5, rfl, h4, hb2⟩
  have HPM : Hid (headsB l = true → prefL l m = prefL l m) := fun _ => rfl
  cases hk : headsB l with
  | false =>
    have HV : Hid (∀ w', Below w.heap.size w w' → PoxPost l m w (.returned (.slice none 0 0)) w') := fun w' hb => HNO.out w' (by rw [hk]; exact fun h => absurd h.1 (by decide)) hb
    rw [hk] at hhs
    clear HNO HYES HRO HPM hA hn hm hc hK hP
    generalize PoxPost l m w = Q at HV ⊢
    go_enter Tryz.func6, Tryz.ntmps6
    go_wp2_with fail
    refine hhs.mono ?_
    rintro e w1 ⟨rfl, b1⟩
    go_wp2_with fail
    exact HV.out _ b1
  | true =>
  have HKK : Hid (headsB l = true) := hk
  have HM : Hid (n ≤ 20) := by show _ ≤ _; have := heads_len hk; omega
  have HRO2 : Hid _ := HRO.out hk
  rw [hk] at hhs
  clear hk HRO HPM hA hn hm hc hK hP
  by_cases hm0 : m < 0
  · have HV : Hid (∀ w', Below w.heap.size w w' → PoxPost l m w (.returned (.slice none 0 0)) w') := fun w' hb => HNO.out w' (fun h => absurd h.2.1 (by omega)) hb
    clear HNO HYES HRO2
    generalize PoxPost l m w = Q at HV ⊢
    go_enter Tryz.func6, Tryz.ntmps6
    go_wp2_with fail
    refine hhs.mono ?_
    rintro e w1 ⟨rfl, b1⟩
    go_wp2_with fail
    exact HV.out _ b1
  obtain ⟨M, rfl⟩ : ∃ M : Nat, m = (M : Int) := ⟨m.toNat, by omega⟩
  by_cases hmn : (n : Int) < (M : Int)
  · have HV : Hid (∀ w', Below w.heap.size w w' → PoxPost l (M : Int) w (.returned (.slice none 0 0)) w') := fun w' hb => HNO.out w' (fun h => absurd h.2.2 (by have := HN.out; omega)) hb
    clear HNO HYES HRO2
    generalize PoxPost l (M : Int) w = Q at HV ⊢
    go_enter Tryz.func6, Tryz.ntmps6
    go_wp2_with fail
    refine hhs.mono ?_
    rintro e w1 ⟨rfl, b1⟩
    go_wp2_with fail
    exact HV.out _ b1
  have HE : Hid (prefL l (M : Int) = prefT l (n - M) M) := by
    show _ = _
    rw [prefL_yes ⟨HKK.out, by omega, by have := HN.out; omega⟩, Int.toNat_natCast, HN.out]
  have HLN : Hid ((prefL l (M : Int)).length ≤ 20) := prefL_len l _
  clear HNO
  generalize PoxPost l (M : Int) w = Q at HYES ⊢
  generalize prefL l (M : Int) = A at HYES HE HLN
  have hdn : decide (n < M) = false := decide_eq_false (by omega)
  have hdz : decide ((M : Int) < 0) = false := decide_eq_false (by omega)
  go_enter Tryz.func6, Tryz.ntmps6
  go_wp2_with fail
  refine hhs.mono ?_
  rintro e w1 ⟨rfl, b1⟩
  have B1 : Hid (Below w.heap.size w w1) := b1
  have R1 : Hid (PkR w.heap.size (.slice none 0 0) [] w1) := ⟨rfl, .inl ⟨rfl, rfl⟩⟩
  clear b1 hhs
  go_wp2_with fail
  go_loopw [5, 6] (fun v a wr => ∃ (k f : Nat) (L : List PeakV), k ≤ n ∧ a = .int .i64 (k : Int) ∧ Hid (PkR w.heap.size v L wr) ∧ Hid (L ++ prefT l f k = A) ∧ Hid (l.length ≤ k + f) ∧ Hid (Below w.heap.size w wr)) (fun _ a _ => n - (intOf a).toNat)
  case atStart => exact ⟨M, n - M, [], by omega, rfl, R1, HE.out.symm, by show _ ≤ _; have := HN.out; omega, B1⟩
  case round =>
    clear R1 B1 HE hmn hm0 hdn hdz
    obtain ⟨k, f, L, hkn, rfl, R, HA, HF, HB⟩ := hrel
    by_cases hlt : k < n
    · have lk : (k : Int) < (n : Int) := by omega
      have hm20 := HM.out
      obtain ⟨f', hf', hpf⟩ := prefT_step (l := l) (f := f) (a := k) (by rw [← HN.out]; exact hlt) HF.out
      rw [← HN.out] at hf' hpf
      have hal := implAligned k (n - k) wr (by omega) (by omega)
      have hle := high_le (p := k) (t := n - k) (by omega)
      have hro := HRO2.out k (high k (n - k))
      generalize high k (n - k) = j at hal hle hro hf' hpf
      obtain ⟨c, hcj⟩ : ∃ c, c = 2 ^ j := ⟨_, rfl⟩
      rw [← hcj] at hal hle hro hf' hpf
      have hc0 : 0 < c := by rw [hcj]; exact Nat.two_pow_pos j
      have HA2 : Hid ((L ++ [treeT (leafF l) k j]) ++ prefT l f' (k + c) = A) := by
        show _ = _
        rw [← HA.out, hpf, List.append_assoc]
        rfl
      have HF2 : Hid (l.length ≤ k + c + f') := by show _ ≤ _; have := HN.out; omega
      have HL1 : Hid (L.length + 1 ≤ 20) := by
        have h1 := congrArg List.length HA2.out
        simp only [List.length_append, List.length_cons, List.length_nil] at h1
        have := HLN.out
        show _ ≤ _
        omega
      have HKC : Hid (k + c ≤ n) := by show _ ≤ _; omega
      have hw1 : IntKind.i64.wrap ((n : Int) - (k : Int)) = ((n - k : Nat) : Int) := by rw [IntKind.wrap_i64]; omega
      have hw2 : IntKind.i64.wrap ((k : Int) + (c : Int)) = ((k + c : Nat) : Int) := by rw [IntKind.wrap_i64]; omega
      generalize treeT (leafF l) k j = T at hro HA2
      clear HA HF hpf hf' hcj
      go_wp2_with fail
      refine hal.mono ?_
      rintro e w2 ⟨rfl, b2⟩
      have B2 : Hid (Below w.heap.size w w2) := HB.out.trans (b2.mono HB.out.size)
      have R2 : Hid (PkR w.heap.size u5 L w2) := R.out.below b2
      have hro2 := hro w2 (by omega) B2.out
      clear b2 hal hro R HB
      have l1 : ¬ ((k + c : Nat) : Int) < (k : Int) := by omega
      have l2 : (k : Int) ≤ ((k + c : Nat) : Int) := by omega
      have l3 : ((k + c : Nat) : Int) ≤ (cap : Int) := by have := HC.out; omega
      have l4 : (0 : Int) ≤ (k : Int) := by omega
      go_wp2_with fail
      refine Calls.mono hro2 ?_
      rintro e w3 ⟨g5, c5, rfl, hat5, b3⟩
      have B3 : Hid (Below w.heap.size w w3) := B2.out.trans (b3.mono B2.out.size)
      have R3 : Hid (PkR w.heap.size u5 L w3) := R2.out.below b3
      have HNW : Hid (∀ j u, (pEnc T)[j]? = some u → w3.cell? ((⟨g5, 0, none⟩ : Addr).add j) = some u) := by
        intro j u hj
        have := newsPeaks hat5 (Below.refl _ w3) j u (by simpa using hj)
        exact this
      have hx1 : L.length + 1 ≤ maxLen := by have := HL1.out; unfold maxLen; omega
      have hx2 : (L.length + 1) * 32 ≤ 140737488355328 := by have := HL1.out; omega
      have hu := pEnc_one T
      have hsz := B3.out.size
      clear hro2 b3 R2 B2 hat5
      go_wp2_with (at_builtin; refine wpList_append_own_at _ rfl _ _ 26 rfl w.heap.size 31 i0 (.agg #[.string ⟨#[]⟩, .int .i64 0, .int .i64 0]) 3 32 Tryz.underlying26 hi hz0 hz1 hz2 rfl (by decide) u5 L.length (L.flatMap pEnc) rfl R3.out ⟨g5, 0, none⟩ 1 c5 (pEnc T) rfl rfl HNW.out hu hx1 hx2 hsz ?_; intro v4 w4 hown4 hgrow4 hnil4 hblk4)
      have R4 : Hid (PkR w.heap.size v4 (L ++ [T]) w4) := by
        show World.ownsRow _ _ _ _ _ _ _
        rw [List.length_append, List.flatMap_append]
        simpa using hown4
      have B4 : Hid (Below w.heap.size w w4) := B3.out.grown hgrow4 hsz (fun j hj => (World.ownsRow.lt R3.out j hj).1)
      clear hown4 hgrow4 hnil4 hblk4 B3 R3 hx1 hx2 hu hsz HNW
      go_wp2_with fail
      go_roundw
      case rel => exact ⟨k + c, f', L ++ [T], HKC.out, by go_num, R4, HA2, HF2, B4⟩
      case measure => have := HKC.out; simp [intOf]; omega
    · obtain rfl : k = n := by omega
      have HE2 : Hid (L = A) := by
        show _ = _
        rw [← HA.out, prefT_end l f k (by rw [← HN.out]; exact Nat.le_refl _), List.append_nil]
      go_wp2_with fail
      exact HYES.out _ _ (by rw [← HE2.out]; exact R.out) HB.out

end Go.Proofs.YtoojimfimlpplaaGreatDoor

set_option linter.unusedVariables false
namespace Go.Proofs.YtoojimfimlpplaaGreatDoor
open Go.RowKit Go.Deep

set_option maxHeartbeats 8000000 in
set_option maxRecDepth 100000 in
theorem specL11Of (g n cap : Nat) (l : List HeadV) (M : Nat) (w : World) (hA : AtHead w g l) (hn : n = l.length) (hc : n ≤ cap) (hk : headsB l = true) (hM : M ≤ n) :
    Calls Tryz.prog 19 #[.slice (some ⟨g, 0, none⟩) n cap, .int .i64 (M : Int)] w fun e w' => ∃ v, e = .returned v ∧ PRow w.heap.size v (prefL l (M : Int)) w' ∧ Below w.heap.size w w' := by
  obtain ⟨i0, hi, hz0, hz1, hz2⟩ := info3 infoPeak
  have HN : Hid (n = l.length) := hn
  have HC : Hid (n ≤ cap) := hc
  have HM : Hid (n ≤ 20) := by show _ ≤ _; have := heads_len hk; omega
  have HOF : Hid (∀ (k j : Nat) (w' : World), k + 2 ^ j ≤ n → Below w.heap.size w w' → Calls Tryz.prog 33 #[.slice (some ⟨g, k * 5, none⟩) (2 ^ j) (cap - k)] w' fun e w'' => ∃ v, e = .returned v ∧ PRow w'.heap.size v [treeT (leafF l) k j] w'' ∧ Below w'.heap.size w' w'') := fun k j w' h1 hb => by
    have h2 := specL5OfO g (k * 5) (2 ^ j) (cap - k) ((l.drop k).take (2 ^ j)) w' ((AtHO.of hA k (2 ^ j) (by omega)).below hb hA.1) (sub_len (by omega)).symm (by have := heads_len hk; omega) (heads_at (sub_heads hk k (2 ^ j) (by omega)))
    rw [of_sub (by omega)] at h2
    exact h2
  have HE : Hid (prefL l (M : Int) = prefT l (n - M) M) := by
    show _ = _
    rw [prefL_yes ⟨hk, by omega, by omega⟩, Int.toNat_natCast, hn]
  have HLN : Hid ((prefL l (M : Int)).length ≤ 20) := prefL_len l _
  generalize prefL l (M : Int) = A at HE HLN ⊢
  have R0 : Hid (PRow w.heap.size (.slice (some ⟨w.heap.size, 0, none⟩) 0 0) [] (w.alloc (.cells #[] 31))) := frow_new pEnc 31 3 w
  have B0 : Hid (Below w.heap.size w (w.alloc (.cells #[] 31))) := (Below.refl _ w).alloc (Nat.le_refl _) _
  clear hA hn hc hk
  go_enter Tryz.func19, Tryz.ntmps19
  go_wp2_with fail
  generalize w.alloc (.cells #[] 31) = W0 at R0 B0 ⊢
  go_loopw [1, 5] (fun a out wr => ∃ (k f g5 c5 : Nat) (L : List PeakV), k ≤ n ∧ a = .int .i64 (k : Int) ∧ out = .slice (some ⟨g5, 0, none⟩) L.length c5 ∧ Hid (PRow w.heap.size (.slice (some ⟨g5, 0, none⟩) L.length c5) L wr) ∧ Hid (L ++ prefT l f k = A) ∧ Hid (l.length ≤ k + f) ∧ Hid (Below w.heap.size w wr)) (fun a _ _ => n - (intOf a).toNat)
  case atStart => exact ⟨M, n - M, w.heap.size, 0, [], hM, rfl, rfl, R0, HE.out.symm, by show _ ≤ _; have := HN.out; omega, B0⟩
  case round =>
    clear R0 B0 HE hM
    obtain ⟨k, f, g5, c5, L, hkn, rfl, rfl, R, HA, HF, HB⟩ := hrel
    by_cases hlt : k < n
    · have lk : (k : Int) < (n : Int) := by omega
      have hm20 := HM.out
      obtain ⟨f', hf', hpf⟩ := prefT_step (l := l) (f := f) (a := k) (by rw [← HN.out]; exact hlt) HF.out
      rw [← HN.out] at hf' hpf
      have hle := high_le (p := k) (t := n - k) (by omega)
      have hof0 := HOF.out k (high k (n - k)) wr
      have HHI : Hid (alN k (n - k) 5 0 = high k (n - k)) := rfl
      generalize high k (n - k) = j at HHI hle hof0 hf' hpf
      obtain ⟨c, hcj⟩ : ∃ c, c = 2 ^ j := ⟨_, rfl⟩
      have HCJ : Hid (c = 2 ^ j) := hcj
      rw [← hcj] at hle hof0 hf' hpf
      have hc0 : 0 < c := by rw [hcj]; exact Nat.two_pow_pos j
      have HA2 : Hid ((L ++ [treeT (leafF l) k j]) ++ prefT l f' (k + c) = A) := by
        show _ = _
        rw [← HA.out, hpf, List.append_assoc]
        rfl
      have HF2 : Hid (l.length ≤ k + c + f') := by show _ ≤ _; have := HN.out; omega
      have HL1 : Hid (L.length + 1 ≤ 20) := by
        have h1 := congrArg List.length HA2.out
        simp only [List.length_append, List.length_cons, List.length_nil] at h1
        have := HLN.out
        show _ ≤ _
        omega
      have HKC : Hid (k + c ≤ n) := by show _ ≤ _; omega
      have hof := hof0 (by omega) HB.out
      generalize treeT (leafF l) k j = T at hof HA2
      clear HA HF hpf hf' hcj hof0
      obtain ⟨wo, rfl⟩ : ∃ wo, wo = wr := ⟨wr, rfl⟩
      by_cases hk0 : k = 0
      · subst hk0
        have hwk : ((0 : Nat) : Int) = 0 := rfl
        rw [hwk]
        simp only [Nat.zero_mul, Nat.sub_zero] at hof
        go_wp2_with fail
        go_loopw [6] (fun v wx => v = .int .i64 1 ∧ Hid (wx = wo)) (fun _ _ => 0)
        case atStart => exact ⟨rfl, rfl⟩
        case round =>
          obtain ⟨rfl, HW⟩ := hrel
          obtain rfl : wo = wr := HW.out.symm
          by_cases h2n : (2 : Int) ≤ (n : Int)
          · have hd9 : Int.tmod 0 2 = 0 := rfl
            go_wp2_with fail
            go_loopw [6] (fun v wx => ∃ (i f c1 : Nat), v = .int .i64 (c1 : Int) ∧ Hid (c1 = 2 ^ i ∧ alN 0 (n - 0) f i = j ∧ 5 ≤ i + f ∧ c1 ≤ n) ∧ Hid (wx = wo)) (fun v _ => 40 - (intOf v).toNat)
            case atStart => exact ⟨0, 5, 1, rfl, ⟨rfl, HHI.out, by omega, by omega⟩, rfl⟩
            case round =>
              obtain ⟨i, f2, c1, rfl, HC1, HW⟩ := hrel
              obtain rfl : wo = wr := HW.out.symm
              have hc20 : c1 ≤ 20 := by have := HC1.out.2.2.2; omega
              have hc10 : 0 < c1 := by rw [HC1.out.1]; exact Nat.two_pow_pos i
              have hw : IntKind.i64.wrap ((c1 : Int) * 2) = (c1 : Int) * 2 := by rw [IntKind.wrap_i64]; omega
              have HST := alN_stop 0 (n - 0) (by omega) f2 i HC1.out.2.2.1
              by_cases h1 : (c1 : Int) * 2 ≤ (n : Int)
              · have hi1 : c1 * 2 = 2 ^ (i + 1) := by rw [HC1.out.1, Nat.pow_succ]
                have hcc : (2 ^ i * 2 ≤ n - 0 ∧ 0 % (2 ^ i * 2) = 0) := by rw [← HC1.out.1]; exact ⟨by omega, Nat.zero_mod _⟩
                obtain ⟨f3, rfl⟩ : ∃ f3, f2 = f3 + 1 := by
                  cases f2 with
                  | zero => exact absurd hcc HST
                  | succ f2 => exact ⟨f2, rfl⟩
                have HC2 : Hid (c1 * 2 = 2 ^ (i + 1) ∧ alN 0 (n - 0) f3 (i + 1) = j ∧ 5 ≤ i + 1 + f3 ∧ c1 * 2 ≤ n) := by
                  have h2 := HC1.out.2.1
                  rw [alN, if_pos hcc] at h2
                  exact ⟨hi1, h2, by have := HC1.out.2.2.1; omega, by omega⟩
                clear HC1 HST hcc hi1 hof
                go_wp2_with fail
                go_roundw
                case rel => exact ⟨i + 1, f3, c1 * 2, by go_num, HC2, trivial⟩
                case measure => simp [intOf]; omega
              · have HV : c1 = c := by
                  have hcc : ¬ (2 ^ i * 2 ≤ n - 0 ∧ 0 % (2 ^ i * 2) = 0) := by rw [← HC1.out.1]; exact fun h => h1 (by have := h.1; omega)
                  have h2 := HC1.out.2.1
                  rw [HC1.out.1, HCJ.out, ← h2]
                  congr 1
                  cases f2 with
                  | zero => rfl
                  | succ f2 => rw [alN, if_neg hcc]
                clear HC1 HST
                subst HV
                have hw2 : IntKind.i64.wrap ((0 : Int) + (c1 : Int)) = (c1 : Int) := by rw [IntKind.wrap_i64]; omega
                have l3 : (c1 : Int) ≤ (cap : Int) := by have := HC.out; have := HKC.out; omega
                clear HW hd9
                go_wp2_with fail
                refine hof.mono ?_
                rintro e w2 ⟨v2, rfl, r2, b2⟩
                have B2 : Hid (Below w.heap.size w w2) := HB.out.trans (b2.mono HB.out.size)
                obtain ⟨⟨g7, c7, hv2⟩, -⟩ := id r2
                have hat := (FRow.at pEnc_len (by rw [hv2] at r2; exact r2)).1
                subst hv2
                have q0 : w2.cell? ⟨g7, 0, none⟩ = some (.string T.sum) := AtP.c0 hat 0 Nat.zero_lt_one
                have q1 : w2.cell? ⟨g7, 1, none⟩ = some (.int .i64 T.work) := AtP.c1 hat 0 Nat.zero_lt_one
                have q2 : w2.cell? ⟨g7, 2, none⟩ = some (.int .i64 T.count) := AtP.c2 hat 0 Nat.zero_lt_one
                have R2 : Hid (PRow w.heap.size (.slice (some ⟨g5, 0, none⟩) L.length c5) L w2) := R.out.below b2
                have hx1 : L.length + 1 ≤ maxLen := by have := HL1.out; unfold maxLen; omega
                have hx2 : (L.length + 1) * 32 ≤ 140737488355328 := by have := HL1.out; omega
                have hu := pEnc_one T
                have hsz := B2.out.size
                clear hof r2 b2 R HB hat
                simp only [List.length_cons, List.length_nil, Nat.zero_add]
                go_wp2_with (at_builtin; refine wp_appN rfl _ _ 26 rfl w.heap.size 31 i0 (.agg #[.string ⟨#[]⟩, .int .i64 0, .int .i64 0]) 3 32 1 Tryz.underlying26 hi hz0 hz1 hz2 rfl (by decide) (by decide) _ _ _ rfl R2.out.2 (pEnc T) (by first | rfl | simp [Act.eval]) rfl hu hx1 hx2 hsz ?_; intro g4 c4 w4 hown4 hb4 hkeep4)
                have R4 : Hid (PRow w.heap.size (.slice (some ⟨g4, 0, none⟩) (L ++ [T]).length c4) (L ++ [T]) w4) := by
                  refine FRow.of ?_ rfl
                  rw [List.flatMap_append, List.length_append]
                  simpa using hown4
                have B4 : Hid (Below w.heap.size w w4) := B2.out.trans hb4
                have HLE : Hid ((L ++ [T]).length = L.length + 1) := by show _ = _; simp
                clear hown4 hb4 hkeep4 B2 R2 q0 q1 q2 hx1 hx2 hu hsz
                rw [← HLE.out]
                go_wp2_with fail
                go_roundw
                case rel => exact ⟨0 + c1, f', g4, c4, L ++ [T], HKC.out, by go_num, rfl, R4, HA2, HF2, B4⟩
                case measure => have := HKC.out; simp [intOf]; omega
          · have hd9 : Int.tmod 0 2 = 0 := rfl
            go_wp2_with fail
            go_loopw [6] (fun v wx => ∃ (i f c1 : Nat), v = .int .i64 (c1 : Int) ∧ Hid (c1 = 2 ^ i ∧ alN 0 (n - 0) f i = j ∧ 5 ≤ i + f ∧ c1 ≤ n) ∧ Hid (wx = wo)) (fun v _ => 40 - (intOf v).toNat)
            case atStart => exact ⟨0, 5, 1, rfl, ⟨rfl, HHI.out, by omega, by omega⟩, rfl⟩
            case round =>
              obtain ⟨i, f2, c1, rfl, HC1, HW⟩ := hrel
              obtain rfl : wo = wr := HW.out.symm
              have hc20 : c1 ≤ 20 := by have := HC1.out.2.2.2; omega
              have hc10 : 0 < c1 := by rw [HC1.out.1]; exact Nat.two_pow_pos i
              have hw : IntKind.i64.wrap ((c1 : Int) * 2) = (c1 : Int) * 2 := by rw [IntKind.wrap_i64]; omega
              have HST := alN_stop 0 (n - 0) (by omega) f2 i HC1.out.2.2.1
              by_cases h1 : (c1 : Int) * 2 ≤ (n : Int)
              · have hi1 : c1 * 2 = 2 ^ (i + 1) := by rw [HC1.out.1, Nat.pow_succ]
                have hcc : (2 ^ i * 2 ≤ n - 0 ∧ 0 % (2 ^ i * 2) = 0) := by rw [← HC1.out.1]; exact ⟨by omega, Nat.zero_mod _⟩
                obtain ⟨f3, rfl⟩ : ∃ f3, f2 = f3 + 1 := by
                  cases f2 with
                  | zero => exact absurd hcc HST
                  | succ f2 => exact ⟨f2, rfl⟩
                have HC2 : Hid (c1 * 2 = 2 ^ (i + 1) ∧ alN 0 (n - 0) f3 (i + 1) = j ∧ 5 ≤ i + 1 + f3 ∧ c1 * 2 ≤ n) := by
                  have h2 := HC1.out.2.1
                  rw [alN, if_pos hcc] at h2
                  exact ⟨hi1, h2, by have := HC1.out.2.2.1; omega, by omega⟩
                clear HC1 HST hcc hi1 hof
                go_wp2_with fail
                go_roundw
                case rel => exact ⟨i + 1, f3, c1 * 2, by go_num, HC2, trivial⟩
                case measure => simp [intOf]; omega
              · have HV : c1 = c := by
                  have hcc : ¬ (2 ^ i * 2 ≤ n - 0 ∧ 0 % (2 ^ i * 2) = 0) := by rw [← HC1.out.1]; exact fun h => h1 (by have := h.1; omega)
                  have h2 := HC1.out.2.1
                  rw [HC1.out.1, HCJ.out, ← h2]
                  congr 1
                  cases f2 with
                  | zero => rfl
                  | succ f2 => rw [alN, if_neg hcc]
                clear HC1 HST
                subst HV
                have hw2 : IntKind.i64.wrap ((0 : Int) + (c1 : Int)) = (c1 : Int) := by rw [IntKind.wrap_i64]; omega
                have l3 : (c1 : Int) ≤ (cap : Int) := by have := HC.out; have := HKC.out; omega
                clear HW hd9
                go_wp2_with fail
                refine hof.mono ?_
                rintro e w2 ⟨v2, rfl, r2, b2⟩
                have B2 : Hid (Below w.heap.size w w2) := HB.out.trans (b2.mono HB.out.size)
                obtain ⟨⟨g7, c7, hv2⟩, -⟩ := id r2
                have hat := (FRow.at pEnc_len (by rw [hv2] at r2; exact r2)).1
                subst hv2
                have q0 : w2.cell? ⟨g7, 0, none⟩ = some (.string T.sum) := AtP.c0 hat 0 Nat.zero_lt_one
                have q1 : w2.cell? ⟨g7, 1, none⟩ = some (.int .i64 T.work) := AtP.c1 hat 0 Nat.zero_lt_one
                have q2 : w2.cell? ⟨g7, 2, none⟩ = some (.int .i64 T.count) := AtP.c2 hat 0 Nat.zero_lt_one
                have R2 : Hid (PRow w.heap.size (.slice (some ⟨g5, 0, none⟩) L.length c5) L w2) := R.out.below b2
                have hx1 : L.length + 1 ≤ maxLen := by have := HL1.out; unfold maxLen; omega
                have hx2 : (L.length + 1) * 32 ≤ 140737488355328 := by have := HL1.out; omega
                have hu := pEnc_one T
                have hsz := B2.out.size
                clear hof r2 b2 R HB hat
                simp only [List.length_cons, List.length_nil, Nat.zero_add]
                go_wp2_with (at_builtin; refine wp_appN rfl _ _ 26 rfl w.heap.size 31 i0 (.agg #[.string ⟨#[]⟩, .int .i64 0, .int .i64 0]) 3 32 1 Tryz.underlying26 hi hz0 hz1 hz2 rfl (by decide) (by decide) _ _ _ rfl R2.out.2 (pEnc T) (by first | rfl | simp [Act.eval]) rfl hu hx1 hx2 hsz ?_; intro g4 c4 w4 hown4 hb4 hkeep4)
                have R4 : Hid (PRow w.heap.size (.slice (some ⟨g4, 0, none⟩) (L ++ [T]).length c4) (L ++ [T]) w4) := by
                  refine FRow.of ?_ rfl
                  rw [List.flatMap_append, List.length_append]
                  simpa using hown4
                have B4 : Hid (Below w.heap.size w w4) := B2.out.trans hb4
                have HLE : Hid ((L ++ [T]).length = L.length + 1) := by show _ = _; simp
                clear hown4 hb4 hkeep4 B2 R2 q0 q1 q2 hx1 hx2 hu hsz
                rw [← HLE.out]
                go_wp2_with fail
                go_roundw
                case rel => exact ⟨0 + c1, f', g4, c4, L ++ [T], HKC.out, by go_num, rfl, R4, HA2, HF2, B4⟩
                case measure => have := HKC.out; simp [intOf]; omega
      · have hk1 : (0 : Int) < (k : Int) := by omega
        have hk2 : ¬ (k : Int) = 0 := by omega
        go_wp2_with fail
        go_loopw [6] (fun v wx => ∃ (i f c1 : Nat), v = .int .i64 (c1 : Int) ∧ Hid (c1 = 2 ^ i ∧ alN k (n - k) f i = j ∧ 5 ≤ i + f ∧ c1 ≤ n - k) ∧ Hid (wx = wo)) (fun v _ => 40 - (intOf v).toNat)
        case atStart => exact ⟨0, 5, 1, rfl, ⟨rfl, HHI.out, by omega, by omega⟩, rfl⟩
        case round =>
          obtain ⟨i, f2, c1, rfl, HC1, HW⟩ := hrel
          obtain rfl : wo = wr := HW.out.symm
          have hc20 : c1 ≤ 20 := by have := HC1.out.2.2.2; omega
          have hc10 : 0 < c1 := by rw [HC1.out.1]; exact Nat.two_pow_pos i
          have hw : IntKind.i64.wrap ((c1 : Int) * 2) = (c1 : Int) * 2 := by rw [IntKind.wrap_i64]; omega
          have hw3 : IntKind.i64.wrap ((k : Int) + (c1 : Int) * 2) = (k : Int) + (c1 : Int) * 2 := by rw [IntKind.wrap_i64]; omega
          have hnz : ¬ (c1 : Int) * 2 = 0 := by omega
          have hre := rem_nat k c1
          have HST := alN_stop k (n - k) (by omega) f2 i HC1.out.2.2.1
          obtain ⟨q, hq⟩ : ∃ q : Nat, q = k % (c1 * 2) := ⟨_, rfl⟩
          rw [← hq] at hre
          have HVN : ¬ (2 ^ i * 2 ≤ n - k ∧ k % (2 ^ i * 2) = 0) → c1 = c := fun hcc => by
            have h2 := HC1.out.2.1
            rw [HC1.out.1, HCJ.out, ← h2]
            congr 1
            cases f2 with
            | zero => rfl
            | succ f2 => rw [alN, if_neg hcc]
          have HVN : Hid _ := HVN
          by_cases hq0 : q = 0
          · have hqi : (q : Int) = 0 := by omega
            rw [hqi] at hre
            by_cases h1 : (k : Int) + (c1 : Int) * 2 ≤ (n : Int)
            · have hi1 : c1 * 2 = 2 ^ (i + 1) := by rw [HC1.out.1, Nat.pow_succ]
              have hcc : (2 ^ i * 2 ≤ n - k ∧ k % (2 ^ i * 2) = 0) := by rw [← HC1.out.1]; exact ⟨by omega, by rw [← hq]; exact hq0⟩
              obtain ⟨f3, rfl⟩ : ∃ f3, f2 = f3 + 1 := by
                cases f2 with
                | zero => exact absurd hcc HST
                | succ f2 => exact ⟨f2, rfl⟩
              have HC2 : Hid (c1 * 2 = 2 ^ (i + 1) ∧ alN k (n - k) f3 (i + 1) = j ∧ 5 ≤ i + 1 + f3 ∧ c1 * 2 ≤ n - k) := by
                have h2 := HC1.out.2.1
                rw [alN, if_pos hcc] at h2
                exact ⟨hi1, h2, by have := HC1.out.2.2.1; omega, by omega⟩
              clear HC1 HST hcc hi1 hof HVN hq hqi hq0
              go_wp2_with fail
              go_roundw
              case rel => exact ⟨i + 1, f3, c1 * 2, by go_num, HC2, trivial⟩
              case measure => simp [intOf]; omega
            · have HV : c1 = c := HVN.out (by rw [← HC1.out.1]; exact fun h => h1 (by have := h.1; omega))
              clear HC1 HST HVN hq hq0 hqi
              subst HV
              have hw2 : IntKind.i64.wrap ((k : Int) + (c1 : Int)) = ((k + c1 : Nat) : Int) := by rw [IntKind.wrap_i64]; omega
              have l2 : (k : Int) ≤ ((k + c1 : Nat) : Int) := by omega
              have l3 : ((k + c1 : Nat) : Int) ≤ (cap : Int) := by have := HC.out; have := HKC.out; omega
              have l4 : (0 : Int) ≤ (k : Int) := by omega
              clear HW
              go_wp2_with fail
              refine hof.mono ?_
              rintro e w2 ⟨v2, rfl, r2, b2⟩
              have B2 : Hid (Below w.heap.size w w2) := HB.out.trans (b2.mono HB.out.size)
              obtain ⟨⟨g7, c7, hv2⟩, -⟩ := id r2
              have hat := (FRow.at pEnc_len (by rw [hv2] at r2; exact r2)).1
              subst hv2
              have q0 : w2.cell? ⟨g7, 0, none⟩ = some (.string T.sum) := AtP.c0 hat 0 Nat.zero_lt_one
              have q1 : w2.cell? ⟨g7, 1, none⟩ = some (.int .i64 T.work) := AtP.c1 hat 0 Nat.zero_lt_one
              have q2 : w2.cell? ⟨g7, 2, none⟩ = some (.int .i64 T.count) := AtP.c2 hat 0 Nat.zero_lt_one
              have R2 : Hid (PRow w.heap.size (.slice (some ⟨g5, 0, none⟩) L.length c5) L w2) := R.out.below b2
              have hx1 : L.length + 1 ≤ maxLen := by have := HL1.out; unfold maxLen; omega
              have hx2 : (L.length + 1) * 32 ≤ 140737488355328 := by have := HL1.out; omega
              have hu := pEnc_one T
              have hsz := B2.out.size
              clear hof r2 b2 R HB hat
              simp only [List.length_cons, List.length_nil, Nat.zero_add]
              go_wp2_with (at_builtin; refine wp_appN rfl _ _ 26 rfl w.heap.size 31 i0 (.agg #[.string ⟨#[]⟩, .int .i64 0, .int .i64 0]) 3 32 1 Tryz.underlying26 hi hz0 hz1 hz2 rfl (by decide) (by decide) _ _ _ rfl R2.out.2 (pEnc T) (by first | rfl | simp [Act.eval]) rfl hu hx1 hx2 hsz ?_; intro g4 c4 w4 hown4 hb4 hkeep4)
              have R4 : Hid (PRow w.heap.size (.slice (some ⟨g4, 0, none⟩) (L ++ [T]).length c4) (L ++ [T]) w4) := by
                refine FRow.of ?_ rfl
                rw [List.flatMap_append, List.length_append]
                simpa using hown4
              have B4 : Hid (Below w.heap.size w w4) := B2.out.trans hb4
              have HLE : Hid ((L ++ [T]).length = L.length + 1) := by show _ = _; simp
              clear hown4 hb4 hkeep4 B2 R2 q0 q1 q2 hx1 hx2 hu hsz
              rw [← HLE.out]
              go_wp2_with fail
              go_roundw
              case rel => exact ⟨k + c1, f', g4, c4, L ++ [T], HKC.out, by go_num, rfl, R4, HA2, HF2, B4⟩
              case measure => have := HKC.out; simp [intOf]; omega
          · have hqz : ¬ (q : Int) = 0 := by omega
            have HV : c1 = c := HVN.out (by rw [← HC1.out.1, ← hq]; exact fun h => hq0 h.2)
            clear HC1 HST HVN hq hq0
            subst HV
            have hw2 : IntKind.i64.wrap ((k : Int) + (c1 : Int)) = ((k + c1 : Nat) : Int) := by rw [IntKind.wrap_i64]; omega
            have l2 : (k : Int) ≤ ((k + c1 : Nat) : Int) := by omega
            have l3 : ((k + c1 : Nat) : Int) ≤ (cap : Int) := by have := HC.out; have := HKC.out; omega
            have l4 : (0 : Int) ≤ (k : Int) := by omega
            clear HW
            go_wp2_with fail
            refine hof.mono ?_
            rintro e w2 ⟨v2, rfl, r2, b2⟩
            have B2 : Hid (Below w.heap.size w w2) := HB.out.trans (b2.mono HB.out.size)
            obtain ⟨⟨g7, c7, hv2⟩, -⟩ := id r2
            have hat := (FRow.at pEnc_len (by rw [hv2] at r2; exact r2)).1
            subst hv2
            have q0 : w2.cell? ⟨g7, 0, none⟩ = some (.string T.sum) := AtP.c0 hat 0 Nat.zero_lt_one
            have q1 : w2.cell? ⟨g7, 1, none⟩ = some (.int .i64 T.work) := AtP.c1 hat 0 Nat.zero_lt_one
            have q2 : w2.cell? ⟨g7, 2, none⟩ = some (.int .i64 T.count) := AtP.c2 hat 0 Nat.zero_lt_one
            have R2 : Hid (PRow w.heap.size (.slice (some ⟨g5, 0, none⟩) L.length c5) L w2) := R.out.below b2
            have hx1 : L.length + 1 ≤ maxLen := by have := HL1.out; unfold maxLen; omega
            have hx2 : (L.length + 1) * 32 ≤ 140737488355328 := by have := HL1.out; omega
            have hu := pEnc_one T
            have hsz := B2.out.size
            clear hof r2 b2 R HB hat
            simp only [List.length_cons, List.length_nil, Nat.zero_add]
            go_wp2_with (at_builtin; refine wp_appN rfl _ _ 26 rfl w.heap.size 31 i0 (.agg #[.string ⟨#[]⟩, .int .i64 0, .int .i64 0]) 3 32 1 Tryz.underlying26 hi hz0 hz1 hz2 rfl (by decide) (by decide) _ _ _ rfl R2.out.2 (pEnc T) (by first | rfl | simp [Act.eval]) rfl hu hx1 hx2 hsz ?_; intro g4 c4 w4 hown4 hb4 hkeep4)
            have R4 : Hid (PRow w.heap.size (.slice (some ⟨g4, 0, none⟩) (L ++ [T]).length c4) (L ++ [T]) w4) := by
              refine FRow.of ?_ rfl
              rw [List.flatMap_append, List.length_append]
              simpa using hown4
            have B4 : Hid (Below w.heap.size w w4) := B2.out.trans hb4
            have HLE : Hid ((L ++ [T]).length = L.length + 1) := by show _ = _; simp
            clear hown4 hb4 hkeep4 B2 R2 q0 q1 q2 hx1 hx2 hu hsz
            rw [← HLE.out]
            go_wp2_with fail
            go_roundw
            case rel => exact ⟨k + c1, f', g4, c4, L ++ [T], HKC.out, by go_num, rfl, R4, HA2, HF2, B4⟩
            case measure => have := HKC.out; simp [intOf]; omega
    · obtain rfl : k = n := by omega
      have HE2 : Hid (L = A) := by
        show _ = _
        rw [← HA.out, prefT_end l f k (by rw [← HN.out]; exact Nat.le_refl _), List.append_nil]
      go_wp2_with fail
      go_ret
      exact ⟨_, rfl, by rw [← HE2.out]; exact R.out, HB.out⟩

end Go.Proofs.YtoojimfimlpplaaGreatDoor

set_option linter.unusedVariables false
namespace Go.Proofs.YtoojimfimlpplaaGreatDoor
open Go.RowKit Go.Deep

/-- A block of heads that may be written. -/
def HdBk (w : World) (g n : Nat) : Prop := ∃ cur : Array Value, w.heap[g]? = some (.cells cur 33 (0, 0)) ∧ n * 5 ≤ cur.size
theorem HdBk.lt {w : World} {g n : Nat} (h : HdBk w g n) : g < w.heap.size := by
  obtain ⟨cur, h1, _⟩ := h
  rcases Nat.lt_or_ge g w.heap.size with h' | h'
  · exact h'
  · simp [Array.getElem?_eq_none h'] at h1
theorem HdBk.keep {w w' : World} {g n : Nat} (h : HdBk w g n) (hk : w'.heap[g]? = w.heap[g]?) : HdBk w' g n := by
  obtain ⟨cur, h1, h2⟩ := h
  exact ⟨cur, hk.trans h1, h2⟩
theorem HdBk.below {w w' : World} {g n B : Nat} (h : HdBk w g n) (hb : Below B w w') (hg : g < B) : HdBk w' g n := h.keep (hb.block g hg)
theorem HdBk.cell {w : World} {g n : Nat} (h : HdBk w g n) (i : Nat) (hi : i < n * 5) : (∃ v, w.cell? ⟨g, i, none⟩ = some v) ∧ w.frozen? ⟨g, i, none⟩ = false := by
  obtain ⟨cur, h1, h2⟩ := h
  refine ⟨?_, Lib.frozen_of_heap h1 i⟩
  rw [Lib.cell_of_heap h1]
  have hic : i < cur.size := by omega
  exact ⟨cur[i], Array.getElem?_eq_getElem hic⟩
theorem HdBk.set {w : World} {g n : Nat} (h : HdBk w g n) (i : Nat) (v : Value) : HdBk (w.setCell ⟨g, i, none⟩ v) g n := by
  obtain ⟨cur, h1, h2⟩ := h
  exact ⟨cur.setIfInBounds i v, by simp [World.setCell, Array.getElem?_modify, h1], by simpa using h2⟩
theorem HdBk.of {w : World} {g : Nat} {l : List HeadV} (h : RowHead w g l) : HdBk w g l.length := ⟨_, h, by simp [flat_length 5 enHead enHead_len]⟩
def MHPost (g n k : Nat) (w : World) (e : Ending) (w' : World) : Prop := e = .returned (.int .i64 ((k + 5 * n : Nat) : Int)) ∧ (∀ c, c < w.heap.size → c ≠ g → w'.heap[c]? = w.heap[c]?) ∧ Below 0 w w'
end Go.Proofs.YtoojimfimlpplaaGreatDoor

set_option linter.unusedVariables false
namespace Go.Proofs.YtoojimfimlpplaaGreatDoor
open Go.ChangeShapes Go.WideShapes Go.ChangeAt Go.RowKit Go.Deep

set_option maxHeartbeats 2000000 in
set_option maxRecDepth 100000 in
theorem specPrefixOf (g n cap : Nat) (l : List HeadV) (m : Int) (w : World) (hA : AtHead w g l) (hn : n = l.length) (hm : n ≤ 1048576) (hc : n ≤ cap) (hz : ∀ i, i < l.length → (l.getD i default).prev.size ≤ maxLen ∧ (l.getD i default).root.size ≤ maxLen) :
    Calls Tryz.prog 8 #[.slice (some ⟨g, 0, none⟩) n cap, .int .i64 m] w fun e w' => PoxPost l m w e w' := by
  have hhs := specL5Heads g n cap l w hA hn hm hz
  have HOF : Hid (headsB l = true → ∀ (M : Nat), m = (M : Int) → M ≤ n → ∀ w', Below w.heap.size w w' → Calls Tryz.prog 19 #[.slice (some ⟨g, 0, none⟩) n cap, .int .i64 m] w' fun e w'' => ∃ v, e = .returned v ∧ PRow w'.heap.size v (prefL l m) w'' ∧ Below w'.heap.size w' w'') := fun hk M hM h1 w' hb => by
    subst hM
    exact specL11Of g n cap l M w' (hA.below hb hA.1) hn hc hk h1
  have HN : Hid (n = l.length) := hn
  have HNO : Hid (∀ w', ¬ (headsB l = true ∧ 0 ≤ m ∧ m ≤ (n : Int)) → Below w.heap.size w w' → PoxPost l m w (.returned (.slice none 0 0)) w') := fun w' h hb => pox_no (by rw [← hn]; exact h) hb
  have HYES : Hid (∀ w1 w' v, Below w.heap.size w w1 → PRow w1.heap.size v (prefL l m) w' → Below w.heap.size w w' → PoxPost l m w (.returned v) w') := fun w1 w' v h1 h2 hb => ⟨v, rfl, (Or.inr (PBk.frow (h2.mono h1.size))), hb⟩
  generalize PoxPost l m w = Q at HNO HYES ⊢
  generalize prefL l m = A at HOF HYES
  clear hA hn hm hc hz
  go_enter Tryz.func8, Tryz.ntmps8
  go_wp2_with fail
  cases hk : headsB l with
  | false =>
    have HV : Hid (∀ w', Below w.heap.size w w' → Q (.returned (.slice none 0 0)) w') := fun w' h => HNO.out w' (fun hh => by rw [hk] at hh; cases hh.1) h
    rw [hk] at hhs
    clear HOF HNO HYES hk
    refine hhs.mono ?_
    rintro e w1 ⟨rfl, b1⟩
    go_wp2_with fail
    exact HV.out _ b1
  | true =>
    have HO2 : Hid _ := HOF.out hk
    have HN2 : Hid (∀ w', ¬ (0 ≤ m ∧ m ≤ (n : Int)) → Below w.heap.size w w' → Q (.returned (.slice none 0 0)) w') := fun w' h hb => HNO.out w' (fun hh => h hh.2) hb
    rw [hk] at hhs
    clear HOF HNO hk
    refine hhs.mono ?_
    rintro e w1 ⟨rfl, b1⟩
    have B1 : Hid (Below w.heap.size w w1) := b1
    clear b1 hhs
    go_wp2_with fail
    refine (specIn _ _ _ _).mono ?_
    rintro e w2 ⟨rfl, rfl⟩
    by_cases hx : 0 ≤ m ∧ m ≤ (n : Int)
    · have hd : inB m 0 (n : Int) = true := inB_yes hx
      have hof := HO2.out m.toNat (by omega) (by omega) _ B1.out
      clear HO2 HN2
      simp only [hd]
      clear hd hx
      go_wp2_with fail
      refine Calls.mono hof ?_
      rintro e w3 ⟨v, rfl, hr, b3⟩
      have hq := HYES.out _ _ _ B1.out hr (B1.out.trans (b3.mono B1.out.size))
      have HQ : Hid _ := hq
      clear hof hr b3 HYES hq
      go_wp2_with fail
      exact HQ.out
    · have hd : inB m 0 (n : Int) = false := inB_no hx
      have hq := HN2.out _ hx B1.out
      have HQ : Hid _ := hq
      clear HO2 HN2 HYES hq
      simp only [hd]
      clear hd hx
      go_wp2_with fail
      exact HQ.out

end Go.Proofs.YtoojimfimlpplaaGreatDoor

set_option linter.unusedVariables false
namespace Go.Proofs.YtoojimfimlpplaaGreatDoor
open Go.RowKit Go.Deep

def sumW : List PeakV → Int
  | [] => 0
  | p :: r => p.work + sumW r
theorem wrk_sum (ps : List PeakV) : ∀ k, k ≤ ps.length → wrkTo ps k = sumW (ps.take k).reverse
  | 0, _ => by simp [wrkTo, sumW]
  | k + 1, hk => by
    rw [wrkTo, wrk_sum ps k (by omega), take_one (by omega), List.reverse_append]
    simp [sumW, Int.add_comm]
theorem wrk_all (ps : List PeakV) : wrkTo ps ps.length = sumW ps.reverse := by
  rw [wrk_sum ps ps.length (Nat.le_refl _), List.take_length]
theorem addR_wrk : ∀ (r : List PeakV) (p : PeakV), sumW (addR r p) = sumW r + p.work
  | [], p => by simp [addR, sumW]
  | x :: r, p => by
    unfold addR
    split
    · rw [addR_wrk r (bothP x p)]
      simp only [sumW, bothP]
      omega
    · simp only [sumW]
      omega
theorem addP_wrk (ps : List PeakV) (p : PeakV) : wrkTo (addP ps p) (addP ps p).length = wrkTo ps ps.length + p.work := by
  rw [wrk_all, wrk_all, addP, List.reverse_reverse, addR_wrk]

theorem coPeaksNil (w : World) : Calls Tryz.prog 7 #[.slice none 0 0, .slice none 0 0] w fun e w' => e = .returned (.bool true) ∧ Below w.heap.size w w' := by
  go_enter Tryz.func7, Tryz.ntmps7
  go_wp2_with fail
  go_loopw [5] (fun i wr => i = .int .i64 0 ∧ Hid (wr = w)) (fun _ _ => 0)
  case atStart => exact ⟨rfl, rfl⟩
  case round =>
    obtain ⟨rfl, HW⟩ := hrel
    go_wp2_with fail
    go_ret
    exact ⟨rfl, by rw [HW.out]; exact Below.refl _ _⟩
theorem samePB_self (p : PeakV) : samePB p p = true := by simp [samePB]

set_option maxHeartbeats 2000000 in
set_option maxRecDepth 100000 in
theorem coPeaksSame (g1 c1 g2 c2 n : Nat) (l : List PeakV) (w : World) (h1 : AtP w g1 l) (h2 : AtP w g2 l) (hn : n = l.length) (hm : n ≤ 1048576) :
    Calls Tryz.prog 7 #[.slice (some ⟨g1, 0, none⟩) n c1, .slice (some ⟨g2, 0, none⟩) n c2] w fun e w' => e = .returned (.bool true) ∧ Below w.heap.size w w' := by
  have H1 : Hid (AtP w g1 l) := h1
  have H2 : Hid (AtP w g2 l) := h2
  have HN : Hid (n = l.length) := hn
  clear h1 h2 hn
  go_enter Tryz.func7, Tryz.ntmps7
  go_wp2_with fail
  go_loopw [5] (fun i wr => ∃ k : Nat, k ≤ n ∧ i = .int .i64 (k : Int) ∧ Hid (Below w.heap.size w wr)) (fun i _ => n - (intOf i).toNat)
  case atStart => exact ⟨0, by omega, rfl, Below.refl _ _⟩
  case round =>
    obtain ⟨k, hk, rfl, HB⟩ := hrel
    by_cases hlt : k < n
    · have hkl : k < l.length := by rw [← HN.out]; exact hlt
      have HA1 : Hid (AtP wr g1 l) := H1.out.below HB.out H1.out.1
      have HA2 : Hid (AtP wr g2 l) := H2.out.below HB.out H2.out.1
      have a0 := AtP.c0 HA1.out k hkl
      have a1 := AtP.c1 HA1.out k hkl
      have a2 := AtP.c2 HA1.out k hkl
      have b0 := AtP.c0 HA2.out k hkl
      have b1 := AtP.c1 HA2.out k hkl
      have b2 := AtP.c2 HA2.out k hkl
      have lk0 : (0 : Int) ≤ (k : Int) := by omega
      have lk1 : (k : Int) < (n : Int) := by omega
      have HK1 : Hid (k + 1 ≤ n) := hlt
      have wk : IntKind.i64.wrap ((k : Int) + 1) = (k : Int) + 1 := by rw [IntKind.wrap_i64]; omega
      generalize l.getD k default = p at a0 a1 a2 b0 b1 b2
      have hse := runSamePk p p
      rw [samePB_self] at hse
      have hgd := eqPkG
      clear hkl HA1 HA2
      go_wp2_with fail
      go_big_region
      go_wp2_with fail
      go_roundw
      case rel => exact ⟨k + 1, HK1.out, by go_num, HB.out.drew⟩
      case measure => have := HK1.out; simp [intOf]; omega
    · obtain rfl : k = n := by omega
      go_wp2_with fail
      go_ret
      exact ⟨rfl, HB.out⟩
end Go.Proofs.YtoojimfimlpplaaGreatDoor

set_option linter.unusedVariables false
namespace Go.Proofs.YtoojimfimlpplaaGreatDoor
open Go.RowKit Go.Deep

structure BlkV where
  h : HeadV
  g : Nat
  n : Nat
  cap : Nat
  ss : List ByteArray
instance : Inhabited BlkV := ⟨⟨default, 0, 0, 0, []⟩⟩
def enBlk (b : BlkV) : List Value := [.string b.h.prev, .string b.h.root, .int .i64 b.h.time, .int .i64 b.h.diff, .int .i64 b.h.nonce, .slice (some ⟨b.g, 0, none⟩) b.n b.cap]
theorem enBlk_len (b : BlkV) : (enBlk b).length = 6 := rfl
abbrev AtBlk (w : World) (g : Nat) (l : List BlkV) : Prop := AtF enBlk 6 w g l
/-- The items of a block in memory. -/
def ItemsAt (w : World) (b : BlkV) : Prop := AtS w b.g b.ss ∧ b.n = b.ss.length
theorem AtBlk.c0 {w : World} {g : Nat} {l : List BlkV} (h : AtBlk w g l) (i : Nat) (hi : i < l.length) : w.cell? ⟨g, i * 6, none⟩ = some (.string (l.getD i default).h.prev) := h.2 i 0 hi (by decide)
theorem AtBlk.c1 {w : World} {g : Nat} {l : List BlkV} (h : AtBlk w g l) (i : Nat) (hi : i < l.length) : w.cell? ⟨g, i * 6 + 1, none⟩ = some (.string (l.getD i default).h.root) := h.2 i 1 hi (by decide)
theorem AtBlk.c2 {w : World} {g : Nat} {l : List BlkV} (h : AtBlk w g l) (i : Nat) (hi : i < l.length) : w.cell? ⟨g, i * 6 + 2, none⟩ = some (.int .i64 (l.getD i default).h.time) := h.2 i 2 hi (by decide)
theorem AtBlk.c3 {w : World} {g : Nat} {l : List BlkV} (h : AtBlk w g l) (i : Nat) (hi : i < l.length) : w.cell? ⟨g, i * 6 + 3, none⟩ = some (.int .i64 (l.getD i default).h.diff) := h.2 i 3 hi (by decide)
theorem AtBlk.c4 {w : World} {g : Nat} {l : List BlkV} (h : AtBlk w g l) (i : Nat) (hi : i < l.length) : w.cell? ⟨g, i * 6 + 4, none⟩ = some (.int .i64 (l.getD i default).h.nonce) := h.2 i 4 hi (by decide)
theorem AtBlk.c5 {w : World} {g : Nat} {l : List BlkV} (h : AtBlk w g l) (i : Nat) (hi : i < l.length) : w.cell? ⟨g, i * 6 + 5, none⟩ = some (.slice (some ⟨(l.getD i default).g, 0, none⟩) (l.getD i default).n (l.getD i default).cap) := h.2 i 5 hi (by decide)
abbrev HRow (B : Nat) (v : Value) (l : List HeadV) (w : World) : Prop := FRow enHead 33 5 B v l w
abbrev BRow (B : Nat) (v : Value) (l : List BlkV) (w : World) : Prop := FRow enBlk 85 6 B v l w
theorem getD_map {l : List BlkV} {i : Nat} (h : i < l.length) : (l.map (·.h)).getD i default = (l.getD i default).h := by
  simp [List.getElem?_eq_getElem h]
theorem take_map {l : List BlkV} {k : Nat} (hk : k < l.length) : (l.take (k + 1)).map (·.h) = (l.take k).map (·.h) ++ [(l.getD k default).h] := by
  rw [List.take_add_one, List.getElem?_eq_getElem hk, List.map_append]
  simp [List.getElem?_eq_getElem hk]
theorem enHead_one (h : HeadV) : ∀ u ∈ enHead h, u.oneCell' = true := by
  intro u hu
  simp only [enHead, List.mem_cons, List.not_mem_nil, or_false] at hu
  rcases hu with rfl | rfl | rfl | rfl | rfl <;> rfl
theorem enBlk_one (b : BlkV) : ∀ u ∈ enBlk b, u.oneCell' = true := by
  intro u hu
  simp only [enBlk, List.mem_cons, List.not_mem_nil, or_false] at hu
  rcases hu with rfl | rfl | rfl | rfl | rfl | rfl <;> rfl

set_option maxHeartbeats 2000000 in
set_option maxRecDepth 100000 in
theorem specL4Heads (g n cap : Nat) (bs : List BlkV) (w : World) (h : AtBlk w g bs) (hn : n = bs.length) (hm : n ≤ 1048576) :
    Calls Tryz.prog 29 #[.slice (some ⟨g, 0, none⟩) n cap] w fun e w' => ∃ v, e = .returned v ∧ HRow w.heap.size v (bs.map (·.h)) w' ∧ Below w.heap.size w w' := by
  obtain ⟨i0, hi, hz0, hz1, hz2⟩ := info3 infoHead
  have HA : Hid (AtBlk w g bs) := h
  have HN : Hid (n = bs.length) := hn
  have HE : Hid (bs.map (·.h) = (bs.take n).map (·.h)) := by show _ = _; rw [hn, List.take_length]
  have R0 : Hid (HRow w.heap.size (.slice (some ⟨w.heap.size, 0, none⟩) 0 0) [] (w.alloc (.cells #[] 33))) := frow_new _ _ _ w
  have B0 : Hid (Below w.heap.size w (w.alloc (.cells #[] 33))) := (Below.refl _ w).alloc (Nat.le_refl _) _
  clear h hn
  go_enter Tryz.func29, Tryz.ntmps29
  go_wp2_with fail
  go_loopw [3, 4] (fun v i wr => ∃ k g2 c2 : Nat, k ≤ n ∧ i = .int .i64 (k : Int) ∧ v = .slice (some ⟨g2, 0, none⟩) k c2 ∧ Hid (HRow w.heap.size v ((bs.take k).map (·.h)) wr) ∧ Hid (Below w.heap.size w wr)) (fun _ i _ => n - (intOf i).toNat)
  case atStart => exact ⟨0, w.heap.size, 0, by omega, rfl, rfl, R0, B0⟩
  case round =>
    clear R0 B0
    obtain ⟨k, g2, c2, hk, rfl, rfl, R, HB⟩ := hrel
    by_cases hlt : k < n
    · have hkl : k < bs.length := by rw [← HN.out]; exact hlt
      have HAr : Hid (AtBlk wr g bs) := HA.out.below HB.out HA.out.1
      have q0 := AtBlk.c0 HAr.out k hkl
      have q1 := AtBlk.c1 HAr.out k hkl
      have q2 := AtBlk.c2 HAr.out k hkl
      have q3 := AtBlk.c3 HAr.out k hkl
      have q4 := AtBlk.c4 HAr.out k hkl
      have lk : (k : Int) < (n : Int) := by omega
      have lk0 : (0 : Int) ≤ (k : Int) := by omega
      have wk : IntKind.i64.wrap ((k : Int) + 1) = (k : Int) + 1 := by rw [IntKind.wrap_i64]; omega
      have HK : Hid (k + 1 ≤ n) := hlt
      have HL : Hid ((bs.take k).length = k) := by show _ = _; rw [List.length_take]; omega
      have HT : Hid ((bs.take (k + 1)).map (·.h) = (bs.take k).map (·.h) ++ [(bs.getD k default).h]) := take_map hkl
      have HOW : Hid (wr.ownsRow w.heap.size 33 5 (.slice (some ⟨g2, 0, none⟩) k c2) k (((bs.take k).map (·.h)).flatMap enHead)) := by
        have := R.out.2
        rw [List.length_map, HL.out] at this
        exact this
      have hsz := HB.out.size
      generalize (bs.getD k default).h = p at q0 q1 q2 q3 q4 HT
      have hu := enHead_one p
      have hx1 : k + 1 ≤ maxLen := by unfold maxLen; omega
      have hx2 : (k + 1) * 56 ≤ 140737488355328 := by omega
      clear hkl R
      go_wp2_with (at_builtin; refine wp_appN rfl _ _ 23 rfl w.heap.size 33 i0 (.agg #[.string ⟨#[]⟩, .string ⟨#[]⟩, .int .i64 0, .int .i64 0, .int .i64 0]) 5 56 1 Tryz.underlying23 hi hz0 hz1 hz2 rfl (by decide) (by decide) _ _ _ rfl HOW.out (enHead p) rfl rfl hu hx1 hx2 hsz ?_; intro g4 c4 w4 hown4 hb4 hkeep4)
      have R4 : Hid (HRow w.heap.size (.slice (some ⟨g4, 0, none⟩) (k + 1) c4) ((bs.take (k + 1)).map (·.h)) w4) := by
        refine FRow.of ?_ ?_
        · rw [HT.out, List.flatMap_append]
          simpa using hown4
        · rw [HT.out, List.length_append, List.length_map, HL.out]; rfl
      have B4 : Hid (Below w.heap.size w w4) := HB.out.trans hb4
      clear hown4 hb4 hkeep4
      go_wp2_with fail
      go_roundw
      case rel => exact ⟨k + 1, g4, c4, HK.out, by go_num, rfl, R4, B4⟩
      case measure => have := HK.out; simp [intOf]; omega
    · obtain rfl : k = n := by omega
      go_wp2_with fail
      go_ret
      exact ⟨_, rfl, by rw [HE.out]; exact R.out, HB.out⟩

end Go.Proofs.YtoojimfimlpplaaGreatDoor

set_option linter.unusedVariables false
namespace Go.Proofs.YtoojimfimlpplaaGreatDoor
open Go.RowKit

def bsum (t : List UInt8) : ByteArray := ⟨(sumB t).toArray⟩
theorem bsum_size (t : List UInt8) : (bsum t).size = 16 := by simp [bsum, ByteArray.size, sumB, hexOf]
def rootItemB (s : ByteArray) : ByteArray := bsum ([105, 116, 101, 109, 32] ++ s.data.toList)
def bothB (a b : ByteArray) : ByteArray := bsum ([98, 111, 116, 104, 32] ++ a.data.toList ++ [32] ++ b.data.toList)
def upR : List ByteArray → List ByteArray
  | a :: b :: r => bothB a b :: upR r
  | l => l
theorem upR_append : ∀ (l m : List ByteArray), l.length % 2 = 0 → upR (l ++ m) = upR l ++ upR m
  | [], m, _ => by simp [upR]
  | [a], m, h => by simp at h
  | a :: b :: r, m, h => by
    have ih := upR_append r m (by simp at h; omega)
    simp [upR, ih]
theorem upR_short {l : List ByteArray} (h : l.length ≤ 1) : upR l = l := by
  match l, h with
  | [], _ => rfl
  | [a], _ => rfl
theorem upR_length : ∀ l : List ByteArray, (upR l).length = (l.length + 1) / 2
  | [] => by simp [upR]
  | [a] => by simp [upR]
  | a :: b :: r => by
    have := upR_length r
    simp [upR, this]
    omega
theorem upR_16 : ∀ l : List ByteArray, (∀ s ∈ l, s.size = 16) → ∀ s ∈ upR l, s.size = 16
  | [], _ => by simp [upR]
  | [a], h => by simpa [upR] using h
  | a :: b :: r, h => by
    intro s hs
    rcases List.mem_cons.1 hs with rfl | hs
    · exact bsum_size _
    · exact upR_16 r (fun x hx => h x (by simp [hx])) s hs
theorem take_two (l : List ByteArray) (k : Nat) (hk : k + 1 < l.length) (he : k % 2 = 0) : upR (l.take (k + 2)) = upR (l.take k) ++ [bothB (l.getD k ByteArray.empty) (l.getD (k + 1) ByteArray.empty)] := by
  have e : l.take (k + 2) = l.take k ++ [l.getD k ByteArray.empty, l.getD (k + 1) ByteArray.empty] := by
    rw [show k + 2 = (k + 1) + 1 from rfl, List.take_add_one, List.take_add_one, List.getElem?_eq_getElem (by omega), List.getElem?_eq_getElem hk, List.append_assoc]
    simp [List.getElem?_eq_getElem hk, List.getElem?_eq_getElem (show k < l.length by omega)]
  rw [e, upR_append _ _ (by simp; omega)]
  rfl
theorem take_last (l : List ByteArray) (k : Nat) (hk : k + 1 = l.length) (he : k % 2 = 0) : upR l = upR (l.take k) ++ [l.getD k ByteArray.empty] := by
  have e : l = l.take k ++ [l.getD k ByteArray.empty] := by
    conv => lhs; rw [← List.take_append_drop k l]
    congr 1
    rw [List.drop_eq_getElem_cons (by omega), List.drop_eq_nil_of_le (by omega)]
    simp [List.getElem?_eq_getElem (show k < l.length by omega)]
  conv => lhs; rw [e]
  rw [upR_append _ _ (by simp; omega)]
  rfl
theorem take_rest (l : List ByteArray) (k : Nat) (hk : l.length ≤ k + 1) (he : k % 2 = 0) (hkl : k ≤ l.length) : upR l = upR (l.take k) ++ l.drop k := by
  conv => lhs; rw [← List.take_append_drop k l]
  rw [upR_append _ _ (by simp; omega), upR_short (l := l.drop k) (by simp; omega)]
def topR : Nat → List ByteArray → List ByteArray
  | 0, r => r
  | f + 1, r => if r.length ≤ 1 then r else topR f (upR r)
theorem topR_done (f : Nat) {r : List ByteArray} (h : r.length ≤ 1) : topR f r = r := by
  cases f with
  | zero => rfl
  | succ f => simp [topR, h]
theorem topR_step (f : Nat) {r : List ByteArray} (h : ¬ r.length ≤ 1) (hf : r.length ≤ f) : topR f r = topR (f - 1) (upR r) := by
  cases f with
  | zero => omega
  | succ f => simp [topR, h]
theorem topR_more (f g : Nat) : ∀ (r : List ByteArray), r.length ≤ f → r.length ≤ g → topR f r = topR g r := by
  induction f generalizing g with
  | zero => intro r hf hg; rw [topR_done 0 (by omega), topR_done g (by omega)]
  | succ f ih =>
    intro r hf hg
    by_cases h : r.length ≤ 1
    · rw [topR_done _ h, topR_done _ h]
    · rw [topR_step _ h hf, topR_step _ h hg]
      have := upR_length r
      exact ih _ _ (by omega) (by omega)
theorem topR_up {r : List ByteArray} (h : ¬ r.length ≤ 1) : topR r.length r = topR (upR r).length (upR r) := by
  rw [topR_step _ h (Nat.le_refl _)]
  have := upR_length r
  exact topR_more _ _ _ (by omega) (Nat.le_refl _)
/-- What a row comes to. -/
def rootR (r : List ByteArray) : ByteArray := (topR r.length r).getD 0 ByteArray.empty
theorem rootR_up {r : List ByteArray} (h : ¬ r.length ≤ 1) : rootR r = rootR (upR r) := by rw [rootR, topR_up h]; rfl
theorem rootR_one {r : List ByteArray} (h : r.length ≤ 1) : rootR r = r.getD 0 ByteArray.empty := by rw [rootR, topR_done _ h]

end Go.Proofs.YtoojimfimlpplaaGreatDoor

set_option linter.unusedVariables false
namespace Go.Proofs.YtoojimfimlpplaaGreatDoor
open Go.RowKit

set_option maxHeartbeats 1000000 in
set_option maxRecDepth 100000 in
theorem specRow (g n cap : Nat) (ss : List ByteArray) (w : World) (h : AtS w g ss) (hn : n = ss.length) (hm : n ≤ 1000000) (hs : ∀ i, i < ss.length → (ss.getD i ByteArray.empty).size ≤ 1048576) :
    Calls Tryz.prog 109 #[.slice (some ⟨g, 0, none⟩) n cap] w fun e w' => ∃ v, e = .returned v ∧ SRow w.heap.size v (ss.map rootItemB) w' ∧ Below w.heap.size w w' := by
  obtain ⟨i0, hi, hz0, hz1, hz2⟩ := info_parts infoStr
  have HA : Hid (AtS w g ss) := h
  have HN : Hid (n = ss.length) := hn
  have HS : Hid (∀ i, i < ss.length → (ss.getD i ByteArray.empty).size ≤ 1048576) := hs
  clear h hn hs
  go_enter Tryz.func109, Tryz.ntmps109
  go_wp2_with fail
  have HW0 : Hid (SRow w.heap.size (.slice (some ⟨w.heap.size, 0, none⟩) 0 0) ((ss.take 0).map rootItemB) (w.alloc (.cells #[] 9))) := srow_new w
  have HB0 : Hid (Below w.heap.size w (w.alloc (.cells #[] 9))) := (Below.refl _ w).alloc (Nat.le_refl _) _
  go_loopw [3, 4] (fun v i wr => ∃ k : Nat, k ≤ n ∧ i = .int .i64 (k : Int) ∧ Hid (SRow w.heap.size v ((ss.take k).map rootItemB) wr) ∧ Hid (Below w.heap.size w wr)) (fun _ i _ => n - (intOf i).toNat)
  case atStart => exact ⟨0, by omega, rfl, HW0, HB0⟩
  case round =>
    clear HW0 HB0
    obtain ⟨k, hk, rfl, HR, HB⟩ := hrel
    obtain ⟨⟨g3, c3, rfl⟩, hrow⟩ := HR.out
    by_cases hlt : k < n
    · have hkl : k < ss.length := by rw [← HN.out]; exact hlt
      have hc : wr.cell? ⟨g, k, none⟩ = some (.string (ss.getD k ByteArray.empty)) := by
        rw [HB.out.cell (p := ⟨g, k, none⟩) HA.out.1]
        exact HA.out.2 k hkl
      have hsz := HS.out k hkl
      obtain ⟨z, hz⟩ : ∃ z, z = ss.getD k ByteArray.empty := ⟨_, rfl⟩
      rw [← hz] at hc hsz
      have HE : Hid ((ss.take (k + 1)).map rootItemB = (ss.take k).map rootItemB ++ [rootItemB z]) := by
        show _ = _
        rw [List.take_add_one, List.getElem?_eq_getElem hkl, List.map_append, hz, List.getD_eq_getElem?_getD, List.getElem?_eq_getElem hkl]
        rfl
      have hlen : ((ss.take k).map rootItemB).length = k := by simp; omega
      rw [hlen] at hrow ⊢
      have HRW : Hid (wr.ownsRow w.heap.size 9 1 (.slice (some ⟨g3, 0, none⟩) k c3) k (((ss.take k).map rootItemB).map Value.string)) := hrow
      have HLN : Hid (((ss.take k).map rootItemB).length = k) := hlen
      have HK : Hid (k + 1 ≤ n) := hlt
      have lk : (k : Int) < (n : Int) := by omega
      have hsum := specSum ((⟨#[105, 116, 101, 109, 32]⟩ : ByteArray) ++ z) wr (by
        simp only [ByteArray.size_append]
        have e1 : (⟨#[105, 116, 101, 109, 32]⟩ : ByteArray).size = 5 := rfl
        omega)
      have et : ((⟨#[105, 116, 101, 109, 32]⟩ : ByteArray) ++ z).data.toList = [105, 116, 101, 109, 32] ++ z.data.toList := by simp
      rw [et] at hsum
      have er : (⟨(sumB ([105, 116, 101, 109, 32] ++ z.data.toList)).toArray⟩ : ByteArray) = rootItemB z := rfl
      rw [er] at hsum
      generalize rootItemB z = rz at hsum HE
      clear hz hrow hlen hkl et er
      have hx1 : k + 1 ≤ maxLen := by unfold maxLen; omega
      have hx2 : (k + 1) * 16 ≤ 140737488355328 := by omega
      go_wp2_with fail
      refine hsum.mono ?_
      rintro e w1 ⟨rfl, b1⟩
      have HRW1 : Hid (w1.ownsRow w.heap.size 9 1 (.slice (some ⟨g3, 0, none⟩) k c3) k (((ss.take k).map rootItemB).map Value.string)) := by
        refine World.ownsRow.kept HRW.out ⟨b1.os, b1.tape, b1.output, b1.size, fun j hj _ => b1.block j hj⟩ (.inr (fun e => by cases e)) (row := none)
      have HB1 : Hid (Below w.heap.size w w1) := HB.out.trans (b1.mono HB.out.size)
      have hsz1 := HB1.out.size
      clear b1 hsum
      go_wp2_with (at_builtin; refine wp_app1 rfl _ _ 83 rfl w.heap.size 9 i0 (.string ⟨#[]⟩) 16 Tryz.underlying83 hi hz0 hz1 hz2 rfl _ _ _ rfl HRW1.out (.string rz) rfl rfl hx1 hx2 hsz1 ?_; intro g4 c4 w4 hown4 hb4 _)
      go_roundw
      case rel =>
        refine ⟨k + 1, HK.out, by go_num, ⟨⟨g4, c4, ?_⟩, ?_⟩, HB1.out.trans hb4⟩
        · rw [HE.out, List.length_append, HLN.out]; rfl
        · rw [HE.out, List.length_append, HLN.out, List.map_append]; exact hown4
      case measure => have := HK.out; simp [intOf]; omega
    · have HE : Hid ((ss.take k).map rootItemB = ss.map rootItemB) := by
        show _ = _
        rw [List.take_of_length_le (by rw [← HN.out]; omega)]
      clear hrow
      go_wp2_with fail
      go_ret
      refine ⟨_, rfl, ?_, HB.out⟩
      have := HR.out
      rw [HE.out] at this ⊢
      exact this

end Go.Proofs.YtoojimfimlpplaaGreatDoor

set_option linter.unusedVariables false
namespace Go.Proofs.YtoojimfimlpplaaGreatDoor
open Go.RowKit

def sliceLen2 : Value → Nat
  | .slice _ n _ => n
  | _ => 0
theorem row_below {B n : Nat} {e : TypeId} {v : Value} {xs : List Value} {w w1 : World} (h : w.ownsRow B e 1 v n xs) (b1 : Below w.heap.size w w1) : w1.ownsRow B e 1 v n xs := by
  refine ⟨h.1, ?_⟩
  rcases h.2 with h2 | ⟨g, cap, cur, hv, h2, h3, h4⟩
  · exact .inl h2
  · exact .inr ⟨g, cap, cur, hv, h2, by rw [b1.block g (Array.getElem?_eq_some_iff.1 h3).1]; exact h3, h4⟩
theorem bothSum (a b : ByteArray) (w : World) (ha : a.size = 16) (hb : b.size = 16) :
    Calls Tryz.prog 75 #[.string ((⟨#[98, 111, 116, 104, 32]⟩ : ByteArray) ++ a ++ (⟨#[32]⟩ : ByteArray) ++ b)] w fun e w' => e = .returned (.string (bothB a b)) ∧ Below w.heap.size w w' := by
  have hsum := specSum ((⟨#[98, 111, 116, 104, 32]⟩ : ByteArray) ++ a ++ (⟨#[32]⟩ : ByteArray) ++ b) w (by
    simp only [ByteArray.size_append]
    have e1 : (⟨#[98, 111, 116, 104, 32]⟩ : ByteArray).size = 5 := rfl
    have e2 : (⟨#[32]⟩ : ByteArray).size = 1 := rfl
    omega)
  have et : ((⟨#[98, 111, 116, 104, 32]⟩ : ByteArray) ++ a ++ (⟨#[32]⟩ : ByteArray) ++ b).data.toList = [98, 111, 116, 104, 32] ++ a.data.toList ++ [32] ++ b.data.toList := by simp
  rw [et] at hsum
  exact hsum

set_option maxHeartbeats 4000000 in
set_option maxRecDepth 100000 in
theorem specUp (g n cap : Nat) (ss : List ByteArray) (w : World) (h : AtS w g ss) (hn : n = ss.length) (hm : n ≤ 1000000) (hs : ∀ s ∈ ss, s.size = 16) :
    Calls Tryz.prog 110 #[.slice (some ⟨g, 0, none⟩) n cap] w fun e w' => ∃ v, e = .returned v ∧ SRow w.heap.size v (upR ss) w' ∧ Below w.heap.size w w' := by
  obtain ⟨i0, hi, hz0, hz1, hz2⟩ := info_parts infoStr
  have HA : Hid (AtS w g ss) := h
  have HN : Hid (n = ss.length) := hn
  have HS : Hid (∀ i, i < ss.length → (ss.getD i ByteArray.empty).size = 16) := by
    intro i hi
    refine hs _ ?_
    simp [List.getElem?_eq_getElem hi]
  clear h hn hs
  go_enter Tryz.func110, Tryz.ntmps110
  go_wp2_with fail
  have HW0 : Hid (SRow w.heap.size (.slice (some ⟨w.heap.size, 0, none⟩) 0 0) (upR (ss.take 0)) (w.alloc (.cells #[] 9))) := srow_new w
  have HB0 : Hid (Below w.heap.size w (w.alloc (.cells #[] 9))) := (Below.refl _ w).alloc (Nat.le_refl _) _
  go_loopw [3, 4] (fun v i wr => ∃ k : Nat, k ≤ n + 1 ∧ i = .int .i64 (k : Int) ∧ Hid (k % 2 = 0) ∧ Hid (SRow w.heap.size v (upR (ss.take k)) wr) ∧ Hid (Below w.heap.size w wr)) (fun _ i _ => n + 2 - (intOf i).toNat)
  case atStart => exact ⟨0, by omega, rfl, rfl, HW0, HB0⟩
  case round =>
    clear HW0 HB0
    obtain ⟨k, hk, rfl, HE2, HR, HB⟩ := hrel
    obtain ⟨⟨g3, c3, rfl⟩, hrow⟩ := HR.out
    obtain ⟨ml, hml⟩ : ∃ ml, ml = (upR (ss.take k)).length := ⟨_, rfl⟩
    have hmk : ml ≤ k := by
      rw [hml, upR_length]
      simp
      omega
    rw [← hml] at hrow ⊢
    have HML : Hid (ml = (upR (ss.take k)).length) := hml
    have HRW : Hid (wr.ownsRow w.heap.size 9 1 (.slice (some ⟨g3, 0, none⟩) ml c3) ml ((upR (ss.take k)).map Value.string)) := hrow
    clear hml hrow
    have hx1 : ml + 1 ≤ maxLen := by unfold maxLen; omega
    have hx2 : (ml + 1) * 16 ≤ 140737488355328 := by omega
    have hszr := HB.out.size
    by_cases hlt : k < n
    · have hkl : k < ss.length := by rw [← HN.out]; exact hlt
      have hc : wr.cell? ⟨g, k, none⟩ = some (.string (ss.getD k ByteArray.empty)) := by
        rw [HB.out.cell (p := ⟨g, k, none⟩) HA.out.1]
        exact HA.out.2 k hkl
      have lk : (k : Int) < (n : Int) := by omega
      by_cases hlt2 : k + 1 < n
      · have hkl2 : k + 1 < ss.length := by rw [← HN.out]; exact hlt2
        have hc2 : wr.cell? ⟨g, k + 1, none⟩ = some (.string (ss.getD (k + 1) ByteArray.empty)) := by
          rw [HB.out.cell (p := ⟨g, k + 1, none⟩) HA.out.1]
          exact HA.out.2 (k + 1) hkl2
        have hs1 := HS.out k hkl
        have hs2 := HS.out (k + 1) hkl2
        have HE : Hid (upR (ss.take (k + 2)) = upR (ss.take k) ++ [bothB (ss.getD k ByteArray.empty) (ss.getD (k + 1) ByteArray.empty)]) := take_two ss k hkl2 HE2.out
        generalize ss.getD k ByteArray.empty = a at hc hs1 HE
        generalize ss.getD (k + 1) ByteArray.empty = b at hc2 hs2 HE
        have lk2 : (k : Int) + 1 < (n : Int) := by omega
        have HK : Hid (k + 2 ≤ n + 1) := by show _ ≤ _; omega
        have hw1 : IntKind.i64.wrap ((k : Int) + 1) = (k : Int) + 1 := by rw [IntKind.wrap_i64]; omega
        have l0 : (0 : Int) ≤ (k : Int) + 1 := by omega
        have l1 : (0 : Int) ≤ (k : Int) := by omega
        have hgw : g < wr.heap.size := Nat.lt_of_lt_of_le HA.out.1 hszr
        have hne : g ≠ g3 := by
          rcases HRW.out.2 with ⟨h2, _⟩ | ⟨g', cap', cur, hv, h2, _⟩
          · cases h2
          · simp only [Value.slice.injEq, Option.some.injEq, Addr.mk.injEq, and_true] at hv
            have := HA.out.1
            omega
        clear hkl hkl2
        go_wp2_with fail
        go_region_held3 (fun w' => w'.cell? ⟨g, k, none⟩ = some (.string a) ∧ w'.cell? ⟨g, k + 1, none⟩ = some (.string b)) (first | go_keep | (exact ⟨(b1.cell (p := ⟨g, k, none⟩) hgw).trans hc, (b1.cell (p := ⟨g, k + 1, none⟩) hgw).trans hc2⟩) | (have hfar : w4.heap[g]? = w1.heap[g]? := (hgrow4.block g (by simp; omega) (by simpa [Value.ownBlock] using hne)).trans (Below.heap_alloc _ _ _ (by omega)); exact ⟨(World.cell?_of_block (a := ⟨g, k, none⟩) hfar).trans ((b1.cell (p := ⟨g, k, none⟩) hgw).trans hc), (World.cell?_of_block (a := ⟨g, k + 1, none⟩) hfar).trans ((b1.cell (p := ⟨g, k + 1, none⟩) hgw).trans hc2)⟩))
          (first
            | (go_at_call 75; refine (bothSum a b _ hs1 hs2).mono ?_; rintro e w1 ⟨rfl, b0⟩; have b1 : Below wr.heap.size wr w1 := ((Below.refl wr.heap.size wr).drew).trans b0; have hb1s : wr.heap.size ≤ w1.heap.size := b1.size; clear b0)
            | ((refine step_append_lies _ (by rfl) _ _ 83 (by rfl) w.heap.size 9 i0 (.string ⟨#[]⟩) 1 16 Tryz.underlying83 hi hz0 hz1 hz2 rfl (by decide) _ ml _ (by rfl) (World.ownsRow.alloc (row_below HRW.out b1) _) ⟨w1.heap.size, 0, none⟩ 1 1 [.string (bothB a b)] (by rfl) rfl (cell_one_new _ _ _) (by simp [Value.oneCell']) (by decide) hx1 hx2 (by simp; omega) _ rfl ?_; intro g4 c4 w4 hown4 hgrow4 hat4 hlt4)))
        have hb4 : Below w.heap.size w w4 := ((HB.out.trans (b1.mono hszr)).alloc (by omega) _).grown hgrow4 (by simp; omega) (fun j hj => by
          rcases HRW.out.2 with ⟨h2, _⟩ | ⟨g', cap', cur, hv, h2, _⟩
          · cases h2
          · simp only [Value.slice.injEq, Option.some.injEq, Addr.mk.injEq, and_true] at hv
            have : g3 = j := by simpa [Value.ownBlock] using hj
            omega)
        have HR4 : Hid (SRow w.heap.size (.slice (some ⟨g4, 0, none⟩) (ml + 1) c4) (upR (ss.take (k + 2))) w4) := by
          refine ⟨⟨g4, c4, ?_⟩, ?_⟩
          · rw [HE.out, List.length_append, ← HML.out]; rfl
          · rw [HE.out, List.length_append, ← HML.out, List.map_append]; exact hown4
        clear hown4 hgrow4 hat4 hlt4 b1
        go_wp2_with fail
        go_roundw
        case rel => exact ⟨k + 2, HK.out, by go_num, by have := HE2.out; show _ = _; omega, HR4, hb4⟩
        case measure => have := HK.out; simp [intOf]; omega
      · have hkn : k + 1 = ss.length := by have := HN.out; omega
        have hs1 := HS.out k hkl
        have HE : Hid (upR ss = upR (ss.take k) ++ [ss.getD k ByteArray.empty]) := take_last ss k hkn HE2.out
        have HEE : Hid (ss.take (k + 2) = ss) := List.take_of_length_le (by omega)
        generalize ss.getD k ByteArray.empty = a at hc hs1 HE
        have lk2 : ¬ (k : Int) + 1 < (n : Int) := by omega
        have HK : Hid (k + 2 ≤ n + 1) := by show _ ≤ _; omega
        have l1 : (0 : Int) ≤ (k : Int) := by omega
        clear hkl hkn
        go_wp2_with (at_builtin; refine wp_app1 rfl _ _ 83 rfl w.heap.size 9 i0 (.string ⟨#[]⟩) 16 Tryz.underlying83 hi hz0 hz1 hz2 rfl _ _ _ rfl HRW.out (.string a) rfl rfl hx1 hx2 hszr ?_; intro g4 c4 w4 hown4 hb4 _)
        have HR4 : Hid (SRow w.heap.size (.slice (some ⟨g4, 0, none⟩) (ml + 1) c4) (upR (ss.take (k + 2))) w4) := by
          rw [HEE.out]
          refine ⟨⟨g4, c4, ?_⟩, ?_⟩
          · rw [HE.out, List.length_append, ← HML.out]; rfl
          · rw [HE.out, List.length_append, ← HML.out, List.map_append]; exact hown4
        clear hown4
        go_roundw
        case rel => exact ⟨k + 2, HK.out, by go_num, by have := HE2.out; show _ = _; omega, HR4, HB.out.trans hb4⟩
        case measure => have := HK.out; simp [intOf]; omega
    · have HE : Hid (upR (ss.take k) = upR ss) := by
        show _ = _
        rw [List.take_of_length_le (by rw [← HN.out]; omega)]
      go_wp2_with fail
      go_ret
      refine ⟨_, rfl, ?_, HB.out⟩
      have := HR.out
      rw [HML.out, HE.out]
      rw [HE.out] at this
      exact this


end Go.Proofs.YtoojimfimlpplaaGreatDoor

set_option linter.unusedVariables false
namespace Go.Proofs.YtoojimfimlpplaaGreatDoor
open Go.RowKit Go.Deep

theorem infoBlk : (Tryz.prog.info? 85).map (fun i => (i.zero, i.size, i.bytes)) = some (some (.agg #[.string ⟨#[]⟩, .string ⟨#[]⟩, .int .i64 0, .int .i64 0, .int .i64 0, .slice none 0 0]), 6, 80) := by kernel_rfl
/-- The items of some blocks, each in a block of its own at or above B, are in memory. -/
def OwnItems (B : Nat) (w : World) (bs : List BlkV) : Prop := ∀ b ∈ bs, ItemsAt w b ∧ B ≤ b.g
/-- The items' row of a block is the call's own. -/
def OwnIt (B : Nat) (w : World) (c : BlkV) : Prop := w.ownsRow B 9 1 (.slice (some ⟨c.g, 0, none⟩) c.n c.cap) c.n (c.ss.map Value.string)
theorem OwnIt.keep {B : Nat} {w w' : World} {c : BlkV} (h : OwnIt B w c) (hk : w'.heap[c.g]? = w.heap[c.g]?) : OwnIt B w' c := by
  obtain ⟨h1, h2⟩ := h
  refine ⟨h1, ?_⟩
  rcases h2 with ⟨h3, _⟩ | ⟨g', cap', cur, hv, hB, hg, h4⟩
  · cases h3
  · have e : c.g = g' := by simp only [Value.slice.injEq, Option.some.injEq, Addr.mk.injEq, and_true] at hv; exact hv.1
    exact .inr ⟨g', cap', cur, hv, hB, by rw [← e, hk, e]; exact hg, h4⟩
theorem OwnIt.mono {B C : Nat} {w : World} {c : BlkV} (h : OwnIt B w c) (hC : C ≤ B) : OwnIt C w c := by
  obtain ⟨h1, h2⟩ := h
  refine ⟨h1, ?_⟩
  rcases h2 with ⟨h3, _⟩ | ⟨g', cap', cur, hv, hB, h4⟩
  · cases h3
  · exact .inr ⟨g', cap', cur, hv, Nat.le_trans hC hB, h4⟩
theorem OwnIt.of {Z B g n c : Nat} {h : HeadV} {ss : List ByteArray} {w : World} (ho : w.ownsRow Z 9 1 (.slice (some ⟨g, 0, none⟩) (0 + n) c) (0 + n) ([] ++ ss.map Value.string)) (hB : B ≤ Z) : OwnIt B w ⟨h, g, n, c, ss⟩ := by
  rw [Nat.zero_add, List.nil_append] at ho
  exact OwnIt.mono (B := Z) (c := ⟨h, g, n, c, ss⟩) ho hB
/-- A list of blocks that the call itself has made: its row, its items, apart from each other. -/
structure BList (B : Nat) (v : Value) (cs : List BlkV) (w : World) : Prop where
  row : BRow B v cs w
  items : OwnItems B w cs
  apart : ∀ c ∈ cs, v.ownBlock ≠ some c.g
  own : ∀ c ∈ cs, OwnIt B w c
theorem BList.keep {B : Nat} {v : Value} {cs : List BlkV} {w w' : World} (h : BList B v cs w) (hs : w.heap.size ≤ w'.heap.size) (hk : ∀ g, B ≤ g → g < w.heap.size → w'.heap[g]? = w.heap[g]?) : BList B v cs w' :=
  ⟨h.row.keep hk, fun c hc => ⟨⟨⟨Nat.lt_of_lt_of_le (h.items c hc).1.1.1 hs, fun i hi => (World.cell?_of_block (a := ⟨c.g, i, none⟩) (hk c.g (h.items c hc).2 (h.items c hc).1.1.1)).trans ((h.items c hc).1.1.2 i hi)⟩, (h.items c hc).1.2⟩, (h.items c hc).2⟩, h.apart, fun c hc => (h.own c hc).keep (hk c.g (h.items c hc).2 (h.items c hc).1.1.1)⟩
theorem BList.below {B : Nat} {v : Value} {cs : List BlkV} {w w' : World} (h : BList B v cs w) (hb : Below w.heap.size w w') : BList B v cs w' := h.keep hb.size (fun g _ hg => hb.block g hg)
theorem BList.mono {B C : Nat} {v : Value} {cs : List BlkV} {w : World} (h : BList B v cs w) (hC : C ≤ B) : BList C v cs w := ⟨h.row.mono hC, fun c hc => ⟨(h.items c hc).1, Nat.le_trans hC (h.items c hc).2⟩, h.apart, fun c hc => (h.own c hc).mono hC⟩
/-- Two lists of blocks tell the same. -/
def SameBlks (bs cs : List BlkV) : Prop := cs.map (·.h) = bs.map (·.h) ∧ cs.map (·.ss) = bs.map (·.ss)

theorem atS_far {w w' : World} {g : Nat} {zs : List ByteArray} (h : AtS w g zs) (hk : w'.heap[g]? = w.heap[g]?) (hs : w.heap.size ≤ w'.heap.size) : AtS w' g zs :=
  ⟨Nat.lt_of_lt_of_le h.1 hs, fun i hi => (World.cell?_of_block (a := ⟨g, i, none⟩) hk).trans (h.2 i hi)⟩
theorem srow_of {B n g cap : Nat} {zs : List ByteArray} {w : World} (h : w.ownsRow B 9 1 (.slice (some ⟨g, 0, none⟩) n cap) n (zs.map Value.string)) (hn : n = zs.length) : SRow B (.slice (some ⟨g, 0, none⟩) n cap) zs w := by
  subst hn
  exact ⟨⟨g, cap, rfl⟩, h⟩

theorem AtS.news {w w' : World} {g : Nat} {ss : List ByteArray} (h : AtS w g ss) (hb : Below w.heap.size w w') : ∀ j u, (ss.map Value.string)[j]? = some u → w'.cell? ((⟨g, 0, none⟩ : Addr).add j) = some u := by
  intro j u hj
  have hjl : j < ss.length := by
    rcases Nat.lt_or_ge j ss.length with h' | h'
    · exact h'
    · rw [List.getElem?_eq_none (by simpa using h')] at hj; cases hj
  have e1 : (⟨g, 0, none⟩ : Addr).add j = ⟨g, j, none⟩ := by unfold Addr.add; split <;> simp_all
  rw [e1, hb.cell (p := ⟨g, j, none⟩) h.1]
  have e3 : u = .string (ss.getD j ByteArray.empty) := by
    rw [List.getElem?_map, List.getElem?_eq_getElem hjl] at hj
    rw [List.getD_eq_getElem?_getD, List.getElem?_eq_getElem hjl]
    exact (Option.some.inj hj).symm
  rw [e3]
  exact h.2 j hjl
theorem itemsOneCell (ss : List ByteArray) : ∀ u ∈ ss.map Value.string, u.oneCell' = true := by
  intro u hu
  obtain ⟨x, _, rfl⟩ := List.mem_map.1 hu
  rfl

set_option maxHeartbeats 4000000 in
set_option maxRecDepth 100000 in
theorem specL4Copy (g n cap : Nat) (bs : List BlkV) (w : World) (h : AtBlk w g bs) (hit : ∀ b ∈ bs, ItemsAt w b) (hn : n = bs.length) (hm : n ≤ 1048576) (hs : ∀ b ∈ bs, b.ss.length ≤ 1048576) :
    Calls Tryz.prog 97 #[.slice (some ⟨g, 0, none⟩) n cap] w fun e w' => ∃ v cs, e = .returned v ∧ BList w.heap.size v cs w' ∧ SameBlks bs cs ∧ Below w.heap.size w w' := by
  obtain ⟨i0, hi, hz0, hz1, hz2⟩ := info3 infoBlk
  obtain ⟨j0, ji, jz0, jz1, jz2⟩ := info_parts infoStr
  have HA : Hid (AtBlk w g bs) := h
  have HN : Hid (n = bs.length) := hn
  have HI : Hid (∀ b ∈ bs, ItemsAt w b ∧ b.ss.length ≤ 1048576) := fun b hb => ⟨hit b hb, hs b hb⟩
  have R0 : Hid (BRow w.heap.size (.slice (some ⟨w.heap.size, 0, none⟩) 0 0) [] (w.alloc (.cells #[] 85))) := frow_new _ _ _ w
  have B0 : Hid (Below w.heap.size w (w.alloc (.cells #[] 85))) := (Below.refl _ w).alloc (Nat.le_refl _) _
  clear h hn hit hs
  go_enter Tryz.func97, Tryz.ntmps97
  go_wp2_with fail
  go_loopw [3, 4] (fun v i wr => ∃ (k g2 c2 : Nat) (cs : List BlkV), k ≤ n ∧ i = .int .i64 (k : Int) ∧ v = .slice (some ⟨g2, 0, none⟩) k c2 ∧ Hid (BRow w.heap.size v cs wr) ∧ Hid (OwnItems w.heap.size wr cs ∧ (∀ c ∈ cs, c.g ≠ g2) ∧ ∀ c ∈ cs, OwnIt w.heap.size wr c) ∧ Hid (SameBlks (bs.take k) cs) ∧ Hid (Below w.heap.size w wr)) (fun _ i _ => n - (intOf i).toNat)
  case atStart => exact ⟨0, w.heap.size, 0, [], by omega, rfl, rfl, R0, ⟨(fun c hc => by cases hc), (fun c hc => by cases hc), (fun c hc => by cases hc)⟩, ⟨rfl, rfl⟩, B0⟩
  case round =>
    clear R0 B0
    obtain ⟨k, g2, c2, cs, hk, rfl, rfl, R, HO, HSm, HB⟩ := hrel
    by_cases hlt : k < n
    · have hkl : k < bs.length := by rw [← HN.out]; exact hlt
      have HAr : Hid (AtBlk wr g bs) := HA.out.below HB.out HA.out.1
      have q0 := AtBlk.c0 HAr.out k hkl
      have q1 := AtBlk.c1 HAr.out k hkl
      have q2 := AtBlk.c2 HAr.out k hkl
      have q3 := AtBlk.c3 HAr.out k hkl
      have q4 := AtBlk.c4 HAr.out k hkl
      have q5 := AtBlk.c5 HAr.out k hkl
      have hgl := HAr.out.1
      have lk : (k : Int) < (n : Int) := by omega
      have lk0 : (0 : Int) ≤ (k : Int) := by omega
      have wk : IntKind.i64.wrap ((k : Int) + 1) = (k : Int) + 1 := by rw [IntKind.wrap_i64]; omega
      have HK : Hid (k + 1 ≤ n) := hlt
      have hbm : bs.getD k default ∈ bs := by rw [List.getD_eq_getElem?_getD, List.getElem?_eq_getElem hkl]; exact List.getElem_mem hkl
      have HIb := HI.out _ hbm
      have hcl : cs.length = k := by
        have := congrArg List.length HSm.out.1
        rw [List.length_map, List.length_map, List.length_take] at this
        omega
      have HOW : Hid (wr.ownsRow w.heap.size 85 6 (.slice (some ⟨g2, 0, none⟩) k c2) k (cs.flatMap enBlk)) := by
        have := R.out.2
        rw [hcl] at this
        exact this
      have HT : Hid (bs.take (k + 1) = bs.take k ++ [bs.getD k default]) := by
        show _ = _
        rw [List.take_add_one, List.getElem?_eq_getElem hkl]
        simp [List.getElem?_eq_getElem hkl]
      generalize bs.getD k default = b at q0 q1 q2 q3 q4 q5 HIb HT
      obtain ⟨bh, bg, bn, bc, bss⟩ := b
      dsimp only at q0 q1 q2 q3 q4 q5
      have hbn : bn = bss.length := HIb.1.2
      have HIt : Hid (AtS wr bg bss) := HIb.1.1.below HB.out HIb.1.1.1
      have hbl : bss.length ≤ 1048576 := HIb.2
      have hgb := HIt.out.1
      have hsz := HB.out.size
      have HBN : Hid (bn = bss.length) := hbn
      have hnl : bn ≤ 1048576 := by omega
      have HS0 : Hid ((wr.drew.alloc (.cells #[] 9)).ownsRow wr.heap.size 9 1 (.slice (some ⟨wr.heap.size, 0, none⟩) 0 0) 0 []) := (srow_new wr.drew).2
      have HNW : Hid (∀ j u, (bss.map Value.string)[j]? = some u → (wr.drew.alloc (.cells #[] 9)).cell? ((⟨bg, 0, none⟩ : Addr).add j) = some u) := by
        intro j u hj
        have hjl : j < bss.length := by
          rcases Nat.lt_or_ge j bss.length with h' | h'
          · exact h'
          · rw [List.getElem?_eq_none (by simpa using h')] at hj; cases hj
        have e1 : (⟨bg, 0, none⟩ : Addr).add j = ⟨bg, j, none⟩ := by unfold Addr.add; split <;> simp_all
        rw [e1, ((Below.refl wr.heap.size wr).drew.alloc (Nat.le_refl _) _).cell (p := ⟨bg, j, none⟩) hgb]
        have e2 := HIt.out.2 j hjl
        have e3 : u = .string (bss.getD j ByteArray.empty) := by
          rw [List.getElem?_map, List.getElem?_eq_getElem hjl] at hj
          rw [List.getD_eq_getElem?_getD, List.getElem?_eq_getElem hjl]
          exact (Option.some.inj hj).symm
        rw [e3]
        exact e2
      have HM1 : Hid ((bss.map Value.string).length = bn * 1) := by show _ = _; rw [List.length_map, HBN.out, Nat.mul_one]
      have HU1 : Hid (∀ u ∈ bss.map Value.string, u.oneCell' = true) := by
        intro u hu
        obtain ⟨x, _, rfl⟩ := List.mem_map.1 hu
        rfl
      have hx1 : 0 + bn ≤ maxLen := by unfold maxLen; omega
      have hx2 : (0 + bn) * 16 ≤ 140737488355328 := by omega
      have hy1 : k + 1 ≤ maxLen := by unfold maxLen; omega
      have hy2 : (k + 1) * 80 ≤ 140737488355328 := by omega
      have hg2 : g2 < wr.heap.size := by
        obtain ⟨g', c', cur, hv, _, hl', _⟩ := R.out.block
        simp only [Value.slice.injEq, Option.some.injEq, Addr.mk.injEq, and_true] at hv
        rw [hv.1]
        exact hl'
      have HR3 : Hid (∀ w3, Below wr.heap.size wr w3 → w3.ownsRow w.heap.size 85 6 (.slice (some ⟨g2, 0, none⟩) k c2) k (cs.flatMap enBlk)) := fun w3 b3 => by
        have := (R.out.below b3).2
        rw [hcl] at this
        exact this
      have hne : ¬ g = g2 := by
        obtain ⟨g', c', cur, hv, hB', _⟩ := R.out.block
        simp only [Value.slice.injEq, Option.some.injEq, Addr.mk.injEq, and_true] at hv
        have := HA.out.1
        omega
      clear HIb hbm hkl hbn hbl HOW
      go_wp2_with fail
      go_region_held3 (fun w' => w'.cell? ⟨g, k * 6, none⟩ = some (.string bh.prev) ∧ w'.cell? ⟨g, k * 6 + 1, none⟩ = some (.string bh.root) ∧ w'.cell? ⟨g, k * 6 + 2, none⟩ = some (.int .i64 bh.time) ∧ w'.cell? ⟨g, k * 6 + 3, none⟩ = some (.int .i64 bh.diff) ∧ w'.cell? ⟨g, k * 6 + 4, none⟩ = some (.int .i64 bh.nonce) ∧ w'.cell? ⟨g, k * 6 + 5, none⟩ = some (.slice (some ⟨bg, 0, none⟩) bn bc))
        (first | go_keep | (exact ⟨(b3.cell (p := ⟨g, k * 6, none⟩) hgl).trans q0, (b3.cell (p := ⟨g, k * 6 + 1, none⟩) hgl).trans q1, (b3.cell (p := ⟨g, k * 6 + 2, none⟩) hgl).trans q2, (b3.cell (p := ⟨g, k * 6 + 3, none⟩) hgl).trans q3, (b3.cell (p := ⟨g, k * 6 + 4, none⟩) hgl).trans q4, (b3.cell (p := ⟨g, k * 6 + 5, none⟩) hgl).trans q5⟩) | (have hfar : w4.heap[g]? = w3.heap[g]? := (hgrow4.block g (by simp; omega) (by simpa using hne)).trans (Below.heap_alloc _ _ _ (by omega)); exact ⟨(World.cell?_of_block (a := ⟨g, k * 6, none⟩) hfar).trans ((b3.cell (p := ⟨g, k * 6, none⟩) hgl).trans q0), (World.cell?_of_block (a := ⟨g, k * 6 + 1, none⟩) hfar).trans ((b3.cell (p := ⟨g, k * 6 + 1, none⟩) hgl).trans q1), (World.cell?_of_block (a := ⟨g, k * 6 + 2, none⟩) hfar).trans ((b3.cell (p := ⟨g, k * 6 + 2, none⟩) hgl).trans q2), (World.cell?_of_block (a := ⟨g, k * 6 + 3, none⟩) hfar).trans ((b3.cell (p := ⟨g, k * 6 + 3, none⟩) hgl).trans q3), (World.cell?_of_block (a := ⟨g, k * 6 + 4, none⟩) hfar).trans ((b3.cell (p := ⟨g, k * 6 + 4, none⟩) hgl).trans q4), (World.cell?_of_block (a := ⟨g, k * 6 + 5, none⟩) hfar).trans ((b3.cell (p := ⟨g, k * 6 + 5, none⟩) hgl).trans q5)⟩))
        (first
          | (refine step_append_any (by rfl) _ _ 83 (by rfl) wr.heap.size 9 j0 (.string ⟨#[]⟩) 1 16 Tryz.underlying83 ji jz0 jz1 jz2 rfl (by decide) wr.heap.size 0 0 [] (by rfl) HS0.out ⟨bg, 0, none⟩ bn bc (bss.map Value.string) (by rfl) HM1.out HNW.out HU1.out hx1 hx2 (by simp) ?_; intro g3 c3 w3 hown3 hgrow3 hat3 hlt3; have b3 : Below wr.heap.size wr w3 := ((Below.refl wr.heap.size wr).drew.alloc (Nat.le_refl _) _).grown hgrow3 (by simp) (fun j hj => by cases hj; exact Nat.le_refl _); have hsz3 := b3.size; clear HS0)
          | (refine step_append_any (by rfl) _ _ 66 (by rfl) w.heap.size 85 i0 (.agg #[.string ⟨#[]⟩, .string ⟨#[]⟩, .int .i64 0, .int .i64 0, .int .i64 0, .slice none 0 0]) 6 80 Tryz.underlying66 hi hz0 hz1 hz2 rfl (by decide) g2 c2 k _ (by rfl) (World.ownsRow.alloc (HR3.out _ b3) _) ⟨w3.heap.size, 0, none⟩ 1 1 (enBlk ⟨bh, g3, bn, c3, bss⟩) (by rfl) rfl (cells_new w3 _ _) (enBlk_one _) hy1 hy2 (by simp; omega) ?_; intro g4 c4 w4 hown4 hgrow4 hat4 hlt4))
      have hg3 : wr.heap.size ≤ g3 := by
        rcases hat3.out with h | h
        · omega
        · rw [h]; simp
      have hown3' := hown3
      have F3 : Hid (AtS w3 g3 bss) := by
        rw [Nat.zero_add] at hown3
        exact (SRow.at (srow_of (by simpa using hown3) HBN.out)).1
      have HFAR : Hid (∀ c, c < w3.heap.size → c ≠ g2 → w4.heap[c]? = w3.heap[c]?) := fun c hc hne' => (hgrow4.block c (by simp; omega) (by simpa using hne')).trans (Below.heap_alloc _ _ _ hc)
      have hsz4 : w3.heap.size ≤ w4.heap.size := Nat.le_trans (by simp) hgrow4.size
      have B4 : Hid (Below w.heap.size w w4) := ((HB.out.trans (b3.mono hsz)).alloc (by omega) _).grown hgrow4 (by simp; omega) (fun j hj => by
        cases hj
        obtain ⟨g', c', cur, hv, hB', _⟩ := R.out.block
        simp only [Value.slice.injEq, Option.some.injEq, Addr.mk.injEq, and_true] at hv
        omega)
      have R4 : Hid (BRow w.heap.size (.slice (some ⟨g4, 0, none⟩) (k + 1) c4) (cs ++ [⟨bh, g3, bn, c3, bss⟩]) w4) := by
        refine FRow.of ?_ ?_
        · rw [List.flatMap_append]
          simpa using hown4
        · rw [List.length_append, hcl]; rfl
      have O4 : Hid (OwnItems w.heap.size w4 (cs ++ [⟨bh, g3, bn, c3, bss⟩]) ∧ (∀ c ∈ cs ++ [(⟨bh, g3, bn, c3, bss⟩ : BlkV)], c.g ≠ g4) ∧ ∀ c ∈ cs ++ [(⟨bh, g3, bn, c3, bss⟩ : BlkV)], OwnIt w.heap.size w4 c) := by
        have hold : ∀ c ∈ cs, c.g < wr.heap.size ∧ c.g ≠ g2 ∧ w.heap.size ≤ c.g := fun c hc => ⟨(HO.out.1 c hc).1.1.1, HO.out.2.1 c hc, (HO.out.1 c hc).2⟩
        have hg4 : g4 = g2 ∨ w3.heap.size ≤ g4 := by
          rcases hat4.out with h | h
          · exact .inl h.symm
          · exact .inr (by rw [h]; simp)
        have hlt3' := hlt3.out
        refine ⟨?_, ?_, ?_⟩
        · intro c hc
          rcases List.mem_append.1 hc with h | h
          · have h1 := hold c h
            have h2 := (HO.out.1 c h).1
            exact ⟨⟨atS_far (h2.1.below b3 h1.1) (HFAR.out _ (by omega) h1.2.1) hsz4, h2.2⟩, h1.2.2⟩
          · obtain rfl := List.mem_singleton.1 h
            exact ⟨⟨atS_far F3.out (HFAR.out _ hlt3' (by show g3 ≠ g2; omega)) hsz4, HBN.out⟩, by show _ ≤ g3; omega⟩
        · intro c hc
          rcases List.mem_append.1 hc with h | h
          · have h1 := hold c h
            rcases hg4 with h' | h' <;> omega
          · obtain rfl := List.mem_singleton.1 h
            show g3 ≠ g4
            rcases hg4 with h' | h' <;> omega
        · intro c hc
          rcases List.mem_append.1 hc with h | h
          · have h1 := hold c h
            exact ((HO.out.2.2 c h).keep (b3.block _ h1.1)).keep (HFAR.out _ (by omega) h1.2.1)
          · obtain rfl := List.mem_singleton.1 h
            exact OwnIt.keep (c := ⟨bh, g3, bn, c3, bss⟩) (OwnIt.of hown3' hsz) (HFAR.out _ hlt3' (by show g3 ≠ g2; omega))
      have S4 : Hid (SameBlks (bs.take (k + 1)) (cs ++ [⟨bh, g3, bn, c3, bss⟩])) := by
        refine ⟨?_, ?_⟩ <;> rw [HT.out, List.map_append, List.map_append]
        · rw [HSm.out.1]; rfl
        · rw [HSm.out.2]; rfl
      clear hown3 hown3' hgrow3 hown4 hgrow4 hat3 hat4 hlt3 hlt4 HFAR F3 b3 HO R HSm HNW
      go_wp2_with fail
      go_roundw
      case rel => exact ⟨k + 1, g4, c4, _, HK.out, by go_num, rfl, R4, O4, S4, B4⟩
      case measure => have := HK.out; simp [intOf]; omega
    · obtain rfl : k = n := by omega
      have HE : Hid (bs.take k = bs) := by show _ = _; rw [HN.out, List.take_length]
      go_wp2_with fail
      go_ret
      exact ⟨_, cs, rfl, ⟨R.out, HO.out.1, fun c hc h => HO.out.2.1 c hc (by simpa [Value.ownBlock] using h.symm), HO.out.2.2⟩, by rw [HE.out] at HSm; exact HSm.out, HB.out⟩

end Go.Proofs.YtoojimfimlpplaaGreatDoor

set_option linter.unusedVariables false
namespace Go.Proofs.YtoojimfimlpplaaGreatDoor
open Go.RowKit

theorem meets_yes {h : HeadV} (hok : headOkB h = true) : headMeets h = decide ((headOf (headX h) : Int) / 65536 * h.diff < 32768) := by rw [headMeets, hok, Bool.true_and]
theorem meets_no {h : HeadV} (hok : headOkB h = false) : headMeets h = false := by rw [headMeets, hok, Bool.false_and]

set_option maxHeartbeats 1000000 in
set_option maxRecDepth 100000 in
theorem specL3Meets (h : HeadV) (w : World) (hok : headOkB h = true) :
    Calls Tryz.prog 111 #[headVal h] w fun e w' => e = .returned (.bool (headMeets h)) ∧ Below w.heap.size w w' := by
  rw [meets_yes hok]
  have hpt := fun w' => specL3Sum h w' hok
  have hsh := fun w' => specHead ⟨(sumB (headX h)).toArray⟩ w' (isSum_sumB _)
  have e1 : ((hexN ((⟨(sumB (headX h)).toArray⟩ : ByteArray).data.toList.take 8) / 2 : Nat) : Int) = (headOf (headX h) : Int) := rfl
  rw [e1] at hsh
  clear e1
  have hhl := headOf_lt (headX h)
  generalize sumB (headX h) = sb at hpt hsh
  generalize headOf (headX h) = hd at hsh hhl ⊢
  obtain ⟨_, _, h3, h4, h5⟩ := headOk_in hok
  unfold headVal at hpt ⊢
  clear hok
  obtain ⟨p, r, t, d, n⟩ := h
  dsimp only at h3 h4 h5 hpt ⊢
  have ed : (hd : Int).tdiv 65536 = (hd : Int) / 65536 := Int.tdiv_eq_ediv_of_nonneg (by omega)
  have hq0 : 0 ≤ (hd : Int) / 65536 := by omega
  have hq1 : (hd : Int) / 65536 ≤ 32767 := by omega
  generalize (hd : Int) / 65536 = q at ed hq0 hq1 ⊢
  have hm1 : q * d ≤ 32767 * 8 := Int.mul_le_mul hq1 h4.2 (by omega) (by omega)
  have hm0 : 0 ≤ q * d := Int.mul_nonneg hq0 (by omega)
  have wq : IntKind.i64.wrap q = q := by rw [IntKind.wrap_i64]; omega
  have wm : IntKind.i64.wrap (q * d) = q * d := by generalize q * d = x at hm0 hm1 ⊢; rw [IntKind.wrap_i64]; omega
  have S1 : HSt w _ w.heap.size p r t d n := HSt.new w 33 p r t d n
  go_enter Tryz.func111, Tryz.ntmps111
  go_wp2_with fail
  go_region_held3 (fun w' => w'.cell? ⟨w.heap.size, 0, none⟩ = some (.string p) ∧ w'.cell? ⟨w.heap.size, 1, none⟩ = some (.string r) ∧ w'.cell? ⟨w.heap.size, 2, none⟩ = some (.int .i64 t) ∧ w'.cell? ⟨w.heap.size, 3, none⟩ = some (.int .i64 d) ∧ w'.cell? ⟨w.heap.size, 4, none⟩ = some (.int .i64 n))
    (first | (with_reducible first | exact S2.out | exact S1.out | exact S1.drew.out) | go_keep)
    (first
      | (go_at_call 95; refine (hpt _).mono ?_; rintro e w2 ⟨rfl, b2⟩; have S2 : HSt w w2 w.heap.size p r t d n := S1.drew.call b2)
      | (go_at_call 115; refine (hsh _).mono ?_; rintro e w3 ⟨rfl, rfl⟩))
  go_wp2_with fail
  go_ret
  exact ⟨rfl, S2.2.1⟩

end Go.Proofs.YtoojimfimlpplaaGreatDoor

set_option linter.unusedVariables false
namespace Go.Proofs.YtoojimfimlpplaaGreatDoor
open Go.RowKit Go.Deep

theorem firstC {p : Nat → Bool} : ∀ (n k : Nat), k < n → p k = true → (∀ j, j < k → p j = false) → (List.range n).find? p = some k
  | 0, k, hk, _, _ => by omega
  | n + 1, k, hk, hp, hj => by
    rw [List.range_succ, List.find?_append]
    by_cases h : k < n
    · rw [firstC n k h hp hj]
      rfl
    · obtain rfl : k = n := by omega
      have : (List.range k).find? p = none := List.find?_eq_none.2 fun j hj' => by rw [hj j (List.mem_range.1 hj')]; decide
      rw [this]
      simp [hp]
theorem noneC {p : Nat → Bool} {n : Nat} (h : ∀ j, j < n → p j = false) : (List.range n).find? p = none := List.find?_eq_none.2 fun j hj' => by rw [h j (List.mem_range.1 hj')]; decide
theorem getD_take {l : List HeadV} {i j : Nat} (h : j < i) : (l.take i).getD j default = l.getD j default := by
  simp [h]
theorem AtHead.take {w : World} {g : Nat} {l : List HeadV} (h : AtHead w g l) (i : Nat) : AtHead w g (l.take i) :=
  ⟨h.1, fun a b ha hb => by
    have h1 : a < i ∧ a < l.length := by rw [List.length_take] at ha; omega
    rw [getD_take h1.1]
    exact h.2 a b h1.2 hb⟩

def zeros16 : ByteArray := ⟨#[48, 48, 48, 48, 48, 48, 48, 48, 48, 48, 48, 48, 48, 48, 48, 48]⟩
def lastH (l : List HeadV) : HeadV := l.getD (l.length - 1) default
/-- The time between the last and the one three ahead of it. -/
def spanH (l : List HeadV) : Int := (lastH l).time - (l.getD (l.length - 4) default).time
def hardV (l : List HeadV) : Int :=
  if l.length = 0 then 1
  else if l.length % 4 = 0 then
    if spanH l < 20 then min ((lastH l).diff + 1) 8
    else if 60 < spanH l then max ((lastH l).diff - 1) 1
    else (lastH l).diff
  else (lastH l).diff
def sumH (h : HeadV) : ByteArray := ⟨(sumB (headX h)).toArray⟩
def prevV (l : List HeadV) : ByteArray := if l.length = 0 then zeros16 else sumH (lastH l)
def laterB (l : List HeadV) (t : Int) : Bool := decide (l.length = 0 ∨ (lastH l).time < t)
def fitsB (l : List HeadV) (h : HeadV) : Bool := headOkB h && (headMeets h && (decide (h.diff = hardV l) && (decide (h.prev = prevV l) && laterB l h.time)))
def standsB (l : List HeadV) (h : HeadV) : Bool := fitsB l h && decide (l.length < 20)
def stepC (l : List HeadV) (i : Nat) : Bool := standsB (l.take i) (l.getD i default)
def chainCk (l : List HeadV) : Nat := match (List.range l.length).find? fun i => !(stepC l i) with
  | some i => i + 1
  | none => 0
theorem ck_bad {l : List HeadV} {i : Nat} (hi : i < l.length) (hf : stepC l i = false) (hj : ∀ j, j < i → stepC l j = true) : chainCk l = i + 1 := by
  unfold chainCk
  rw [firstC l.length i hi (by rw [hf]; rfl) (fun j h => by rw [hj j h]; rfl)]
theorem ck_good {l : List HeadV} (hj : ∀ j, j < l.length → stepC l j = true) : chainCk l = 0 := by
  unfold chainCk
  rw [noneC (fun j h => by rw [hj j h]; rfl)]
theorem ck_zero {l : List HeadV} (h : chainCk l = 0) : ∀ j, j < l.length → stepC l j = true := by
  unfold chainCk at h
  split at h
  · omega
  · rename_i hn
    rw [List.find?_eq_none] at hn
    intro j hj
    have := hn j (List.mem_range.2 hj)
    simpa using this
theorem step_ok {l : List HeadV} {i : Nat} (h : stepC l i = true) : headOkB (l.getD i default) = true := by
  simp only [stepC, standsB, fitsB, Bool.and_eq_true] at h
  exact h.1.1
theorem step_lt {l : List HeadV} {i : Nat} (hi : i < l.length) (h : stepC l i = true) : i < 20 := by
  simp only [stepC, standsB, Bool.and_eq_true, decide_eq_true_eq, List.length_take] at h
  omega
theorem ck_len {l : List HeadV} (h : chainCk l = 0) : l.length ≤ 20 := by
  rcases Nat.lt_or_ge 20 l.length with h' | h'
  · have := step_lt h' (ck_zero h 20 h')
    omega
  · exact h'
theorem ck_ok {l : List HeadV} (h : chainCk l = 0) : ∀ i, i < l.length → headOkB (l.getD i default) = true := fun i hi => step_ok (ck_zero h i hi)
theorem ck_le (l : List HeadV) : chainCk l ≤ l.length := by
  unfold chainCk
  split
  · rename_i i hi
    have := List.mem_of_find?_eq_some hi
    have := List.mem_range.1 this
    omega
  · omega
theorem take_ok {l : List HeadV} {i : Nat} (h : ∀ j, j < i → stepC l j = true) : ∀ j, j < (l.take i).length → headOkB ((l.take i).getD j default) = true := by
  intro j hj
  have h1 : j < i ∧ j < l.length := by rw [List.length_take] at hj; omega
  rw [getD_take h1.1]
  exact step_ok (h j h1.1)
theorem lastH_ok {l : List HeadV} (hn : 0 < l.length) (h : ∀ i, i < l.length → headOkB (l.getD i default) = true) : headOkB (lastH l) = true := h _ (by omega)
theorem hard_in {l : List HeadV} (h : ∀ i, i < l.length → headOkB (l.getD i default) = true) : 1 ≤ hardV l ∧ hardV l ≤ 8 := by
  unfold hardV
  split
  · omega
  · rename_i hn
    have := headOk_in (lastH_ok (by omega) h)
    split <;> (try split) <;> (try split) <;> omega

end Go.Proofs.YtoojimfimlpplaaGreatDoor

set_option linter.unusedVariables false
namespace Go.Proofs.YtoojimfimlpplaaGreatDoor
open Go.RowKit Go.Deep

theorem hard_0 {l : List HeadV} (h : l.length = 0) : hardV l = 1 := by rw [hardV, if_pos h]
theorem hard_odd {l : List HeadV} (h : l.length ≠ 0) (h4 : l.length % 4 ≠ 0) : hardV l = (lastH l).diff := by rw [hardV, if_neg h, if_neg h4]
theorem hard_low {l : List HeadV} (h : l.length ≠ 0) (h4 : l.length % 4 = 0) (hs : spanH l < 20) : hardV l = min ((lastH l).diff + 1) 8 := by rw [hardV, if_neg h, if_pos h4, if_pos hs]
theorem hard_high {l : List HeadV} (h : l.length ≠ 0) (h4 : l.length % 4 = 0) (hs : 60 < spanH l) : hardV l = max ((lastH l).diff - 1) 1 := by rw [hardV, if_neg h, if_pos h4, if_neg (by omega), if_pos hs]
theorem hard_mid {l : List HeadV} (h : l.length ≠ 0) (h4 : l.length % 4 = 0) (h1 : ¬ spanH l < 20) (h2 : ¬ 60 < spanH l) : hardV l = (lastH l).diff := by rw [hardV, if_neg h, if_pos h4, if_neg h1, if_neg h2]

end Go.Proofs.YtoojimfimlpplaaGreatDoor

set_option linter.unusedVariables false
namespace Go.Proofs.YtoojimfimlpplaaGreatDoor
open Go.RowKit Go.Deep

theorem sameS (a b : ByteArray) : (a.toList == b.toList) = decide (a = b) := by
  rw [Bool.eq_iff_iff, beq_iff_eq, decide_eq_true_eq, ByteArray.toList_eq, ByteArray.toList_eq]
  constructor
  · intro h
    exact ByteArray.ext (by simpa using h)
  · intro h
    rw [h]
/-- What the k-th rule says. -/
def ruleB (l : List HeadV) (h : HeadV) : Nat → Bool
  | 0 => headOkB h
  | 1 => headMeets h
  | 2 => decide (h.diff = hardV l)
  | 3 => decide (h.prev = prevV l)
  | 4 => laterB l h.time
  | _ => decide (l.length < 20)
theorem upTo6 {k : Nat} (h : k < 6) : k = 0 ∨ k = 1 ∨ k = 2 ∨ k = 3 ∨ k = 4 ∨ k = 5 := by omega
theorem stands_all {l : List HeadV} {h : HeadV} (hr : ∀ k, k < 6 → ruleB l h k = true) : standsB l h = true := by
  have h0 := hr 0 (by decide)
  have h1 := hr 1 (by decide)
  have h2 := hr 2 (by decide)
  have h3 := hr 3 (by decide)
  have h4 := hr 4 (by decide)
  have h5 := hr 5 (by decide)
  simp only [ruleB] at h0 h1 h2 h3 h4 h5
  rw [standsB, fitsB, h0, h1, h2, h3, h4, h5]
  rfl
theorem stands_no {l : List HeadV} {h : HeadV} {k : Nat} (hk : k < 6) (hr : ruleB l h k = false) : standsB l h = false := by
  rw [standsB, fitsB]
  rcases upTo6 hk with rfl | rfl | rfl | rfl | rfl | rfl <;> simp only [ruleB] at hr <;> rw [hr] <;> simp

/-- What a rule needs: the heads ahead, which are ok, and the tables. -/
structure Ahead (g n : Nat) (l : List HeadV) (w : World) : Prop where
  at_ : AtHead w g l
  len : n = l.length
  max : n ≤ 1048576
  ok : ∀ i, i < l.length → headOkB (l.getD i default) = true
  k : RowG w shaK
  p : TabP w
theorem Ahead.below {g n : Nat} {l : List HeadV} {w w' : World} (h : Ahead g n l w) (hb : Below w.heap.size w w') : Ahead g n l w' :=
  ⟨h.at_.below hb h.at_.1, h.len, h.max, h.ok, h.k.below hb h.k.lt, TabP.below h.p hb (Nat.le_refl _)⟩

end Go.Proofs.YtoojimfimlpplaaGreatDoor

set_option linter.unusedVariables false
namespace Go.Proofs.YtoojimfimlpplaaGreatDoor
open Go.RowKit Go.Deep

/-- The heads ahead, as the specification needs them. -/
structure AheadS (g n : Nat) (l : List HeadV) (w : World) : Prop where
  at_ : AtHead w g l
  len : n = l.length
  max : n ≤ 1048576
  ok : ∀ i, i < l.length → headOkB (l.getD i default) = true
theorem AheadS.below {g n : Nat} {l : List HeadV} {w w' : World} (h : AheadS g n l w) (hb : Below w.heap.size w w') : AheadS g n l w' :=
  ⟨h.at_.below hb h.at_.1, h.len, h.max, h.ok⟩

set_option maxHeartbeats 1000000 in
set_option maxRecDepth 100000 in
theorem specL4Diff (g n cap : Nat) (l : List HeadV) (w : World) (hA : AheadS g n l w) :
    Calls Tryz.prog 94 #[.slice (some ⟨g, 0, none⟩) n cap] w fun e w' => e = .returned (.int .i64 (hardV l)) ∧ Below w.heap.size w w' := by
  have hn := hA.len
  have hm := hA.max
  have hok := hA.ok
  by_cases h0 : n = 0
  · have HV : Hid (hardV l = 1) := hard_0 (by omega)
    subst h0
    clear hA hn hok
    go_enter Tryz.func94, Tryz.ntmps94
    go_wp2_with fail
    go_ret
    exact ⟨by rw [HV.out]; rfl, Below.refl _ _⟩
  obtain ⟨j, hj⟩ : ∃ j, n = j + 1 := ⟨n - 1, by omega⟩
  have hjl : j < l.length := by omega
  have c0 := AtHead.c0 hA.at_ j hjl
  have c1 := AtHead.c1 hA.at_ j hjl
  have c2 := AtHead.c2 hA.at_ j hjl
  have c3 := AtHead.c3 hA.at_ j hjl
  have c4 := AtHead.c4 hA.at_ j hjl
  have HL : lastH l = l.getD j default := by rw [lastH, ← hn, hj, Nat.add_sub_cancel]
  have hgl := hA.at_.1
  have hw1 : IntKind.i64.wrap ((n : Int) - 1) = (j : Int) := by rw [IntKind.wrap_i64]; omega
  have lj : (j : Int) < (n : Int) := by omega
  have lj0 : (0 : Int) ≤ (j : Int) := by omega
  have hn0 : ¬ (n : Int) = 0 := by omega
  obtain ⟨_, _, ht, hd, _⟩ := headOk_in (hok j hjl)
  have hrem : (n : Int).tmod 4 = ((n % 4 : Nat) : Int) := rfl
  by_cases h4 : n % 4 = 0
  · obtain ⟨i, hi⟩ : ∃ i, n = i + 4 := ⟨n - 4, by omega⟩
    have hil : i < l.length := by omega
    have d2 := AtHead.c2 hA.at_ i hil
    obtain ⟨_, _, ht2, _⟩ := headOk_in (hok i hil)
    have HSP : spanH l = (l.getD j default).time - (l.getD i default).time := by rw [spanH, HL, ← hn, hi, Nat.add_sub_cancel]
    have hw4 : IntKind.i64.wrap ((n : Int) - 4) = (i : Int) := by rw [IntKind.wrap_i64]; omega
    have li : (i : Int) < (n : Int) := by omega
    have li0 : (0 : Int) ≤ (i : Int) := by omega
    have HLO : Hid (spanH l < 20 → hardV l = min ((l.getD j default).diff + 1) 8) := fun hs => by rw [hard_low (by omega) (by rw [← hn]; exact h4) hs, HL]
    have HHI : Hid (60 < spanH l → hardV l = max ((l.getD j default).diff - 1) 1) := fun hs => by rw [hard_high (by omega) (by rw [← hn]; exact h4) hs, HL]
    have HMI : Hid (¬ spanH l < 20 → ¬ 60 < spanH l → hardV l = (l.getD j default).diff) := fun h1 h2 => by rw [hard_mid (by omega) (by rw [← hn]; exact h4) h1 h2, HL]
    rw [HSP] at HLO HHI HMI
    rw [h4] at hrem
    generalize hardV l = H at HLO HHI HMI ⊢
    generalize l.getD j default = p at c0 c1 c2 c3 c4 ht hd HLO HHI HMI
    generalize l.getD i default = q at d2 ht2 HLO HHI HMI
    have hws : IntKind.i64.wrap (p.time - q.time) = p.time - q.time := by rw [IntKind.wrap_i64]; omega
    have hwa : IntKind.i64.wrap (p.diff + 1) = p.diff + 1 := by rw [IntKind.wrap_i64]; omega
    have hwb : IntKind.i64.wrap (p.diff - 1) = p.diff - 1 := by rw [IntKind.wrap_i64]; omega
    have f2 : w.drew.cell? ⟨g, j * 5 + 2, none⟩ = some (.int .i64 p.time) := c2
    have f4 : w.drew.cell? ⟨g, i * 5 + 2, none⟩ = some (.int .i64 q.time) := d2
    clear hA hok HL HSP hjl hil hn hj hi h0 h4 hm
    by_cases hs : p.time - q.time < 20
    · by_cases hd8 : p.diff < 8
      · have HV : Hid (H = p.diff + 1) := by have := HLO.out hs; show _ = _; omega
        clear HLO HHI HMI
        go_enter Tryz.func94, Tryz.ntmps94
        go_wp2_with fail
        go_big_region
        go_wp2_with fail
        go_ret
        exact ⟨by rw [HV.out]; rfl, (Below.refl _ _).drew⟩
      · have hs2 : ¬ 60 < p.time - q.time := by omega
        have HV : Hid (H = p.diff) := by have := HLO.out hs; show _ = _; omega
        clear HLO HHI HMI
        go_enter Tryz.func94, Tryz.ntmps94
        go_wp2_with fail
        go_big_region
        go_wp2_with fail
        go_ret
        exact ⟨by rw [HV.out]; rfl, (Below.refl _ _).drew⟩
    · by_cases hs2 : 60 < p.time - q.time
      · by_cases hd1 : 1 < p.diff
        · have HV : Hid (H = p.diff - 1) := by have := HHI.out hs2; show _ = _; omega
          clear HLO HHI HMI
          go_enter Tryz.func94, Tryz.ntmps94
          go_wp2_with fail
          go_big_region
          go_wp2_with fail
          go_ret
          exact ⟨by rw [HV.out]; rfl, (Below.refl _ _).drew⟩
        · have HV : Hid (H = p.diff) := by have := HHI.out hs2; show _ = _; omega
          clear HLO HHI HMI
          go_enter Tryz.func94, Tryz.ntmps94
          go_wp2_with fail
          go_big_region
          go_wp2_with fail
          go_ret
          exact ⟨by rw [HV.out]; rfl, (Below.refl _ _).drew⟩
      · have HV : Hid (H = p.diff) := HMI.out hs hs2
        clear HLO HHI HMI
        go_enter Tryz.func94, Tryz.ntmps94
        go_wp2_with fail
        go_big_region
        go_wp2_with fail
        go_ret
        exact ⟨by rw [HV.out]; rfl, (Below.refl _ _).drew⟩
  · have HV : Hid (hardV l = (l.getD j default).diff) := by show _ = _; rw [hard_odd (by omega) (by rw [← hn]; exact h4), HL]
    have hr4 : ¬ ((n % 4 : Nat) : Int) = 0 := by omega
    generalize hardV l = H at HV ⊢
    generalize n % 4 = r at hrem hr4
    generalize l.getD j default = p at c0 c1 c2 c3 c4 ht hd HV
    clear hA hok HL hjl hn hj h0 h4 hm
    go_enter Tryz.func94, Tryz.ntmps94
    go_wp2_with fail
    go_ret
    exact ⟨by rw [HV.out]; rfl, Below.refl _ _⟩

theorem specL4Zero (w : World) : Calls Tryz.prog 92 #[] w fun e w' => e = .returned (.string zeros16) ∧ w' = w := by
  go_enter Tryz.func92, Tryz.ntmps92
  go_wp2_with fail
  go_ret
  exact ⟨rfl, rfl⟩

theorem fits_no1 {l : List HeadV} {h : HeadV} (hk : headOkB h = false) : fitsB l h = false := by rw [fitsB, hk, Bool.false_and]
theorem fits_no2 {l : List HeadV} {h : HeadV} (hk : headMeets h = false) : fitsB l h = false := by rw [fitsB, hk]; simp
theorem fits_no3 {l : List HeadV} {h : HeadV} (hk : h.diff ≠ hardV l) : fitsB l h = false := by rw [fitsB, decide_eq_false hk]; simp
theorem fits_rest {l : List HeadV} {h : HeadV} (h1 : headOkB h = true) (h2 : headMeets h = true) (h3 : h.diff = hardV l) : fitsB l h = (decide (h.prev = prevV l) && laterB l h.time) := by
  rw [fitsB, h1, h2, decide_eq_true h3]; rfl

end Go.Proofs.YtoojimfimlpplaaGreatDoor

