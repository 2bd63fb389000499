/-
  Texts that the last part needs, joined.
-/
import Derived.Test.YtchngmjbagdakaaDoorPart1
import Derived.Test.YtchngmjbagdakaaDoorPart2
import Derived.Test.YtchngmjbagdakaaDoorPart3
import Derived.Test.YtchngmjbagdakaaDoorPart4
import Derived.Test.YtchngmjbagdakaaDoorPart5
import Derived.Test.YtchngmjbagdakaaDoorPart6
import Derived.Deep.RegionWith
import Derived.Deep.RegionHeld3
import Derived.Deep.AppendLies
import Derived.Deep.Cut
import Derived.Laws.EntriesVeiled
set_option linter.unusedVariables false
namespace Go.Proofs.YtchngmjbagdakaaDoor
open Go.RowKit Go.Deep

/-- Whether heads can be those of a range. -/
def headsB (l : List HeadV) : Bool := decide (l.length ≤ 20) && l.all headOkB
theorem heads_at {l : List HeadV} (h : headsB l = true) (i : Nat) (hi : i < l.length) : headOkB (l.getD i default) = true := by
  rw [headsB, Bool.and_eq_true, List.all_eq_true] at h
  rw [List.getD_eq_getElem?_getD, List.getElem?_eq_getElem hi]
  exact h.2 _ (List.getElem_mem hi)
theorem heads_len {l : List HeadV} (h : headsB l = true) : l.length ≤ 20 := by
  rw [headsB, Bool.and_eq_true, decide_eq_true_eq] at h
  exact h.1
theorem heads_long {l : List HeadV} (h : ¬ l.length ≤ 20) : headsB l = false := by rw [headsB, decide_eq_false h]; rfl
theorem heads_bad {l : List HeadV} {i : Nat} (hi : i < l.length) (h : headOkB (l.getD i default) = false) : headsB l = false := by
  cases hs : headsB l with
  | false => rfl
  | true => rw [heads_at hs i hi] at h; cases h
theorem heads_good {l : List HeadV} (h8 : l.length ≤ 20) (h : ∀ i, i < l.length → headOkB (l.getD i default) = true) : headsB l = true := by
  rw [headsB, decide_eq_true h8, Bool.true_and, List.all_eq_true]
  intro q hq
  obtain ⟨j, hj, rfl⟩ := List.mem_iff_getElem.1 hq
  have := h j hj
  rwa [List.getD_eq_getElem?_getD, List.getElem?_eq_getElem hj] at this
/-- The peaks that RangeOf tells. -/
def ofL (l : List HeadV) : List PeakV := if headsB l = true then ofP l l.length else []
theorem ofL_len (l : List HeadV) : (ofL l).length ≤ 20 := by
  unfold ofL
  split
  · rename_i h
    have h1 := heads_len h
    have h2 := (ofP_ok (heads_at h) h1 l.length (Nat.le_refl _)).2.2
    omega
  · exact Nat.zero_le _

set_option maxHeartbeats 2000000 in
set_option maxRecDepth 100000 in
theorem implRangeHeadsOk (g n cap : Nat) (l : List HeadV) (w : World) (hA : AtHead w g l) (hn : n = l.length) (hm : n ≤ 1048576) :
    Calls Tryd.prog 24 #[.slice (some ⟨g, 0, none⟩) n cap] w fun e w' => e = .returned (.bool (headsB l)) ∧ Below w.heap.size w w' := by
  by_cases h20 : n ≤ 20
  · have HA : Hid (AtHead w g l) := hA
    have HN : Hid (n = l.length) := hn
    have HBAD : Hid (∀ k, k < n → headOkB (l.getD k default) = false → headsB l = false) := fun k hk he => heads_bad (by omega) he
    have HGOO : Hid ((∀ k, k < n → headOkB (l.getD k default) = true) → headsB l = true) := fun hf => heads_good (by omega) (fun i hi => hf i (by omega))
    generalize headsB l = R at HBAD HGOO ⊢
    have h21 : ¬ (20 : Int) < (n : Int) := by omega
    clear hA hn
    go_enter Tryd.func24, Tryd.ntmps24
    go_wp2_with fail
    go_loopw [10] (fun i wr => ∃ k : Nat, k ≤ n ∧ i = .int .i64 (k : Int) ∧ Hid (Below w.heap.size w wr) ∧ Hid (∀ j, j < k → headOkB (l.getD j default) = true)) (fun i _ => n - (intOf i).toNat)
    case atStart => exact ⟨0, by omega, rfl, Below.refl _ _, fun j hj => by omega⟩
    case round =>
      obtain ⟨k, hk, rfl, HB, HQ⟩ := hrel
      by_cases hlt : k < n
      · have hkl : k < l.length := by rw [← HN.out]; exact hlt
        have HAr := HA.out.below HB.out HA.out.1
        have c0 := AtHead.c0 HAr k hkl
        have c1 := AtHead.c1 HAr k hkl
        have c2 := AtHead.c2 HAr k hkl
        have c3 := AtHead.c3 HAr k hkl
        have c4 := AtHead.c4 HAr k hkl
        have lk : (k : Int) < (n : Int) := by omega
        have lk0 : (0 : Int) ≤ (k : Int) := by omega
        have wk : IntKind.i64.wrap ((k : Int) + 1) = (k : Int) + 1 := by rw [IntKind.wrap_i64]; omega
        have HK1 : Hid (k + 1 ≤ n) := hlt
        have HH : Hid (headOkB (l.getD k default) = false → R = false) := HBAD.out k hlt
        have HQ2 : Hid (headOkB (l.getD k default) = true → ∀ j, j < k + 1 → headOkB (l.getD j default) = true) := by
          intro h j hj
          rcases Nat.lt_or_ge j k with h' | h'
          · exact HQ.out j h'
          · obtain rfl : j = k := by omega
            exact h
        have hho := fun w' => implHeadOk (l.getD k default) w'
        clear HQ HBAD HGOO hkl HAr
        generalize headOkB (l.getD k default) = ok at hho HH HQ2
        generalize l.getD k default = h at c0 c1 c2 c3 c4 hho
        have L0 : Hid (Below wr.heap.size wr (wr.alloc (.cells #[.string h.prev, .string h.root, .int .i64 h.time, .int .i64 h.diff, .int .i64 h.nonce] 44))) := (Below.refl _ wr).alloc (Nat.le_refl _) _
        cases ok with
        | false =>
          have HV : Hid (R = false) := HH.out rfl
          clear HH HQ2
          go_wp2_with fail
          refine (hho _).mono ?_
          rintro e w1 ⟨rfl, b1⟩
          have HB1 : Hid (Below w.heap.size w w1) := HB.out.trans ((L0.out.trans (b1.mono L0.out.size)).mono HB.out.size)
          clear b1
          go_wp2_with fail
          go_ret
          exact ⟨by rw [HV.out]; rfl, HB1.out⟩
        | true =>
          have HQ3 : Hid (∀ j, j < k + 1 → headOkB (l.getD j default) = true) := HQ2.out rfl
          clear HH HQ2
          go_wp2_with fail
          refine (hho _).mono ?_
          rintro e w1 ⟨rfl, b1⟩
          have HB1 : Hid (Below w.heap.size w w1) := HB.out.trans ((L0.out.trans (b1.mono L0.out.size)).mono HB.out.size)
          clear b1
          go_wp2_with fail
          go_roundw
          case rel => exact ⟨k + 1, HK1.out, by go_num, HB1, HQ3⟩
          case measure => have := HK1.out; simp [intOf]; omega
      · obtain rfl : k = n := by omega
        have HV : Hid (R = true) := HGOO.out HQ.out
        clear HBAD HGOO HQ
        go_wp2_with fail
        go_ret
        exact ⟨by rw [HV.out]; rfl, HB.out⟩
  · have HV : Hid (headsB l = false) := heads_long (by omega)
    generalize headsB l = R at HV ⊢
    have h21 : (20 : Int) < (n : Int) := by omega
    clear hA hn
    go_enter Tryd.func24, Tryd.ntmps24
    go_wp2_with fail
    go_ret
    exact ⟨by rw [HV.out]; rfl, Below.refl _ _⟩

set_option maxHeartbeats 2000000 in
set_option maxRecDepth 100000 in
theorem specL5Heads (g n cap : Nat) (l : List HeadV) (w : World) (hA : AtHead w g l) (hn : n = l.length) (hm : n ≤ 1048576) (hz : ∀ i, i < l.length → (l.getD i default).prev.size ≤ maxLen ∧ (l.getD i default).root.size ≤ maxLen) :
    Calls Tryd.prog 20 #[.slice (some ⟨g, 0, none⟩) n cap] w fun e w' => e = .returned (.bool (headsB l)) ∧ Below w.heap.size w w' := by
  have HA : Hid (AtHead w g l) := hA
  have HN : Hid (n = l.length) := hn
  have HZ : Hid (∀ i, i < l.length → (l.getD i default).prev.size ≤ maxLen ∧ (l.getD i default).root.size ≤ maxLen) := hz
  have HBAD : Hid (∀ k, k < n → headOkB (l.getD k default) = false → headsB l = false) := fun k hk he => heads_bad (by omega) he
  have HEND : Hid ((∀ k, k < n → headOkB (l.getD k default) = true) → headsB l = decide ((n : Int) ≤ 20)) := fun hf => by
    by_cases h20 : l.length ≤ 20
    · rw [heads_good h20 (fun i hi => hf i (by omega)), decide_eq_true (by omega)]
    · rw [heads_long h20, decide_eq_false (by omega)]
  generalize headsB l = R at HBAD HEND ⊢
  clear hA hn hz
  go_enter Tryd.func20, Tryd.ntmps20
  go_wp2_with fail
  go_loopw [3] (fun i wr => ∃ k : Nat, k ≤ n ∧ i = .int .i64 (k : Int) ∧ Hid (Below w.heap.size w wr) ∧ Hid (∀ j, j < k → headOkB (l.getD j default) = true)) (fun i _ => n - (intOf i).toNat)
  case atStart => exact ⟨0, by omega, rfl, Below.refl _ _, fun j hj => by omega⟩
  case round =>
    obtain ⟨k, hk, rfl, HB, HQ⟩ := hrel
    by_cases hlt : k < n
    · have hkl : k < l.length := by rw [← HN.out]; exact hlt
      have HAr := HA.out.below HB.out HA.out.1
      have c0 := AtHead.c0 HAr k hkl
      have c1 := AtHead.c1 HAr k hkl
      have c2 := AtHead.c2 HAr k hkl
      have c3 := AtHead.c3 HAr k hkl
      have c4 := AtHead.c4 HAr k hkl
      have lk : (k : Int) < (n : Int) := by omega
      have lk0 : (0 : Int) ≤ (k : Int) := by omega
      have wk : IntKind.i64.wrap ((k : Int) + 1) = (k : Int) + 1 := by rw [IntKind.wrap_i64]; omega
      have HK1 : Hid (k + 1 ≤ n) := hlt
      have HH : Hid (headOkB (l.getD k default) = false → R = false) := HBAD.out k hlt
      have HQ2 : Hid (headOkB (l.getD k default) = true → ∀ j, j < k + 1 → headOkB (l.getD j default) = true) := by
        intro h j hj
        rcases Nat.lt_or_ge j k with h' | h'
        · exact HQ.out j h'
        · obtain rfl : j = k := by omega
          exact h
      have hho := fun w' => specL3Ok (l.getD k default) w' (HZ.out k hkl).1 (HZ.out k hkl).2
      clear HQ HBAD HEND hkl HAr
      generalize headOkB (l.getD k default) = ok at hho HH HQ2
      generalize l.getD k default = h at c0 c1 c2 c3 c4 hho
      cases ok with
      | false =>
        have HV : Hid (R = false) := HH.out rfl
        clear HH HQ2
        go_wp2_with fail
        refine (hho _).mono ?_
        rintro e w1 ⟨rfl, b1⟩
        have HB1 : Hid (Below w.heap.size w w1) := HB.out.trans (b1.mono HB.out.size)
        clear b1
        go_wp2_with fail
        go_ret
        exact ⟨by rw [HV.out]; rfl, HB1.out⟩
      | true =>
        have HQ3 : Hid (∀ j, j < k + 1 → headOkB (l.getD j default) = true) := HQ2.out rfl
        clear HH HQ2
        go_wp2_with fail
        refine (hho _).mono ?_
        rintro e w1 ⟨rfl, b1⟩
        have HB1 : Hid (Below w.heap.size w w1) := HB.out.trans (b1.mono HB.out.size)
        clear b1
        go_wp2_with fail
        go_roundw
        case rel => exact ⟨k + 1, HK1.out, by go_num, HB1, HQ3⟩
        case measure => have := HK1.out; simp [intOf]; omega
    · obtain rfl : k = n := by omega
      have HV : Hid (R = decide ((k : Int) ≤ 20)) := HEND.out HQ.out
      clear HBAD HEND HQ
      by_cases h20 : (k : Int) ≤ 20
      · have HV2 : Hid (R = true) := by show _ = _; rw [HV.out, decide_eq_true h20]
        clear HV
        go_wp2_with fail
        go_ret
        exact ⟨by rw [HV2.out]; rfl, HB.out⟩
      · have HV2 : Hid (R = false) := by show _ = _; rw [HV.out, decide_eq_false h20]
        clear HV
        go_wp2_with fail
        go_ret
        exact ⟨by rw [HV2.out]; rfl, HB.out⟩

def RofPost (l : List HeadV) (w : World) (e : Ending) (w' : World) : Prop := ∃ v, e = .returned v ∧ Pks w.heap.size v (ofL l) w' ∧ Below w.heap.size w w'
theorem of_no {l : List HeadV} {w w' : World} (h : headsB l = false) (hb : Below w.heap.size w w') : RofPost l w (.returned (.slice none 0 0)) w' := ⟨_, rfl, .inl ⟨rfl, by rw [ofL, h]; rfl⟩, hb⟩
theorem of_yes {l : List HeadV} {w w' : World} {v : Value} (h : headsB l = true) (hr : PRow w.heap.size v (ofP l l.length) w') (hb : Below w.heap.size w w') : RofPost l w (.returned v) w' := ⟨_, rfl, .inr (by rw [ofL, if_pos h]; exact PBk.frow hr), hb⟩

set_option maxHeartbeats 1000000 in
set_option maxRecDepth 100000 in
theorem specRangeOf (g n cap : Nat) (l : List HeadV) (w : World) (hA : AtHead w g l) (hn : n = l.length) (hm : n ≤ 1048576) (hz : ∀ i, i < l.length → (l.getD i default).prev.size ≤ maxLen ∧ (l.getD i default).root.size ≤ maxLen) :
    Calls Tryd.prog 14 #[.slice (some ⟨g, 0, none⟩) n cap] w fun e w' => RofPost l w e w' := by
  have hhs := specL5Heads g n cap l w hA hn hm hz
  have HOF : Hid (headsB l = true → ∀ w', Below w.heap.size w w' → Calls Tryd.prog 33 #[.slice (some ⟨g, 0, none⟩) n cap] w' fun e w'' => ∃ v, e = .returned v ∧ PRow w'.heap.size v (ofP l n) w'' ∧ Below w'.heap.size w' w'') := fun hk w' hb => specL5Of g n cap l w' (hA.below hb hA.1) hn (by have := heads_len hk; omega) (heads_at hk)
  have HNO : Hid (∀ w', headsB l = false → Below w.heap.size w w' → RofPost l w (.returned (.slice none 0 0)) w') := fun w' h1 h2 => of_no h1 h2
  have HYES : Hid (∀ w' v, headsB l = true → PRow w.heap.size v (ofP l n) w' → Below w.heap.size w w' → RofPost l w (.returned v) w') := fun w' v h1 h2 h3 => of_yes h1 (by rw [← hn]; exact h2) h3
  generalize RofPost l w = Q at HNO HYES ⊢
  clear hA hn hm hz
  cases hk : headsB l with
  | false =>
    have HV : Hid (∀ w', Below w.heap.size w w' → Q (.returned (.slice none 0 0)) w') := fun w' h => HNO.out w' hk h
    rw [hk] at hhs
    clear HOF HNO HYES
    go_enter Tryd.func14, Tryd.ntmps14
    go_wp2_with fail
    refine hhs.mono ?_
    rintro e w1 ⟨rfl, b1⟩
    go_wp2_with fail
    exact HV.out _ b1
  | true =>
    have HV : Hid (∀ w' v, PRow w.heap.size v (ofP l n) w' → Below w.heap.size w w' → Q (.returned v) w') := fun w' v h2 h3 => HYES.out w' v hk h2 h3
    have HO2 : Hid (∀ w', Below w.heap.size w w' → _) := fun w' hb => HOF.out hk w' hb
    rw [hk] at hhs
    clear HOF HNO HYES
    go_enter Tryd.func14, Tryd.ntmps14
    go_wp2_with fail
    refine hhs.mono ?_
    rintro e w1 ⟨rfl, b1⟩
    have ho := HO2.out w1 b1
    have B1 : Hid (Below w.heap.size w w1) := b1
    clear HO2 b1
    go_wp2_with fail
    refine Calls.mono ho ?_
    rintro e w2 ⟨v, rfl, hr, b2⟩
    have R2 : Hid (PRow w.heap.size v (ofP l n) w2) := hr.mono B1.out.size
    have B2 : Hid (Below w.heap.size w w2) := B1.out.trans (b2.mono B1.out.size)
    clear ho hr b2
    go_wp2_with fail
    exact HV.out _ _ R2.out B2.out

set_option maxHeartbeats 4000000 in
set_option maxRecDepth 100000 in
theorem implRangeOf (g n cap : Nat) (l : List HeadV) (w : World) (hA : AtHead w g l) (hn : n = l.length) (hm : n ≤ 1048576) (hK : RowG w shaK) (hP : TabP w) :
    Calls Tryd.prog 15 #[.slice (some ⟨g, 0, none⟩) n cap] w fun e w' => RofPost l w e w' := by
  have hhs := implRangeHeadsOk g n cap l w hA hn hm
  have HA : Hid (AtHead w g l) := hA
  have HN : Hid (n = l.length) := hn
  have HNO : Hid (∀ w', headsB l = false → Below w.heap.size w w' → RofPost l w (.returned (.slice none 0 0)) w') := fun w' h1 h2 => of_no h1 h2
  have HYES : Hid (∀ w' v, headsB l = true → PRow w.heap.size v (ofP l n) w' → Below w.heap.size w w' → RofPost l w (.returned v) w') := fun w' v h1 h2 h3 => of_yes h1 (by rw [← hn]; exact h2) h3
  generalize RofPost l w = Q at HNO HYES ⊢
  cases hk : headsB l with
  | false =>
    have HV : Hid (∀ w', Below w.heap.size w w' → Q (.returned (.slice none 0 0)) w') := fun w' h => HNO.out w' hk h
    rw [hk] at hhs
    clear HNO HYES hA hn hK hP
    go_enter Tryd.func15, Tryd.ntmps15
    go_wp2_with fail
    refine hhs.mono ?_
    rintro e w1 ⟨rfl, b1⟩
    go_wp2_with fail
    exact HV.out _ b1
  | true =>
  have HV : Hid (∀ w' v, PRow w.heap.size v (ofP l n) w' → Below w.heap.size w w' → Q (.returned v) w') := fun w' v h2 h3 => HYES.out w' v hk h2 h3
  have HM : Hid (n ≤ 20) := by show _ ≤ _; have := heads_len hk; omega
  have HPU : Hid (∀ k, k < n → ∀ (w' : World) (g4 : Nat), Stk w w' g4 (ofP l k) → Calls Tryd.prog 35 #[.pointer (some ⟨g4, 0, none⟩), peakVal (leafP (l.getD k default))] w' fun e w'' => PushRes w g4 (ofP l (k + 1)) e w'') := fun k hkn w' g4 hs => by
    obtain ⟨h1, h2, h3⟩ := ofP_ok (heads_at hk) (heads_len hk) k (by omega)
    have hh := heads_at hk k (by omega)
    exact implPush w g4 (ofP l k) _ w' hs (by have := heads_len hk; omega) (fun i hi => getD_all (C := fun q => peakOkB q = true) h1 i hi) (room_leaf hh (by rw [h2]; have := heads_len hk; omega)) hK hP
  have HPH : Hid (∀ k, k < n → ∀ (w' : World), Below w.heap.size w w' → Calls Tryd.prog 30 #[headVal (l.getD k default)] w' fun e w'' => e = .returned (peakVal (leafP (l.getD k default))) ∧ Below w'.heap.size w' w'') := fun k hkn w' hb => implPeakHead _ w' (heads_at hk k (by omega)) (hK.below hb hK.lt) (TabP.below hP hb (Nat.le_refl _))
  rw [hk] at hhs
  clear HNO HYES hA hn hK hP hk
  unfold headVal at HPH
  unfold peakVal at HPH HPU
  go_enter Tryd.func15, Tryd.ntmps15
  go_wp2_with fail
  refine hhs.mono ?_
  rintro e w1 ⟨rfl, b1⟩
  have B1 : Hid (Below w.heap.size w w1) := b1
  clear b1 hhs
  go_wp2_with fail
  refine Calls.mono (implPeakStackNil w1) ?_
  rintro e w2 ⟨g4, rfl, hs2⟩
  have S2 : Hid (Stk w w2 g4 (ofP l 0)) := hs2.lower B1.out
  clear hs2 B1
  go_wp2_with fail
  go_loopw [12] (fun i wr => ∃ k : Nat, k ≤ n ∧ i = .int .i64 (k : Int) ∧ Hid (Stk w wr g4 (ofP l k))) (fun i _ => n - (intOf i).toNat)
  case atStart => exact ⟨0, by omega, rfl, S2⟩
  case round =>
    clear S2
    obtain ⟨k, hk, rfl, SK⟩ := hrel
    by_cases hlt : k < n
    · have hkl : k < l.length := by rw [← HN.out]; exact hlt
      have HAr := HA.out.below SK.out.b HA.out.1
      have c0 := AtHead.c0 HAr k hkl
      have c1 := AtHead.c1 HAr k hkl
      have c2 := AtHead.c2 HAr k hkl
      have c3 := AtHead.c3 HAr k hkl
      have c4 := AtHead.c4 HAr k hkl
      have lk : (k : Int) < (n : Int) := by omega
      have lk0 : (0 : Int) ≤ (k : Int) := by omega
      have wk : IntKind.i64.wrap ((k : Int) + 1) = (k : Int) + 1 := by have := HM.out; rw [IntKind.wrap_i64]; omega
      have HK1 : Hid (k + 1 ≤ n) := hlt
      have HPUk := HPU.out k hlt
      have HPHk := HPH.out k hlt
      have HPUk : Hid _ := HPUk
      have HPHk : Hid _ := HPHk
      clear hkl HAr
      generalize leafP (l.getD k default) = p at HPUk HPHk
      generalize l.getD k default = h at c0 c1 c2 c3 c4 HPHk
      have L0 : Hid (Below wr.heap.size wr (wr.alloc (.cells #[.string h.prev, .string h.root, .int .i64 h.time, .int .i64 h.diff, .int .i64 h.nonce] 44))) := (Below.refl _ wr).alloc (Nat.le_refl _) _
      have SA : Hid (Stk w (wr.alloc (.cells #[.string h.prev, .string h.root, .int .i64 h.time, .int .i64 h.diff, .int .i64 h.nonce] 44)) g4 (ofP l k)) := SK.out.call L0.out
      have hph := HPHk.out _ SA.out.b
      clear SK HPHk
      go_wp2_with fail
      refine hph.mono ?_
      rintro e w3 ⟨rfl, b3⟩
      have S3 : Hid (Stk w w3 g4 (ofP l k)) := SA.out.call b3
      have hpu := HPUk.out _ _ S3.out
      clear SA b3 hph HPUk c0 c1 c2 c3 c4 L0
      go_wp2_with fail
      refine Calls.mono hpu ?_
      rintro e w4 ⟨rfl, hs4⟩
      have S4 : Hid (Stk w w4 g4 (ofP l (k + 1))) := hs4
      clear hs4 hpu S3
      go_wp2_with fail
      go_roundw
      case rel => exact ⟨k + 1, HK1.out, by go_num, S4⟩
      case measure => have := HK1.out; simp [intOf]; omega
    · obtain rfl : k = n := by omega
      obtain ⟨r, c, M, hw⟩ := id SK.out
      have SW : Hid (StkW w wr g4 r c M (ofP l k)) := hw
      clear hw SK HPU HPH
      obtain ⟨a0, a1, a2⟩ := SW.out.outs
      go_wp2_with fail
      exact HV.out _ _ SW.out.frow SW.out.b

end Go.Proofs.YtchngmjbagdakaaDoor

set_option linter.unusedVariables false
namespace Go.Proofs.YtchngmjbagdakaaDoor
open Go.RowKit Go.Deep

/-- The stack behind m leaves, the first node first. -/
def stS (l : List HeadV) (x m : Nat) : List NodeV := (stkN (leafF l) x m).reverse
theorem stS_step (l : List HeadV) (x m : Nat) : addS (stS l x m) (leafF l m, decide (m = x)) = stS l x (m + 1) := by simp [addS, stS, stkN]
theorem noteS_step (l : List HeadV) (x m : Nat) : notesN (leafF l) x m ++ noteS (stS l x m) (leafF l m, decide (m = x)) = notesN (leafF l) x (m + 1) := by simp [noteS, stS, notesN]
theorem stS_fst (l : List HeadV) (x m : Nat) : (stS l x m).map Prod.fst = ofP l m := by rw [stS, List.map_reverse, stk_ofP, List.reverse_reverse]
theorem stS_len (l : List HeadV) (x m : Nat) : (stS l x m).length = (ofP l m).length := by rw [← stS_fst l x m, List.length_map]
theorem noteN_len (a b : NodeV) : (noteN a b).length ≤ 2 := by
  unfold noteN
  rw [List.length_append]
  split <;> split <;> simp
theorem noteR_len : ∀ (r : List NodeV) (p : NodeV), (noteR r p).length ≤ 2 * r.length
  | [], p => by simp [noteR]
  | q :: r, p => by
    rw [noteR]
    split
    · have h1 := noteN_len q p
      have h2 := noteR_len r (bothN q p)
      rw [List.length_append, List.length_cons]
      omega
    · simp
theorem notes_len {l : List HeadV} (h : ∀ i, i < l.length → headOkB (l.getD i default) = true) (hl : l.length ≤ 20) (x : Nat) : ∀ m, m ≤ l.length → (notesN (leafF l) x m).length ≤ 40 * m
  | 0, _ => Nat.le_refl _
  | m + 1, hm => by
    have h1 := notes_len h hl x m (by omega)
    have h2 := noteR_len (stkN (leafF l) x m) (leafF l m, decide (m = x))
    have h3 := (ofP_ok h hl m (by omega)).2.2
    have h4 := stS_len l x m
    rw [stS, List.length_reverse] at h4
    rw [notesN, List.length_append]
    omega
theorem addR_lenN : ∀ (r : List PeakV) (p : PeakV), (addR r p).length ≤ r.length + 1
  | [], p => by simp [addR]
  | q :: r, p => by
    rw [addR]
    split
    · have := addR_lenN r (bothP q p)
      rw [List.length_cons]
      omega
    · simp
theorem ofP_len_le (l : List HeadV) : ∀ k, (ofP l k).length ≤ k
  | 0 => Nat.le_refl _
  | k + 1 => by
    have h1 := ofP_len_le l k
    have h2 := addR_lenN (ofP l k).reverse (leafP (l.getD k default))
    rw [ofP, addP, List.length_reverse]
    rw [List.length_reverse] at h2
    omega
/-- What RangeProof tells. -/
def proofL (l : List HeadV) (x : Int) : List PeakV × List PeakV := if headsB l = true ∧ 0 ≤ x ∧ x < (l.length : Int) then (ofP l l.length, notesN (leafF l) x.toNat l.length) else ([], [])
def PrfPost (l : List HeadV) (x : Int) (w : World) (e : Ending) (w' : World) : Prop := ∃ vp vs, e = .returned (.agg #[vp, vs]) ∧ Pks w.heap.size vp (proofL l x).1 w' ∧ Pks w.heap.size vs (proofL l x).2 w' ∧ Below w.heap.size w w'
/-- The two lists of an answer are apart. -/
def Dis (e : Ending) : Prop := ∀ vp vs b, e = .returned (.agg #[vp, vs]) → blkOf vp b → ¬ blkOf vs b
theorem prf_no {l : List HeadV} {x : Int} {w w' : World} (h : ¬ (headsB l = true ∧ 0 ≤ x ∧ x < (l.length : Int))) (hb : Below w.heap.size w w') : PrfPost l x w (.returned (.agg #[.slice none 0 0, .slice none 0 0])) w' ∧ Dis (.returned (.agg #[.slice none 0 0, .slice none 0 0])) := by
  have e : proofL l x = ([], []) := by rw [proofL, if_neg h]
  refine ⟨⟨_, _, rfl, .inl ⟨rfl, by rw [e]⟩, .inl ⟨rfl, by rw [e]⟩, hb⟩, ?_⟩
  intro vp vs b he h1 h2
  simp only [Ending.returned.injEq, Value.agg.injEq, Array.mk.injEq, List.cons.injEq, and_true] at he
  rw [← he.1] at h1
  exact h1
theorem pks_own {B : Nat} {v : Value} {l : List PeakV} {w : World} (h : w.ownsRow B 47 3 v l.length (l.flatMap pEnc)) : Pks B v l w := by
  rcases h.2 with ⟨rfl, h0⟩ | ⟨g, cap, cur, rfl, _⟩
  · exact .inl ⟨rfl, List.eq_nil_of_length_eq_zero h0⟩
  · exact .inr (PBk.frow (FRow.of h rfl))
theorem prf_yes {l : List HeadV} {X : Nat} {w w' : World} {vp vs : Value} {B : Nat} (hk : headsB l = true) (hx : X < l.length) (hp : w'.ownsRow B 47 3 vp (ofP l l.length).length ((ofP l l.length).flatMap pEnc)) (hs : w'.ownsRow w.heap.size 47 3 vs (notesN (leafF l) X l.length).length ((notesN (leafF l) X l.length).flatMap pEnc)) (hB : w.heap.size ≤ B) (hv : ∀ b, vs.ownBlock = some b → b < B) (hb : Below w.heap.size w w') : PrfPost l (X : Int) w (.returned (.agg #[vp, vs])) w' ∧ Dis (.returned (.agg #[vp, vs])) := by
  have e : proofL l (X : Int) = (ofP l l.length, notesN (leafF l) X l.length) := by rw [proofL, if_pos ⟨hk, by omega, by omega⟩]; rfl
  have hp' := pks_own hp
  refine ⟨⟨_, _, rfl, by rw [e]; exact hp'.mono hB, by rw [e]; exact pks_own hs, hb⟩, ?_⟩
  intro vp' vs' b he h1 h2
  simp only [Ending.returned.injEq, Value.agg.injEq, Array.mk.injEq, List.cons.injEq, and_true] at he
  obtain ⟨rfl, rfl⟩ := he
  have h3 := (hp'.blk h1).2
  have h4 : vs.ownBlock = some b := by
    cases vs with
    | slice a n c =>
      cases a with
      | none => exact absurd h2 (by simp [blkOf])
      | some a => simpa [blkOf, Value.ownBlock] using h2
    | _ => exact absurd h2 (by simp [blkOf])
  have := hv b h4
  omega
/-- While the peaks are laid: B blocks stood ahead of it. -/
structure PkW (w0 wB wr : World) (gp : Nat) (vp vs : Value) (ps : List PeakV) : Prop where
  k : CBk wr gp 26 #[vp, vs]
  row : wr.ownsRow wB.heap.size 47 3 vp ps.length (ps.flatMap pEnc)
  same : ∀ c, c < wB.heap.size → c ≠ gp → wr.heap[c]? = wB.heap[c]?
  b : Below w0.heap.size w0 wr
  size : wB.heap.size ≤ wr.heap.size
  g : w0.heap.size ≤ gp
  lt : gp < wB.heap.size
theorem PkW.call {w0 wB wr w' : World} {gp : Nat} {vp vs : Value} {ps : List PeakV} (h : PkW w0 wB wr gp vp vs ps) (hb : Below wr.heap.size wr w') : PkW w0 wB w' gp vp vs ps :=
  ⟨h.k.call hb, ownE_keep h.row (fun b _ hlt => hb.block b hlt), fun c hc hne => (hb.block c (Nat.lt_of_lt_of_le hc h.size)).trans (h.same c hc hne), h.b.trans (hb.mono h.b.size), Nat.le_trans h.size hb.size, h.g, h.lt⟩
theorem PkW.at {w0 wB wr : World} {gp : Nat} {vp vs : Value} {ps : List PeakV} (h : PkW w0 wB wr gp vp vs ps) {c j : Nat} (hc : c < wB.heap.size) (hne : c ≠ gp) : wr.cell? ⟨c, j, none⟩ = wB.cell? ⟨c, j, none⟩ := World.cell?_of_block (a := ⟨c, j, none⟩) (h.same c hc hne)
theorem PkW.keep4 {w0 wB wr w4 : World} {gp : Nat} {vp vs : Value} {ps : List PeakV} (h : PkW w0 wB wr gp vp vs ps) (hb : Below wB.heap.size wr w4) : w4.cell? ⟨gp, 0, none⟩ = some vp ∧ w4.frozen? ⟨gp, 0, none⟩ = false := by
  have h1 : CBk w4 gp 26 #[vp, vs] := h.k.below hb h.lt
  exact ⟨h1.cell 0, h1.frozen 0⟩
theorem PkW.laid {w0 wB wr w4 : World} {gp g4 c4 : Nat} {vp vs : Value} {ps : List PeakV} {t : PeakV} (h : PkW w0 wB wr gp vp vs ps) (hown : w4.ownsRow wB.heap.size 47 3 (.slice (some ⟨g4, 0, none⟩) (ps.length + 1) c4) (ps.length + 1) (ps.flatMap pEnc ++ pEnc t)) (hb : Below wB.heap.size wr w4) (hw : w0.heap.size ≤ wB.heap.size) : PkW w0 wB (w4.setCell ⟨gp, 0, none⟩ (.slice (some ⟨g4, 0, none⟩) (ps.length + 1) c4)) gp (.slice (some ⟨g4, 0, none⟩) (ps.length + 1) c4) vs (ps ++ [t]) := by
  have h1 : CBk w4 gp 26 #[vp, vs] := h.k.below hb h.lt
  have hown' : w4.ownsRow wB.heap.size 47 3 (.slice (some ⟨g4, 0, none⟩) (ps.length + 1) c4) (ps ++ [t]).length ((ps ++ [t]).flatMap pEnc) := by
    rw [List.length_append, List.flatMap_append]
    simpa using hown
  refine ⟨h1.set 0 _, own_set hown' h1 ftne, fun c hc hne => ?_, (h.b.trans (hb.mono hw)).setCell (p := ⟨gp, 0, none⟩) h.g _, by simpa using Nat.le_trans h.size hb.size, h.g, h.lt⟩
  rw [← h.same c hc hne, ← hb.block c hc]
  simp [World.setCell, Array.getElem?_modify, Ne.symm hne]
theorem ownE_mono {w : World} {B C n k : Nat} {e : TypeId} {v : Value} {xs : List Value} (h : w.ownsRow B e k v n xs) (hc : C ≤ B) : w.ownsRow C e k v n xs := by
  refine ⟨h.1, ?_⟩
  rcases h.2 with h1 | ⟨g', cap, cur, hv, hB, h4⟩
  · exact .inl h1
  · exact .inr ⟨g', cap, cur, hv, Nat.le_trans hc hB, h4⟩
theorem PkW.start {w0 wB : World} {gp : Nat} {vs : Value} {ss : List PeakV} (h : PfW w0 wB gp vs ss) : PkW w0 wB wB gp (.slice none 0 0) vs [] :=
  ⟨h.k, ⟨rfl, .inl ⟨rfl, rfl⟩⟩, fun _ _ _ => rfl, h.b, Nat.le_refl _, h.lo, h.k.lt⟩
/-- The answer's block, ahead of the last store. -/
theorem PkW.last {w1 wB wr : World} {gp g4 : Nat} {vp vs : Value} {ps : List PeakV} {cs : Array Value} (h : PkW w1 wB wr gp vp vs ps) (h4 : CBk w1 g4 26 cs) : CBk wr g4 26 cs := h4.call h.b
theorem PkW.fin {w w1 wB wr : World} {gp g4 : Nat} {vp vs : Value} {ps ss : List PeakV} (h : PkW w1 wB wr gp vp vs ps) (hs : PfW w1 wB gp vs ss) (h4 : CBk w1 g4 26 #[.slice none 0 0, .slice none 0 0]) (hb : Below w.heap.size w w1) (hw : w.heap.size ≤ g4) :
    CBk ((wr.setCell ⟨g4, 0, none⟩ vp).setCell ⟨g4, 1, none⟩ vs) g4 26 #[vp, vs] ∧ ((wr.setCell ⟨g4, 0, none⟩ vp).setCell ⟨g4, 1, none⟩ vs).ownsRow wB.heap.size 47 3 vp ps.length (ps.flatMap pEnc) ∧ ((wr.setCell ⟨g4, 0, none⟩ vp).setCell ⟨g4, 1, none⟩ vs).ownsRow w.heap.size 47 3 vs ss.length (ss.flatMap pEnc) ∧ w.heap.size ≤ wB.heap.size ∧ (∀ b, vs.ownBlock = some b → b < wB.heap.size) ∧ Below w.heap.size w ((wr.setCell ⟨g4, 0, none⟩ vp).setCell ⟨g4, 1, none⟩ vs) := by
  have h5 : CBk wr g4 26 #[.slice none 0 0, .slice none 0 0] := h4.call h.b
  have h6 := h5.set 0 vp
  have hrs : wr.ownsRow w1.heap.size 47 3 vs ss.length (ss.flatMap pEnc) := ownE_keep hs.row (fun b hv hlt => by
    obtain ⟨⟨cur, hc⟩, _⟩ := ownE_is hs.row hv
    exact h.same b hlt (cbk_ne hc hs.k (Ne.symm ftne)))
  refine ⟨h6.set 1 vs, own_set (own_set h.row h5 ftne) h6 ftne, ownE_mono (own_set (own_set hrs h5 ftne) h6 ftne) hb.size, Nat.le_trans hb.size hs.b.size, fun b hv => ?_, ?_⟩
  · obtain ⟨⟨cur, hc⟩, _⟩ := ownE_is hs.row hv
    exact hc.lt
  · exact ((hb.trans (h.b.mono hb.size)).setCell (p := ⟨g4, 0, none⟩) hw _).setCell (p := ⟨g4, 1, none⟩) hw _
theorem NSt.open {w1 : World} (w1' : World) {l : List HeadV} {X : Nat} (hw : w1' = (w1.alloc (.cells #[.slice none 0 0, .slice none 0 0] 26)).alloc (.cells #[.slice none 0 0, .func (.func 25) #[] #[], .func (.func 27) #[] #[.pointer (some ⟨w1.heap.size, 0, none⟩)]] 56)) : NSt w1 w1' w1.heap.size (w1.heap.size + 1) none 0 0 (stS l X 0) (notesN (leafF l) X 0) := by
  subst hw
  have b1 : Below w1.heap.size w1 (w1.alloc (.cells #[.slice none 0 0, .slice none 0 0] 26)) := (Below.refl _ w1).alloc (Nat.le_refl _) _
  have b2 := b1.alloc (o := .cells #[.slice none 0 0, .func (.func 25) #[] #[], .func (.func 27) #[] #[.pointer (some ⟨w1.heap.size, 0, none⟩)]] 56) b1.size
  refine ⟨?_, ⟨rfl, .inl ⟨rfl, rfl⟩⟩, rfl, ⟨.slice none 0 0, (CBk.new w1 _ _).alloc _, ⟨rfl, .inl ⟨rfl, rfl⟩⟩, b2, Nat.le_refl _⟩, Nat.le_succ _⟩
  have := CBk.new (w1.alloc (.cells #[.slice none 0 0, .slice none 0 0] 26)) 56 #[.slice none 0 0, .func (.func 25) #[] #[], .func (.func 27) #[] #[.pointer (some ⟨w1.heap.size, 0, none⟩)]]
  rwa [show (w1.alloc (.cells #[.slice none 0 0, .slice none 0 0] 26)).heap.size = w1.heap.size + 1 from by simp] at this
end Go.Proofs.YtchngmjbagdakaaDoor

set_option linter.unusedVariables false
namespace Go.Proofs.YtchngmjbagdakaaDoor
open Go.RowKit Go.Deep

def PlacePost (ps : List PeakV) (a : Int) (e : Ending) : Prop := (∃ k, placeP ps a = some k ∧ e = .returned (.tuple #[.int .i64 (k : Int), .int .i64 (cntTo ps k)])) ∨ (placeP ps a = none ∧ ∃ x, e = .returned (.tuple #[.int .i64 (-1), .int .i64 x]))
set_option maxHeartbeats 2000000 in
set_option maxRecDepth 100000 in
theorem specL5Peak (g n cap : Nat) (ps : List PeakV) (a : Int) (w : World) (h : AtP w g ps) (hn : n = ps.length) (hm : n ≤ 1048576) (hr : rangeOkB ps = true) :
    Calls Tryd.prog 38 #[.slice (some ⟨g, 0, none⟩) n cap, .int .i64 a] w fun e w' => PlacePost ps a e ∧ w = w' := by
  have HA : Hid (AtP w g ps) := h
  have HN : Hid (n = ps.length) := hn
  have HR : Hid (rangeOkB ps = true) := hr
  have hl20 := range_len hr
  have HY : Hid (∀ k e, placeP ps a = some k → e = .returned (.tuple #[.int .i64 (k : Int), .int .i64 (cntTo ps k)]) → PlacePost ps a e) := fun k e h1 h2 => .inl ⟨k, h1, h2⟩
  have HX : Hid (∀ x e, placeP ps a = none → e = .returned (.tuple #[.int .i64 (-1), .int .i64 x]) → PlacePost ps a e) := fun x e h1 h2 => .inr ⟨h1, x, h2⟩
  generalize PlacePost ps a = Q at HY HX ⊢
  clear h hn hr
  go_enter Tryd.func38, Tryd.ntmps38
  go_wp2_with fail
  go_loopw [6, 7] (fun f i wr => ∃ k : Nat, k ≤ n ∧ i = .int .i64 (k : Int) ∧ f = .int .i64 (cntTo ps k) ∧ Hid (w = wr) ∧ Hid (∀ j, j < k → ¬ a < cntTo ps (j + 1))) (fun _ i _ => n - (intOf i).toNat)
  case atStart => exact ⟨0, by omega, rfl, rfl, rfl, fun j hj => by omega⟩
  case round =>
    obtain ⟨k, hk, rfl, rfl, HW, HQ⟩ := hrel
    by_cases hlt : k < n
    · have hkl : k < ps.length := by rw [← HN.out]; exact hlt
      have HAr : Hid (AtP wr g ps) := by rw [← HW.out]; exact HA.out
      have q2 := AtP.c2 HAr.out k hkl
      have lk : (k : Int) < (n : Int) := by omega
      have lk0 : (0 : Int) ≤ (k : Int) := by omega
      have wk : IntKind.i64.wrap ((k : Int) + 1) = (k : Int) + 1 := by rw [IntKind.wrap_i64]; omega
      have HK1 : Hid (k + 1 ≤ n) := hlt
      have hri := rangeOk_at HR.out k hkl
      have hci := cnt_in HR.out k (by omega)
      have hw1 : IntKind.i64.wrap (cntTo ps k + (ps.getD k default).count) = cntTo ps k + (ps.getD k default).count := by rw [IntKind.wrap_i64]; omega
      have HC1 : Hid (cntTo ps (k + 1) = cntTo ps k + (ps.getD k default).count) := rfl
      have HYk : Hid (∀ e, a < cntTo ps (k + 1) → e = .returned (.tuple #[.int .i64 (k : Int), .int .i64 (cntTo ps k)]) → Q e) := fun e h1 h2 => HY.out k e (place_at hkl h1 HQ.out) h2
      have HQ2 : Hid (¬ a < cntTo ps (k + 1) → ∀ j, j < k + 1 → ¬ a < cntTo ps (j + 1)) := by
        intro hh j hj
        rcases Nat.lt_or_ge j k with h' | h'
        · exact HQ.out j h'
        · obtain rfl : j = k := by omega
          exact hh
      clear HQ hkl HAr hri hci
      generalize (ps.getD k default).count = c at q2 hw1 HC1
      generalize cntTo ps k = ck at hw1 HC1 HYk ⊢
      by_cases hin : a < ck + c
      · have HV : Hid (∀ e, e = .returned (.tuple #[.int .i64 (k : Int), .int .i64 ck]) → Q e) := fun e he => HYk.out e (by rw [HC1.out]; exact hin) he
        clear HY HX HYk HQ2 HC1
        go_wp2_with fail
        go_ret2
        exact ⟨HV.out _ rfl, HW.out⟩
      · have HQ3 : Hid (∀ j, j < k + 1 → ¬ a < cntTo ps (j + 1)) := HQ2.out (by rw [HC1.out]; exact hin)
        clear HYk HQ2
        go_wp2_with fail
        go_roundw
        case rel => exact ⟨k + 1, HK1.out, by go_num, by rw [HC1.out], HW, HQ3⟩
        case measure => have := HK1.out; simp [intOf]; omega
    · obtain rfl : k = n := by omega
      have HV : Hid (∀ x e, e = .returned (.tuple #[.int .i64 (-1), .int .i64 x]) → Q e) := fun x e he => HX.out x e (place_no (fun j hj => HQ.out j (by rw [HN.out]; exact hj))) he
      generalize cntTo ps k = ck at ⊢
      clear HY HX HQ
      go_wp2_with fail
      go_ret2
      exact ⟨HV.out _ _ rfl, HW.out⟩

theorem results_cell_tmp2 {fn : Func} {p u v : Tmp} {ty : TypeId} (h : fn.results = #[.cell p ty, .tmp u, .tmp v]) (tmps : Array Value) (P : Program) (w : World) :
    (results fn tmps).run P w =
      ((asAddr (tmps.getD p undef)).run P w).andThen fun a w₁ => ((loadVar ty a).run P w₁).andThen fun x w₂ => .ok (.tuple #[x, tmps.getD u undef, tmps.getD v undef]) w₂ := by
  simp only [results, h]
  simp [Sem.run_bind, Result.andThen]
theorem results_row_tmp2 {P : Program} {fn : Func} {p u v : Tmp} {ty : TypeId} (h : fn.results = #[.cell p ty, .tmp u, .tmp v]) (tmps : Array Value) (w : World) (g : Nat) (t : TypeId) (cs : Array Value) (fr : Nat × Nat) (d : TypeDesc)
    (hp : tmps.getD p undef = .pointer (some ⟨g, 0, none⟩)) (hg : w.heap[g]? = some (.cells cs t fr))
    (hu : P.underlying ty = some d) (hd : (match d with | .struct _ | .array _ _ => true | _ => false) = true) (hi : (P.info? ty).map (·.size) = some cs.size) :
    (results fn tmps).run P w = .ok (.tuple #[.agg cs, tmps.getD u undef, tmps.getD v undef]) w := by
  rw [results_cell_tmp2 h, hp]
  simp [asAddr, run_loadVar_row w g t ty cs fr d hg hu hd hi, Result.andThen]

/-- What stands while a leaf is led up: the peak so far, the place of the answer. -/
structure WalkW (w wr : World) (g3 : Nat) (q : PeakV) : Prop where
  p : CBk wr g3 47 #[.string q.sum, .int .i64 q.work, .int .i64 q.count]
  r : CBk wr (g3 + 1) 47 #[.string ⟨#[]⟩, .int .i64 0, .int .i64 0]
  lo : w.heap.size ≤ g3
  b : Below w.heap.size w wr
theorem WalkW.call {w wr w' : World} {g3 : Nat} {q : PeakV} (h : WalkW w wr g3 q) (hb : Below wr.heap.size wr w') : WalkW w w' g3 q :=
  ⟨h.p.call hb, h.r.call hb, h.lo, h.b.trans (hb.mono h.b.size)⟩
theorem WalkW.store {w wr : World} {g3 : Nat} {q : PeakV} (h : WalkW w wr g3 q) (x : PeakV) : WalkW w (((wr.setCell ⟨g3, 0, none⟩ (.string x.sum)).setCell ⟨g3, 1, none⟩ (.int .i64 x.work)).setCell ⟨g3, 2, none⟩ (.int .i64 x.count)) g3 x := by
  have h2 := h.lo
  exact ⟨h.p.set3, ((h.r.other (by omega) _).other (by omega) _).other (by omega) _, h2, ((h.b.setCell (p := ⟨g3, 0, none⟩) (by show w.heap.size ≤ g3; omega) _).setCell (p := ⟨g3, 1, none⟩) (by show w.heap.size ≤ g3; omega) _).setCell (p := ⟨g3, 2, none⟩) (by show w.heap.size ≤ g3; omega) _⟩
theorem WalkW.back {w wr : World} {g3 : Nat} {q : PeakV} (h : WalkW w wr g3 q) (x : PeakV) : Below w.heap.size w (((wr.setCell ⟨g3 + 1, 0, none⟩ (.string x.sum)).setCell ⟨g3 + 1, 1, none⟩ (.int .i64 x.work)).setCell ⟨g3 + 1, 2, none⟩ (.int .i64 x.count)) := by
  have h2 := h.lo
  exact ((h.b.setCell (p := ⟨g3 + 1, 0, none⟩) (by show w.heap.size ≤ g3 + 1; omega) _).setCell (p := ⟨g3 + 1, 1, none⟩) (by show w.heap.size ≤ g3 + 1; omega) _).setCell (p := ⟨g3 + 1, 2, none⟩) (by show w.heap.size ≤ g3 + 1; omega) _
/-- What the walk of a leaf answers. -/
def WalkPost (lf : PeakV) (a : Nat) (ss : List PeakV) (n : Nat) (e : Ending) : Prop := (∃ q l, walkTo lf a ss n = some (q, l) ∧ e = .returned (.tuple #[peakVal q, .int .i64 l, .bool true])) ∨ (walkTo lf a ss n = none ∧ ∃ q, e = .returned (.tuple #[peakVal q, .int .i64 0, .bool false]))

end Go.Proofs.YtchngmjbagdakaaDoor

set_option linter.unusedVariables false
namespace Go.Proofs.YtchngmjbagdakaaDoor
open Go.RowKit Go.Deep

theorem tree_ok {l : List HeadV} (h : ∀ i, i < l.length → headOkB (l.getD i default) = true) (hl : l.length ≤ 20) : ∀ (k b : Nat), b + 2 ^ k ≤ l.length → peakOkB (treeT (leafF l) b k) = true
  | 0, b, hb => by
    rw [treeT]
    exact fine_ok (fine_leaf (h b (by simp at hb; omega))) (by show (1 : Int) ≤ 20; decide)
  | k + 1, b, hb => by
    have e1 : 2 ^ (k + 1) = 2 ^ k + 2 ^ k := by rw [Nat.pow_succ']; omega
    have hp : 0 < 2 ^ k := Nat.two_pow_pos _
    have h1 := tree_ok h hl k b (by omega)
    have h2 := tree_ok h hl k (b + 2 ^ k) (by omega)
    have c1 := treeT_cnt (leafF_cnt l) k b
    have c2 := treeT_cnt (leafF_cnt l) k (b + 2 ^ k)
    rw [treeT]
    generalize treeT (leafF l) b k = p at h1 c1
    generalize treeT (leafF l) (b + 2 ^ k) k = q at h2 c2
    have i1 := peakOk_in h1
    have i2 := peakOk_in h2
    have hs := isSum_both p q
    simp only [peakOkB, hs, Bool.true_and, Bool.and_eq_true, decide_eq_true_eq]
    show (1 ≤ p.count + q.count ∧ p.count + q.count ≤ 20) ∧ p.count + q.count ≤ p.work + q.work ∧ p.work + q.work ≤ (p.count + q.count) * 8
    generalize 2 ^ k = P at e1 hb c1 c2
    omega
theorem rowT_snoc (f : Nat → PeakV) : ∀ (m a k : Nat), rowT f a k (m + 1) = rowT f a k m ++ [treeT f (a + m * 2 ^ k) k]
  | 0, a, k => by simp [rowT]
  | m + 1, a, k => by
    have e1 : a + 2 ^ k + m * 2 ^ k = a + (m + 1) * 2 ^ k := by rw [Nat.add_mul, Nat.one_mul]; omega
    rw [rowT, rowT_snoc f m (a + 2 ^ k) k, e1]
    rfl
/-- Two of a row become one of the row above it. -/
theorem row_two (f : Nat → PeakV) (a k i N : Nat) (h : 2 * i + 1 < N) : rowT f a (k + 1) (i + 1) = rowT f a (k + 1) i ++ [bothP ((rowT f a k N).getD (2 * i) default) ((rowT f a k N).getD (2 * i + 1) default)] := by
  have e1 : 2 ^ (k + 1) = 2 ^ k + 2 ^ k := by rw [Nat.pow_succ']; omega
  have e2 : a + i * 2 ^ (k + 1) = a + 2 * i * 2 ^ k := by rw [e1, Nat.mul_add, show 2 * i = i + i from by omega, Nat.add_mul]
  have e3 : a + 2 * i * 2 ^ k + 2 ^ k = a + (2 * i + 1) * 2 ^ k := by rw [Nat.add_mul (2 * i) 1, Nat.one_mul]; omega
  rw [rowT_snoc, rowT_at f N a k (2 * i) (by omega), rowT_at f N a k (2 * i + 1) (by omega), treeT, e2, e3]
theorem row_ok {l : List HeadV} (h : ∀ i, i < l.length → headOkB (l.getD i default) = true) (hl : l.length ≤ 20) {a k N z : Nat} (hN : a + N * 2 ^ k ≤ l.length) (hz : z < N) : peakOkB ((rowT (leafF l) a k N).getD z default) = true := by
  rw [rowT_at _ _ _ _ _ hz]
  refine tree_ok h hl k _ ?_
  have h1 : (z + 1) * 2 ^ k ≤ N * 2 ^ k := Nat.mul_le_mul_right _ hz
  rw [Nat.add_mul, Nat.one_mul] at h1
  generalize 2 ^ k = P at *
  generalize z * P = Z at *
  generalize N * P = M at *
  omega
def lenV : Value → Nat
  | .slice _ n _ => n
  | _ => 0
/-- What stands ahead of a row's round: the steps so far, the row. -/
structure TreeW (w wr : World) (v : Value) (o : List PeakV) (g6 : Nat) (ps : List PeakV) : Prop where
  row : PRow w.heap.size v o wr
  at_ : AtP wr g6 ps
  far : v.ownBlock ≠ some g6
  b : Below w.heap.size w wr
theorem prow_own {B : Nat} {v : Value} {l : List PeakV} {w : World} (h : PRow B v l w) : w.ownsRow B 47 3 v l.length (l.flatMap pEnc) := h.2
theorem AtP.keepB {w w' : World} {g : Nat} {l : List PeakV} (h : AtP w g l) (hk : w'.heap[g]? = w.heap[g]?) (hs : w.heap.size ≤ w'.heap.size) : AtP w' g l :=
  ⟨Nat.lt_of_lt_of_le h.1 hs, fun i j hi hj => (World.cell?_of_block (a := ⟨g, i * 3 + j, none⟩) hk).trans (h.2 i j hi hj)⟩

set_option maxHeartbeats 8000000 in
set_option maxRecDepth 100000 in
theorem specL5Tree (g n cap X J a : Nat) (l : List HeadV) (w : World) (hA : AtP w g (rowT (leafF l) a 0 (2 ^ J))) (hn : n = 2 ^ J) (hX : X < 2 ^ J) (hal : a + 2 ^ J ≤ l.length) (hl : l.length ≤ 20) (hok : ∀ i, i < l.length → headOkB (l.getD i default) = true) :
    Calls Tryd.prog 40 #[.slice (some ⟨g, 0, none⟩) n cap, .int .i64 (X : Int)] w fun e w' => ∃ v, e = .returned v ∧ PRow w.heap.size v (treeS J (rowT (leafF l) a 0 (2 ^ J)) X) w' ∧ Below w.heap.size w w' := by
  obtain ⟨i0, hi, hz0, hz1, hz2⟩ := info3 infoPeak
  have T0 : Hid (TreeW w (w.alloc (.cells #[] 47)) (.slice (some ⟨w.heap.size, 0, none⟩) 0 0) [] g (rowT (leafF l) a 0 n)) := by
    rw [hn]
    have hb := (Below.refl w.heap.size w).alloc (Nat.le_refl _) (.cells #[] 47)
    refine ⟨frow_new pEnc 47 3 w, hA.below hb hA.1, ?_, hb⟩
    have := hA.1
    simp [Value.ownBlock]
    omega
  have HOK : Hid (∀ k N z, a + N * 2 ^ k ≤ l.length → z < N → peakOkB ((rowT (leafF l) a k N).getD z default) = true) := fun k N z h1 h2 => row_ok hok hl h1 h2
  have HAL : Hid (a + 2 ^ J ≤ l.length ∧ l.length ≤ 20) := ⟨hal, hl⟩
  have HN : Hid (n = 2 ^ J) := hn
  have HX : Hid (X < n) := by show _ < _; omega
  have HT : Hid ([] ++ treeS J (rowT (leafF l) a 0 n) X = treeS J (rowT (leafF l) a 0 (2 ^ J)) X) := by rw [hn]; rfl
  generalize treeS J (rowT (leafF l) a 0 (2 ^ J)) X = T at HT ⊢
  obtain ⟨Q, hQ⟩ : ∃ Q : Ending → World → Prop, Q = fun e w' => ∃ v, e = .returned v ∧ PRow w.heap.size v T w' ∧ Below w.heap.size w w' := ⟨_, rfl⟩
  have HQ : Hid (∀ (v : Value) (w' : World), PRow w.heap.size v T w' → Below w.heap.size w w' → Q (.returned v) w') := fun v w' h1 h2 => by rw [hQ]; exact ⟨v, rfl, h1, h2⟩
  show Calls _ _ _ _ (fun e w' => ∃ v, e = .returned v ∧ PRow w.heap.size v T w' ∧ Below w.heap.size w w')
  rw [← hQ]
  clear hQ hA hn hX hal hl hok
  go_enter Tryd.func40, Tryd.ntmps40
  go_wp2_with fail
  generalize w.alloc (.cells #[] 47) = W0 at T0 ⊢
  go_loopw [1, 5, 6] (fun at5 out row wr => ∃ (k j y N g6 c6 g5 m5 c5 : Nat) (o : List PeakV), at5 = .int .i64 (y : Int) ∧ out = .slice (some ⟨g5, 0, none⟩) m5 c5 ∧ row = .slice (some ⟨g6, 0, none⟩) N c6 ∧ Hid (k + j = J ∧ N = 2 ^ j ∧ y < N ∧ o.length = k) ∧ Hid (TreeW w wr (.slice (some ⟨g5, 0, none⟩) m5 c5) o g6 (rowT (leafF l) a k N)) ∧ Hid (o ++ treeS j (rowT (leafF l) a k N) y = T)) (fun _ _ row _ => lenV row)
  case atStart => exact ⟨0, J, X, n, g, cap, _, _, _, [], rfl, rfl, rfl, ⟨by omega, HN.out, HX.out, rfl⟩, T0, HT⟩
  case round =>
    clear T0 HT
    obtain ⟨k, j, y, N, g6, c6, g5, m5, c5, o, rfl, rfl, rfl, HK, TW, HT⟩ := hrel
    cases j with
    | zero =>
      have HT2 : Hid (o = T) := by
        have := HT.out
        rwa [treeS, List.append_nil] at this
      obtain ⟨M, hM⟩ : ∃ M, M = N := ⟨_, rfl⟩
      have hN1 : N = 1 := HK.out.2.1
      have hn1 : ¬ (1 : Int) < (N : Int) := by omega
      have hn2 : ¬ 1 < N := by omega
      have HV : Hid (Q (.returned (.slice (some ⟨g5, 0, none⟩) m5 c5)) wr) := HQ.out _ wr (by rw [← HT2.out]; exact TW.out.row) TW.out.b
      clear HT HK TW hN1 hM
      go_wp2_with fail
      exact HV.out
    | succ j =>
      obtain ⟨M, hM⟩ : ∃ M, M = 2 ^ j := ⟨_, rfl⟩
      obtain ⟨q, hq⟩ : ∃ q, q = y % 2 := ⟨_, rfl⟩
      obtain ⟨z, hz⟩ : ∃ z, z = y + 1 - q * 2 := ⟨_, rfl⟩
      have hN2 : N = 2 * M := by rw [hM, HK.out.2.1, Nat.pow_succ']
      have hMl : M ≤ 20 ∧ N ≤ 20 ∧ a + N * 2 ^ k ≤ l.length ∧ y < N := by
        have h1 := HAL.out
        have h2 : N * 2 ^ k = 2 ^ J := by rw [HK.out.2.1, Nat.mul_comm, ← Nat.pow_add, HK.out.1]
        have h3 : N * 1 ≤ N * 2 ^ k := Nat.mul_le_mul_left _ (Nat.two_pow_pos k)
        have h4 := HK.out.2.2.1
        omega
      have HMl : Hid (M ≤ 20 ∧ N ≤ 20 ∧ a + N * 2 ^ k ≤ l.length ∧ y < N) := hMl
      have HN2 : Hid (N = 2 * M ∧ M = 2 ^ j ∧ k + (j + 1) = J) := ⟨hN2, hM, HK.out.1⟩
      have hM0 : 0 < M := by rw [hM]; exact Nat.two_pow_pos j
      have hq2 : q < 2 := by omega
      have hzN : z < N := by omega
      have HS : Hid (treeS (j + 1) (rowT (leafF l) a k N) y = (rowT (leafF l) a k N).getD z default :: treeS j (rowT (leafF l) a (k + 1) M) (y / 2)) := by
        show _ = _
        rw [treeS, ← hq, ← hz, hN2, upR_row]
      have hn1 : (1 : Int) < (N : Int) := by omega
      have hr1 : Int.tmod (y : Int) 2 = (q : Int) := by rw [hq]; rfl
      have hr2 : (y : Int) % 2 = (q : Int) := by omega
      have hw1 : IntKind.i64.wrap ((y : Int) + 1) = (y : Int) + 1 := by rw [IntKind.wrap_i64]; omega
      have hw2 : IntKind.i64.wrap ((q : Int) * 2) = (q : Int) * 2 := by rw [IntKind.wrap_i64]; omega
      have hw3 : IntKind.i64.wrap ((y : Int) + 1 - (q : Int) * 2) = (z : Int) := by rw [IntKind.wrap_i64]; omega
      have hwq : IntKind.i64.wrap (q : Int) = (q : Int) := by rw [IntKind.wrap_i64]; omega
      have lz0 : (0 : Int) ≤ (z : Int) := by omega
      have lz1 : (z : Int) < (N : Int) := by omega
      have hrl : z < (rowT (leafF l) a k N).length := by rw [rowT_len]; exact hzN
      have c0 := AtP.c0 TW.out.at_ z hrl
      have c1 := AtP.c1 TW.out.at_ z hrl
      have c2 := AtP.c2 TW.out.at_ z hrl
      have HOK1 : Hid (o.length = k) := HK.out.2.2.2
      clear hM hz hq hq2 HK hN2 hrl hMl
      generalize (rowT (leafF l) a k N).getD z default = s at c0 c1 c2 HS
      have HOL : Hid (o.length = m5) := by
        have h1 := TW.out.row
        obtain ⟨⟨g', c', hv⟩, _⟩ := h1
        simp only [Value.slice.injEq] at hv
        exact hv.2.1.symm
      have HO20 : Hid (o.length ≤ 1048576) := by
        show _ ≤ _
        have h1 := HAL.out
        have h2 : J < 2 ^ J := Nat.lt_two_pow_self
        have h3 := HN2.out.2.2
        have h4 := HOK1.out
        omega
      have hx1 : m5 + 1 ≤ maxLen := by have h1 := HOL.out; have h2 := HO20.out; unfold maxLen; omega
      have hx2 : (m5 + 1) * 32 ≤ 140737488355328 := by have h1 := HOL.out; have h2 := HO20.out; omega
      have hu := pEnc_one s
      have hsz := TW.out.b.size
      have HRW : Hid (wr.ownsRow w.heap.size 47 3 (.slice (some ⟨g5, 0, none⟩) m5 c5) m5 (o.flatMap pEnc)) := by
        have h1 := prow_own TW.out.row
        rwa [HOL.out] at h1
      go_upto_region 5 with (at_builtin; refine wp_appN rfl _ _ 24 rfl w.heap.size 47 i0 (.agg #[.string ⟨#[]⟩, .int .i64 0, .int .i64 0]) 3 32 1 Tryd.underlying24 hi hz0 hz1 hz2 rfl (by decide) (by decide) _ _ _ rfl HRW.out (pEnc s) (by first | rfl | simp [Act.eval]) rfl hu hx1 hx2 hsz ?_; intro g7 c7 w7 hown7 hb7 hkeep7)
      have P7 : Hid (PRow w.heap.size (.slice (some ⟨g7, 0, none⟩) (m5 + 1) c7) (o ++ [s]) w7) := by
        refine FRow.of ?_ ?_
        · rw [List.flatMap_append]
          simpa using hown7
        · rw [List.length_append, HOL.out]; rfl
      have A7 : Hid (AtP w7 g6 (rowT (leafF l) a k N)) := TW.out.at_.keepB (hkeep7 g6 TW.out.at_.1 TW.out.far) hb7.size
      have B7 : Hid (Below w.heap.size w w7) := TW.out.b.trans hb7
      have HT7 : Hid ((o ++ [s]) ++ treeS j (rowT (leafF l) a (k + 1) M) (y / 2) = T) := by
        show _ = _
        rw [← HT.out, HS.out, List.append_assoc]
        rfl
      have HOK2 : Hid ((o ++ [s]).length = k + 1) := by show _ = _; rw [List.length_append, HOK1.out]; rfl
      generalize o ++ [s] = o7 at P7 HT7 HOK2
      clear hown7 hb7 hkeep7 TW c0 c1 c2 HRW hx1 hx2 hu hsz hr1 hr2 hw1 hw2 hw3 hwq lz0 lz1 HT HS HO20 HOL HOK1 hzN
      go_wp2_with fail
      have R8 : Hid ((w7.alloc (.cells #[] 47)).ownsRow w7.heap.size 47 3 (.slice (some ⟨w7.heap.size, 0, none⟩) 0 0) 0 ((rowT (leafF l) a (k + 1) 0).flatMap pEnc)) := (frow_new pEnc 47 3 w7).2
      have B8 : Hid (Below w7.heap.size w7 (w7.alloc (.cells #[] 47))) := (Below.refl _ w7).alloc (Nat.le_refl _) _
      have HM0 : Hid (0 < M) := hM0
      clear hM0 hn1
      generalize w7.alloc (.cells #[] 47) = W8 at R8 B8 ⊢
      go_loopw [7, 8] (fun up ii wr => ∃ (i e g8 c8 : Nat), ii = .int .i64 (e : Int) ∧ up = .slice (some ⟨g8, 0, none⟩) i c8 ∧ Hid (e = 2 * i ∧ i ≤ M) ∧ Hid (wr.ownsRow w7.heap.size 47 3 (.slice (some ⟨g8, 0, none⟩) i c8) i ((rowT (leafF l) a (k + 1) i).flatMap pEnc)) ∧ Hid (Below w7.heap.size w7 wr)) (fun _ ii _ => N - (intOf ii).toNat)
      case atStart => exact ⟨0, 0, _, _, rfl, rfl, ⟨rfl, Nat.zero_le _⟩, R8, B8⟩
      case round =>
        clear R8 B8
        obtain ⟨i, e, g8, c8, rfl, rfl, HI, RW, HB⟩ := hrel
        by_cases hlt : i < M
        · have he2 := HI.out.1
          have hNM := HN2.out.1
          have hm20 := HMl.out
          have hl1 : e < (rowT (leafF l) a k N).length := by rw [rowT_len]; omega
          have hl2 : e + 1 < (rowT (leafF l) a k N).length := by rw [rowT_len]; omega
          have HAr : Hid (AtP wr g6 (rowT (leafF l) a k N)) := A7.out.below HB.out A7.out.1
          have hgw : g6 < wr.heap.size := HAr.out.1
          have HCL : Hid (∀ w' : World, w'.heap[g6]? = wr.heap[g6]? → (w'.cell? ⟨g6, e * 3, none⟩ = some (.string ((rowT (leafF l) a k N).getD e default).sum) ∧ w'.cell? ⟨g6, e * 3 + 1, none⟩ = some (.int .i64 ((rowT (leafF l) a k N).getD e default).work) ∧ w'.cell? ⟨g6, e * 3 + 2, none⟩ = some (.int .i64 ((rowT (leafF l) a k N).getD e default).count)) ∧ (w'.cell? ⟨g6, (e + 1) * 3, none⟩ = some (.string ((rowT (leafF l) a k N).getD (e + 1) default).sum) ∧ w'.cell? ⟨g6, (e + 1) * 3 + 1, none⟩ = some (.int .i64 ((rowT (leafF l) a k N).getD (e + 1) default).work) ∧ w'.cell? ⟨g6, (e + 1) * 3 + 2, none⟩ = some (.int .i64 ((rowT (leafF l) a k N).getD (e + 1) default).count))) := fun w' hw' =>
            ⟨⟨(World.cell?_of_block (a := ⟨g6, e * 3, none⟩) hw').trans (AtP.c0 HAr.out e hl1), (World.cell?_of_block (a := ⟨g6, e * 3 + 1, none⟩) hw').trans (AtP.c1 HAr.out e hl1), (World.cell?_of_block (a := ⟨g6, e * 3 + 2, none⟩) hw').trans (AtP.c2 HAr.out e hl1)⟩, ⟨(World.cell?_of_block (a := ⟨g6, (e + 1) * 3, none⟩) hw').trans (AtP.c0 HAr.out (e + 1) hl2), (World.cell?_of_block (a := ⟨g6, (e + 1) * 3 + 1, none⟩) hw').trans (AtP.c1 HAr.out (e + 1) hl2), (World.cell?_of_block (a := ⟨g6, (e + 1) * 3 + 2, none⟩) hw').trans (AtP.c2 HAr.out (e + 1) hl2)⟩⟩
          have HP1 : Hid (peakOkB ((rowT (leafF l) a k N).getD e default) = true) := HOK.out k N e hm20.2.2.1 (by omega)
          have HP2 : Hid (peakOkB ((rowT (leafF l) a k N).getD (e + 1) default) = true) := HOK.out k N (e + 1) hm20.2.2.1 (by omega)
          have HR2 : Hid (rowT (leafF l) a (k + 1) (i + 1) = rowT (leafF l) a (k + 1) i ++ [bothP ((rowT (leafF l) a k N).getD e default) ((rowT (leafF l) a k N).getD (e + 1) default)]) := by
            show _ = _
            rw [he2]
            exact row_two _ a k i N (by omega)
          have HNE : Hid (g8 ≠ g6 ∧ w7.heap.size ≤ g8) := by
            have h1 := ownE_is RW.out (b := g8) rfl
            have h2 := A7.out.1
            exact ⟨by omega, h1.2⟩
          clear hl1 hl2 HAr
          generalize (rowT (leafF l) a k N).getD e default = t1 at HCL HP1 HR2
          generalize (rowT (leafF l) a k N).getD (e + 1) default = t2 at HCL HP2 HR2
          obtain ⟨⟨q0, q1, q2⟩, q3, q4, q5⟩ := HCL.out wr rfl
          have hbo := fun w' => specL5Both t1 t2 w' HP1.out HP2.out
          unfold peakVal at hbo
          have HRL : Hid ((rowT (leafF l) a (k + 1) i).length = i) := rowT_len _ _ _ _
          generalize bothP t1 t2 = nq at hbo HR2
          have hu := pEnc_one nq
          have lk : (e : Int) < (N : Int) := by omega
          have lk2 : (e : Int) + 1 < (N : Int) := by omega
          have lk0 : (0 : Int) ≤ (e : Int) := by omega
          have lk1 : (0 : Int) ≤ (e : Int) + 1 := by omega
          have wk1 : IntKind.i64.wrap ((e : Int) + 1) = (e : Int) + 1 := by rw [IntKind.wrap_i64]; omega
          have wk2 : IntKind.i64.wrap ((e : Int) + 2) = (e : Int) + 2 := by rw [IntKind.wrap_i64]; omega
          have hx1 : i + 1 ≤ maxLen := by unfold maxLen; omega
          have hx2 : (i + 1) * 32 ≤ 140737488355328 := by omega
          have hsz := HB.out.size
          have HK1 : Hid (i + 1 ≤ M ∧ e + 2 = 2 * (i + 1)) := ⟨hlt, by omega⟩
          have hne := HNE.out.1
          clear he2 hNM hm20 hlt
          go_wp2_with fail
          go_region_held3 (fun w' => (w'.cell? ⟨g6, e * 3, none⟩ = some (.string t1.sum) ∧ w'.cell? ⟨g6, e * 3 + 1, none⟩ = some (.int .i64 t1.work) ∧ w'.cell? ⟨g6, e * 3 + 2, none⟩ = some (.int .i64 t1.count)) ∧ (w'.cell? ⟨g6, (e + 1) * 3, none⟩ = some (.string t2.sum) ∧ w'.cell? ⟨g6, (e + 1) * 3 + 1, none⟩ = some (.int .i64 t2.work) ∧ w'.cell? ⟨g6, (e + 1) * 3 + 2, none⟩ = some (.int .i64 t2.count)))
            (first | go_keep | (exact HCL.out _ (b1.block g6 hgw)) | (exact HCL.out _ (((hgrow4.block g6 (by simp; omega) (by simpa [Value.ownBlock] using hne.symm)).trans (Below.heap_alloc _ _ _ (by omega))).trans (b1.block g6 hgw))))
            (first
              | (go_at_call 50; refine (hbo _).mono ?_; rintro e w1 ⟨rfl, b0⟩; have b1 : Below wr.heap.size wr w1 := ((Below.refl wr.heap.size wr).drew).trans b0; have hb1s : wr.heap.size ≤ w1.heap.size := b1.size; clear b0)
              | ((refine step_append_lies _ (by rfl) _ _ 24 (by rfl) w7.heap.size 47 i0 (.agg #[.string ⟨#[]⟩, .int .i64 0, .int .i64 0]) 3 32 Tryd.underlying24 hi hz0 hz1 hz2 rfl (by decide) _ i _ (by rfl) (World.ownsRow.alloc (ownE_keep RW.out (fun b _ hlt => b1.block b hlt)) _) ⟨w1.heap.size, 0, none⟩ 1 1 (pEnc nq) (by rfl) rfl (cells_new w1 47 (pEnc nq)) hu (by decide) hx1 hx2 (by simp; omega) _ rfl ?_; intro g4 c4 w4 hown4 hgrow4 hat4 hlt4)))
          have hb4 : Hid (Below w7.heap.size w7 w4) := ((HB.out.trans (b1.mono hsz)).alloc (by omega) _).grown hgrow4 (by simp; omega) (fun j hj => by
            have : g8 = j := by simpa [Value.ownBlock] using hj
            have := HNE.out.2
            omega)
          have HR4 : Hid (w4.ownsRow w7.heap.size 47 3 (.slice (some ⟨g4, 0, none⟩) (i + 1) c4) (i + 1) ((rowT (leafF l) a (k + 1) (i + 1)).flatMap pEnc)) := by
            have h5 : w4.ownsRow w7.heap.size 47 3 (.slice (some ⟨g4, 0, none⟩) (i + 1) c4) (i + 1) ((rowT (leafF l) a (k + 1) (i + 1)).flatMap pEnc) := by
              rw [HR2.out, List.flatMap_append]
              simpa using hown4
            exact h5
          clear hown4 hgrow4 hat4 hlt4 b1 q0 q1 q2 q3 q4 q5
          go_wp2_with fail
          go_roundw
          case rel => exact ⟨i + 1, e + 2, g4, c4, by go_num, rfl, ⟨HK1.out.2, HK1.out.1⟩, HR4, hb4⟩
          case measure => have := HK1.out; have := HN2.out; simp [intOf]; omega
        · obtain rfl : i = M := by have := HI.out.2; omega
          have hd1 : Int.tdiv (y : Int) 2 = ((y / 2 : Nat) : Int) := rfl
          have hyN : Hid (y < N) := HMl.out.2.2.2
          have lk : ¬ (e : Int) < (N : Int) := by have h1 := HI.out.1; have h2 := HN2.out.1; omega
          have lkn : ¬ e < N := by have h1 := HI.out.1; have h2 := HN2.out.1; omega
          have hm20 := HMl.out.2.1
          have TN : Hid (TreeW w wr (.slice (some ⟨g7, 0, none⟩) (m5 + 1) c7) o7 g8 (rowT (leafF l) a (k + 1) i)) := by
            have h1 := RW.out
            have h2 : FRow pEnc 47 3 w7.heap.size (.slice (some ⟨g8, 0, none⟩) i c8) (rowT (leafF l) a (k + 1) i) wr := FRow.of h1 (rowT_len _ _ _ _).symm
            have h3 := (FRow.at pEnc_len h2).1
            obtain ⟨g', c', cur, hv, hB, hlt', _⟩ := P7.out.block
            have hg : g7 = g' := by
              simp only [Value.slice.injEq, Option.some.injEq, Addr.mk.injEq, and_true] at hv
              exact hv.1
            refine ⟨FRow.below P7.out HB.out, h3, ?_, B7.out.trans (HB.out.mono B7.out.size)⟩
            have h4 := (ownE_is h1 (b := g8) rfl).2
            simp only [Value.ownBlock, ne_eq, Option.some.injEq]
            omega
          have HEN : Hid (N = 2 * i ∧ i = 2 ^ j ∧ k + 1 + j = J ∧ y < N ∧ 0 < i) := ⟨HN2.out.1, HN2.out.2.1, by have := HN2.out.2.2; omega, hyN.out, HM0.out⟩
          clear P7 A7 B7 RW HB HI
          go_wp2_with fail
          go_roundw
          case rel => exact ⟨k + 1, j, y / 2, i, g8, c8, g7, m5 + 1, c7, o7, congrArg (Value.int .i64) (by have h1 := HEN.out; have h2 := HMl.out; rw [← IntWalk.i64_left, IntKind.wrap_i64]; omega), rfl, rfl, ⟨HEN.out.2.2.1, HEN.out.2.1, by have := HEN.out; omega, HOK2.out⟩, TN, HT7⟩
          case measure => have := HEN.out; simp [lenV]; omega
end Go.Proofs.YtchngmjbagdakaaDoor

set_option linter.unusedVariables false
namespace Go.Proofs.YtchngmjbagdakaaDoor
open Go.RowKit Go.Deep

theorem CBk.pairF {w : World} {g : Nat} {T : TypeId} {a b : Value} (h : CBk w g T #[a, b]) : w.cell? ⟨g, 0, none⟩ = some a ∧ w.cell? ⟨g, 1, none⟩ = some b ∧ w.frozen? ⟨g, 0, none⟩ = false ∧ w.frozen? ⟨g, 1, none⟩ = false :=
  ⟨h.cell 0, h.cell 1, h.frozen 0, h.frozen 1⟩
theorem own_slice {w : World} {B n k : Nat} {e : TypeId} {v : Value} {xs : List Value} (h : w.ownsRow B e k v n xs) : ∃ a m c, v = .slice a m c := by
  rcases h.2 with ⟨rfl, _⟩ | ⟨g', cap, cur, rfl, _⟩
  · exact ⟨_, _, _, rfl⟩
  · exact ⟨_, _, _, rfl⟩
set_option maxHeartbeats 4000000 in
set_option maxRecDepth 100000 in
theorem implRangeProofNo (g n cap : Nat) (l : List HeadV) (x : Int) (w : World) (hA : AtHead w g l) (hn : n = l.length) (hm : n ≤ 1048576) (hc : ¬ (headsB l = true ∧ 0 ≤ x ∧ x < (l.length : Int))) :
    Calls Tryd.prog 8 #[.slice (some ⟨g, 0, none⟩) n cap, .int .i64 x] w fun e w' => PrfPost l x w e w' ∧ Dis e := by
  have HHS : Hid (∀ w', Below w.heap.size w w' → Calls Tryd.prog 24 #[.slice (some ⟨g, 0, none⟩) n cap] w' fun e w'' => e = .returned (.bool (headsB l)) ∧ Below w'.heap.size w' w'') := fun w' hb => implRangeHeadsOk g n cap l w' (hA.below hb hA.1) hn hm
  have HC : Hid (headsB l = true → ¬ x < 0 → ¬ x < (n : Int)) := fun h1 h2 h3 => hc ⟨h1, by omega, by omega⟩
  have HV : Hid (∀ w', Below w.heap.size w w' → PrfPost l x w (.returned (.agg #[.slice none 0 0, .slice none 0 0])) w' ∧ Dis (.returned (.agg #[.slice none 0 0, .slice none 0 0]))) := fun w' hb => prf_no hc hb
  obtain ⟨Q, hQ⟩ : ∃ Q : Ending → World → Prop, Q = fun e w' => PrfPost l x w e w' ∧ Dis e := ⟨_, rfl⟩
  have HV2 : Hid (∀ w', Below w.heap.size w w' → Q (.returned (.agg #[.slice none 0 0, .slice none 0 0])) w') := fun w' hb => by rw [hQ]; exact HV.out w' hb
  show Calls _ _ _ _ (fun e w' => PrfPost l x w e w' ∧ Dis e)
  rw [← hQ]
  clear hQ HV hA hn hm hc
  have L0 : Hid (Below w.heap.size w (w.alloc (.cells #[.slice none 0 0, .slice none 0 0] 26))) := (Below.refl _ w).alloc (Nat.le_refl _) _
  have T0 : Hid (CBk (w.alloc (.cells #[.slice none 0 0, .slice none 0 0] 26)) w.heap.size 26 #[.slice none 0 0, .slice none 0 0]) := CBk.new w _ _
  obtain ⟨g4, hg4⟩ : ∃ g4, g4 = w.heap.size := ⟨_, rfl⟩
  have HG4 : Hid (w.heap.size ≤ g4) := Nat.le_of_eq hg4.symm
  have HEND : Hid (∀ w1, Below w.heap.size w w1 → CBk w1 g4 26 #[.slice none 0 0, .slice none 0 0] → CBk ((w1.setCell ⟨g4, 0, none⟩ (.slice none 0 0)).setCell ⟨g4, 1, none⟩ (.slice none 0 0)) g4 26 #[.slice none 0 0, .slice none 0 0] ∧ Below w.heap.size w ((w1.setCell ⟨g4, 0, none⟩ (.slice none 0 0)).setCell ⟨g4, 1, none⟩ (.slice none 0 0))) := fun w1 hb h => ⟨(h.set 0 _).set 1 _, (hb.setCell (p := ⟨g4, 0, none⟩) HG4.out _).setCell (p := ⟨g4, 1, none⟩) HG4.out _⟩
  go_enter Tryd.func8, Tryd.ntmps8
  go_wp2_with fail
  have hhs := HHS.out _ L0.out
  rw [← hg4] at T0 ⊢
  clear hg4
  refine hhs.mono ?_
  rintro e w1 ⟨rfl, b1⟩
  have B1 : Hid (Below w.heap.size w w1) := L0.out.trans (b1.mono L0.out.size)
  have T1 : Hid (CBk w1 g4 26 #[.slice none 0 0, .slice none 0 0]) := T0.out.call b1
  clear hhs HHS b1 T0 L0
  have TE : Hid _ := HEND.out w1 B1.out T1.out
  obtain ⟨c0, c1, f0, f1⟩ := T1.out.pairF
  cases hk : headsB l with
  | false =>
    clear HC
    go_wp2_with fail
    exact bodyPost_ret (results_cell_row (p := 4) rfl _ _ g4 26 #[.slice none 0 0, .slice none 0 0] (0, 0) _ rfl TE.out.1 Tryd.underlying26 rfl (by kernel_rfl)) rfl (HV2.out _ TE.out.2)
  | true =>
    by_cases hx : x < 0
    · clear HC
      go_wp2_with fail
      exact bodyPost_ret (results_cell_row (p := 4) rfl _ _ g4 26 #[.slice none 0 0, .slice none 0 0] (0, 0) _ rfl TE.out.1 Tryd.underlying26 rfl (by kernel_rfl)) rfl (HV2.out _ TE.out.2)
    · have hx2 : ¬ x < (n : Int) := by have := HC.out hk (by omega); omega
      clear HC
      go_wp2_with fail
      exact bodyPost_ret (results_cell_row (p := 4) rfl _ _ g4 26 #[.slice none 0 0, .slice none 0 0] (0, 0) _ rfl TE.out.1 Tryd.underlying26 rfl (by kernel_rfl)) rfl (HV2.out _ TE.out.2)
set_option maxHeartbeats 8000000 in
set_option maxRecDepth 100000 in
theorem implRangeProofYes (g n cap : Nat) (l : List HeadV) (X : Nat) (w : World) (hA : AtHead w g l) (hn : n = l.length) (hk : headsB l = true) (hX : X < l.length) (hK : RowG w shaK) (hP : TabP w) :
    Calls Tryd.prog 8 #[.slice (some ⟨g, 0, none⟩) n cap, .int .i64 (X : Int)] w fun e w' => PrfPost l (X : Int) w e w' ∧ Dis e := by
  have HM : Hid (n ≤ 20) := by show _ ≤ _; have := heads_len hk; omega
  have HHS : Hid (∀ w', Below w.heap.size w w' → Calls Tryd.prog 24 #[.slice (some ⟨g, 0, none⟩) n cap] w' fun e w'' => e = .returned (.bool true) ∧ Below w'.heap.size w' w'') := fun w' hb => by
    have := implRangeHeadsOk g n cap l w' (hA.below hb hA.1) hn (by have := HM.out; omega)
    rwa [hk] at this
  have HA : Hid (AtHead w g l) := hA
  have HN : Hid (n = l.length) := hn
  have HPU : Hid (∀ w1, Below w.heap.size w w1 → ∀ k, k < n → ∀ (w' : World) (gp gs : Nat) (a : Option Addr) (m c : Nat), NSt w1 w' gp gs a m c (stS l X k) (notesN (leafF l) X k) → Calls Tryd.prog 29 #[.pointer (some ⟨gs, 0, none⟩), .agg #[.string (leafP (l.getD k default)).sum, .int .i64 (leafP (l.getD k default)).work, .int .i64 (leafP (l.getD k default)).count, .bool ((k : Int) == (X : Int))]] w' fun e w'' => NPush w1 gp gs (stS l X (k + 1)) (notesN (leafF l) X (k + 1)) e w'') := fun w1 hb1 k hkn w' gp gs a m c hs => by
    obtain ⟨h1, h2, h3⟩ := ofP_ok (heads_at hk) (heads_len hk) k (by omega)
    have hh := heads_at hk k (by omega)
    have hl20 := heads_len hk
    have h4 := stS_len l X k
    have h5 := notes_len (heads_at hk) hl20 X (k + 1) (by omega)
    have h6 := implPushN w1 gp gs (stS l X k) (leafF l k, decide (k = X)) (notesN (leafF l) X k) w' a m c hs (by omega) (by rw [stS_fst]; exact fun i hi => getD_all (C := fun q => peakOkB q = true) h1 i hi) (by rw [stS_fst]; exact room_leaf hh (by rw [h2]; omega)) (by rw [noteS_step]; omega) (hK.below hb1 hK.lt) (TabP.below hP hb1 (Nat.le_refl _))
    have hbq : ((k : Int) == (X : Int)) = decide (k = X) := by rw [Bool.eq_iff_iff]; simp only [beq_iff_eq, decide_eq_true_eq]; omega
    rw [stS_step, noteS_step] at h6
    rw [hbq]
    exact h6
  have HPH : Hid (∀ k, k < n → ∀ (w' : World), Below w.heap.size w w' → Calls Tryd.prog 30 #[headVal (l.getD k default)] w' fun e w'' => e = .returned (peakVal (leafP (l.getD k default))) ∧ Below w'.heap.size w' w'') := fun k hkn w' hb => implPeakHead _ w' (heads_at hk k (by omega)) (hK.below hb hK.lt) (TabP.below hP hb (Nat.le_refl _))
  unfold headVal at HPH
  unfold peakVal at HPH
  have HYES : Hid (∀ (w' : World) (vp vs : Value) (B : Nat), w'.ownsRow B 47 3 vp (ofP l n).length ((ofP l n).flatMap pEnc) → w'.ownsRow w.heap.size 47 3 vs (notesN (leafF l) X n).length ((notesN (leafF l) X n).flatMap pEnc) → w.heap.size ≤ B → (∀ b, vs.ownBlock = some b → b < B) → Below w.heap.size w w' → PrfPost l (X : Int) w (.returned (.agg #[vp, vs])) w' ∧ Dis (.returned (.agg #[vp, vs]))) := fun w' vp vs B h1 h2 h3 h4 h5 => prf_yes hk hX (by rw [← hn]; exact h1) (by rw [← hn]; exact h2) h3 h4 h5
  obtain ⟨Q, hQ⟩ : ∃ Q : Ending → World → Prop, Q = fun e w' => PrfPost l (X : Int) w e w' ∧ Dis e := ⟨_, rfl⟩
  have HY : Hid (∀ (w' : World) (vp vs : Value) (B : Nat), w'.ownsRow B 47 3 vp (ofP l n).length ((ofP l n).flatMap pEnc) → w'.ownsRow w.heap.size 47 3 vs (notesN (leafF l) X n).length ((notesN (leafF l) X n).flatMap pEnc) → w.heap.size ≤ B → (∀ b, vs.ownBlock = some b → b < B) → Below w.heap.size w w' → Q (.returned (.agg #[vp, vs])) w') := fun w' vp vs B h1 h2 h3 h4 h5 => by rw [hQ]; exact HYES.out w' vp vs B h1 h2 h3 h4 h5
  show Calls _ _ _ _ (fun e w' => PrfPost l (X : Int) w e w' ∧ Dis e)
  rw [← hQ]
  have hxn : (X : Int) < (n : Int) := by omega
  have hx0 : ¬ (X : Int) < 0 := by omega
  clear hQ HYES hA hn hK hP hk hX
  have L0 : Hid (Below w.heap.size w (w.alloc (.cells #[.slice none 0 0, .slice none 0 0] 26))) := (Below.refl _ w).alloc (Nat.le_refl _) _
  have T0 : Hid (CBk (w.alloc (.cells #[.slice none 0 0, .slice none 0 0] 26)) w.heap.size 26 #[.slice none 0 0, .slice none 0 0]) := CBk.new w _ _
  obtain ⟨g4, hg4⟩ : ∃ g4, g4 = w.heap.size := ⟨_, rfl⟩
  have HG4 : Hid (w.heap.size ≤ g4) := Nat.le_of_eq hg4.symm
  go_enter Tryd.func8, Tryd.ntmps8
  go_wp2_with fail
  have hhs := HHS.out _ L0.out
  rw [← hg4] at T0 ⊢
  clear hg4
  refine hhs.mono ?_
  rintro e w1 ⟨rfl, b1⟩
  have B1 : Hid (Below w.heap.size w w1) := L0.out.trans (b1.mono L0.out.size)
  have T1 : Hid (CBk w1 g4 26 #[.slice none 0 0, .slice none 0 0]) := T0.out.call b1
  clear hhs HHS b1 T0 L0
  go_upto_region 5 with fail
  have hd : decide ((X : Int) < 0) = false := decide_eq_false (by omega)
  have hd2 : decide (n ≤ X) = false := decide_eq_false (by omega)
  simp only [hd, hd2, Bool.or_false]
  clear hd hd2
  have S0 : Hid (NSt w1 ((w1.alloc (.cells #[.slice none 0 0, .slice none 0 0] 26)).alloc (.cells #[.slice none 0 0, .func (.func 25) #[] #[], .func (.func 27) #[] #[.pointer (some ⟨w1.heap.size, 0, none⟩)]] 56)) w1.heap.size (w1.heap.size + 1) none 0 0 (stS l X 0) (notesN (leafF l) X 0)) := NSt.open _ rfl
  have HPU1 : Hid _ := HPU.out w1 B1.out
  generalize (w1.alloc (.cells #[.slice none 0 0, .slice none 0 0] 26)).alloc (.cells #[.slice none 0 0, .func (.func 25) #[] #[], .func (.func 27) #[] #[.pointer (some ⟨w1.heap.size, 0, none⟩)]] 56) = W2 at S0 ⊢
  obtain ⟨gp, hgp⟩ : ∃ gp, gp = w1.heap.size := ⟨_, rfl⟩
  have HGP : Hid (gp = w1.heap.size) := hgp
  obtain ⟨gs, hgs⟩ : ∃ gs, gs = w1.heap.size + 1 := ⟨_, rfl⟩
  rw [← hgs, ← hgp] at S0
  rw [← hgs, ← hgp]
  clear hgs hgp HPU
  go_wp2_with fail
  go_loopw [29] (fun i wr => ∃ (k : Nat) (a : Option Addr) (m c : Nat), k ≤ n ∧ i = .int .i64 (k : Int) ∧ Hid (NSt w1 wr gp gs a m c (stS l X k) (notesN (leafF l) X k))) (fun i _ => n - (intOf i).toNat)
  case atStart => exact ⟨0, none, 0, 0, by omega, rfl, S0⟩
  case round =>
    clear S0
    obtain ⟨k, a, m, c, hk, rfl, SK⟩ := hrel
    by_cases hlt : k < n
    · have hkl : k < l.length := by rw [← HN.out]; exact hlt
      have HBW : Hid (Below w.heap.size w wr) := B1.out.trans (SK.out.f.b.mono B1.out.size)
      have HAr := HA.out.below HBW.out HA.out.1
      have c0 := AtHead.c0 HAr k hkl
      have c1 := AtHead.c1 HAr k hkl
      have c2 := AtHead.c2 HAr k hkl
      have c3 := AtHead.c3 HAr k hkl
      have c4 := AtHead.c4 HAr k hkl
      have lk : (k : Int) < (n : Int) := by omega
      have lk0 : (0 : Int) ≤ (k : Int) := by omega
      have wk : IntKind.i64.wrap ((k : Int) + 1) = (k : Int) + 1 := by have := HM.out; rw [IntKind.wrap_i64]; omega
      have HK1 : Hid (k + 1 ≤ n) := hlt
      have HPUk : Hid _ := HPU1.out k hlt
      have HPHk := HPH.out k hlt
      have HPHk : Hid _ := HPHk
      clear hkl HAr
      generalize leafP (l.getD k default) = p at HPUk HPHk
      generalize l.getD k default = h at c0 c1 c2 c3 c4 HPHk
      have L0 : Hid (Below wr.heap.size wr (wr.alloc (.cells #[.string h.prev, .string h.root, .int .i64 h.time, .int .i64 h.diff, .int .i64 h.nonce] 44))) := (Below.refl _ wr).alloc (Nat.le_refl _) _
      have SA : Hid (NSt w1 (wr.alloc (.cells #[.string h.prev, .string h.root, .int .i64 h.time, .int .i64 h.diff, .int .i64 h.nonce] 44)) gp gs a m c (stS l X k) (notesN (leafF l) X k)) := SK.out.call L0.out
      have hph := HPHk.out _ (B1.out.trans (SA.out.f.b.mono B1.out.size))
      clear SK HPHk
      go_wp2_with fail
      refine hph.mono ?_
      rintro e w3 ⟨rfl, b3⟩
      have S3 : Hid (NSt w1 w3 gp gs a m c (stS l X k) (notesN (leafF l) X k)) := SA.out.call b3
      have hpu := HPUk.out _ _ _ _ _ _ S3.out
      clear SA b3 hph HPUk c0 c1 c2 c3 c4 L0
      go_wp2_with fail
      refine Calls.mono hpu ?_
      rintro e w4 ⟨rfl, a4, m4, c4, hs4⟩
      have S4 : Hid (NSt w1 w4 gp gs a4 m4 c4 (stS l X (k + 1)) (notesN (leafF l) X (k + 1))) := hs4
      clear hs4 hpu S3
      go_wp2_with fail
      go_roundw
      case rel => exact ⟨k + 1, a4, m4, c4, HK1.out, by go_num, S4⟩
      case measure => have := HK1.out; simp [intOf]; omega
    · obtain rfl : k = n := by omega
      clear HPU1 HPH HA
      obtain ⟨i0, hi, hz0, hz1, hz2⟩ := info3 infoPeak
      obtain ⟨vs, hpf⟩ := id SK.out.f
      have HPF : Hid (PfW w1 wr gp vs (notesN (leafF l) X k)) := hpf
      have HVS : Hid (∃ a m c, vs = .slice a m c) := own_slice hpf.row
      have HPT : Hid (ofP l k = (stS l X k).map Prod.fst) := (stS_fst l X k).symm
      have HML : Hid ((stS l X k).length = m) := SK.out.len
      have HMM : Hid (m ≤ 1048576) := by show _ ≤ _; have h1 := SK.out.len; have h2 := stS_len l X k; have h3 := ofP_len_le l k; have := HM.out; omega
      have HYF : Hid (∀ (w' : World) (vp : Value), PkW w1 wr w' gp vp vs (ofP l k) → Q (.returned (.agg #[vp, vs])) ((w'.setCell ⟨g4, 0, none⟩ vp).setCell ⟨g4, 1, none⟩ vs) ∧ CBk ((w'.setCell ⟨g4, 0, none⟩ vp).setCell ⟨g4, 1, none⟩ vs) g4 26 #[vp, vs]) := fun w' vp h => by
        obtain ⟨h1, h2, h3, h4, h5, h6⟩ := h.fin HPF.out T1.out B1.out HG4.out
        exact ⟨HY.out _ vp vs _ h2 h3 h4 h5 h6, h1⟩
      have PS : Hid (PkW w1 wr wr gp (.slice none 0 0) vs []) := PkW.start HPF.out
      have HGR : Hid (∀ r, a = some ⟨r, 0, none⟩ → r < wr.heap.size ∧ r ≠ gp ∧ AtF nEnc 4 wr r (stS l X k)) := fun r hr => by
        have h1 := SK.out
        subst hr
        obtain ⟨⟨cur, hc⟩, _⟩ := ownE_is h1.row (b := r) rfl
        exact ⟨hc.lt, cbk_ne hc HPF.out.k ntf, h1.at.1⟩
      have HAS : Hid (0 < m → ∃ r, a = some ⟨r, 0, none⟩) := fun hm0 => by
        obtain ⟨r, cap, hv, _⟩ := SK.out.row.form hm0
        simp only [Value.slice.injEq] at hv
        exact ⟨r, hv.1⟩
      have HLW : Hid (w1.heap.size ≤ wr.heap.size) := HPF.out.b.size
      obtain ⟨a0, a1, a2⟩ := SK.out.outs
      clear SK HPF hpf HY
      go_wp2_with fail
      clear a0 a1 a2
      rw [HPT.out] at HYF
      clear HPT
      generalize stS l X k = st at HYF HML HGR
      generalize hwB : wr = wB at *
      go_loopw [45] (fun i wr => ∃ (j : Nat) (vp : Value), j ≤ m ∧ i = .int .i64 (j : Int) ∧ Hid (PkW w1 wB wr gp vp vs ((st.map Prod.fst).take j))) (fun i _ => m - (intOf i).toNat)
      case atStart => exact ⟨0, _, by omega, rfl, PS⟩
      case round =>
        clear PS
        obtain ⟨j, vp, hj, rfl, PW⟩ := hrel
        by_cases hjl : j < m
        · obtain ⟨r, hr⟩ := HAS.out (by omega)
          subst hr
          obtain ⟨hr1, hr2, hr3⟩ := HGR.out r rfl
          have hjs : j < st.length := by rw [HML.out]; exact hjl
          have c0 : wr.cell? ⟨r, j * 4, none⟩ = some (.string (st.getD j default).1.sum) := (PW.out.at hr1 hr2).trans (hr3.2 j 0 hjs (by decide))
          have c1 : wr.cell? ⟨r, j * 4 + 1, none⟩ = some (.int .i64 (st.getD j default).1.work) := (PW.out.at hr1 hr2).trans (hr3.2 j 1 hjs (by decide))
          have c2 : wr.cell? ⟨r, j * 4 + 2, none⟩ = some (.int .i64 (st.getD j default).1.count) := (PW.out.at hr1 hr2).trans (hr3.2 j 2 hjs (by decide))
          have c3 : wr.cell? ⟨r, j * 4 + 3, none⟩ = some (.bool (st.getD j default).2) := (PW.out.at hr1 hr2).trans (hr3.2 j 3 hjs (by decide))
          have HTK : Hid ((st.map Prod.fst).take (j + 1) = (st.map Prod.fst).take j ++ [(st.getD j default).1]) := by
            show _ = _
            rw [← fst_at hjs]
            exact take_one (by rw [List.length_map]; exact hjs)
          have HPL : Hid (((st.map Prod.fst).take j).length = j) := by show _ = _; rw [List.length_take, List.length_map]; omega
          have lk : (j : Int) < (m : Int) := by omega
          have lk0 : (0 : Int) ≤ (j : Int) := by omega
          have wk : IntKind.i64.wrap ((j : Int) + 1) = (j : Int) + 1 := by have := HMM.out; rw [IntKind.wrap_i64]; omega
          have HJ1 : Hid (j + 1 ≤ m) := hjl
          clear hr3 hjs
          generalize st.getD j default = t at c0 c1 c2 c3 HTK
          have PA : Hid (PkW w1 wB (wr.alloc (.cells #[.string t.1.sum, .int .i64 t.1.work, .int .i64 t.1.count, .bool t.2] 49)) gp vp vs ((st.map Prod.fst).take j)) := PW.out.call ((Below.refl _ wr).alloc (Nat.le_refl _) _)
          have TA : Hid (NBk (wr.alloc (.cells #[.string t.1.sum, .int .i64 t.1.work, .int .i64 t.1.count, .bool t.2] 49)) wr.heap.size t) := CBk.new wr _ _
          go_upto_region 13 with fail
          clear c0 c1 c2 c3 PW
          generalize wr.alloc (.cells #[.string t.1.sum, .int .i64 t.1.work, .int .i64 t.1.count, .bool t.2] 49) = wa at PA TA ⊢
          obtain ⟨gt, hgt⟩ : ∃ gt, gt = wr.heap.size := ⟨_, rfl⟩
          rw [← hgt] at TA ⊢
          clear hgt
          obtain ⟨d0, d1, d2, d3⟩ := TA.out.four
          have p0 : wa.cell? ⟨gp, 0, none⟩ = some vp := PA.out.k.cell 0
          generalize (st.map Prod.fst).take j = ps at PA HTK HPL
          have hx1 : ps.length + 1 ≤ maxLen := by have := HPL.out; have := HMM.out; unfold maxLen; omega
          have hx2 : (ps.length + 1) * 32 ≤ 140737488355328 := by have := HPL.out; have := HMM.out; omega
          have hu := pEnc_one t.1
          have hsz : wB.heap.size ≤ wa.heap.size := PA.out.size
          have HRW : Hid (wa.ownsRow wB.heap.size 47 3 vp ps.length (ps.flatMap pEnc)) := PA.out.row
          have HTW : Hid (∀ w4 : World, Below wB.heap.size wa w4 → w4.cell? ⟨gp, 0, none⟩ = some vp ∧ w4.frozen? ⟨gp, 0, none⟩ = false) := fun w4 h => PA.out.keep4 h
          go_upto_region 14 with (at_builtin; refine wp_appN rfl _ _ 24 rfl wB.heap.size 47 i0 (.agg #[.string ⟨#[]⟩, .int .i64 0, .int .i64 0]) 3 32 1 Tryd.underlying24 hi hz0 hz1 hz2 rfl (by decide) (by decide) _ _ _ rfl HRW.out (pEnc t.1) (by first | rfl | simp [Act.eval]) rfl hu hx1 hx2 hsz ?_; intro g6 c6 w6 hown6 hb6 hkeep6; obtain ⟨q6, z6⟩ := HTW.out _ hb6)
          have P6 : Hid (PkW w1 wB (w6.setCell ⟨gp, 0, none⟩ (.slice (some ⟨g6, 0, none⟩) (ps.length + 1) c6)) gp (.slice (some ⟨g6, 0, none⟩) (ps.length + 1) c6) vs (ps ++ [t.1])) := PA.out.laid hown6 hb6 HLW.out
          rw [← HTK.out] at P6
          clear d0 d1 d2 d3 p0 hx1 hx2 hu hsz HRW HTW q6 z6 hown6 hb6 hkeep6 PA TA
          go_wp2_with fail
          go_roundw
          case rel => exact ⟨j + 1, _, HJ1.out, by go_num, P6⟩
          case measure => have := HJ1.out; simp [intOf]; omega
        · obtain rfl : j = m := by omega
          have hta : (st.map Prod.fst).take j = st.map Prod.fst := by rw [← HML.out, ← List.length_map (f := Prod.fst), List.take_length]
          rw [hta] at PW
          clear hta
          obtain ⟨pa, pn, pc, rfl⟩ := own_slice PW.out.row
          obtain ⟨sa, sn, sc, rfl⟩ := HVS.out
          obtain ⟨hq, hcb⟩ := HYF.out wr _ PW.out
          have HQF : Hid (Q (.returned (.agg #[.slice pa pn pc, .slice sa sn sc])) ((wr.setCell ⟨g4, 0, none⟩ (.slice pa pn pc)).setCell ⟨g4, 1, none⟩ (.slice sa sn sc))) := hq
          have HCF : Hid (CBk ((wr.setCell ⟨g4, 0, none⟩ (.slice pa pn pc)).setCell ⟨g4, 1, none⟩ (.slice sa sn sc)) g4 26 #[.slice pa pn pc, .slice sa sn sc]) := hcb
          obtain ⟨e0, e1, f0, f1⟩ := (PW.out.last T1.out).pairF
          have p0 : wr.cell? ⟨gp, 0, none⟩ = some (.slice pa pn pc) := PW.out.k.cell 0
          have p1 : wr.cell? ⟨gp, 1, none⟩ = some (.slice sa sn sc) := PW.out.k.cell 1
          clear hq hcb HYF
          go_wp2_with fail
          exact bodyPost_ret (results_cell_row (p := 4) rfl _ _ g4 26 #[.slice pa pn pc, .slice sa sn sc] (0, 0) _ rfl HCF.out Tryd.underlying26 rfl (by kernel_rfl)) rfl HQF.out
theorem implRangeProof (g n cap : Nat) (l : List HeadV) (x : Int) (w : World) (hA : AtHead w g l) (hn : n = l.length) (hm : n ≤ 1048576) (hK : RowG w shaK) (hP : TabP w) :
    Calls Tryd.prog 8 #[.slice (some ⟨g, 0, none⟩) n cap, .int .i64 x] w fun e w' => PrfPost l x w e w' ∧ Dis e := by
  by_cases hc : headsB l = true ∧ 0 ≤ x ∧ x < (l.length : Int)
  · obtain ⟨hk, hx0, hxl⟩ := hc
    obtain ⟨X, rfl⟩ : ∃ X : Nat, x = (X : Int) := ⟨x.toNat, by omega⟩
    exact implRangeProofYes g n cap l X w hA hn hk (by omega) hK hP
  · exact implRangeProofNo g n cap l x w hA hn hm hc
end Go.Proofs.YtchngmjbagdakaaDoor

set_option linter.unusedVariables false
namespace Go.Proofs.YtchngmjbagdakaaDoor
open Go.RowKit Go.Deep

set_option maxHeartbeats 2000000 in
set_option maxRecDepth 100000 in
theorem specL5PeakN (g n cap : Nat) (ps : List PeakV) (a : Int) (w : World) (h : AtP w g ps) (hn : n = ps.length) (hm : n ≤ 1048576) (hl20 : ps.length ≤ 20) (hpk : ∀ i, i < ps.length → peakOkB (ps.getD i default) = true) (hcn : ∀ k, k ≤ ps.length → 0 ≤ cntTo ps k ∧ cntTo ps k ≤ 20) :
    Calls Tryd.prog 38 #[.slice (some ⟨g, 0, none⟩) n cap, .int .i64 a] w fun e w' => PlacePost ps a e ∧ w = w' := by
  have HA : Hid (AtP w g ps) := h
  have HN : Hid (n = ps.length) := hn
  have HPK : Hid (∀ i, i < ps.length → peakOkB (ps.getD i default) = true) := hpk
  have HCN : Hid (∀ k, k ≤ ps.length → 0 ≤ cntTo ps k ∧ cntTo ps k ≤ 20) := hcn
  have HY : Hid (∀ k e, placeP ps a = some k → e = .returned (.tuple #[.int .i64 (k : Int), .int .i64 (cntTo ps k)]) → PlacePost ps a e) := fun k e h1 h2 => .inl ⟨k, h1, h2⟩
  have HX : Hid (∀ x e, placeP ps a = none → e = .returned (.tuple #[.int .i64 (-1), .int .i64 x]) → PlacePost ps a e) := fun x e h1 h2 => .inr ⟨h1, x, h2⟩
  generalize PlacePost ps a = Q at HY HX ⊢
  clear h hn hpk hcn
  go_enter Tryd.func38, Tryd.ntmps38
  go_wp2_with fail
  go_loopw [6, 7] (fun f i wr => ∃ k : Nat, k ≤ n ∧ i = .int .i64 (k : Int) ∧ f = .int .i64 (cntTo ps k) ∧ Hid (w = wr) ∧ Hid (∀ j, j < k → ¬ a < cntTo ps (j + 1))) (fun _ i _ => n - (intOf i).toNat)
  case atStart => exact ⟨0, by omega, rfl, rfl, rfl, fun j hj => by omega⟩
  case round =>
    obtain ⟨k, hk, rfl, rfl, HW, HQ⟩ := hrel
    by_cases hlt : k < n
    · have hkl : k < ps.length := by rw [← HN.out]; exact hlt
      have HAr : Hid (AtP wr g ps) := by rw [← HW.out]; exact HA.out
      have q2 := AtP.c2 HAr.out k hkl
      have lk : (k : Int) < (n : Int) := by omega
      have lk0 : (0 : Int) ≤ (k : Int) := by omega
      have wk : IntKind.i64.wrap ((k : Int) + 1) = (k : Int) + 1 := by rw [IntKind.wrap_i64]; omega
      have HK1 : Hid (k + 1 ≤ n) := hlt
      have hri := peakOk_in (HPK.out k hkl)
      have hci := HCN.out k (by omega)
      have hw1 : IntKind.i64.wrap (cntTo ps k + (ps.getD k default).count) = cntTo ps k + (ps.getD k default).count := by rw [IntKind.wrap_i64]; omega
      have HC1 : Hid (cntTo ps (k + 1) = cntTo ps k + (ps.getD k default).count) := rfl
      have HYk : Hid (∀ e, a < cntTo ps (k + 1) → e = .returned (.tuple #[.int .i64 (k : Int), .int .i64 (cntTo ps k)]) → Q e) := fun e h1 h2 => HY.out k e (place_at hkl h1 HQ.out) h2
      have HQ2 : Hid (¬ a < cntTo ps (k + 1) → ∀ j, j < k + 1 → ¬ a < cntTo ps (j + 1)) := by
        intro hh j hj
        rcases Nat.lt_or_ge j k with h' | h'
        · exact HQ.out j h'
        · obtain rfl : j = k := by omega
          exact hh
      clear HQ hkl HAr hri hci
      generalize (ps.getD k default).count = c at q2 hw1 HC1
      generalize cntTo ps k = ck at hw1 HC1 HYk ⊢
      by_cases hin : a < ck + c
      · have HV : Hid (∀ e, e = .returned (.tuple #[.int .i64 (k : Int), .int .i64 ck]) → Q e) := fun e he => HYk.out e (by rw [HC1.out]; exact hin) he
        clear HY HX HYk HQ2 HC1
        go_wp2_with fail
        go_ret2
        exact ⟨HV.out _ rfl, HW.out⟩
      · have HQ3 : Hid (∀ j, j < k + 1 → ¬ a < cntTo ps (j + 1)) := HQ2.out (by rw [HC1.out]; exact hin)
        clear HYk HQ2
        go_wp2_with fail
        go_roundw
        case rel => exact ⟨k + 1, HK1.out, by go_num, by rw [HC1.out], HW, HQ3⟩
        case measure => have := HK1.out; simp [intOf]; omega
    · obtain rfl : k = n := by omega
      have HV : Hid (∀ x e, e = .returned (.tuple #[.int .i64 (-1), .int .i64 x]) → Q e) := fun x e he => HX.out x e (place_no (fun j hj => HQ.out j (by rw [HN.out]; exact hj))) he
      generalize cntTo ps k = ck at ⊢
      clear HY HX HQ
      go_wp2_with fail
      go_ret2
      exact ⟨HV.out _ _ rfl, HW.out⟩


/-- The place of a leaf among the range's peaks: its peak, where that begins, and its steps. -/
theorem proof_place {l : List HeadV} (hok : ∀ i, i < l.length → headOkB (l.getD i default) = true) (hl : l.length ≤ 20) (x m : Nat) (hx : x < m) (hm : m ≤ l.length) : ∃ (k a i : Nat), placeP (ofP l m) (x : Int) = some k ∧ k < (ofP l m).length ∧ cntTo (ofP l m) k = (a : Int) ∧ ((ofP l m).getD k default).count = ((2 ^ i : Nat) : Int) ∧ a ≤ x ∧ x < a + 2 ^ i ∧ a + 2 ^ i ≤ m ∧ notesN (leafF l) x m = treeS i (rowT (leafF l) a 0 (2 ^ i)) (x - a) := by
  obtain ⟨t, t1, t2, t3⟩ := stk_shp (leafF_cnt l) x m
  have hp := stk_peaks t1
  obtain ⟨k, a, i, k1, k2, k3, k4, k5, k6, k7, k8⟩ := shp_place (leafF_cnt l) x t m 0 t2 hx
  have hc := shp_cnt (leafF_cnt l) t m 0 t2
  have hmo := cnt_mono (peaksT_pos (leafF_cnt l) t) ((peaksT (leafF l) t).length - (k + 1)) (k + 1) (by omega)
  rw [show k + 1 + ((peaksT (leafF l) t).length - (k + 1)) = (peaksT (leafF l) t).length from by omega, hc, cntTo, k4, k5, treeT_cnt (leafF_cnt l)] at hmo
  rw [hp]
  refine ⟨k, a, i, place_at k1 k2 k3, k1, k4, by rw [k5, treeT_cnt (leafF_cnt l)], k6, k7, by omega, ?_⟩
  rw [t3, k8, treeS_sib _ _ _ _ (by omega)]
theorem ofP_in {l : List HeadV} (hok : ∀ i, i < l.length → headOkB (l.getD i default) = true) (hl : l.length ≤ 20) (m : Nat) (hm : m ≤ l.length) : ∀ k, k ≤ (ofP l m).length → 0 ≤ cntTo (ofP l m) k ∧ cntTo (ofP l m) k ≤ 20 := by
  obtain ⟨h1, h2, h3⟩ := ofP_ok hok hl m hm
  intro k hk
  have hpos : ∀ q ∈ ofP l m, 0 ≤ q.count := fun q hq => by have := peakOk_in (h1 q hq); omega
  have a1 := cnt_mono hpos k 0 (by omega)
  have a2 := cnt_mono hpos ((ofP l m).length - k) k (by omega)
  rw [show k + ((ofP l m).length - k) = (ofP l m).length from by omega, h2] at a2
  rw [Nat.zero_add] at a1
  have a3 : cntTo (ofP l m) 0 = 0 := rfl
  omega
theorem spec_fin {w wr : World} {g4 : Nat} {vp vs : Value} {ps ss : List PeakV} (h4 : CBk wr g4 26 #[.slice none 0 0, .slice none 0 0]) (hp : wr.ownsRow w.heap.size 47 3 vp ps.length (ps.flatMap pEnc)) (hs : wr.ownsRow w.heap.size 47 3 vs ss.length (ss.flatMap pEnc)) (hb : Below w.heap.size w wr) (hg : w.heap.size ≤ g4) :
    CBk ((wr.setCell ⟨g4, 0, none⟩ vp).setCell ⟨g4, 1, none⟩ vs) g4 26 #[vp, vs] ∧ ((wr.setCell ⟨g4, 0, none⟩ vp).setCell ⟨g4, 1, none⟩ vs).ownsRow w.heap.size 47 3 vp ps.length (ps.flatMap pEnc) ∧ ((wr.setCell ⟨g4, 0, none⟩ vp).setCell ⟨g4, 1, none⟩ vs).ownsRow w.heap.size 47 3 vs ss.length (ss.flatMap pEnc) ∧ Below w.heap.size w ((wr.setCell ⟨g4, 0, none⟩ vp).setCell ⟨g4, 1, none⟩ vs) := by
  have h6 := h4.set 0 vp
  exact ⟨h6.set 1 vs, own_set (own_set hp h4 ftne) h6 ftne, own_set (own_set hs h4 ftne) h6 ftne, (hb.setCell (p := ⟨g4, 0, none⟩) hg _).setCell (p := ⟨g4, 1, none⟩) hg _⟩
theorem prf_spec {l : List HeadV} {X : Nat} {w w' : World} {vp vs : Value} (hk : headsB l = true) (hx : X < l.length) (hp : w'.ownsRow w.heap.size 47 3 vp (ofP l l.length).length ((ofP l l.length).flatMap pEnc)) (hs : w'.ownsRow w.heap.size 47 3 vs (notesN (leafF l) X l.length).length ((notesN (leafF l) X l.length).flatMap pEnc)) (hb : Below w.heap.size w w') : PrfPost l (X : Int) w (.returned (.agg #[vp, vs])) w' := by
  have e : proofL l (X : Int) = (ofP l l.length, notesN (leafF l) X l.length) := by rw [proofL, if_pos ⟨hk, by omega, by omega⟩]; rfl
  exact ⟨_, _, rfl, by rw [e]; exact pks_own hp, by rw [e]; exact pks_own hs, hb⟩

set_option maxHeartbeats 8000000 in
set_option maxRecDepth 100000 in
theorem specL5Proof (g n cap : Nat) (l : List HeadV) (X : Nat) (w : World) (hA : AtHead w g l) (hn : n = l.length) (hk : headsB l = true) (hX : X < l.length) :
    Calls Tryd.prog 22 #[.slice (some ⟨g, 0, none⟩) n cap, .int .i64 (X : Int)] w fun e w' => PrfPost l (X : Int) w e w' := by
  have hl20 := heads_len hk
  have hok := heads_at hk
  have HA : Hid (AtHead w g l) := hA
  have HN : Hid (n = l.length) := hn
  have HL : Hid (l.length ≤ 20) := hl20
  have HOF : Hid (∀ w', Below w.heap.size w w' → Calls Tryd.prog 33 #[.slice (some ⟨g, 0, none⟩) n cap] w' fun e w'' => ∃ v, e = .returned v ∧ PRow w'.heap.size v (ofP l n) w'' ∧ Below w'.heap.size w' w'') := fun w' hb => specL5Of g n cap l w' (hA.below hb hA.1) hn (by omega) hok
  have HLF : Hid (∀ b, b < l.length → ∀ w', Calls Tryd.prog 39 #[headVal (l.getD b default)] w' fun e w'' => e = .returned (peakVal (leafP (l.getD b default))) ∧ Below w'.heap.size w' w'') := fun b hb w' => specL5Leaf _ w' (hok b hb)
  obtain ⟨k, a, i, p1, p2, p3, p4, p5, p6, p7, p8⟩ := proof_place hok hl20 X n (by omega) (by omega)
  obtain ⟨o1, o2, o3⟩ := ofP_ok hok hl20 n (by omega)
  have HPK : Hid (∀ (g' c' : Nat) (w' : World), AtP w' g' (ofP l n) → Calls Tryd.prog 38 #[.slice (some ⟨g', 0, none⟩) (ofP l n).length c', .int .i64 (X : Int)] w' fun e w'' => e = .returned (.tuple #[.int .i64 (k : Int), .int .i64 (a : Int)]) ∧ w' = w'') := fun g' c' w' h => by
    refine (specL5PeakN g' (ofP l n).length c' (ofP l n) (X : Int) w' h rfl (by omega) (by omega) (fun i hi => getD_all (C := fun q => peakOkB q = true) o1 i hi) (ofP_in hok hl20 n (by omega))).mono ?_
    rintro e w'' ⟨hp, hw⟩
    rcases hp with ⟨k', h1, h2⟩ | ⟨h1, _⟩
    · rw [p1] at h1
      cases h1
      rw [h2, p3]
      exact ⟨rfl, hw⟩
    · rw [p1] at h1
      cases h1
  have HTR : Hid (∀ (g' c' : Nat) (w' : World), AtP w' g' (rowT (leafF l) a 0 (2 ^ i)) → Calls Tryd.prog 40 #[.slice (some ⟨g', 0, none⟩) (2 ^ i) c', .int .i64 ((X - a : Nat) : Int)] w' fun e w'' => ∃ v, e = .returned v ∧ PRow w'.heap.size v (notesN (leafF l) X n) w'' ∧ Below w'.heap.size w' w'') := fun g' c' w' h => by
    rw [p8]
    exact specL5Tree g' (2 ^ i) c' (X - a) i a l w' h rfl (by omega) (by omega) hl20 hok
  have HQ : Hid (∀ (vp vs : Value) (w' : World), w'.ownsRow w.heap.size 47 3 vp (ofP l n).length ((ofP l n).flatMap pEnc) → w'.ownsRow w.heap.size 47 3 vs (notesN (leafF l) X n).length ((notesN (leafF l) X n).flatMap pEnc) → Below w.heap.size w w' → PrfPost l (X : Int) w (.returned (.agg #[vp, vs])) w') := fun vp vs w' h1 h2 h3 => prf_spec hk hX (by rw [← hn]; exact h1) (by rw [← hn]; exact h2) h3
  generalize PrfPost l (X : Int) w = Q at HQ ⊢
  have HP4 : Hid (((ofP l n).getD k default).count = ((2 ^ i : Nat) : Int)) := p4
  have HP2 : Hid (k < (ofP l n).length ∧ (ofP l n).length ≤ 20) := ⟨p2, by omega⟩
  generalize notesN (leafF l) X n = N at HTR HQ
  have HI : Hid (a + 2 ^ i ≤ n ∧ a ≤ X ∧ X < n ∧ n ≤ 20) := ⟨p7, p5, by omega, by omega⟩
  generalize 2 ^ i = P at HTR HP4 HI
  clear p1 p2 p3 p4 p5 p6 p7 p8 o1 o2 o3 hA hn hk hX hl20 hok
  generalize hps : ofP l n = ps at HOF HPK HQ HP4 HP2
  clear hps
  have L0 : Hid (Below w.heap.size w (w.alloc (.cells #[.slice none 0 0, .slice none 0 0] 26))) := (Below.refl _ w).alloc (Nat.le_refl _) _
  have T0 : Hid (CBk (w.alloc (.cells #[.slice none 0 0, .slice none 0 0] 26)) w.heap.size 26 #[.slice none 0 0, .slice none 0 0]) := CBk.new w _ _
  obtain ⟨g4, hg4⟩ : ∃ g4, g4 = w.heap.size := ⟨_, rfl⟩
  have HG4 : Hid (w.heap.size ≤ g4) := Nat.le_of_eq hg4.symm
  obtain ⟨i0, hi, hz0, hz1, hz2⟩ := info3 infoPeak
  go_enter Tryd.func22, Tryd.ntmps22
  go_wp2_with fail
  have hof := HOF.out _ L0.out
  rw [← hg4] at T0 ⊢
  clear hg4
  refine hof.mono ?_
  rintro e w1 ⟨v, rfl, r1, b1⟩
  have B1 : Hid (Below w.heap.size w w1) := L0.out.trans (b1.mono L0.out.size)
  have T1 : Hid (CBk w1 g4 26 #[.slice none 0 0, .slice none 0 0]) := T0.out.call b1
  have R1 : Hid (PRow w.heap.size v ps w1) := r1.mono L0.out.size
  clear hof HOF r1 b1 T0 L0
  obtain ⟨⟨gv, cv, rfl⟩, -⟩ := id R1.out
  have hpk := HPK.out gv cv w1 (FRow.at pEnc_len R1.out).1
  clear HPK
  go_wp2_with fail
  refine hpk.mono ?_
  rintro e w2 ⟨rfl, hw⟩
  subst hw
  clear hpk
  go_upto_region 5 with fail
  have R3 : Hid (PRow w1.heap.size (.slice (some ⟨w1.heap.size, 0, none⟩) 0 0) (rowT (leafF l) a 0 0) (w1.alloc (.cells #[] 47))) := frow_new pEnc 47 3 w1
  have B3 : Hid (Below w1.heap.size w1 (w1.alloc (.cells #[] 47))) := (Below.refl _ w1).alloc (Nat.le_refl _) _
  generalize w1.alloc (.cells #[] 47) = W3 at R3 B3 ⊢
  have lk : (k : Int) < (ps.length : Int) := by have := HP2.out.1; omega
  have lk0 : (0 : Int) ≤ (k : Int) := by omega
  have wk : IntKind.i64.wrap ((a : Int) + (P : Int)) = (a : Int) + (P : Int) := by have := HI.out; rw [IntKind.wrap_i64]; omega
  go_loopw [8, 9] (fun lv ii wr => ∃ (m b g8 c8 : Nat), ii = .int .i64 (b : Int) ∧ lv = .slice (some ⟨g8, 0, none⟩) m c8 ∧ Hid (b = a + m ∧ m ≤ P) ∧ Hid (PRow w1.heap.size (.slice (some ⟨g8, 0, none⟩) m c8) (rowT (leafF l) a 0 m) wr) ∧ Hid (Below w1.heap.size w1 wr)) (fun _ ii _ => n - (intOf ii).toNat)
  case atStart => exact ⟨0, a, _, _, rfl, rfl, ⟨rfl, Nat.zero_le _⟩, R3, B3⟩
  case round =>
    clear R3 B3
    obtain ⟨m, b, g8, c8, rfl, rfl, HM, RW, HB⟩ := hrel
    have q2 : wr.cell? ⟨gv, k * 3 + 2, none⟩ = some (.int .i64 (P : Int)) := by
      have h1 := AtP.c2 (FRow.at pEnc_len (FRow.below R1.out HB.out)).1 k HP2.out.1
      rw [HP4.out] at h1
      exact h1
    by_cases hlt : m < P
    · have hbl : b < l.length := by have h1 := HI.out; have h2 := HM.out; have h3 := HN.out; omega
      have HBW : Hid (Below w.heap.size w wr) := B1.out.trans (HB.out.mono B1.out.size)
      have HAr := HA.out.below HBW.out HA.out.1
      have c0 := AtHead.c0 HAr b hbl
      have c1 := AtHead.c1 HAr b hbl
      have c2 := AtHead.c2 HAr b hbl
      have c3 := AtHead.c3 HAr b hbl
      have c4 := AtHead.c4 HAr b hbl
      have lb : (b : Int) < (a : Int) + (P : Int) := by have h2 := HM.out; omega
      have lbn : (b : Int) < (n : Int) := by have h3 := HN.out; omega
      have lb0 : (0 : Int) ≤ (b : Int) := by omega
      have wb : IntKind.i64.wrap ((b : Int) + 1) = (b : Int) + 1 := by have h1 := HI.out; have h3 := HN.out; rw [IntKind.wrap_i64]; omega
      have HK1 : Hid (m + 1 ≤ P ∧ b + 1 = a + (m + 1) ∧ b < n) := ⟨hlt, by have h2 := HM.out; omega, by have h3 := HN.out; omega⟩
      have hlf := HLF.out b hbl
      have HS : Hid (rowT (leafF l) a 0 (m + 1) = rowT (leafF l) a 0 m ++ [leafP (l.getD b default)]) := by
        show _ = _
        have h2 : a + m * 2 ^ 0 = b := by have h2 := HM.out.1; rw [Nat.pow_zero, Nat.mul_one]; omega
        rw [rowT_snoc, h2]
        rfl
      have hx1 : m + 1 ≤ maxLen := by have h1 := HI.out; unfold maxLen; omega
      have hx2 : (m + 1) * 32 ≤ 140737488355328 := by have h1 := HI.out; omega
      generalize leafP (l.getD b default) = p at hlf HS
      generalize l.getD b default = h at c0 c1 c2 c3 c4 hlf
      unfold headVal peakVal at hlf
      have hu := pEnc_one p
      clear HAr hbl
      go_wp2_with fail
      refine (hlf _).mono ?_
      rintro e w3 ⟨rfl, b3⟩
      have HB3 : Hid (Below w1.heap.size w1 w3) := HB.out.trans (b3.mono HB.out.size)
      have R3 : Hid (PRow w1.heap.size (.slice (some ⟨g8, 0, none⟩) m c8) (rowT (leafF l) a 0 m) w3) := FRow.below RW.out b3
      have hsz := HB3.out.size
      have HRW : Hid (w3.ownsRow w1.heap.size 47 3 (.slice (some ⟨g8, 0, none⟩) m c8) m ((rowT (leafF l) a 0 m).flatMap pEnc)) := by
        have h1 := prow_own R3.out
        rwa [rowT_len] at h1
      clear hlf b3 RW HB HBW c0 c1 c2 c3 c4 q2 R3 HM
      go_wp2_with (at_builtin; refine wp_appN rfl _ _ 24 rfl w1.heap.size 47 i0 (.agg #[.string ⟨#[]⟩, .int .i64 0, .int .i64 0]) 3 32 1 Tryd.underlying24 hi hz0 hz1 hz2 rfl (by decide) (by decide) _ _ _ rfl HRW.out (pEnc p) (by first | rfl | simp [Act.eval]) rfl hu hx1 hx2 hsz ?_; intro g7 c7 w7 hown7 hb7 hkeep7)
      have R7 : Hid (PRow w1.heap.size (.slice (some ⟨g7, 0, none⟩) (m + 1) c7) (rowT (leafF l) a 0 (m + 1)) w7) := by
        have h1 : PRow w1.heap.size (.slice (some ⟨g7, 0, none⟩) (m + 1) c7) (rowT (leafF l) a 0 (m + 1)) w7 := by
          refine FRow.of ?_ (rowT_len _ _ _ _).symm
          rw [HS.out, List.flatMap_append]
          simpa using hown7
        exact h1
      have B7 : Hid (Below w1.heap.size w1 w7) := HB3.out.trans hb7
      clear hown7 hb7 hkeep7 HB3 HRW hsz hu hx1 hx2 HS
      go_wp2_with fail
      go_roundw
      case rel => exact ⟨m + 1, b + 1, g7, c7, by go_num, rfl, ⟨HK1.out.2.1, HK1.out.1⟩, R7, B7⟩
      case measure => have := HK1.out; simp [intOf]; omega
    · obtain rfl : m = P := by have := HM.out; omega
      have lb : ¬ (b : Int) < (a : Int) + (m : Int) := by have h2 := HM.out; omega
      have lbn : ¬ b < a + m := by have h2 := HM.out; omega
      have hws : IntKind.i64.wrap ((X : Int) - (a : Int)) = ((X - a : Nat) : Int) := by have h1 := HI.out; rw [IntKind.wrap_i64]; omega
      have htr := HTR.out g8 c8 wr (FRow.at pEnc_len RW.out).1
      have HBW : Hid (Below w.heap.size w wr) := B1.out.trans (HB.out.mono B1.out.size)
      have TR : Hid (CBk wr g4 26 #[.slice none 0 0, .slice none 0 0]) := T1.out.call HB.out
      have RR : Hid (PRow w.heap.size (.slice (some ⟨gv, 0, none⟩) ps.length cv) ps wr) := FRow.below R1.out HB.out
      clear HTR RW HB HA HLF R1 T1
      obtain ⟨y, hy⟩ : ∃ y, y = X - a := ⟨_, rfl⟩
      rw [← hy] at htr hws
      clear hy
      go_wp2_with fail
      refine htr.mono ?_
      rintro e w5 ⟨vs, rfl, r5, b5⟩
      have B5 : Hid (Below w.heap.size w w5) := HBW.out.trans (b5.mono HBW.out.size)
      have T5 : Hid (CBk w5 g4 26 #[.slice none 0 0, .slice none 0 0]) := TR.out.call b5
      have R5 : Hid (PRow w.heap.size (.slice (some ⟨gv, 0, none⟩) ps.length cv) ps w5) := FRow.below RR.out b5
      have S5 : Hid (PRow w.heap.size vs N w5) := r5.mono HBW.out.size
      obtain ⟨⟨gw, cw, rfl⟩, -⟩ := id S5.out
      obtain ⟨hf1, hf2, hf3, hf4⟩ := spec_fin T5.out (prow_own R5.out) (prow_own S5.out) B5.out HG4.out
      have HF1 : Hid (CBk ((w5.setCell ⟨g4, 0, none⟩ (.slice (some ⟨gv, 0, none⟩) ps.length cv)).setCell ⟨g4, 1, none⟩ (.slice (some ⟨gw, 0, none⟩) N.length cw)) g4 26 #[.slice (some ⟨gv, 0, none⟩) ps.length cv, .slice (some ⟨gw, 0, none⟩) N.length cw]) := hf1
      have HFQ : Hid (Q (.returned (.agg #[.slice (some ⟨gv, 0, none⟩) ps.length cv, .slice (some ⟨gw, 0, none⟩) N.length cw])) ((w5.setCell ⟨g4, 0, none⟩ (.slice (some ⟨gv, 0, none⟩) ps.length cv)).setCell ⟨g4, 1, none⟩ (.slice (some ⟨gw, 0, none⟩) N.length cw))) := HQ.out _ _ _ hf2 hf3 hf4
      obtain ⟨e0, e1, f0, f1⟩ := T5.out.pairF
      clear hf1 hf2 hf3 hf4 HQ r5 b5 R5 S5 TR RR htr
      go_wp2_with fail
      exact bodyPost_ret (results_cell_row (p := 4) rfl _ _ g4 26 #[.slice (some ⟨gv, 0, none⟩) ps.length cv, .slice (some ⟨gw, 0, none⟩) N.length cw] (0, 0) _ rfl HF1.out Tryd.underlying26 rfl (by kernel_rfl)) rfl HFQ.out
end Go.Proofs.YtchngmjbagdakaaDoor

set_option linter.unusedVariables false
namespace Go.Proofs.YtchngmjbagdakaaDoor
open Go.RowKit Go.Deep

theorem pks_slice {B : Nat} {v : Value} {l : List PeakV} {w : World} (h : Pks B v l w) : ∃ a n c, v = .slice a n c := by
  rcases h with ⟨rfl, _⟩ | ⟨g, cap, rfl, _⟩
  · exact ⟨_, _, _, rfl⟩
  · exact ⟨_, _, _, rfl⟩
/-- Behind the store of an answer into a block of before. -/
theorem pks_store {B g4 j : Nat} {v u : Value} {l : List PeakV} {w : World} (h : Pks B v l w) (hg : g4 < B) : Pks B v l (w.setCell ⟨g4, j, none⟩ u) :=
  h.keep (by simp) (fun g hv => by
    have h1 := (h.blk hv).2
    have hne : g4 ≠ g := by omega
    simp [World.setCell, Array.getElem?_modify, hne])
set_option maxHeartbeats 4000000 in
set_option maxRecDepth 100000 in
theorem specRangeProof (g n cap : Nat) (l : List HeadV) (x : Int) (w : World) (hA : AtHead w g l) (hn : n = l.length) (hm : n ≤ 1048576) (hz : ∀ i, i < l.length → (l.getD i default).prev.size ≤ maxLen ∧ (l.getD i default).root.size ≤ maxLen) :
    Calls Tryd.prog 6 #[.slice (some ⟨g, 0, none⟩) n cap, .int .i64 x] w fun e w' => PrfPost l x w e w' := by
  have HHS : Hid (∀ w', Below w.heap.size w w' → Calls Tryd.prog 20 #[.slice (some ⟨g, 0, none⟩) n cap] w' fun e w'' => e = .returned (.bool (headsB l)) ∧ Below w'.heap.size w' w'') := fun w' hb => specL5Heads g n cap l w' (hA.below hb hA.1) hn hm hz
  have HPF : Hid (∀ (X : Nat) w', headsB l = true → X < l.length → x = (X : Int) → Below w.heap.size w w' → Calls Tryd.prog 22 #[.slice (some ⟨g, 0, none⟩) n cap, .int .i64 x] w' fun e w'' => PrfPost l x w' e w'') := fun X w' h1 h2 h3 hb => by
    subst h3
    exact specL5Proof g n cap l X w' (hA.below hb hA.1) hn h1 h2
  have HNO : Hid (∀ w', ¬ (headsB l = true ∧ 0 ≤ x ∧ x < (n : Int)) → Below w.heap.size w w' → PrfPost l x w (.returned (.agg #[.slice none 0 0, .slice none 0 0])) w') := fun w' h hb => (prf_no (by rw [← hn]; exact h) hb).1
  have HYES : Hid (∀ (vp vs : Value) (w1 w' : World), Below w.heap.size w w1 → Pks w1.heap.size vp (proofL l x).1 w' → Pks w1.heap.size vs (proofL l x).2 w' → Below w.heap.size w w' → PrfPost l x w (.returned (.agg #[vp, vs])) w') := fun vp vs w1 w' h1 h2 h3 h4 => ⟨vp, vs, rfl, h2.mono h1.size, h3.mono h1.size, h4⟩
  unfold PrfPost at HPF
  have HN : Hid (n = l.length) := hn
  have HM : Hid (n ≤ 1048576) := hm
  generalize PrfPost l x w = Q at HNO HYES ⊢
  generalize (proofL l x).1 = P1 at HPF HYES
  generalize (proofL l x).2 = P2 at HPF HYES
  have L0 : Hid (Below w.heap.size w (w.alloc (.cells #[.slice none 0 0, .slice none 0 0] 26))) := (Below.refl _ w).alloc (Nat.le_refl _) _
  have T0 : Hid (CBk (w.alloc (.cells #[.slice none 0 0, .slice none 0 0] 26)) w.heap.size 26 #[.slice none 0 0, .slice none 0 0]) := CBk.new w _ _
  obtain ⟨g4, hg4⟩ : ∃ g4, g4 = w.heap.size := ⟨_, rfl⟩
  have HG4 : Hid (w.heap.size ≤ g4) := Nat.le_of_eq hg4.symm
  have HEND : Hid (∀ w1, Below w.heap.size w w1 → CBk w1 g4 26 #[.slice none 0 0, .slice none 0 0] → CBk ((w1.setCell ⟨g4, 0, none⟩ (.slice none 0 0)).setCell ⟨g4, 1, none⟩ (.slice none 0 0)) g4 26 #[.slice none 0 0, .slice none 0 0] ∧ Below w.heap.size w ((w1.setCell ⟨g4, 0, none⟩ (.slice none 0 0)).setCell ⟨g4, 1, none⟩ (.slice none 0 0))) := fun w1 hb h => ⟨(h.set 0 _).set 1 _, (hb.setCell (p := ⟨g4, 0, none⟩) HG4.out _).setCell (p := ⟨g4, 1, none⟩) HG4.out _⟩
  clear hA hn hm hz
  go_enter Tryd.func6, Tryd.ntmps6
  go_wp2_with fail
  have hhs := HHS.out _ L0.out
  rw [← hg4] at T0 ⊢
  clear hg4
  refine hhs.mono ?_
  rintro e w1 ⟨rfl, b1⟩
  have B1 : Hid (Below w.heap.size w w1) := L0.out.trans (b1.mono L0.out.size)
  have T1 : Hid (CBk w1 g4 26 #[.slice none 0 0, .slice none 0 0]) := T0.out.call b1
  clear hhs HHS b1 T0 L0
  cases hk : headsB l with
  | false =>
    have TE : Hid _ := HEND.out w1 B1.out T1.out
    obtain ⟨c0, c1, f0, f1⟩ := T1.out.pairF
    have HQ : Hid (Q (.returned (.agg #[.slice none 0 0, .slice none 0 0])) ((w1.setCell ⟨g4, 0, none⟩ (.slice none 0 0)).setCell ⟨g4, 1, none⟩ (.slice none 0 0))) := HNO.out _ (fun h => by rw [hk] at h; cases h.1) TE.out.2
    clear HNO HYES HPF HEND hk
    go_wp2_with fail
    exact bodyPost_ret (results_cell_row (p := 4) rfl _ _ g4 26 #[.slice none 0 0, .slice none 0 0] (0, 0) _ rfl TE.out.1 Tryd.underlying26 rfl (by kernel_rfl)) rfl HQ.out
  | true =>
    have hw : IntKind.i64.wrap ((n : Int) - 1) = (n : Int) - 1 := by have := HM.out; rw [IntKind.wrap_i64]; omega
    go_wp2_with fail
    refine (specIn _ _ _ _).mono ?_
    rintro e w2 ⟨rfl, rfl⟩
    by_cases hx : 0 ≤ x ∧ x ≤ (n : Int) - 1
    · have hd : inB x 0 ((n : Int) - 1) = true := inB_yes hx
      obtain ⟨X, hX⟩ : ∃ X : Nat, x = (X : Int) := ⟨x.toNat, by omega⟩
      have hpf := HPF.out X w1 hk (by have := HN.out; omega) hX B1.out
      have HY : Hid (∀ (vp vs : Value) (w' : World), Pks w1.heap.size vp P1 w' → Pks w1.heap.size vs P2 w' → Below w.heap.size w w' → Q (.returned (.agg #[vp, vs])) w') := fun vp vs w' h1 h2 h3 => HYES.out vp vs w1 w' B1.out h1 h2 h3
      clear HNO HPF HEND hk HYES hw hX X
      simp only [hd]
      clear hd hx
      go_wp2_with fail
      refine Calls.mono hpf ?_
      rintro e w3 ⟨vp, vs, rfl, k3, k4, b3⟩
      obtain ⟨pa, pn, pc, rfl⟩ := pks_slice k3
      obtain ⟨sa, sn, sc, rfl⟩ := pks_slice k4
      have T3 : Hid (CBk w3 g4 26 #[.slice none 0 0, .slice none 0 0]) := T1.out.call b3
      have hlt : g4 < w1.heap.size := T1.out.lt
      have hq := HY.out _ _ _ (pks_store (j := 1) (u := .slice sa sn sc) (pks_store (j := 0) (u := .slice pa pn pc) k3 hlt) hlt) (pks_store (j := 1) (u := .slice sa sn sc) (pks_store (j := 0) (u := .slice pa pn pc) k4 hlt) hlt) (((B1.out.trans (b3.mono B1.out.size)).setCell (p := ⟨g4, 0, none⟩) HG4.out _).setCell (p := ⟨g4, 1, none⟩) HG4.out _)
      have HQ : Hid (Q (.returned (.agg #[.slice pa pn pc, .slice sa sn sc])) ((w3.setCell ⟨g4, 0, none⟩ (.slice pa pn pc)).setCell ⟨g4, 1, none⟩ (.slice sa sn sc))) := hq
      have hcb : CBk ((w3.setCell ⟨g4, 0, none⟩ (.slice pa pn pc)).setCell ⟨g4, 1, none⟩ (.slice sa sn sc)) g4 26 #[.slice pa pn pc, .slice sa sn sc] := (T3.out.set 0 _).set 1 _
      have HCB : Hid (CBk ((w3.setCell ⟨g4, 0, none⟩ (.slice pa pn pc)).setCell ⟨g4, 1, none⟩ (.slice sa sn sc)) g4 26 #[.slice pa pn pc, .slice sa sn sc]) := hcb
      obtain ⟨c0, c1, f0, f1⟩ := T3.out.pairF
      clear hq hcb HY k3 k4 b3 hlt hpf
      go_wp2_with fail
      exact bodyPost_ret (results_cell_row (p := 4) rfl _ _ g4 26 #[.slice pa pn pc, .slice sa sn sc] (0, 0) _ rfl HCB.out Tryd.underlying26 rfl (by kernel_rfl)) rfl HQ.out
    · have hd : inB x 0 ((n : Int) - 1) = false := inB_no hx
      have TE : Hid _ := HEND.out w1 B1.out T1.out
      obtain ⟨c0, c1, f0, f1⟩ := T1.out.pairF
      have HQ : Hid (Q (.returned (.agg #[.slice none 0 0, .slice none 0 0])) ((w1.setCell ⟨g4, 0, none⟩ (.slice none 0 0)).setCell ⟨g4, 1, none⟩ (.slice none 0 0))) := HNO.out _ (fun h => hx ⟨h.2.1, by omega⟩) TE.out.2
      clear HNO HYES HPF HEND hk
      simp only [hd]
      clear hd hx
      go_wp2_with fail
      exact bodyPost_ret (results_cell_row (p := 4) rfl _ _ g4 26 #[.slice none 0 0, .slice none 0 0] (0, 0) _ rfl TE.out.1 Tryd.underlying26 rfl (by kernel_rfl)) rfl HQ.out
end Go.Proofs.YtchngmjbagdakaaDoor

