/-
  Texts that the last part needs, joined.
-/
import Derived.Test.YtplldapkcljllaaGreatDoorPart1
import Derived.Test.YtplldapkcljllaaGreatDoorPart2
import Derived.Test.YtplldapkcljllaaGreatDoorPart3
import Derived.Test.YtplldapkcljllaaGreatDoorPart4
import Derived.Test.YtplldapkcljllaaGreatDoorPart5
import Derived.Test.YtplldapkcljllaaGreatDoorPart6
import Derived.Deep.RegionHeld3
import Derived.Deep.AppendLies
import Derived.BigRegion
import Derived.Deep.RegionWith
import Derived.Laws.ResultCell
import Derived.OwnWalk
import Derived.Test.YtplldapkcljllaaGreatDoorProg
set_option linter.unusedVariables false
namespace Go.Proofs.YtplldapkcljllaaGreatDoor
open Go.RowKit Go.Deep

/-- Whether heads can be those of a range. -/
def headsB (l : List HeadV) : Bool := decide (l.length ≤ 20) && l.all headOkB
theorem heads_at {l : List HeadV} (h : headsB l = true) (i : Nat) (hi : i < l.length) : headOkB (l.getD i default) = true := by
  rw [headsB, Bool.and_eq_true, List.all_eq_true] at h
  rw [List.getD_eq_getElem?_getD, List.getElem?_eq_getElem hi]
  exact h.2 _ (List.getElem_mem hi)
theorem heads_len {l : List HeadV} (h : headsB l = true) : l.length ≤ 20 := by
  rw [headsB, Bool.and_eq_true, decide_eq_true_eq] at h
  exact h.1
theorem heads_long {l : List HeadV} (h : ¬ l.length ≤ 20) : headsB l = false := by rw [headsB, decide_eq_false h]; rfl
theorem heads_bad {l : List HeadV} {i : Nat} (hi : i < l.length) (h : headOkB (l.getD i default) = false) : headsB l = false := by
  cases hs : headsB l with
  | false => rfl
  | true => rw [heads_at hs i hi] at h; cases h
theorem heads_good {l : List HeadV} (h8 : l.length ≤ 20) (h : ∀ i, i < l.length → headOkB (l.getD i default) = true) : headsB l = true := by
  rw [headsB, decide_eq_true h8, Bool.true_and, List.all_eq_true]
  intro q hq
  obtain ⟨j, hj, rfl⟩ := List.mem_iff_getElem.1 hq
  have := h j hj
  rwa [List.getD_eq_getElem?_getD, List.getElem?_eq_getElem hj] at this
/-- The peaks that RangeOf tells. -/
def ofL (l : List HeadV) : List PeakV := if headsB l = true then ofP l l.length else []
theorem ofL_len (l : List HeadV) : (ofL l).length ≤ 20 := by
  unfold ofL
  split
  · rename_i h
    have h1 := heads_len h
    have h2 := (ofP_ok (heads_at h) h1 l.length (Nat.le_refl _)).2.2
    omega
  · exact Nat.zero_le _

set_option maxHeartbeats 2000000 in
set_option maxRecDepth 100000 in
theorem specL5Heads (g n cap : Nat) (l : List HeadV) (w : World) (hA : AtHead w g l) (hn : n = l.length) (hm : n ≤ 1048576) (hz : ∀ i, i < l.length → (l.getD i default).prev.size ≤ maxLen ∧ (l.getD i default).root.size ≤ maxLen) :
    Calls Tryz.prog 43 #[.slice (some ⟨g, 0, none⟩) n cap] w fun e w' => e = .returned (.bool (headsB l)) ∧ Below w.heap.size w w' := by
  have HA : Hid (AtHead w g l) := hA
  have HN : Hid (n = l.length) := hn
  have HZ : Hid (∀ i, i < l.length → (l.getD i default).prev.size ≤ maxLen ∧ (l.getD i default).root.size ≤ maxLen) := hz
  have HBAD : Hid (∀ k, k < n → headOkB (l.getD k default) = false → headsB l = false) := fun k hk he => heads_bad (by omega) he
  have HEND : Hid ((∀ k, k < n → headOkB (l.getD k default) = true) → headsB l = decide ((n : Int) ≤ 20)) := fun hf => by
    by_cases h20 : l.length ≤ 20
    · rw [heads_good h20 (fun i hi => hf i (by omega)), decide_eq_true (by omega)]
    · rw [heads_long h20, decide_eq_false (by omega)]
  generalize headsB l = R at HBAD HEND ⊢
  clear hA hn hz
  go_enter Tryz.func43, Tryz.ntmps43
  go_wp2_with fail
  go_loopw [3] (fun i wr => ∃ k : Nat, k ≤ n ∧ i = .int .i64 (k : Int) ∧ Hid (Below w.heap.size w wr) ∧ Hid (∀ j, j < k → headOkB (l.getD j default) = true)) (fun i _ => n - (intOf i).toNat)
  case atStart => exact ⟨0, by omega, rfl, Below.refl _ _, fun j hj => by omega⟩
  case round =>
    obtain ⟨k, hk, rfl, HB, HQ⟩ := hrel
    by_cases hlt : k < n
    · have hkl : k < l.length := by rw [← HN.out]; exact hlt
      have HAr := HA.out.below HB.out HA.out.1
      have c0 := AtHead.c0 HAr k hkl
      have c1 := AtHead.c1 HAr k hkl
      have c2 := AtHead.c2 HAr k hkl
      have c3 := AtHead.c3 HAr k hkl
      have c4 := AtHead.c4 HAr k hkl
      have lk : (k : Int) < (n : Int) := by omega
      have lk0 : (0 : Int) ≤ (k : Int) := by omega
      have wk : IntKind.i64.wrap ((k : Int) + 1) = (k : Int) + 1 := by rw [IntKind.wrap_i64]; omega
      have HK1 : Hid (k + 1 ≤ n) := hlt
      have HH : Hid (headOkB (l.getD k default) = false → R = false) := HBAD.out k hlt
      have HQ2 : Hid (headOkB (l.getD k default) = true → ∀ j, j < k + 1 → headOkB (l.getD j default) = true) := by
        intro h j hj
        rcases Nat.lt_or_ge j k with h' | h'
        · exact HQ.out j h'
        · obtain rfl : j = k := by omega
          exact h
      have hho := fun w' => specL3Ok (l.getD k default) w' (HZ.out k hkl).1 (HZ.out k hkl).2
      clear HQ HBAD HEND hkl HAr
      generalize headOkB (l.getD k default) = ok at hho HH HQ2
      generalize l.getD k default = h at c0 c1 c2 c3 c4 hho
      cases ok with
      | false =>
        have HV : Hid (R = false) := HH.out rfl
        clear HH HQ2
        go_wp2_with fail
        refine (hho _).mono ?_
        rintro e w1 ⟨rfl, b1⟩
        have HB1 : Hid (Below w.heap.size w w1) := HB.out.trans (b1.mono HB.out.size)
        clear b1
        go_wp2_with fail
        go_ret
        exact ⟨by rw [HV.out]; rfl, HB1.out⟩
      | true =>
        have HQ3 : Hid (∀ j, j < k + 1 → headOkB (l.getD j default) = true) := HQ2.out rfl
        clear HH HQ2
        go_wp2_with fail
        refine (hho _).mono ?_
        rintro e w1 ⟨rfl, b1⟩
        have HB1 : Hid (Below w.heap.size w w1) := HB.out.trans (b1.mono HB.out.size)
        clear b1
        go_wp2_with fail
        go_roundw
        case rel => exact ⟨k + 1, HK1.out, by go_num, HB1, HQ3⟩
        case measure => have := HK1.out; simp [intOf]; omega
    · obtain rfl : k = n := by omega
      have HV : Hid (R = decide ((k : Int) ≤ 20)) := HEND.out HQ.out
      clear HBAD HEND HQ
      by_cases h20 : (k : Int) ≤ 20
      · have HV2 : Hid (R = true) := by show _ = _; rw [HV.out, decide_eq_true h20]
        clear HV
        go_wp2_with fail
        go_ret
        exact ⟨by rw [HV2.out]; rfl, HB.out⟩
      · have HV2 : Hid (R = false) := by show _ = _; rw [HV.out, decide_eq_false h20]
        clear HV
        go_wp2_with fail
        go_ret
        exact ⟨by rw [HV2.out]; rfl, HB.out⟩

def RofPost (l : List HeadV) (w : World) (e : Ending) (w' : World) : Prop := ∃ v, e = .returned v ∧ Pks w.heap.size v (ofL l) w' ∧ Below w.heap.size w w'
theorem of_no {l : List HeadV} {w w' : World} (h : headsB l = false) (hb : Below w.heap.size w w') : RofPost l w (.returned (.slice none 0 0)) w' := ⟨_, rfl, .inl ⟨rfl, by rw [ofL, h]; rfl⟩, hb⟩
theorem of_yes {l : List HeadV} {w w' : World} {v : Value} (h : headsB l = true) (hr : PRow w.heap.size v (ofP l l.length) w') (hb : Below w.heap.size w w') : RofPost l w (.returned v) w' := ⟨_, rfl, .inr (by rw [ofL, if_pos h]; exact PBk.frow hr), hb⟩

set_option maxHeartbeats 1000000 in
set_option maxRecDepth 100000 in
theorem specRangeOf (g n cap : Nat) (l : List HeadV) (w : World) (hA : AtHead w g l) (hn : n = l.length) (hm : n ≤ 1048576) (hz : ∀ i, i < l.length → (l.getD i default).prev.size ≤ maxLen ∧ (l.getD i default).root.size ≤ maxLen) :
    Calls Tryz.prog 23 #[.slice (some ⟨g, 0, none⟩) n cap] w fun e w' => RofPost l w e w' := by
  have hhs := specL5Heads g n cap l w hA hn hm hz
  have HOF : Hid (headsB l = true → ∀ w', Below w.heap.size w w' → Calls Tryz.prog 44 #[.slice (some ⟨g, 0, none⟩) n cap] w' fun e w'' => ∃ v, e = .returned v ∧ PRow w'.heap.size v (ofP l n) w'' ∧ Below w'.heap.size w' w'') := fun hk w' hb => specL5Of g n cap l w' (hA.below hb hA.1) hn (by have := heads_len hk; omega) (heads_at hk)
  have HNO : Hid (∀ w', headsB l = false → Below w.heap.size w w' → RofPost l w (.returned (.slice none 0 0)) w') := fun w' h1 h2 => of_no h1 h2
  have HYES : Hid (∀ w' v, headsB l = true → PRow w.heap.size v (ofP l n) w' → Below w.heap.size w w' → RofPost l w (.returned v) w') := fun w' v h1 h2 h3 => of_yes h1 (by rw [← hn]; exact h2) h3
  generalize RofPost l w = Q at HNO HYES ⊢
  clear hA hn hm hz
  cases hk : headsB l with
  | false =>
    have HV : Hid (∀ w', Below w.heap.size w w' → Q (.returned (.slice none 0 0)) w') := fun w' h => HNO.out w' hk h
    rw [hk] at hhs
    clear HOF HNO HYES
    go_enter Tryz.func23, Tryz.ntmps23
    go_wp2_with fail
    refine hhs.mono ?_
    rintro e w1 ⟨rfl, b1⟩
    go_wp2_with fail
    exact HV.out _ b1
  | true =>
    have HV : Hid (∀ w' v, PRow w.heap.size v (ofP l n) w' → Below w.heap.size w w' → Q (.returned v) w') := fun w' v h2 h3 => HYES.out w' v hk h2 h3
    have HO2 : Hid (∀ w', Below w.heap.size w w' → _) := fun w' hb => HOF.out hk w' hb
    rw [hk] at hhs
    clear HOF HNO HYES
    go_enter Tryz.func23, Tryz.ntmps23
    go_wp2_with fail
    refine hhs.mono ?_
    rintro e w1 ⟨rfl, b1⟩
    have ho := HO2.out w1 b1
    have B1 : Hid (Below w.heap.size w w1) := b1
    clear HO2 b1
    go_wp2_with fail
    refine Calls.mono ho ?_
    rintro e w2 ⟨v, rfl, hr, b2⟩
    have R2 : Hid (PRow w.heap.size v (ofP l n) w2) := hr.mono B1.out.size
    have B2 : Hid (Below w.heap.size w w2) := B1.out.trans (b2.mono B1.out.size)
    clear ho hr b2
    go_wp2_with fail
    exact HV.out _ _ R2.out B2.out

end Go.Proofs.YtplldapkcljllaaGreatDoor

set_option linter.unusedVariables false
namespace Go.Proofs.YtplldapkcljllaaGreatDoor
open Go.RowKit Go.Deep

theorem rangeOk_nil : rangeOkB [] = true := rfl
theorem implRangeOkNil (ps : List PeakV) (hps : ps = []) (w : World) : Calls Tryz.prog 9 #[.slice none 0 0] w fun e w' => e = .returned (.bool (rangeOkB ps)) ∧ Below w.heap.size w w' := by
  rw [hps, rangeOk_nil]
  clear hps
  go_enter Tryz.func9, Tryz.ntmps9
  go_wp2_with fail
  go_loopw [3, 8] (fun m i wr => m = .int .i64 0 ∧ i = .int .i64 0 ∧ Hid (wr = w)) (fun _ _ _ => 0)
  case atStart => exact ⟨rfl, rfl, rfl⟩
  case round =>
    obtain ⟨rfl, rfl, HW⟩ := hrel
    go_wp2_with fail
    go_ret
    exact ⟨rfl, by rw [HW.out]; exact Below.refl _ _⟩
theorem implRangeManyNil (w : World) : Calls Tryz.prog 8 #[.slice none 0 0] w fun e w' => e = .returned (.tuple #[.int .i64 0, .int .i64 0]) ∧ Below w.heap.size w w' := by
  have hok := implRangeOkNil [] rfl w
  rw [rangeOk_nil] at hok
  go_enter Tryz.func8, Tryz.ntmps8
  go_wp2_with fail
  refine hok.mono ?_
  rintro e w1 ⟨rfl, b1⟩
  have B1 : Hid (Below w.heap.size w w1) := b1
  clear b1 hok
  go_wp2_with fail
  go_loopw [4, 5, 13] (fun m v i wr => m = .int .i64 0 ∧ v = .int .i64 0 ∧ i = .int .i64 0 ∧ Hid (wr = w1)) (fun _ _ _ _ => 0)
  case atStart => exact ⟨rfl, rfl, rfl, rfl⟩
  case round =>
    obtain ⟨rfl, rfl, rfl, HW⟩ := hrel
    go_wp2_with fail
    go_ret2
    exact ⟨rfl, by rw [HW.out]; exact B1.out⟩
theorem specL5OkNil (w : World) : Calls Tryz.prog 17 #[.slice none 0 0] w fun e w' => e = .returned (.bool true) ∧ Below w.heap.size w w' := by
  go_enter Tryz.func17, Tryz.ntmps17
  go_wp2_with fail
  go_loopw [3, 4] (fun m i wr => m = .int .i64 0 ∧ i = .int .i64 0 ∧ Hid (wr = w)) (fun _ _ _ => 0)
  case atStart => exact ⟨rfl, rfl, rfl⟩
  case round =>
    obtain ⟨rfl, rfl, HW⟩ := hrel
    go_wp2_with fail
    go_ret
    exact ⟨rfl, by rw [HW.out]; exact Below.refl _ _⟩

set_option linter.unusedSimpArgs false in
set_option maxHeartbeats 8000000 in
set_option maxRecDepth 100000 in
theorem implRangeAddNil (ps : List PeakV) (hps : ps = []) (h : HeadV) (w : World) (hK : RowG w shaK) (hP : TabP w) :
    Calls Tryz.prog 5 #[.slice none 0 0, headVal h] w fun e w' => AddPost w.heap.size ps h e w' ∧ Below w.heap.size w w' := by
  have HK : Hid (RowG w shaK) := hK
  have HP : Hid (TabP w) := hP
  have hok := fun (w' : World) (hb : Below w.heap.size w w') => implRangeOkNil ps hps w'
  have hho := fun w' => implHeadOk h w'
  have HST : Hid (rangeOkB ps = true → ∀ (w' : World), Below w.heap.size w w' → Calls Tryz.prog 14 #[.slice none 0 0] w' fun e w'' => StackRes w' ps e w'') := fun hr w' hb => by rw [hps]; exact implPeakStackNil w'
  have HPU : Hid (rangeOkB ps = true → headOkB h = true → ∀ (w' : World) (g4 : Nat), Stk w w' g4 ps → Calls Tryz.prog 15 #[.pointer (some ⟨g4, 0, none⟩), peakVal (leafP h)] w' fun e w'' => PushRes w g4 (addP ps (leafP h)) e w'') := fun hr hk w' g4 hs => implPush w g4 ps (leafP h) w' hs (by rw [hps]; decide) (fun i hi => peaks_ok hr i hi) (room_leaf hk (range_cnt hr)) HK.out HP.out
  have HPH : Hid (headOkB h = true → ∀ (w' : World), Below w.heap.size w w' → Calls Tryz.prog 16 #[headVal h] w' fun e w'' => e = .returned (peakVal (leafP h)) ∧ Below w'.heap.size w' w'') := fun hk w' hb => implPeakHead h w' hk (HK.out.below hb HK.out.lt) (TabP.below HP.out hb (Nat.le_refl _))
  have HLN : Hid (rangeOkB ps = true → (addP ps (leafP h)).length ≤ 1048576) := fun hr => by
    have h1 := addP_len ps (leafP h)
    have h2 := range_len hr
    omega
  have HBAD : Hid (∀ (e : Ending) (w' : World), (rangeOkB ps && headOkB h) = false → e = .returned (.tuple #[.slice none 0 0, .bool false]) → AddPost w.heap.size ps h e w') := fun e w' h1 h2 => .inl ⟨h1, h2⟩
  have HGOOD : Hid (∀ (e : Ending) (w' : World) (v : Value), rangeOkB ps = true → headOkB h = true → e = .returned (.tuple #[v, .bool (rangeOkB (addP ps (leafP h)))]) → PRow w.heap.size v (if rangeOkB (addP ps (leafP h)) then addP ps (leafP h) else ps) w' → AddPost w.heap.size ps h e w') := fun e w' v h1 h2 h3 h4 => .inr ⟨by rw [h1, h2]; rfl, v, h3, h4⟩
  generalize AddPost w.heap.size ps h = Q at HBAD HGOOD ⊢
  generalize leafP h = p at HPU HPH HLN HGOOD
  generalize addP ps p = A at HPU HLN HGOOD
  clear hK hP hps
  unfold headVal at hho HPH ⊢
  unfold peakVal at HPU HPH
  have C0 : Hid (CBk (w.alloc (.cells #[.string h.prev, .string h.root, .int .i64 h.time, .int .i64 h.diff, .int .i64 h.nonce] 25)) w.heap.size 25 #[.string h.prev, .string h.root, .int .i64 h.time, .int .i64 h.diff, .int .i64 h.nonce]) := CBk.new w _ _
  have B0 : Hid (Below w.heap.size w (w.alloc (.cells #[.string h.prev, .string h.root, .int .i64 h.time, .int .i64 h.diff, .int .i64 h.nonce] 25))) := (Below.refl _ w).alloc (Nat.le_refl _) _
  go_enter Tryz.func5, Tryz.ntmps5
  have h0 := hok _ B0.out
  clear hok
  go_wp2_with fail
  generalize w.alloc (.cells #[.string h.prev, .string h.root, .int .i64 h.time, .int .i64 h.diff, .int .i64 h.nonce] 25) = W0 at C0 B0 h0 ⊢
  obtain ⟨g0, hg0⟩ : ∃ g0, g0 = w.heap.size := ⟨_, rfl⟩
  rw [← hg0] at C0 ⊢
  clear hg0
  cases hrk : rangeOkB ps with
  | false =>
    have HV : Hid (∀ e w', e = .returned (.tuple #[.slice none 0 0, .bool false]) → Q e w') := fun e w' he => HBAD.out e w' (by rw [hrk]; rfl) he
    rw [hrk] at h0
    clear hho HBAD HGOOD hrk HST HPU HPH HLN
    refine Calls.mono h0 ?_
    rintro e w1 ⟨rfl, b1⟩
    go_wp2_with fail
    go_ret2
    have h9 := HV.out
    exact ⟨h9 _ _ rfl, B0.out.trans (b1.mono B0.out.size)⟩
  | true =>
  have HRK : Hid (rangeOkB ps = true) := hrk
  rw [hrk] at h0
  clear hrk
  refine Calls.mono h0 ?_
  rintro e w1 ⟨rfl, b1⟩
  have C1 : Hid (CBk w1 g0 25 #[.string h.prev, .string h.root, .int .i64 h.time, .int .i64 h.diff, .int .i64 h.nonce]) := C0.out.call b1
  have B1 : Hid (Below w.heap.size w w1) := B0.out.trans (b1.mono B0.out.size)
  clear C0 B0 b1 h0
  obtain ⟨e0, e1, e2, e3, e4⟩ := C1.out.cells5
  cases hhk : headOkB h with
  | false =>
    have HV : Hid (∀ e w', e = .returned (.tuple #[.slice none 0 0, .bool false]) → Q e w') := fun e w' he => HBAD.out e w' (by rw [hhk, HRK.out]; rfl) he
    rw [hhk] at hho
    clear HBAD HGOOD hhk HST HPU HPH HLN
    go_wp2_with fail
    refine (hho _).mono ?_
    rintro e w2 ⟨rfl, b2⟩
    go_wp2_with fail
    go_ret2
    have h9 := HV.out
    exact ⟨h9 _ _ rfl, B1.out.trans (b2.mono B1.out.size)⟩
  | true =>
  have HHK : Hid (headOkB h = true) := hhk
  rw [hhk] at hho
  clear hhk HBAD
  go_wp2_with fail
  refine (hho _).mono ?_
  rintro e w2 ⟨rfl, b2⟩
  have C2 : Hid (CBk w2 g0 25 #[.string h.prev, .string h.root, .int .i64 h.time, .int .i64 h.diff, .int .i64 h.nonce]) := C1.out.call b2
  have B2 : Hid (Below w.heap.size w w2) := B1.out.trans (b2.mono B1.out.size)
  have hst := HST.out HRK.out _ B2.out
  clear C1 B1 b2 hho e0 e1 e2 e3 e4
  go_wp2_with fail
  refine Calls.mono hst ?_
  rintro e w3 ⟨g4, rfl, hs3⟩
  have S3 : Hid (Stk w w3 g4 ps) := hs3.lower B2.out
  have C3 : Hid (CBk w3 g0 25 #[.string h.prev, .string h.root, .int .i64 h.time, .int .i64 h.diff, .int .i64 h.nonce]) := C2.out.call hs3.b
  clear C2 B2 hst hs3
  obtain ⟨e0, e1, e2, e3, e4⟩ := C3.out.cells5
  have hph := HPH.out HHK.out _ S3.out.b
  clear HPH
  go_wp2_with fail
  refine hph.mono ?_
  rintro e w4 ⟨rfl, b4⟩
  have S4 : Hid (Stk w w4 g4 ps) := S3.out.call b4
  have hpu := HPU.out HRK.out HHK.out _ _ S4.out
  clear HPU S3 C3 b4 hph e0 e1 e2 e3 e4
  go_wp2_with fail
  refine Calls.mono hpu ?_
  rintro e w5 ⟨rfl, r, c, M, hs5⟩
  have S5 : Hid (StkW w w5 g4 r c M A) := hs5
  have HM5 : Hid (M = A.length) := hs5.len.symm
  clear hpu hs5 S4
  obtain ⟨a0, a1, a2⟩ := S5.out.outs
  have hok5 := implRangeOk r M c A w5 S5.out.at.1 S5.out.at.2.1 (by rw [HM5.out]; have := HLN.out HRK.out; omega)
  go_wp2_with fail
  cases hra : rangeOkB A with
  | true =>
    have HV : Hid (∀ e w' v, e = .returned (.tuple #[v, .bool true]) → PRow w.heap.size v A w' → Q e w') := fun e w' v he hR => HGOOD.out e w' v HRK.out HHK.out (by rw [hra]; exact he) (by rw [hra]; exact hR)
    rw [hra] at hok5
    clear hra HGOOD HST HLN
    refine hok5.mono ?_
    rintro e w6 ⟨rfl, b6⟩
    have S6 : Hid (StkW w w6 g4 r c M A) := S5.out.call b6
    clear S5 b6 hok5 a0 a1 a2
    obtain ⟨a0, a1, a2⟩ := S6.out.outs
    go_wp2_with fail
    go_ret2
    have h9 := HV.out
    exact ⟨h9 _ _ _ rfl S6.out.frow, S6.out.b⟩
  | false =>
    have HV : Hid (∀ e w' v, e = .returned (.tuple #[v, .bool false]) → PRow w.heap.size v ps w' → Q e w') := fun e w' v he hR => HGOOD.out e w' v HRK.out HHK.out (by rw [hra]; exact he) (by rw [hra]; exact hR)
    rw [hra] at hok5
    clear hra HGOOD HLN
    refine hok5.mono ?_
    rintro e w6 ⟨rfl, b6⟩
    have B6 : Hid (Below w.heap.size w w6) := S5.out.b.trans (b6.mono S5.out.b.size)
    have hst := HST.out HRK.out _ B6.out
    clear S5 b6 hok5 a0 a1 a2 HST
    go_wp2_with fail
    refine Calls.mono hst ?_
    rintro e w7 ⟨g8, rfl, r8, c8, M8, hs7⟩
    have S7 : Hid (StkW w w7 g8 r8 c8 M8 ps) := hs7.lower B6.out
    clear hst hs7 B6
    obtain ⟨a0, a1, a2⟩ := S7.out.outs
    go_wp2_with fail
    go_ret2
    have h9 := HV.out
    exact ⟨h9 _ _ _ rfl S7.out.frow, S7.out.b⟩

end Go.Proofs.YtplldapkcljllaaGreatDoor

set_option linter.unusedVariables false
namespace Go.Proofs.YtplldapkcljllaaGreatDoor
open Go.RowKit Go.Deep

section
variable {P : Program} {w : World}
theorem run_append_nil (t ty e : TypeId) (i : TypeInfo) (ht : P.underlying t = some (.slice e)) (hi : P.info? e = some i) {base size n : Nat} {v : Value} {xs : List Value} (hown : w.ownsRow base e size v n xs) :
    (Builtin.append_ #[t, t] ty #[v, .slice none 0 0]).run P w = .ok v w := by
  rcases hown.2 with ⟨rfl, _⟩ | ⟨g, cap, cur, rfl, _, _, hc, _⟩
  · simp [Builtin.append_, run_underlying ht, sizeOf, typeInfo, hi, Builtin.lenOf, run_firstCells_none]
  · simp [Builtin.append_, run_underlying ht, sizeOf, typeInfo, hi, Builtin.lenOf, run_firstCells_none, hc, storeCells]
theorem wpList_append_nil {ops : Array Oper} {rest : List Oper} {o : Oper} {a : Act} {Q : Exit → Act → World → Prop} (hgd : o.guard = none) (s x : Operand) (t : TypeId)
    (ho : o.op = .call { callee := .builtin .append, args := #[s, x], argTypes := #[t, t] })
    (base : Nat) (e : TypeId) (i : TypeInfo) (size : Nat) (ht : P.underlying t = some (.slice e)) (hi : P.info? e = some i)
    (v : Value) (n : Nat) (xs : List Value) (hs : a.eval s = v) (hown : w.ownsRow base e size v n xs) (hx : a.eval x = .slice none 0 0)
    (h : wpList P ops Q rest (a.put o.dst v) w) : wpList P ops Q (o :: rest) a w := by
  have hr := run_append_nil (P := P) (w := w) t o.type e i ht hi hown
  refine wpList_plain hgd fun K hK => ?_
  unfold Oper.wp execOp
  simp only [ho, resolve, invoke, builtin, Sem.run_bind, Sem.run_pure, Result.andThen_ok, List.map_toArray, List.map_cons, List.map_nil, hs, hx, hr]
  exact hK _ _ h
end

set_option maxHeartbeats 8000000 in
set_option maxRecDepth 100000 in
theorem specL5AddNil (p : PeakV) (w : World) :
    Calls Tryz.prog 19 #[.slice none 0 0, peakVal p] w fun e w' => ∃ v, e = .returned v ∧ PRow w.heap.size v (addP [] p) w' ∧ Below w.heap.size w w' := by
  obtain ⟨i0, hi, hz0, hz1, hz2⟩ := info3 infoPeak
  have HAD : Hid (addP [] p = [p]) := addP_nil p
  generalize addP [] p = A at HAD ⊢
  unfold peakVal
  have C0 : Hid (CBk ((w.alloc (.cells #[.string p.sum, .int .i64 p.work, .int .i64 p.count] 44)).alloc (.cells #[] 44)) w.heap.size 44 #[.string p.sum, .int .i64 p.work, .int .i64 p.count]) := (CBk.new w _ _).alloc _
  have L0 : Hid (Below w.heap.size w ((w.alloc (.cells #[.string p.sum, .int .i64 p.work, .int .i64 p.count] 44)).alloc (.cells #[] 44))) := ((Below.refl _ w).alloc (Nat.le_refl _) _).alloc (by simp) _
  have R0 : Hid (((w.alloc (.cells #[.string p.sum, .int .i64 p.work, .int .i64 p.count] 44)).alloc (.cells #[] 44)).ownsRow (w.heap.size + 1) 44 3 (.slice (some ⟨w.heap.size + 1, 0, none⟩) 0 0) 0 []) := by
    have := (frow_new pEnc 44 3 (w.alloc (.cells #[.string p.sum, .int .i64 p.work, .int .i64 p.count] 44))).2
    rwa [show (w.alloc (.cells #[.string p.sum, .int .i64 p.work, .int .i64 p.count] 44)).heap.size = w.heap.size + 1 from by simp] at this
  have HZ : Hid (((w.alloc (.cells #[.string p.sum, .int .i64 p.work, .int .i64 p.count] 44)).alloc (.cells #[] 44)).heap.size = w.heap.size + 2) := by show _ = _; simp
  go_enter Tryz.func19, Tryz.ntmps19
  obtain ⟨g3, hg3⟩ : ∃ g3, g3 = w.heap.size := ⟨_, rfl⟩
  have HG3 : Hid (g3 = w.heap.size) := hg3
  go_wp2_with (at_builtin; refine wpList_append_nil rfl _ _ 23 rfl (w.heap.size + 1) 44 i0 3 Tryz.underlying23 hi _ 0 [] (by rfl) R0.out (by rfl) ?_)
  generalize ((w.alloc (.cells #[.string p.sum, .int .i64 p.work, .int .i64 p.count] 44)).alloc (.cells #[] 44)) = W1 at C0 L0 R0 HZ ⊢
  rw [show w.heap.size = g3 from hg3.symm] at C0 ⊢
  clear hg3
  go_wp2_with fail
  go_loopw [5] (fun out wr => out = .slice (some ⟨g3 + 1, 0, none⟩) 0 0 ∧ Hid (wr = W1)) (fun _ _ => 0)
  case atStart => exact ⟨rfl, rfl⟩
  case round =>
    obtain ⟨rfl, HW⟩ := hrel
    have hx1 : 0 + 1 ≤ maxLen := by unfold maxLen; omega
    have hx2 : (0 + 1) * 32 ≤ 140737488355328 := by omega
    have hu := pEnc_one p
    have CR : Hid (CBk wr g3 44 #[.string p.sum, .int .i64 p.work, .int .i64 p.count]) := by rw [HW.out]; exact C0.out
    have HB : Hid (Below w.heap.size w wr) := by rw [HW.out]; exact L0.out
    have hsz : w.heap.size + 1 ≤ wr.heap.size := by rw [HW.out]; have := HZ.out; omega
    have HRW : Hid (wr.drew.ownsRow (w.heap.size + 1) 44 3 (.slice (some ⟨g3 + 1, 0, none⟩) 0 0) 0 []) := by rw [HW.out, HG3.out]; exact R0.out
    clear C0 L0 R0 HZ HW
    obtain ⟨d0, d1, d2⟩ := CR.out.cells3
    go_wp2_with fail
    go_big_region
    obtain ⟨d0, d1, d2⟩ := CR.out.cells3
    go_wp2_with (at_builtin; rw [drewAlloc]; refine wp_appN rfl _ _ 23 rfl (w.heap.size + 1) 44 i0 (.agg #[.string ⟨#[]⟩, .int .i64 0, .int .i64 0]) 3 32 1 Tryz.underlying23 hi hz0 hz1 hz2 rfl (by decide) (by decide) (.slice (some ⟨g3 + 1, 0, none⟩) 0 0) 0 _ rfl HRW.out (pEnc p) (by first | rfl | simp [Act.eval]) rfl hu hx1 hx2 hsz ?_; intro g6 c6 w6 hown6 hb6 hkeep6)
    have R6 : Hid (PRow w.heap.size (.slice (some ⟨g6, 0, none⟩) (0 + 1) c6) A w6) := by
      have hv : A = [p] := HAD.out
      have : PRow (w.heap.size + 1) (.slice (some ⟨g6, 0, none⟩) (0 + 1) c6) [p] w6 := FRow.of (by simpa using hown6) rfl
      rw [hv]
      exact this.mono (Nat.le_succ _)
    have B6 : Hid (Below w.heap.size w w6) := HB.out.drew.trans (hb6.mono (Nat.le_succ _))
    clear hown6 hb6 hkeep6
    go_wp2_with fail
    go_ret
    exact ⟨_, rfl, R6.out, B6.out⟩

theorem leaf_range {p : PeakV} (hk : peakOkB p = true) (h1 : p.count = 1) : rangeOkB [p] = true := by
  have h2 : twoB 1 = true := by decide
  simp [rangeOkB, stepOk, cntTo, hk, h2, h1, List.range_succ]

set_option maxHeartbeats 1000000 in
set_option maxRecDepth 100000 in
theorem specRangeAddNil (ps : List PeakV) (hps : ps = []) (h : HeadV) (w : World) (hp : h.prev.size ≤ maxLen) (hr : h.root.size ≤ maxLen) :
    Calls Tryz.prog 6 #[.slice none 0 0, headVal h] w fun e w' => AddPost w.heap.size ps h e w' ∧ Below w.heap.size w w' := by
  obtain ⟨i0, hi, hz0, hz1, hz2⟩ := info3 infoPeak
  have HPS : Hid (ps = []) := hps
  have hr0 : rangeOkB ps = true := by rw [hps]; rfl
  have hok := fun (w' : World) (hb : Below w.heap.size w w') => specL5OkNil w'
  have hho := fun w' => specL3Ok h w' hp hr
  have HBAD : Hid (∀ e w', (rangeOkB ps && headOkB h) = false → e = .returned (.tuple #[.slice none 0 0, .bool false]) → AddPost w.heap.size ps h e w') := fun e w' h1 h2 => .inl ⟨h1, h2⟩
  have HGOOD : Hid (∀ e w' v, rangeOkB ps = true → headOkB h = true → e = .returned (.tuple #[v, .bool (rangeOkB (addP ps (leafP h)))]) → PRow w.heap.size v (if rangeOkB (addP ps (leafP h)) then addP ps (leafP h) else ps) w' → AddPost w.heap.size ps h e w') := fun e w' v h1 h2 h3 h4 => .inr ⟨by rw [h1, h2]; rfl, v, h3, h4⟩
  generalize AddPost w.heap.size ps h = Q at HBAD HGOOD ⊢
  have HZ : Hid (∀ i, i < ps.length → (ps.getD i default).sum.size ≤ maxLen) := fun i hi => absurd hi (by rw [hps]; exact Nat.not_lt_zero _)
  clear hps hp hr
  unfold headVal
  have C0 : Hid (CBk (w.alloc (.cells #[.string h.prev, .string h.root, .int .i64 h.time, .int .i64 h.diff, .int .i64 h.nonce] 25)) w.heap.size 25 #[.string h.prev, .string h.root, .int .i64 h.time, .int .i64 h.diff, .int .i64 h.nonce]) := CBk.new w _ _
  have B0 : Hid (Below w.heap.size w (w.alloc (.cells #[.string h.prev, .string h.root, .int .i64 h.time, .int .i64 h.diff, .int .i64 h.nonce] 25))) := (Below.refl _ w).alloc (Nat.le_refl _) _
  have h0 := hok _ B0.out
  clear hok
  go_enter Tryz.func6, Tryz.ntmps6
  go_wp2_with fail
  generalize w.alloc (.cells #[.string h.prev, .string h.root, .int .i64 h.time, .int .i64 h.diff, .int .i64 h.nonce] 25) = W0 at C0 B0 h0 ⊢
  obtain ⟨g0, hg0⟩ : ∃ g0, g0 = w.heap.size := ⟨_, rfl⟩
  have HG0 : Hid (g0 = w.heap.size) := hg0
  have C0 : Hid (CBk W0 g0 25 #[.string h.prev, .string h.root, .int .i64 h.time, .int .i64 h.diff, .int .i64 h.nonce]) := by rw [hg0]; exact C0.out
  rw [show (w.heap.size) = g0 from hg0.symm]
  clear hg0
  have HRK : Hid (rangeOkB ps = true) := hr0
  clear hr0
  refine Calls.mono h0 ?_
  rintro e w1 ⟨rfl, b1⟩
  have C1 : Hid (CBk w1 g0 25 #[.string h.prev, .string h.root, .int .i64 h.time, .int .i64 h.diff, .int .i64 h.nonce]) := C0.out.call b1
  have B1 : Hid (Below w.heap.size w w1) := B0.out.trans (b1.mono B0.out.size)
  clear C0 B0 b1 h0
  obtain ⟨e0, e1, e2, e3, e4⟩ := C1.out.cells5
  cases hhk : headOkB h with
  | false =>
    have HV : Hid (∀ e w', e = .returned (.tuple #[.slice none 0 0, .bool false]) → Q e w') := fun e w' he => HBAD.out e w' (by rw [hhk, HRK.out]; rfl) he
    rw [hhk] at hho
    clear HBAD HGOOD hhk
    go_wp2_with fail
    refine (hho _).mono ?_
    rintro e w2 ⟨rfl, b2⟩
    go_wp2_with fail
    go_ret2
    have h9 := HV.out
    refine ⟨h9 _ _ ?_, B1.out.trans (b2.mono B1.out.size)⟩
    rfl
  | true =>
  have HHK : Hid (headOkB h = true) := hhk
  rw [hhk] at hho
  clear hhk HBAD
  go_wp2_with fail
  refine (hho _).mono ?_
  rintro e w2 ⟨rfl, b2⟩
  have C2 : Hid (CBk w2 g0 25 #[.string h.prev, .string h.root, .int .i64 h.time, .int .i64 h.diff, .int .i64 h.nonce]) := C1.out.call b2
  have B2 : Hid (Below w.heap.size w w2) := B1.out.trans (b2.mono B1.out.size)
  clear C1 B1 b2 hho e0 e1 e2 e3 e4
  obtain ⟨e0, e1, e2, e3, e4⟩ := C2.out.cells5
  have hlf := fun w' => specL5Leaf h w' HHK.out
  unfold headVal at hlf
  have HLK : Hid (peakOkB (leafP h) = true) := fine_ok (fine_leaf HHK.out) (by show (1 : Int) ≤ 20; decide)
  have HRT : Hid (rangeOkB (addP ps (leafP h)) = true) := by
    show _ = _
    rw [HPS.out, addP_nil]
    exact leaf_range HLK.out rfl
  generalize leafP h = p at hlf HLK HRT HGOOD
  go_wp2_with fail
  refine (hlf _).mono ?_
  rintro e w3 ⟨rfl, b3⟩
  have B3 : Hid (Below w.heap.size w w3) := B2.out.trans (b3.mono B2.out.size)
  have had := specL5AddNil p w3
  rw [← HPS.out] at had
  unfold peakVal at had
  unfold peakVal
  have HLN : Hid ((addP ps p).length ≤ 1048576) := by
    have h1 := addP_len ps p
    have h2 := range_len HRK.out
    show _ ≤ _
    omega
  have HSZ : Hid (∀ i, i < (addP ps p).length → ((addP ps p).getD i default).sum.size ≤ maxLen) := by
    intro i hi
    refine getD_all (C := fun q => q.sum.size ≤ maxLen) (addP_all (fun a b => ?_) (fun q hq => ?_) ?_) i hi
    · show (bothP a b).sum.size ≤ maxLen
      rw [sum_size (isSum_both a b)]
      decide
    · obtain ⟨j, hj, rfl⟩ := List.mem_iff_getElem.1 hq
      have := HZ.out j hj
      rwa [List.getD_eq_getElem?_getD, List.getElem?_eq_getElem hj] at this
    · have := HLK.out
      simp only [peakOkB, Bool.and_eq_true] at this
      rw [sum_size this.1]
      decide
  generalize addP ps p = A at had HLN HSZ HRT HGOOD
  clear b3 C2 B2 hlf e0 e1 e2 e3 e4
  go_wp2_with fail
  refine had.mono ?_
  rintro e w4 ⟨v, rfl, R4, b4⟩
  have B4 : Hid (Below w.heap.size w w4) := B3.out.trans (b4.mono B3.out.size)
  have R4 : Hid (PRow w.heap.size v A w4) := R4.mono B3.out.size
  clear had b4 B3
  obtain ⟨⟨g4, c4, rfl⟩, -⟩ := id R4.out
  have hok4 := specL5Ok g4 A.length c4 A w4 (FRow.at pEnc_len R4.out).1 rfl (by have := HLN.out; omega) HSZ.out
  go_wp2_with fail
  have hra := HRT.out
  have HV : Hid (∀ e w', e = .returned (.tuple #[.slice (some ⟨g4, 0, none⟩) A.length c4, .bool true]) → PRow w.heap.size (.slice (some ⟨g4, 0, none⟩) A.length c4) A w' → Q e w') := fun e w' he hR => HGOOD.out e w' _ HRK.out HHK.out (by rw [hra]; exact he) (by rw [hra]; exact hR)
  rw [hra] at hok4
  clear hra HRT HGOOD
  refine hok4.mono ?_
  rintro e w5 ⟨rfl, b5⟩
  have R5 : Hid (PRow w.heap.size (.slice (some ⟨g4, 0, none⟩) A.length c4) A w5) := R4.out.below b5
  have B5 : Hid (Below w.heap.size w w5) := B4.out.trans (b5.mono B4.out.size)
  clear R4 B4 b5 hok4
  go_wp2_with fail
  go_ret2
  have h9 := HV.out
  refine ⟨h9 _ _ ?_ R5.out, B5.out⟩
  rfl

end Go.Proofs.YtplldapkcljllaaGreatDoor

set_option linter.unusedVariables false
namespace Go.Proofs.YtplldapkcljllaaGreatDoor
open Go.RowKit Go.Deep

structure BlkV where
  h : HeadV
  g : Nat
  n : Nat
  cap : Nat
  ss : List ByteArray
instance : Inhabited BlkV := ⟨⟨default, 0, 0, 0, []⟩⟩
def enBlk (b : BlkV) : List Value := [.string b.h.prev, .string b.h.root, .int .i64 b.h.time, .int .i64 b.h.diff, .int .i64 b.h.nonce, .slice (some ⟨b.g, 0, none⟩) b.n b.cap]
theorem enBlk_len (b : BlkV) : (enBlk b).length = 6 := rfl
abbrev AtBlk (w : World) (g : Nat) (l : List BlkV) : Prop := AtF enBlk 6 w g l
/-- The items of a block in memory. -/
def ItemsAt (w : World) (b : BlkV) : Prop := AtS w b.g b.ss ∧ b.n = b.ss.length
theorem AtBlk.c0 {w : World} {g : Nat} {l : List BlkV} (h : AtBlk w g l) (i : Nat) (hi : i < l.length) : w.cell? ⟨g, i * 6, none⟩ = some (.string (l.getD i default).h.prev) := h.2 i 0 hi (by decide)
theorem AtBlk.c1 {w : World} {g : Nat} {l : List BlkV} (h : AtBlk w g l) (i : Nat) (hi : i < l.length) : w.cell? ⟨g, i * 6 + 1, none⟩ = some (.string (l.getD i default).h.root) := h.2 i 1 hi (by decide)
theorem AtBlk.c2 {w : World} {g : Nat} {l : List BlkV} (h : AtBlk w g l) (i : Nat) (hi : i < l.length) : w.cell? ⟨g, i * 6 + 2, none⟩ = some (.int .i64 (l.getD i default).h.time) := h.2 i 2 hi (by decide)
theorem AtBlk.c3 {w : World} {g : Nat} {l : List BlkV} (h : AtBlk w g l) (i : Nat) (hi : i < l.length) : w.cell? ⟨g, i * 6 + 3, none⟩ = some (.int .i64 (l.getD i default).h.diff) := h.2 i 3 hi (by decide)
theorem AtBlk.c4 {w : World} {g : Nat} {l : List BlkV} (h : AtBlk w g l) (i : Nat) (hi : i < l.length) : w.cell? ⟨g, i * 6 + 4, none⟩ = some (.int .i64 (l.getD i default).h.nonce) := h.2 i 4 hi (by decide)
theorem AtBlk.c5 {w : World} {g : Nat} {l : List BlkV} (h : AtBlk w g l) (i : Nat) (hi : i < l.length) : w.cell? ⟨g, i * 6 + 5, none⟩ = some (.slice (some ⟨(l.getD i default).g, 0, none⟩) (l.getD i default).n (l.getD i default).cap) := h.2 i 5 hi (by decide)
abbrev HRow (B : Nat) (v : Value) (l : List HeadV) (w : World) : Prop := FRow enHead 25 5 B v l w
abbrev BRow (B : Nat) (v : Value) (l : List BlkV) (w : World) : Prop := FRow enBlk 94 6 B v l w
theorem getD_map {l : List BlkV} {i : Nat} (h : i < l.length) : (l.map (·.h)).getD i default = (l.getD i default).h := by
  simp [List.getElem?_eq_getElem h]
theorem take_map {l : List BlkV} {k : Nat} (hk : k < l.length) : (l.take (k + 1)).map (·.h) = (l.take k).map (·.h) ++ [(l.getD k default).h] := by
  rw [List.take_add_one, List.getElem?_eq_getElem hk, List.map_append]
  simp [List.getElem?_eq_getElem hk]
theorem enHead_one (h : HeadV) : ∀ u ∈ enHead h, u.oneCell' = true := by
  intro u hu
  simp only [enHead, List.mem_cons, List.not_mem_nil, or_false] at hu
  rcases hu with rfl | rfl | rfl | rfl | rfl <;> rfl
theorem enBlk_one (b : BlkV) : ∀ u ∈ enBlk b, u.oneCell' = true := by
  intro u hu
  simp only [enBlk, List.mem_cons, List.not_mem_nil, or_false] at hu
  rcases hu with rfl | rfl | rfl | rfl | rfl | rfl <;> rfl

set_option maxHeartbeats 2000000 in
set_option maxRecDepth 100000 in
theorem specL4Heads (g n cap : Nat) (bs : List BlkV) (w : World) (h : AtBlk w g bs) (hn : n = bs.length) (hm : n ≤ 1048576) :
    Calls Tryz.prog 45 #[.slice (some ⟨g, 0, none⟩) n cap] w fun e w' => ∃ v, e = .returned v ∧ HRow w.heap.size v (bs.map (·.h)) w' ∧ Below w.heap.size w w' := by
  obtain ⟨i0, hi, hz0, hz1, hz2⟩ := info3 infoHead
  have HA : Hid (AtBlk w g bs) := h
  have HN : Hid (n = bs.length) := hn
  have HE : Hid (bs.map (·.h) = (bs.take n).map (·.h)) := by show _ = _; rw [hn, List.take_length]
  have R0 : Hid (HRow w.heap.size (.slice (some ⟨w.heap.size, 0, none⟩) 0 0) [] (w.alloc (.cells #[] 25))) := frow_new _ _ _ w
  have B0 : Hid (Below w.heap.size w (w.alloc (.cells #[] 25))) := (Below.refl _ w).alloc (Nat.le_refl _) _
  clear h hn
  go_enter Tryz.func45, Tryz.ntmps45
  go_wp2_with fail
  go_loopw [3, 4] (fun v i wr => ∃ k g2 c2 : Nat, k ≤ n ∧ i = .int .i64 (k : Int) ∧ v = .slice (some ⟨g2, 0, none⟩) k c2 ∧ Hid (HRow w.heap.size v ((bs.take k).map (·.h)) wr) ∧ Hid (Below w.heap.size w wr)) (fun _ i _ => n - (intOf i).toNat)
  case atStart => exact ⟨0, w.heap.size, 0, by omega, rfl, rfl, R0, B0⟩
  case round =>
    clear R0 B0
    obtain ⟨k, g2, c2, hk, rfl, rfl, R, HB⟩ := hrel
    by_cases hlt : k < n
    · have hkl : k < bs.length := by rw [← HN.out]; exact hlt
      have HAr : Hid (AtBlk wr g bs) := HA.out.below HB.out HA.out.1
      have q0 := AtBlk.c0 HAr.out k hkl
      have q1 := AtBlk.c1 HAr.out k hkl
      have q2 := AtBlk.c2 HAr.out k hkl
      have q3 := AtBlk.c3 HAr.out k hkl
      have q4 := AtBlk.c4 HAr.out k hkl
      have lk : (k : Int) < (n : Int) := by omega
      have lk0 : (0 : Int) ≤ (k : Int) := by omega
      have wk : IntKind.i64.wrap ((k : Int) + 1) = (k : Int) + 1 := by rw [IntKind.wrap_i64]; omega
      have HK : Hid (k + 1 ≤ n) := hlt
      have HL : Hid ((bs.take k).length = k) := by show _ = _; rw [List.length_take]; omega
      have HT : Hid ((bs.take (k + 1)).map (·.h) = (bs.take k).map (·.h) ++ [(bs.getD k default).h]) := take_map hkl
      have HOW : Hid (wr.ownsRow w.heap.size 25 5 (.slice (some ⟨g2, 0, none⟩) k c2) k (((bs.take k).map (·.h)).flatMap enHead)) := by
        have := R.out.2
        rw [List.length_map, HL.out] at this
        exact this
      have hsz := HB.out.size
      generalize (bs.getD k default).h = p at q0 q1 q2 q3 q4 HT
      have hu := enHead_one p
      have hx1 : k + 1 ≤ maxLen := by unfold maxLen; omega
      have hx2 : (k + 1) * 56 ≤ 140737488355328 := by omega
      clear hkl R
      go_wp2_with (at_builtin; refine wp_appN rfl _ _ 57 rfl w.heap.size 25 i0 (.agg #[.string ⟨#[]⟩, .string ⟨#[]⟩, .int .i64 0, .int .i64 0, .int .i64 0]) 5 56 1 Tryz.underlying57 hi hz0 hz1 hz2 rfl (by decide) (by decide) _ _ _ rfl HOW.out (enHead p) rfl rfl hu hx1 hx2 hsz ?_; intro g4 c4 w4 hown4 hb4 hkeep4)
      have R4 : Hid (HRow w.heap.size (.slice (some ⟨g4, 0, none⟩) (k + 1) c4) ((bs.take (k + 1)).map (·.h)) w4) := by
        refine FRow.of ?_ ?_
        · rw [HT.out, List.flatMap_append]
          simpa using hown4
        · rw [HT.out, List.length_append, List.length_map, HL.out]; rfl
      have B4 : Hid (Below w.heap.size w w4) := HB.out.trans hb4
      clear hown4 hb4 hkeep4
      go_wp2_with fail
      go_roundw
      case rel => exact ⟨k + 1, g4, c4, HK.out, by go_num, rfl, R4, B4⟩
      case measure => have := HK.out; simp [intOf]; omega
    · obtain rfl : k = n := by omega
      go_wp2_with fail
      go_ret
      exact ⟨_, rfl, by rw [HE.out]; exact R.out, HB.out⟩

end Go.Proofs.YtplldapkcljllaaGreatDoor

set_option linter.unusedVariables false
namespace Go.Proofs.YtplldapkcljllaaGreatDoor
open Go.RowKit

def bsum (t : List UInt8) : ByteArray := ⟨(sumB t).toArray⟩
theorem bsum_size (t : List UInt8) : (bsum t).size = 16 := by simp [bsum, ByteArray.size, sumB, hexOf]
def rootItemB (s : ByteArray) : ByteArray := bsum ([105, 116, 101, 109, 32] ++ s.data.toList)
def bothB (a b : ByteArray) : ByteArray := bsum ([98, 111, 116, 104, 32] ++ a.data.toList ++ [32] ++ b.data.toList)
def upR : List ByteArray → List ByteArray
  | a :: b :: r => bothB a b :: upR r
  | l => l
theorem upR_append : ∀ (l m : List ByteArray), l.length % 2 = 0 → upR (l ++ m) = upR l ++ upR m
  | [], m, _ => by simp [upR]
  | [a], m, h => by simp at h
  | a :: b :: r, m, h => by
    have ih := upR_append r m (by simp at h; omega)
    simp [upR, ih]
theorem upR_short {l : List ByteArray} (h : l.length ≤ 1) : upR l = l := by
  match l, h with
  | [], _ => rfl
  | [a], _ => rfl
theorem upR_length : ∀ l : List ByteArray, (upR l).length = (l.length + 1) / 2
  | [] => by simp [upR]
  | [a] => by simp [upR]
  | a :: b :: r => by
    have := upR_length r
    simp [upR, this]
    omega
theorem upR_16 : ∀ l : List ByteArray, (∀ s ∈ l, s.size = 16) → ∀ s ∈ upR l, s.size = 16
  | [], _ => by simp [upR]
  | [a], h => by simpa [upR] using h
  | a :: b :: r, h => by
    intro s hs
    rcases List.mem_cons.1 hs with rfl | hs
    · exact bsum_size _
    · exact upR_16 r (fun x hx => h x (by simp [hx])) s hs
theorem take_two (l : List ByteArray) (k : Nat) (hk : k + 1 < l.length) (he : k % 2 = 0) : upR (l.take (k + 2)) = upR (l.take k) ++ [bothB (l.getD k ByteArray.empty) (l.getD (k + 1) ByteArray.empty)] := by
  have e : l.take (k + 2) = l.take k ++ [l.getD k ByteArray.empty, l.getD (k + 1) ByteArray.empty] := by
    rw [show k + 2 = (k + 1) + 1 from rfl, List.take_add_one, List.take_add_one, List.getElem?_eq_getElem (by omega), List.getElem?_eq_getElem hk, List.append_assoc]
    simp [List.getElem?_eq_getElem hk, List.getElem?_eq_getElem (show k < l.length by omega)]
  rw [e, upR_append _ _ (by simp; omega)]
  rfl
theorem take_last (l : List ByteArray) (k : Nat) (hk : k + 1 = l.length) (he : k % 2 = 0) : upR l = upR (l.take k) ++ [l.getD k ByteArray.empty] := by
  have e : l = l.take k ++ [l.getD k ByteArray.empty] := by
    conv => lhs; rw [← List.take_append_drop k l]
    congr 1
    rw [List.drop_eq_getElem_cons (by omega), List.drop_eq_nil_of_le (by omega)]
    simp [List.getElem?_eq_getElem (show k < l.length by omega)]
  conv => lhs; rw [e]
  rw [upR_append _ _ (by simp; omega)]
  rfl
theorem take_rest (l : List ByteArray) (k : Nat) (hk : l.length ≤ k + 1) (he : k % 2 = 0) (hkl : k ≤ l.length) : upR l = upR (l.take k) ++ l.drop k := by
  conv => lhs; rw [← List.take_append_drop k l]
  rw [upR_append _ _ (by simp; omega), upR_short (l := l.drop k) (by simp; omega)]
def topR : Nat → List ByteArray → List ByteArray
  | 0, r => r
  | f + 1, r => if r.length ≤ 1 then r else topR f (upR r)
theorem topR_done (f : Nat) {r : List ByteArray} (h : r.length ≤ 1) : topR f r = r := by
  cases f with
  | zero => rfl
  | succ f => simp [topR, h]
theorem topR_step (f : Nat) {r : List ByteArray} (h : ¬ r.length ≤ 1) (hf : r.length ≤ f) : topR f r = topR (f - 1) (upR r) := by
  cases f with
  | zero => omega
  | succ f => simp [topR, h]
theorem topR_more (f g : Nat) : ∀ (r : List ByteArray), r.length ≤ f → r.length ≤ g → topR f r = topR g r := by
  induction f generalizing g with
  | zero => intro r hf hg; rw [topR_done 0 (by omega), topR_done g (by omega)]
  | succ f ih =>
    intro r hf hg
    by_cases h : r.length ≤ 1
    · rw [topR_done _ h, topR_done _ h]
    · rw [topR_step _ h hf, topR_step _ h hg]
      have := upR_length r
      exact ih _ _ (by omega) (by omega)
theorem topR_up {r : List ByteArray} (h : ¬ r.length ≤ 1) : topR r.length r = topR (upR r).length (upR r) := by
  rw [topR_step _ h (Nat.le_refl _)]
  have := upR_length r
  exact topR_more _ _ _ (by omega) (Nat.le_refl _)
/-- What a row comes to. -/
def rootR (r : List ByteArray) : ByteArray := (topR r.length r).getD 0 ByteArray.empty
theorem rootR_up {r : List ByteArray} (h : ¬ r.length ≤ 1) : rootR r = rootR (upR r) := by rw [rootR, topR_up h]; rfl
theorem rootR_one {r : List ByteArray} (h : r.length ≤ 1) : rootR r = r.getD 0 ByteArray.empty := by rw [rootR, topR_done _ h]

end Go.Proofs.YtplldapkcljllaaGreatDoor

set_option linter.unusedVariables false
namespace Go.Proofs.YtplldapkcljllaaGreatDoor
open Go.RowKit

set_option maxHeartbeats 1000000 in
set_option maxRecDepth 100000 in
theorem specRow (g n cap : Nat) (ss : List ByteArray) (w : World) (h : AtS w g ss) (hn : n = ss.length) (hm : n ≤ 1000000) (hs : ∀ i, i < ss.length → (ss.getD i ByteArray.empty).size ≤ 1048576) :
    Calls Tryz.prog 107 #[.slice (some ⟨g, 0, none⟩) n cap] w fun e w' => ∃ v, e = .returned v ∧ SRow w.heap.size v (ss.map rootItemB) w' ∧ Below w.heap.size w w' := by
  obtain ⟨i0, hi, hz0, hz1, hz2⟩ := info_parts infoStr
  have HA : Hid (AtS w g ss) := h
  have HN : Hid (n = ss.length) := hn
  have HS : Hid (∀ i, i < ss.length → (ss.getD i ByteArray.empty).size ≤ 1048576) := hs
  clear h hn hs
  go_enter Tryz.func107, Tryz.ntmps107
  go_wp2_with fail
  have HW0 : Hid (SRow w.heap.size (.slice (some ⟨w.heap.size, 0, none⟩) 0 0) ((ss.take 0).map rootItemB) (w.alloc (.cells #[] 9))) := srow_new w
  have HB0 : Hid (Below w.heap.size w (w.alloc (.cells #[] 9))) := (Below.refl _ w).alloc (Nat.le_refl _) _
  go_loopw [3, 4] (fun v i wr => ∃ k : Nat, k ≤ n ∧ i = .int .i64 (k : Int) ∧ Hid (SRow w.heap.size v ((ss.take k).map rootItemB) wr) ∧ Hid (Below w.heap.size w wr)) (fun _ i _ => n - (intOf i).toNat)
  case atStart => exact ⟨0, by omega, rfl, HW0, HB0⟩
  case round =>
    clear HW0 HB0
    obtain ⟨k, hk, rfl, HR, HB⟩ := hrel
    obtain ⟨⟨g3, c3, rfl⟩, hrow⟩ := HR.out
    by_cases hlt : k < n
    · have hkl : k < ss.length := by rw [← HN.out]; exact hlt
      have hc : wr.cell? ⟨g, k, none⟩ = some (.string (ss.getD k ByteArray.empty)) := by
        rw [HB.out.cell (p := ⟨g, k, none⟩) HA.out.1]
        exact HA.out.2 k hkl
      have hsz := HS.out k hkl
      obtain ⟨z, hz⟩ : ∃ z, z = ss.getD k ByteArray.empty := ⟨_, rfl⟩
      rw [← hz] at hc hsz
      have HE : Hid ((ss.take (k + 1)).map rootItemB = (ss.take k).map rootItemB ++ [rootItemB z]) := by
        show _ = _
        rw [List.take_add_one, List.getElem?_eq_getElem hkl, List.map_append, hz, List.getD_eq_getElem?_getD, List.getElem?_eq_getElem hkl]
        rfl
      have hlen : ((ss.take k).map rootItemB).length = k := by simp; omega
      rw [hlen] at hrow ⊢
      have HRW : Hid (wr.ownsRow w.heap.size 9 1 (.slice (some ⟨g3, 0, none⟩) k c3) k (((ss.take k).map rootItemB).map Value.string)) := hrow
      have HLN : Hid (((ss.take k).map rootItemB).length = k) := hlen
      have HK : Hid (k + 1 ≤ n) := hlt
      have lk : (k : Int) < (n : Int) := by omega
      have hsum := specSum ((⟨#[105, 116, 101, 109, 32]⟩ : ByteArray) ++ z) wr (by
        simp only [ByteArray.size_append]
        have e1 : (⟨#[105, 116, 101, 109, 32]⟩ : ByteArray).size = 5 := rfl
        omega)
      have et : ((⟨#[105, 116, 101, 109, 32]⟩ : ByteArray) ++ z).data.toList = [105, 116, 101, 109, 32] ++ z.data.toList := by simp
      rw [et] at hsum
      have er : (⟨(sumB ([105, 116, 101, 109, 32] ++ z.data.toList)).toArray⟩ : ByteArray) = rootItemB z := rfl
      rw [er] at hsum
      generalize rootItemB z = rz at hsum HE
      clear hz hrow hlen hkl et er
      have hx1 : k + 1 ≤ maxLen := by unfold maxLen; omega
      have hx2 : (k + 1) * 16 ≤ 140737488355328 := by omega
      go_wp2_with fail
      refine hsum.mono ?_
      rintro e w1 ⟨rfl, b1⟩
      have HRW1 : Hid (w1.ownsRow w.heap.size 9 1 (.slice (some ⟨g3, 0, none⟩) k c3) k (((ss.take k).map rootItemB).map Value.string)) := by
        refine World.ownsRow.kept HRW.out ⟨b1.os, b1.tape, b1.output, b1.size, fun j hj _ => b1.block j hj⟩ (.inr (fun e => by cases e)) (row := none)
      have HB1 : Hid (Below w.heap.size w w1) := HB.out.trans (b1.mono HB.out.size)
      have hsz1 := HB1.out.size
      clear b1 hsum
      go_wp2_with (at_builtin; refine wp_app1 rfl _ _ 77 rfl w.heap.size 9 i0 (.string ⟨#[]⟩) 16 Tryz.underlying77 hi hz0 hz1 hz2 rfl _ _ _ rfl HRW1.out (.string rz) rfl rfl hx1 hx2 hsz1 ?_; intro g4 c4 w4 hown4 hb4 _)
      go_roundw
      case rel =>
        refine ⟨k + 1, HK.out, by go_num, ⟨⟨g4, c4, ?_⟩, ?_⟩, HB1.out.trans hb4⟩
        · rw [HE.out, List.length_append, HLN.out]; rfl
        · rw [HE.out, List.length_append, HLN.out, List.map_append]; exact hown4
      case measure => have := HK.out; simp [intOf]; omega
    · have HE : Hid ((ss.take k).map rootItemB = ss.map rootItemB) := by
        show _ = _
        rw [List.take_of_length_le (by rw [← HN.out]; omega)]
      clear hrow
      go_wp2_with fail
      go_ret
      refine ⟨_, rfl, ?_, HB.out⟩
      have := HR.out
      rw [HE.out] at this ⊢
      exact this

end Go.Proofs.YtplldapkcljllaaGreatDoor

set_option linter.unusedVariables false
namespace Go.Proofs.YtplldapkcljllaaGreatDoor
open Go.RowKit

def sliceLen2 : Value → Nat
  | .slice _ n _ => n
  | _ => 0
theorem row_below {B n : Nat} {e : TypeId} {v : Value} {xs : List Value} {w w1 : World} (h : w.ownsRow B e 1 v n xs) (b1 : Below w.heap.size w w1) : w1.ownsRow B e 1 v n xs := by
  refine ⟨h.1, ?_⟩
  rcases h.2 with h2 | ⟨g, cap, cur, hv, h2, h3, h4⟩
  · exact .inl h2
  · exact .inr ⟨g, cap, cur, hv, h2, by rw [b1.block g (Array.getElem?_eq_some_iff.1 h3).1]; exact h3, h4⟩
theorem bothSum (a b : ByteArray) (w : World) (ha : a.size = 16) (hb : b.size = 16) :
    Calls Tryz.prog 39 #[.string ((⟨#[98, 111, 116, 104, 32]⟩ : ByteArray) ++ a ++ (⟨#[32]⟩ : ByteArray) ++ b)] w fun e w' => e = .returned (.string (bothB a b)) ∧ Below w.heap.size w w' := by
  have hsum := specSum ((⟨#[98, 111, 116, 104, 32]⟩ : ByteArray) ++ a ++ (⟨#[32]⟩ : ByteArray) ++ b) w (by
    simp only [ByteArray.size_append]
    have e1 : (⟨#[98, 111, 116, 104, 32]⟩ : ByteArray).size = 5 := rfl
    have e2 : (⟨#[32]⟩ : ByteArray).size = 1 := rfl
    omega)
  have et : ((⟨#[98, 111, 116, 104, 32]⟩ : ByteArray) ++ a ++ (⟨#[32]⟩ : ByteArray) ++ b).data.toList = [98, 111, 116, 104, 32] ++ a.data.toList ++ [32] ++ b.data.toList := by simp
  rw [et] at hsum
  exact hsum

set_option maxHeartbeats 4000000 in
set_option maxRecDepth 100000 in
theorem specUp (g n cap : Nat) (ss : List ByteArray) (w : World) (h : AtS w g ss) (hn : n = ss.length) (hm : n ≤ 1000000) (hs : ∀ s ∈ ss, s.size = 16) :
    Calls Tryz.prog 108 #[.slice (some ⟨g, 0, none⟩) n cap] w fun e w' => ∃ v, e = .returned v ∧ SRow w.heap.size v (upR ss) w' ∧ Below w.heap.size w w' := by
  obtain ⟨i0, hi, hz0, hz1, hz2⟩ := info_parts infoStr
  have HA : Hid (AtS w g ss) := h
  have HN : Hid (n = ss.length) := hn
  have HS : Hid (∀ i, i < ss.length → (ss.getD i ByteArray.empty).size = 16) := by
    intro i hi
    refine hs _ ?_
    simp [List.getElem?_eq_getElem hi]
  clear h hn hs
  go_enter Tryz.func108, Tryz.ntmps108
  go_wp2_with fail
  have HW0 : Hid (SRow w.heap.size (.slice (some ⟨w.heap.size, 0, none⟩) 0 0) (upR (ss.take 0)) (w.alloc (.cells #[] 9))) := srow_new w
  have HB0 : Hid (Below w.heap.size w (w.alloc (.cells #[] 9))) := (Below.refl _ w).alloc (Nat.le_refl _) _
  go_loopw [3, 4] (fun v i wr => ∃ k : Nat, k ≤ n + 1 ∧ i = .int .i64 (k : Int) ∧ Hid (k % 2 = 0) ∧ Hid (SRow w.heap.size v (upR (ss.take k)) wr) ∧ Hid (Below w.heap.size w wr)) (fun _ i _ => n + 2 - (intOf i).toNat)
  case atStart => exact ⟨0, by omega, rfl, rfl, HW0, HB0⟩
  case round =>
    clear HW0 HB0
    obtain ⟨k, hk, rfl, HE2, HR, HB⟩ := hrel
    obtain ⟨⟨g3, c3, rfl⟩, hrow⟩ := HR.out
    obtain ⟨ml, hml⟩ : ∃ ml, ml = (upR (ss.take k)).length := ⟨_, rfl⟩
    have hmk : ml ≤ k := by
      rw [hml, upR_length]
      simp
      omega
    rw [← hml] at hrow ⊢
    have HML : Hid (ml = (upR (ss.take k)).length) := hml
    have HRW : Hid (wr.ownsRow w.heap.size 9 1 (.slice (some ⟨g3, 0, none⟩) ml c3) ml ((upR (ss.take k)).map Value.string)) := hrow
    clear hml hrow
    have hx1 : ml + 1 ≤ maxLen := by unfold maxLen; omega
    have hx2 : (ml + 1) * 16 ≤ 140737488355328 := by omega
    have hszr := HB.out.size
    by_cases hlt : k < n
    · have hkl : k < ss.length := by rw [← HN.out]; exact hlt
      have hc : wr.cell? ⟨g, k, none⟩ = some (.string (ss.getD k ByteArray.empty)) := by
        rw [HB.out.cell (p := ⟨g, k, none⟩) HA.out.1]
        exact HA.out.2 k hkl
      have lk : (k : Int) < (n : Int) := by omega
      by_cases hlt2 : k + 1 < n
      · have hkl2 : k + 1 < ss.length := by rw [← HN.out]; exact hlt2
        have hc2 : wr.cell? ⟨g, k + 1, none⟩ = some (.string (ss.getD (k + 1) ByteArray.empty)) := by
          rw [HB.out.cell (p := ⟨g, k + 1, none⟩) HA.out.1]
          exact HA.out.2 (k + 1) hkl2
        have hs1 := HS.out k hkl
        have hs2 := HS.out (k + 1) hkl2
        have HE : Hid (upR (ss.take (k + 2)) = upR (ss.take k) ++ [bothB (ss.getD k ByteArray.empty) (ss.getD (k + 1) ByteArray.empty)]) := take_two ss k hkl2 HE2.out
        generalize ss.getD k ByteArray.empty = a at hc hs1 HE
        generalize ss.getD (k + 1) ByteArray.empty = b at hc2 hs2 HE
        have lk2 : (k : Int) + 1 < (n : Int) := by omega
        have HK : Hid (k + 2 ≤ n + 1) := by show _ ≤ _; omega
        have hw1 : IntKind.i64.wrap ((k : Int) + 1) = (k : Int) + 1 := by rw [IntKind.wrap_i64]; omega
        have l0 : (0 : Int) ≤ (k : Int) + 1 := by omega
        have l1 : (0 : Int) ≤ (k : Int) := by omega
        have hgw : g < wr.heap.size := Nat.lt_of_lt_of_le HA.out.1 hszr
        have hne : g ≠ g3 := by
          rcases HRW.out.2 with ⟨h2, _⟩ | ⟨g', cap', cur, hv, h2, _⟩
          · cases h2
          · simp only [Value.slice.injEq, Option.some.injEq, Addr.mk.injEq, and_true] at hv
            have := HA.out.1
            omega
        clear hkl hkl2
        go_wp2_with fail
        go_region_held3 (fun w' => w'.cell? ⟨g, k, none⟩ = some (.string a) ∧ w'.cell? ⟨g, k + 1, none⟩ = some (.string b)) (first | go_keep | (exact ⟨(b1.cell (p := ⟨g, k, none⟩) hgw).trans hc, (b1.cell (p := ⟨g, k + 1, none⟩) hgw).trans hc2⟩) | (have hfar : w4.heap[g]? = w1.heap[g]? := (hgrow4.block g (by simp; omega) (by simpa [Value.ownBlock] using hne)).trans (Below.heap_alloc _ _ _ (by omega)); exact ⟨(World.cell?_of_block (a := ⟨g, k, none⟩) hfar).trans ((b1.cell (p := ⟨g, k, none⟩) hgw).trans hc), (World.cell?_of_block (a := ⟨g, k + 1, none⟩) hfar).trans ((b1.cell (p := ⟨g, k + 1, none⟩) hgw).trans hc2)⟩))
          (first
            | (go_at_call 39; refine (bothSum a b _ hs1 hs2).mono ?_; rintro e w1 ⟨rfl, b0⟩; have b1 : Below wr.heap.size wr w1 := ((Below.refl wr.heap.size wr).drew).trans b0; have hb1s : wr.heap.size ≤ w1.heap.size := b1.size; clear b0)
            | ((refine step_append_lies _ (by rfl) _ _ 77 (by rfl) w.heap.size 9 i0 (.string ⟨#[]⟩) 1 16 Tryz.underlying77 hi hz0 hz1 hz2 rfl (by decide) _ ml _ (by rfl) (World.ownsRow.alloc (row_below HRW.out b1) _) ⟨w1.heap.size, 0, none⟩ 1 1 [.string (bothB a b)] (by rfl) rfl (cell_one_new _ _ _) (by simp [Value.oneCell']) (by decide) hx1 hx2 (by simp; omega) _ rfl ?_; intro g4 c4 w4 hown4 hgrow4 hat4 hlt4)))
        have hb4 : Below w.heap.size w w4 := ((HB.out.trans (b1.mono hszr)).alloc (by omega) _).grown hgrow4 (by simp; omega) (fun j hj => by
          rcases HRW.out.2 with ⟨h2, _⟩ | ⟨g', cap', cur, hv, h2, _⟩
          · cases h2
          · simp only [Value.slice.injEq, Option.some.injEq, Addr.mk.injEq, and_true] at hv
            have : g3 = j := by simpa [Value.ownBlock] using hj
            omega)
        have HR4 : Hid (SRow w.heap.size (.slice (some ⟨g4, 0, none⟩) (ml + 1) c4) (upR (ss.take (k + 2))) w4) := by
          refine ⟨⟨g4, c4, ?_⟩, ?_⟩
          · rw [HE.out, List.length_append, ← HML.out]; rfl
          · rw [HE.out, List.length_append, ← HML.out, List.map_append]; exact hown4
        clear hown4 hgrow4 hat4 hlt4 b1
        go_wp2_with fail
        go_roundw
        case rel => exact ⟨k + 2, HK.out, by go_num, by have := HE2.out; show _ = _; omega, HR4, hb4⟩
        case measure => have := HK.out; simp [intOf]; omega
      · have hkn : k + 1 = ss.length := by have := HN.out; omega
        have hs1 := HS.out k hkl
        have HE : Hid (upR ss = upR (ss.take k) ++ [ss.getD k ByteArray.empty]) := take_last ss k hkn HE2.out
        have HEE : Hid (ss.take (k + 2) = ss) := List.take_of_length_le (by omega)
        generalize ss.getD k ByteArray.empty = a at hc hs1 HE
        have lk2 : ¬ (k : Int) + 1 < (n : Int) := by omega
        have HK : Hid (k + 2 ≤ n + 1) := by show _ ≤ _; omega
        have l1 : (0 : Int) ≤ (k : Int) := by omega
        clear hkl hkn
        go_wp2_with (at_builtin; refine wp_app1 rfl _ _ 77 rfl w.heap.size 9 i0 (.string ⟨#[]⟩) 16 Tryz.underlying77 hi hz0 hz1 hz2 rfl _ _ _ rfl HRW.out (.string a) rfl rfl hx1 hx2 hszr ?_; intro g4 c4 w4 hown4 hb4 _)
        have HR4 : Hid (SRow w.heap.size (.slice (some ⟨g4, 0, none⟩) (ml + 1) c4) (upR (ss.take (k + 2))) w4) := by
          rw [HEE.out]
          refine ⟨⟨g4, c4, ?_⟩, ?_⟩
          · rw [HE.out, List.length_append, ← HML.out]; rfl
          · rw [HE.out, List.length_append, ← HML.out, List.map_append]; exact hown4
        clear hown4
        go_roundw
        case rel => exact ⟨k + 2, HK.out, by go_num, by have := HE2.out; show _ = _; omega, HR4, HB.out.trans hb4⟩
        case measure => have := HK.out; simp [intOf]; omega
    · have HE : Hid (upR (ss.take k) = upR ss) := by
        show _ = _
        rw [List.take_of_length_le (by rw [← HN.out]; omega)]
      go_wp2_with fail
      go_ret
      refine ⟨_, rfl, ?_, HB.out⟩
      have := HR.out
      rw [HML.out, HE.out]
      rw [HE.out] at this
      exact this


end Go.Proofs.YtplldapkcljllaaGreatDoor

set_option linter.unusedVariables false
namespace Go.Proofs.YtplldapkcljllaaGreatDoor
open Go.RowKit Go.Deep

theorem infoBlk : (Tryz.prog.info? 94).map (fun i => (i.zero, i.size, i.bytes)) = some (some (.agg #[.string ⟨#[]⟩, .string ⟨#[]⟩, .int .i64 0, .int .i64 0, .int .i64 0, .slice none 0 0]), 6, 80) := by kernel_rfl
/-- The items of some blocks, each in a block of its own at or above B, are in memory. -/
def OwnItems (B : Nat) (w : World) (bs : List BlkV) : Prop := ∀ b ∈ bs, ItemsAt w b ∧ B ≤ b.g
/-- The items' row of a block is the call's own. -/
def OwnIt (B : Nat) (w : World) (c : BlkV) : Prop := w.ownsRow B 9 1 (.slice (some ⟨c.g, 0, none⟩) c.n c.cap) c.n (c.ss.map Value.string)
theorem OwnIt.keep {B : Nat} {w w' : World} {c : BlkV} (h : OwnIt B w c) (hk : w'.heap[c.g]? = w.heap[c.g]?) : OwnIt B w' c := by
  obtain ⟨h1, h2⟩ := h
  refine ⟨h1, ?_⟩
  rcases h2 with ⟨h3, _⟩ | ⟨g', cap', cur, hv, hB, hg, h4⟩
  · cases h3
  · have e : c.g = g' := by simp only [Value.slice.injEq, Option.some.injEq, Addr.mk.injEq, and_true] at hv; exact hv.1
    exact .inr ⟨g', cap', cur, hv, hB, by rw [← e, hk, e]; exact hg, h4⟩
theorem OwnIt.mono {B C : Nat} {w : World} {c : BlkV} (h : OwnIt B w c) (hC : C ≤ B) : OwnIt C w c := by
  obtain ⟨h1, h2⟩ := h
  refine ⟨h1, ?_⟩
  rcases h2 with ⟨h3, _⟩ | ⟨g', cap', cur, hv, hB, h4⟩
  · cases h3
  · exact .inr ⟨g', cap', cur, hv, Nat.le_trans hC hB, h4⟩
theorem OwnIt.of {Z B g n c : Nat} {h : HeadV} {ss : List ByteArray} {w : World} (ho : w.ownsRow Z 9 1 (.slice (some ⟨g, 0, none⟩) (0 + n) c) (0 + n) ([] ++ ss.map Value.string)) (hB : B ≤ Z) : OwnIt B w ⟨h, g, n, c, ss⟩ := by
  rw [Nat.zero_add, List.nil_append] at ho
  exact OwnIt.mono (B := Z) (c := ⟨h, g, n, c, ss⟩) ho hB
/-- A list of blocks that the call itself has made: its row, its items, apart from each other. -/
structure BList (B : Nat) (v : Value) (cs : List BlkV) (w : World) : Prop where
  row : BRow B v cs w
  items : OwnItems B w cs
  apart : ∀ c ∈ cs, v.ownBlock ≠ some c.g
  own : ∀ c ∈ cs, OwnIt B w c
theorem BList.keep {B : Nat} {v : Value} {cs : List BlkV} {w w' : World} (h : BList B v cs w) (hs : w.heap.size ≤ w'.heap.size) (hk : ∀ g, B ≤ g → g < w.heap.size → w'.heap[g]? = w.heap[g]?) : BList B v cs w' :=
  ⟨h.row.keep hk, fun c hc => ⟨⟨⟨Nat.lt_of_lt_of_le (h.items c hc).1.1.1 hs, fun i hi => (World.cell?_of_block (a := ⟨c.g, i, none⟩) (hk c.g (h.items c hc).2 (h.items c hc).1.1.1)).trans ((h.items c hc).1.1.2 i hi)⟩, (h.items c hc).1.2⟩, (h.items c hc).2⟩, h.apart, fun c hc => (h.own c hc).keep (hk c.g (h.items c hc).2 (h.items c hc).1.1.1)⟩
theorem BList.below {B : Nat} {v : Value} {cs : List BlkV} {w w' : World} (h : BList B v cs w) (hb : Below w.heap.size w w') : BList B v cs w' := h.keep hb.size (fun g _ hg => hb.block g hg)
theorem BList.mono {B C : Nat} {v : Value} {cs : List BlkV} {w : World} (h : BList B v cs w) (hC : C ≤ B) : BList C v cs w := ⟨h.row.mono hC, fun c hc => ⟨(h.items c hc).1, Nat.le_trans hC (h.items c hc).2⟩, h.apart, fun c hc => (h.own c hc).mono hC⟩
/-- Two lists of blocks tell the same. -/
def SameBlks (bs cs : List BlkV) : Prop := cs.map (·.h) = bs.map (·.h) ∧ cs.map (·.ss) = bs.map (·.ss)

theorem atS_far {w w' : World} {g : Nat} {zs : List ByteArray} (h : AtS w g zs) (hk : w'.heap[g]? = w.heap[g]?) (hs : w.heap.size ≤ w'.heap.size) : AtS w' g zs :=
  ⟨Nat.lt_of_lt_of_le h.1 hs, fun i hi => (World.cell?_of_block (a := ⟨g, i, none⟩) hk).trans (h.2 i hi)⟩
theorem srow_of {B n g cap : Nat} {zs : List ByteArray} {w : World} (h : w.ownsRow B 9 1 (.slice (some ⟨g, 0, none⟩) n cap) n (zs.map Value.string)) (hn : n = zs.length) : SRow B (.slice (some ⟨g, 0, none⟩) n cap) zs w := by
  subst hn
  exact ⟨⟨g, cap, rfl⟩, h⟩

theorem AtS.news {w w' : World} {g : Nat} {ss : List ByteArray} (h : AtS w g ss) (hb : Below w.heap.size w w') : ∀ j u, (ss.map Value.string)[j]? = some u → w'.cell? ((⟨g, 0, none⟩ : Addr).add j) = some u := by
  intro j u hj
  have hjl : j < ss.length := by
    rcases Nat.lt_or_ge j ss.length with h' | h'
    · exact h'
    · rw [List.getElem?_eq_none (by simpa using h')] at hj; cases hj
  have e1 : (⟨g, 0, none⟩ : Addr).add j = ⟨g, j, none⟩ := by unfold Addr.add; split <;> simp_all
  rw [e1, hb.cell (p := ⟨g, j, none⟩) h.1]
  have e3 : u = .string (ss.getD j ByteArray.empty) := by
    rw [List.getElem?_map, List.getElem?_eq_getElem hjl] at hj
    rw [List.getD_eq_getElem?_getD, List.getElem?_eq_getElem hjl]
    exact (Option.some.inj hj).symm
  rw [e3]
  exact h.2 j hjl
theorem itemsOneCell (ss : List ByteArray) : ∀ u ∈ ss.map Value.string, u.oneCell' = true := by
  intro u hu
  obtain ⟨x, _, rfl⟩ := List.mem_map.1 hu
  rfl

set_option maxHeartbeats 4000000 in
set_option maxRecDepth 100000 in
theorem specL4Copy (g n cap : Nat) (bs : List BlkV) (w : World) (h : AtBlk w g bs) (hit : ∀ b ∈ bs, ItemsAt w b) (hn : n = bs.length) (hm : n ≤ 1048576) (hs : ∀ b ∈ bs, b.ss.length ≤ 1048576) :
    Calls Tryz.prog 101 #[.slice (some ⟨g, 0, none⟩) n cap] w fun e w' => ∃ v cs, e = .returned v ∧ BList w.heap.size v cs w' ∧ SameBlks bs cs ∧ Below w.heap.size w w' := by
  obtain ⟨i0, hi, hz0, hz1, hz2⟩ := info3 infoBlk
  obtain ⟨j0, ji, jz0, jz1, jz2⟩ := info_parts infoStr
  have HA : Hid (AtBlk w g bs) := h
  have HN : Hid (n = bs.length) := hn
  have HI : Hid (∀ b ∈ bs, ItemsAt w b ∧ b.ss.length ≤ 1048576) := fun b hb => ⟨hit b hb, hs b hb⟩
  have R0 : Hid (BRow w.heap.size (.slice (some ⟨w.heap.size, 0, none⟩) 0 0) [] (w.alloc (.cells #[] 94))) := frow_new _ _ _ w
  have B0 : Hid (Below w.heap.size w (w.alloc (.cells #[] 94))) := (Below.refl _ w).alloc (Nat.le_refl _) _
  clear h hn hit hs
  go_enter Tryz.func101, Tryz.ntmps101
  go_wp2_with fail
  go_loopw [3, 4] (fun v i wr => ∃ (k g2 c2 : Nat) (cs : List BlkV), k ≤ n ∧ i = .int .i64 (k : Int) ∧ v = .slice (some ⟨g2, 0, none⟩) k c2 ∧ Hid (BRow w.heap.size v cs wr) ∧ Hid (OwnItems w.heap.size wr cs ∧ (∀ c ∈ cs, c.g ≠ g2) ∧ ∀ c ∈ cs, OwnIt w.heap.size wr c) ∧ Hid (SameBlks (bs.take k) cs) ∧ Hid (Below w.heap.size w wr)) (fun _ i _ => n - (intOf i).toNat)
  case atStart => exact ⟨0, w.heap.size, 0, [], by omega, rfl, rfl, R0, ⟨(fun c hc => by cases hc), (fun c hc => by cases hc), (fun c hc => by cases hc)⟩, ⟨rfl, rfl⟩, B0⟩
  case round =>
    clear R0 B0
    obtain ⟨k, g2, c2, cs, hk, rfl, rfl, R, HO, HSm, HB⟩ := hrel
    by_cases hlt : k < n
    · have hkl : k < bs.length := by rw [← HN.out]; exact hlt
      have HAr : Hid (AtBlk wr g bs) := HA.out.below HB.out HA.out.1
      have q0 := AtBlk.c0 HAr.out k hkl
      have q1 := AtBlk.c1 HAr.out k hkl
      have q2 := AtBlk.c2 HAr.out k hkl
      have q3 := AtBlk.c3 HAr.out k hkl
      have q4 := AtBlk.c4 HAr.out k hkl
      have q5 := AtBlk.c5 HAr.out k hkl
      have hgl := HAr.out.1
      have lk : (k : Int) < (n : Int) := by omega
      have lk0 : (0 : Int) ≤ (k : Int) := by omega
      have wk : IntKind.i64.wrap ((k : Int) + 1) = (k : Int) + 1 := by rw [IntKind.wrap_i64]; omega
      have HK : Hid (k + 1 ≤ n) := hlt
      have hbm : bs.getD k default ∈ bs := by rw [List.getD_eq_getElem?_getD, List.getElem?_eq_getElem hkl]; exact List.getElem_mem hkl
      have HIb := HI.out _ hbm
      have hcl : cs.length = k := by
        have := congrArg List.length HSm.out.1
        rw [List.length_map, List.length_map, List.length_take] at this
        omega
      have HOW : Hid (wr.ownsRow w.heap.size 94 6 (.slice (some ⟨g2, 0, none⟩) k c2) k (cs.flatMap enBlk)) := by
        have := R.out.2
        rw [hcl] at this
        exact this
      have HT : Hid (bs.take (k + 1) = bs.take k ++ [bs.getD k default]) := by
        show _ = _
        rw [List.take_add_one, List.getElem?_eq_getElem hkl]
        simp [List.getElem?_eq_getElem hkl]
      generalize bs.getD k default = b at q0 q1 q2 q3 q4 q5 HIb HT
      obtain ⟨bh, bg, bn, bc, bss⟩ := b
      dsimp only at q0 q1 q2 q3 q4 q5
      have hbn : bn = bss.length := HIb.1.2
      have HIt : Hid (AtS wr bg bss) := HIb.1.1.below HB.out HIb.1.1.1
      have hbl : bss.length ≤ 1048576 := HIb.2
      have hgb := HIt.out.1
      have hsz := HB.out.size
      have HBN : Hid (bn = bss.length) := hbn
      have hnl : bn ≤ 1048576 := by omega
      have HS0 : Hid ((wr.drew.alloc (.cells #[] 9)).ownsRow wr.heap.size 9 1 (.slice (some ⟨wr.heap.size, 0, none⟩) 0 0) 0 []) := (srow_new wr.drew).2
      have HNW : Hid (∀ j u, (bss.map Value.string)[j]? = some u → (wr.drew.alloc (.cells #[] 9)).cell? ((⟨bg, 0, none⟩ : Addr).add j) = some u) := by
        intro j u hj
        have hjl : j < bss.length := by
          rcases Nat.lt_or_ge j bss.length with h' | h'
          · exact h'
          · rw [List.getElem?_eq_none (by simpa using h')] at hj; cases hj
        have e1 : (⟨bg, 0, none⟩ : Addr).add j = ⟨bg, j, none⟩ := by unfold Addr.add; split <;> simp_all
        rw [e1, ((Below.refl wr.heap.size wr).drew.alloc (Nat.le_refl _) _).cell (p := ⟨bg, j, none⟩) hgb]
        have e2 := HIt.out.2 j hjl
        have e3 : u = .string (bss.getD j ByteArray.empty) := by
          rw [List.getElem?_map, List.getElem?_eq_getElem hjl] at hj
          rw [List.getD_eq_getElem?_getD, List.getElem?_eq_getElem hjl]
          exact (Option.some.inj hj).symm
        rw [e3]
        exact e2
      have HM1 : Hid ((bss.map Value.string).length = bn * 1) := by show _ = _; rw [List.length_map, HBN.out, Nat.mul_one]
      have HU1 : Hid (∀ u ∈ bss.map Value.string, u.oneCell' = true) := by
        intro u hu
        obtain ⟨x, _, rfl⟩ := List.mem_map.1 hu
        rfl
      have hx1 : 0 + bn ≤ maxLen := by unfold maxLen; omega
      have hx2 : (0 + bn) * 16 ≤ 140737488355328 := by omega
      have hy1 : k + 1 ≤ maxLen := by unfold maxLen; omega
      have hy2 : (k + 1) * 80 ≤ 140737488355328 := by omega
      have hg2 : g2 < wr.heap.size := by
        obtain ⟨g', c', cur, hv, _, hl', _⟩ := R.out.block
        simp only [Value.slice.injEq, Option.some.injEq, Addr.mk.injEq, and_true] at hv
        rw [hv.1]
        exact hl'
      have HR3 : Hid (∀ w3, Below wr.heap.size wr w3 → w3.ownsRow w.heap.size 94 6 (.slice (some ⟨g2, 0, none⟩) k c2) k (cs.flatMap enBlk)) := fun w3 b3 => by
        have := (R.out.below b3).2
        rw [hcl] at this
        exact this
      have hne : ¬ g = g2 := by
        obtain ⟨g', c', cur, hv, hB', _⟩ := R.out.block
        simp only [Value.slice.injEq, Option.some.injEq, Addr.mk.injEq, and_true] at hv
        have := HA.out.1
        omega
      clear HIb hbm hkl hbn hbl HOW
      go_wp2_with fail
      go_region_held3 (fun w' => w'.cell? ⟨g, k * 6, none⟩ = some (.string bh.prev) ∧ w'.cell? ⟨g, k * 6 + 1, none⟩ = some (.string bh.root) ∧ w'.cell? ⟨g, k * 6 + 2, none⟩ = some (.int .i64 bh.time) ∧ w'.cell? ⟨g, k * 6 + 3, none⟩ = some (.int .i64 bh.diff) ∧ w'.cell? ⟨g, k * 6 + 4, none⟩ = some (.int .i64 bh.nonce) ∧ w'.cell? ⟨g, k * 6 + 5, none⟩ = some (.slice (some ⟨bg, 0, none⟩) bn bc))
        (first | go_keep | (exact ⟨(b3.cell (p := ⟨g, k * 6, none⟩) hgl).trans q0, (b3.cell (p := ⟨g, k * 6 + 1, none⟩) hgl).trans q1, (b3.cell (p := ⟨g, k * 6 + 2, none⟩) hgl).trans q2, (b3.cell (p := ⟨g, k * 6 + 3, none⟩) hgl).trans q3, (b3.cell (p := ⟨g, k * 6 + 4, none⟩) hgl).trans q4, (b3.cell (p := ⟨g, k * 6 + 5, none⟩) hgl).trans q5⟩) | (have hfar : w4.heap[g]? = w3.heap[g]? := (hgrow4.block g (by simp; omega) (by simpa using hne)).trans (Below.heap_alloc _ _ _ (by omega)); exact ⟨(World.cell?_of_block (a := ⟨g, k * 6, none⟩) hfar).trans ((b3.cell (p := ⟨g, k * 6, none⟩) hgl).trans q0), (World.cell?_of_block (a := ⟨g, k * 6 + 1, none⟩) hfar).trans ((b3.cell (p := ⟨g, k * 6 + 1, none⟩) hgl).trans q1), (World.cell?_of_block (a := ⟨g, k * 6 + 2, none⟩) hfar).trans ((b3.cell (p := ⟨g, k * 6 + 2, none⟩) hgl).trans q2), (World.cell?_of_block (a := ⟨g, k * 6 + 3, none⟩) hfar).trans ((b3.cell (p := ⟨g, k * 6 + 3, none⟩) hgl).trans q3), (World.cell?_of_block (a := ⟨g, k * 6 + 4, none⟩) hfar).trans ((b3.cell (p := ⟨g, k * 6 + 4, none⟩) hgl).trans q4), (World.cell?_of_block (a := ⟨g, k * 6 + 5, none⟩) hfar).trans ((b3.cell (p := ⟨g, k * 6 + 5, none⟩) hgl).trans q5)⟩))
        (first
          | (refine step_append_any (by rfl) _ _ 77 (by rfl) wr.heap.size 9 j0 (.string ⟨#[]⟩) 1 16 Tryz.underlying77 ji jz0 jz1 jz2 rfl (by decide) wr.heap.size 0 0 [] (by rfl) HS0.out ⟨bg, 0, none⟩ bn bc (bss.map Value.string) (by rfl) HM1.out HNW.out HU1.out hx1 hx2 (by simp) ?_; intro g3 c3 w3 hown3 hgrow3 hat3 hlt3; have b3 : Below wr.heap.size wr w3 := ((Below.refl wr.heap.size wr).drew.alloc (Nat.le_refl _) _).grown hgrow3 (by simp) (fun j hj => by cases hj; exact Nat.le_refl _); have hsz3 := b3.size; clear HS0)
          | (refine step_append_any (by rfl) _ _ 74 (by rfl) w.heap.size 94 i0 (.agg #[.string ⟨#[]⟩, .string ⟨#[]⟩, .int .i64 0, .int .i64 0, .int .i64 0, .slice none 0 0]) 6 80 Tryz.underlying74 hi hz0 hz1 hz2 rfl (by decide) g2 c2 k _ (by rfl) (World.ownsRow.alloc (HR3.out _ b3) _) ⟨w3.heap.size, 0, none⟩ 1 1 (enBlk ⟨bh, g3, bn, c3, bss⟩) (by rfl) rfl (cells_new w3 _ _) (enBlk_one _) hy1 hy2 (by simp; omega) ?_; intro g4 c4 w4 hown4 hgrow4 hat4 hlt4))
      have hg3 : wr.heap.size ≤ g3 := by
        rcases hat3.out with h | h
        · omega
        · rw [h]; simp
      have hown3' := hown3
      have F3 : Hid (AtS w3 g3 bss) := by
        rw [Nat.zero_add] at hown3
        exact (SRow.at (srow_of (by simpa using hown3) HBN.out)).1
      have HFAR : Hid (∀ c, c < w3.heap.size → c ≠ g2 → w4.heap[c]? = w3.heap[c]?) := fun c hc hne' => (hgrow4.block c (by simp; omega) (by simpa using hne')).trans (Below.heap_alloc _ _ _ hc)
      have hsz4 : w3.heap.size ≤ w4.heap.size := Nat.le_trans (by simp) hgrow4.size
      have B4 : Hid (Below w.heap.size w w4) := ((HB.out.trans (b3.mono hsz)).alloc (by omega) _).grown hgrow4 (by simp; omega) (fun j hj => by
        cases hj
        obtain ⟨g', c', cur, hv, hB', _⟩ := R.out.block
        simp only [Value.slice.injEq, Option.some.injEq, Addr.mk.injEq, and_true] at hv
        omega)
      have R4 : Hid (BRow w.heap.size (.slice (some ⟨g4, 0, none⟩) (k + 1) c4) (cs ++ [⟨bh, g3, bn, c3, bss⟩]) w4) := by
        refine FRow.of ?_ ?_
        · rw [List.flatMap_append]
          simpa using hown4
        · rw [List.length_append, hcl]; rfl
      have O4 : Hid (OwnItems w.heap.size w4 (cs ++ [⟨bh, g3, bn, c3, bss⟩]) ∧ (∀ c ∈ cs ++ [(⟨bh, g3, bn, c3, bss⟩ : BlkV)], c.g ≠ g4) ∧ ∀ c ∈ cs ++ [(⟨bh, g3, bn, c3, bss⟩ : BlkV)], OwnIt w.heap.size w4 c) := by
        have hold : ∀ c ∈ cs, c.g < wr.heap.size ∧ c.g ≠ g2 ∧ w.heap.size ≤ c.g := fun c hc => ⟨(HO.out.1 c hc).1.1.1, HO.out.2.1 c hc, (HO.out.1 c hc).2⟩
        have hg4 : g4 = g2 ∨ w3.heap.size ≤ g4 := by
          rcases hat4.out with h | h
          · exact .inl h.symm
          · exact .inr (by rw [h]; simp)
        have hlt3' := hlt3.out
        refine ⟨?_, ?_, ?_⟩
        · intro c hc
          rcases List.mem_append.1 hc with h | h
          · have h1 := hold c h
            have h2 := (HO.out.1 c h).1
            exact ⟨⟨atS_far (h2.1.below b3 h1.1) (HFAR.out _ (by omega) h1.2.1) hsz4, h2.2⟩, h1.2.2⟩
          · obtain rfl := List.mem_singleton.1 h
            exact ⟨⟨atS_far F3.out (HFAR.out _ hlt3' (by show g3 ≠ g2; omega)) hsz4, HBN.out⟩, by show _ ≤ g3; omega⟩
        · intro c hc
          rcases List.mem_append.1 hc with h | h
          · have h1 := hold c h
            rcases hg4 with h' | h' <;> omega
          · obtain rfl := List.mem_singleton.1 h
            show g3 ≠ g4
            rcases hg4 with h' | h' <;> omega
        · intro c hc
          rcases List.mem_append.1 hc with h | h
          · have h1 := hold c h
            exact ((HO.out.2.2 c h).keep (b3.block _ h1.1)).keep (HFAR.out _ (by omega) h1.2.1)
          · obtain rfl := List.mem_singleton.1 h
            exact OwnIt.keep (c := ⟨bh, g3, bn, c3, bss⟩) (OwnIt.of hown3' hsz) (HFAR.out _ hlt3' (by show g3 ≠ g2; omega))
      have S4 : Hid (SameBlks (bs.take (k + 1)) (cs ++ [⟨bh, g3, bn, c3, bss⟩])) := by
        refine ⟨?_, ?_⟩ <;> rw [HT.out, List.map_append, List.map_append]
        · rw [HSm.out.1]; rfl
        · rw [HSm.out.2]; rfl
      clear hown3 hown3' hgrow3 hown4 hgrow4 hat3 hat4 hlt3 hlt4 HFAR F3 b3 HO R HSm HNW
      go_wp2_with fail
      go_roundw
      case rel => exact ⟨k + 1, g4, c4, _, HK.out, by go_num, rfl, R4, O4, S4, B4⟩
      case measure => have := HK.out; simp [intOf]; omega
    · obtain rfl : k = n := by omega
      have HE : Hid (bs.take k = bs) := by show _ = _; rw [HN.out, List.take_length]
      go_wp2_with fail
      go_ret
      exact ⟨_, cs, rfl, ⟨R.out, HO.out.1, fun c hc h => HO.out.2.1 c hc (by simpa [Value.ownBlock] using h.symm), HO.out.2.2⟩, by rw [HE.out] at HSm; exact HSm.out, HB.out⟩

end Go.Proofs.YtplldapkcljllaaGreatDoor

set_option linter.unusedVariables false
namespace Go.Proofs.YtplldapkcljllaaGreatDoor
open Go.RowKit

theorem meets_yes {h : HeadV} (hok : headOkB h = true) : headMeets h = decide ((headOf (headX h) : Int) / 65536 * h.diff < 32768) := by rw [headMeets, hok, Bool.true_and]
theorem meets_no {h : HeadV} (hok : headOkB h = false) : headMeets h = false := by rw [headMeets, hok, Bool.false_and]

set_option maxHeartbeats 1000000 in
set_option maxRecDepth 100000 in
theorem specL3Meets (h : HeadV) (w : World) (hok : headOkB h = true) :
    Calls Tryz.prog 109 #[headVal h] w fun e w' => e = .returned (.bool (headMeets h)) ∧ Below w.heap.size w w' := by
  rw [meets_yes hok]
  have hpt := fun w' => specL3Sum h w' hok
  have hsh := fun w' => specHead ⟨(sumB (headX h)).toArray⟩ w' (isSum_sumB _)
  have e1 : ((hexN ((⟨(sumB (headX h)).toArray⟩ : ByteArray).data.toList.take 8) / 2 : Nat) : Int) = (headOf (headX h) : Int) := rfl
  rw [e1] at hsh
  clear e1
  have hhl := headOf_lt (headX h)
  generalize sumB (headX h) = sb at hpt hsh
  generalize headOf (headX h) = hd at hsh hhl ⊢
  obtain ⟨_, _, h3, h4, h5⟩ := headOk_in hok
  unfold headVal at hpt ⊢
  clear hok
  obtain ⟨p, r, t, d, n⟩ := h
  dsimp only at h3 h4 h5 hpt ⊢
  have ed : (hd : Int).tdiv 65536 = (hd : Int) / 65536 := Int.tdiv_eq_ediv_of_nonneg (by omega)
  have hq0 : 0 ≤ (hd : Int) / 65536 := by omega
  have hq1 : (hd : Int) / 65536 ≤ 32767 := by omega
  generalize (hd : Int) / 65536 = q at ed hq0 hq1 ⊢
  have hm1 : q * d ≤ 32767 * 8 := Int.mul_le_mul hq1 h4.2 (by omega) (by omega)
  have hm0 : 0 ≤ q * d := Int.mul_nonneg hq0 (by omega)
  have wq : IntKind.i64.wrap q = q := by rw [IntKind.wrap_i64]; omega
  have wm : IntKind.i64.wrap (q * d) = q * d := by generalize q * d = x at hm0 hm1 ⊢; rw [IntKind.wrap_i64]; omega
  have S1 : HSt w _ w.heap.size p r t d n := HSt.new w 25 p r t d n
  go_enter Tryz.func109, Tryz.ntmps109
  go_wp2_with fail
  go_region_held3 (fun w' => w'.cell? ⟨w.heap.size, 0, none⟩ = some (.string p) ∧ w'.cell? ⟨w.heap.size, 1, none⟩ = some (.string r) ∧ w'.cell? ⟨w.heap.size, 2, none⟩ = some (.int .i64 t) ∧ w'.cell? ⟨w.heap.size, 3, none⟩ = some (.int .i64 d) ∧ w'.cell? ⟨w.heap.size, 4, none⟩ = some (.int .i64 n))
    (first | (with_reducible first | exact S2.out | exact S1.out | exact S1.drew.out) | go_keep)
    (first
      | (go_at_call 99; refine (hpt _).mono ?_; rintro e w2 ⟨rfl, b2⟩; have S2 : HSt w w2 w.heap.size p r t d n := S1.drew.call b2)
      | (go_at_call 112; refine (hsh _).mono ?_; rintro e w3 ⟨rfl, rfl⟩))
  go_wp2_with fail
  go_ret
  exact ⟨rfl, S2.2.1⟩

end Go.Proofs.YtplldapkcljllaaGreatDoor

set_option linter.unusedVariables false
namespace Go.Proofs.YtplldapkcljllaaGreatDoor
open Go.RowKit Go.Deep

theorem firstC {p : Nat → Bool} : ∀ (n k : Nat), k < n → p k = true → (∀ j, j < k → p j = false) → (List.range n).find? p = some k
  | 0, k, hk, _, _ => by omega
  | n + 1, k, hk, hp, hj => by
    rw [List.range_succ, List.find?_append]
    by_cases h : k < n
    · rw [firstC n k h hp hj]
      rfl
    · obtain rfl : k = n := by omega
      have : (List.range k).find? p = none := List.find?_eq_none.2 fun j hj' => by rw [hj j (List.mem_range.1 hj')]; decide
      rw [this]
      simp [hp]
theorem noneC {p : Nat → Bool} {n : Nat} (h : ∀ j, j < n → p j = false) : (List.range n).find? p = none := List.find?_eq_none.2 fun j hj' => by rw [h j (List.mem_range.1 hj')]; decide
theorem getD_take {l : List HeadV} {i j : Nat} (h : j < i) : (l.take i).getD j default = l.getD j default := by
  simp [h]
theorem AtHead.take {w : World} {g : Nat} {l : List HeadV} (h : AtHead w g l) (i : Nat) : AtHead w g (l.take i) :=
  ⟨h.1, fun a b ha hb => by
    have h1 : a < i ∧ a < l.length := by rw [List.length_take] at ha; omega
    rw [getD_take h1.1]
    exact h.2 a b h1.2 hb⟩

def zeros16 : ByteArray := ⟨#[48, 48, 48, 48, 48, 48, 48, 48, 48, 48, 48, 48, 48, 48, 48, 48]⟩
def lastH (l : List HeadV) : HeadV := l.getD (l.length - 1) default
/-- The time between the last and the one three ahead of it. -/
def spanH (l : List HeadV) : Int := (lastH l).time - (l.getD (l.length - 4) default).time
def hardV (l : List HeadV) : Int :=
  if l.length = 0 then 1
  else if l.length % 4 = 0 then
    if spanH l < 20 then min ((lastH l).diff + 1) 8
    else if 60 < spanH l then max ((lastH l).diff - 1) 1
    else (lastH l).diff
  else (lastH l).diff
def sumH (h : HeadV) : ByteArray := ⟨(sumB (headX h)).toArray⟩
def prevV (l : List HeadV) : ByteArray := if l.length = 0 then zeros16 else sumH (lastH l)
def laterB (l : List HeadV) (t : Int) : Bool := decide (l.length = 0 ∨ (lastH l).time < t)
def fitsB (l : List HeadV) (h : HeadV) : Bool := headOkB h && (headMeets h && (decide (h.diff = hardV l) && (decide (h.prev = prevV l) && laterB l h.time)))
def standsB (l : List HeadV) (h : HeadV) : Bool := fitsB l h && decide (l.length < 20)
def stepC (l : List HeadV) (i : Nat) : Bool := standsB (l.take i) (l.getD i default)
def chainCk (l : List HeadV) : Nat := match (List.range l.length).find? fun i => !(stepC l i) with
  | some i => i + 1
  | none => 0
theorem ck_bad {l : List HeadV} {i : Nat} (hi : i < l.length) (hf : stepC l i = false) (hj : ∀ j, j < i → stepC l j = true) : chainCk l = i + 1 := by
  unfold chainCk
  rw [firstC l.length i hi (by rw [hf]; rfl) (fun j h => by rw [hj j h]; rfl)]
theorem ck_good {l : List HeadV} (hj : ∀ j, j < l.length → stepC l j = true) : chainCk l = 0 := by
  unfold chainCk
  rw [noneC (fun j h => by rw [hj j h]; rfl)]
theorem ck_zero {l : List HeadV} (h : chainCk l = 0) : ∀ j, j < l.length → stepC l j = true := by
  unfold chainCk at h
  split at h
  · omega
  · rename_i hn
    rw [List.find?_eq_none] at hn
    intro j hj
    have := hn j (List.mem_range.2 hj)
    simpa using this
theorem step_ok {l : List HeadV} {i : Nat} (h : stepC l i = true) : headOkB (l.getD i default) = true := by
  simp only [stepC, standsB, fitsB, Bool.and_eq_true] at h
  exact h.1.1
theorem step_lt {l : List HeadV} {i : Nat} (hi : i < l.length) (h : stepC l i = true) : i < 20 := by
  simp only [stepC, standsB, Bool.and_eq_true, decide_eq_true_eq, List.length_take] at h
  omega
theorem ck_len {l : List HeadV} (h : chainCk l = 0) : l.length ≤ 20 := by
  rcases Nat.lt_or_ge 20 l.length with h' | h'
  · have := step_lt h' (ck_zero h 20 h')
    omega
  · exact h'
theorem ck_ok {l : List HeadV} (h : chainCk l = 0) : ∀ i, i < l.length → headOkB (l.getD i default) = true := fun i hi => step_ok (ck_zero h i hi)
theorem ck_le (l : List HeadV) : chainCk l ≤ l.length := by
  unfold chainCk
  split
  · rename_i i hi
    have := List.mem_of_find?_eq_some hi
    have := List.mem_range.1 this
    omega
  · omega
theorem take_ok {l : List HeadV} {i : Nat} (h : ∀ j, j < i → stepC l j = true) : ∀ j, j < (l.take i).length → headOkB ((l.take i).getD j default) = true := by
  intro j hj
  have h1 : j < i ∧ j < l.length := by rw [List.length_take] at hj; omega
  rw [getD_take h1.1]
  exact step_ok (h j h1.1)
theorem lastH_ok {l : List HeadV} (hn : 0 < l.length) (h : ∀ i, i < l.length → headOkB (l.getD i default) = true) : headOkB (lastH l) = true := h _ (by omega)
theorem hard_in {l : List HeadV} (h : ∀ i, i < l.length → headOkB (l.getD i default) = true) : 1 ≤ hardV l ∧ hardV l ≤ 8 := by
  unfold hardV
  split
  · omega
  · rename_i hn
    have := headOk_in (lastH_ok (by omega) h)
    split <;> (try split) <;> (try split) <;> omega

end Go.Proofs.YtplldapkcljllaaGreatDoor

set_option linter.unusedVariables false
namespace Go.Proofs.YtplldapkcljllaaGreatDoor
open Go.RowKit Go.Deep

theorem hard_0 {l : List HeadV} (h : l.length = 0) : hardV l = 1 := by rw [hardV, if_pos h]
theorem hard_odd {l : List HeadV} (h : l.length ≠ 0) (h4 : l.length % 4 ≠ 0) : hardV l = (lastH l).diff := by rw [hardV, if_neg h, if_neg h4]
theorem hard_low {l : List HeadV} (h : l.length ≠ 0) (h4 : l.length % 4 = 0) (hs : spanH l < 20) : hardV l = min ((lastH l).diff + 1) 8 := by rw [hardV, if_neg h, if_pos h4, if_pos hs]
theorem hard_high {l : List HeadV} (h : l.length ≠ 0) (h4 : l.length % 4 = 0) (hs : 60 < spanH l) : hardV l = max ((lastH l).diff - 1) 1 := by rw [hardV, if_neg h, if_pos h4, if_neg (by omega), if_pos hs]
theorem hard_mid {l : List HeadV} (h : l.length ≠ 0) (h4 : l.length % 4 = 0) (h1 : ¬ spanH l < 20) (h2 : ¬ 60 < spanH l) : hardV l = (lastH l).diff := by rw [hardV, if_neg h, if_pos h4, if_neg h1, if_neg h2]

end Go.Proofs.YtplldapkcljllaaGreatDoor

set_option linter.unusedVariables false
namespace Go.Proofs.YtplldapkcljllaaGreatDoor
open Go.RowKit Go.Deep

theorem sameS (a b : ByteArray) : (a.toList == b.toList) = decide (a = b) := by
  rw [Bool.eq_iff_iff, beq_iff_eq, decide_eq_true_eq, ByteArray.toList_eq, ByteArray.toList_eq]
  constructor
  · intro h
    exact ByteArray.ext (by simpa using h)
  · intro h
    rw [h]
/-- What the k-th rule says. -/
def ruleB (l : List HeadV) (h : HeadV) : Nat → Bool
  | 0 => headOkB h
  | 1 => headMeets h
  | 2 => decide (h.diff = hardV l)
  | 3 => decide (h.prev = prevV l)
  | 4 => laterB l h.time
  | _ => decide (l.length < 20)
theorem upTo6 {k : Nat} (h : k < 6) : k = 0 ∨ k = 1 ∨ k = 2 ∨ k = 3 ∨ k = 4 ∨ k = 5 := by omega
theorem stands_all {l : List HeadV} {h : HeadV} (hr : ∀ k, k < 6 → ruleB l h k = true) : standsB l h = true := by
  have h0 := hr 0 (by decide)
  have h1 := hr 1 (by decide)
  have h2 := hr 2 (by decide)
  have h3 := hr 3 (by decide)
  have h4 := hr 4 (by decide)
  have h5 := hr 5 (by decide)
  simp only [ruleB] at h0 h1 h2 h3 h4 h5
  rw [standsB, fitsB, h0, h1, h2, h3, h4, h5]
  rfl
theorem stands_no {l : List HeadV} {h : HeadV} {k : Nat} (hk : k < 6) (hr : ruleB l h k = false) : standsB l h = false := by
  rw [standsB, fitsB]
  rcases upTo6 hk with rfl | rfl | rfl | rfl | rfl | rfl <;> simp only [ruleB] at hr <;> rw [hr] <;> simp

/-- What a rule needs: the heads ahead, which are ok, and the tables. -/
structure Ahead (g n : Nat) (l : List HeadV) (w : World) : Prop where
  at_ : AtHead w g l
  len : n = l.length
  max : n ≤ 1048576
  ok : ∀ i, i < l.length → headOkB (l.getD i default) = true
  k : RowG w shaK
  p : TabP w
theorem Ahead.below {g n : Nat} {l : List HeadV} {w w' : World} (h : Ahead g n l w) (hb : Below w.heap.size w w') : Ahead g n l w' :=
  ⟨h.at_.below hb h.at_.1, h.len, h.max, h.ok, h.k.below hb h.k.lt, TabP.below h.p hb (Nat.le_refl _)⟩

end Go.Proofs.YtplldapkcljllaaGreatDoor

set_option linter.unusedVariables false
namespace Go.Proofs.YtplldapkcljllaaGreatDoor
open Go.RowKit Go.Deep

/-- The heads ahead, as the specification needs them. -/
structure AheadS (g n : Nat) (l : List HeadV) (w : World) : Prop where
  at_ : AtHead w g l
  len : n = l.length
  max : n ≤ 1048576
  ok : ∀ i, i < l.length → headOkB (l.getD i default) = true
theorem AheadS.below {g n : Nat} {l : List HeadV} {w w' : World} (h : AheadS g n l w) (hb : Below w.heap.size w w') : AheadS g n l w' :=
  ⟨h.at_.below hb h.at_.1, h.len, h.max, h.ok⟩

set_option maxHeartbeats 1000000 in
set_option maxRecDepth 100000 in
theorem specL4Diff (g n cap : Nat) (l : List HeadV) (w : World) (hA : AheadS g n l w) :
    Calls Tryz.prog 98 #[.slice (some ⟨g, 0, none⟩) n cap] w fun e w' => e = .returned (.int .i64 (hardV l)) ∧ Below w.heap.size w w' := by
  have hn := hA.len
  have hm := hA.max
  have hok := hA.ok
  by_cases h0 : n = 0
  · have HV : Hid (hardV l = 1) := hard_0 (by omega)
    subst h0
    clear hA hn hok
    go_enter Tryz.func98, Tryz.ntmps98
    go_wp2_with fail
    go_ret
    exact ⟨by rw [HV.out]; rfl, Below.refl _ _⟩
  obtain ⟨j, hj⟩ : ∃ j, n = j + 1 := ⟨n - 1, by omega⟩
  have hjl : j < l.length := by omega
  have c0 := AtHead.c0 hA.at_ j hjl
  have c1 := AtHead.c1 hA.at_ j hjl
  have c2 := AtHead.c2 hA.at_ j hjl
  have c3 := AtHead.c3 hA.at_ j hjl
  have c4 := AtHead.c4 hA.at_ j hjl
  have HL : lastH l = l.getD j default := by rw [lastH, ← hn, hj, Nat.add_sub_cancel]
  have hgl := hA.at_.1
  have hw1 : IntKind.i64.wrap ((n : Int) - 1) = (j : Int) := by rw [IntKind.wrap_i64]; omega
  have lj : (j : Int) < (n : Int) := by omega
  have lj0 : (0 : Int) ≤ (j : Int) := by omega
  have hn0 : ¬ (n : Int) = 0 := by omega
  obtain ⟨_, _, ht, hd, _⟩ := headOk_in (hok j hjl)
  have hrem : (n : Int).tmod 4 = ((n % 4 : Nat) : Int) := rfl
  by_cases h4 : n % 4 = 0
  · obtain ⟨i, hi⟩ : ∃ i, n = i + 4 := ⟨n - 4, by omega⟩
    have hil : i < l.length := by omega
    have d2 := AtHead.c2 hA.at_ i hil
    obtain ⟨_, _, ht2, _⟩ := headOk_in (hok i hil)
    have HSP : spanH l = (l.getD j default).time - (l.getD i default).time := by rw [spanH, HL, ← hn, hi, Nat.add_sub_cancel]
    have hw4 : IntKind.i64.wrap ((n : Int) - 4) = (i : Int) := by rw [IntKind.wrap_i64]; omega
    have li : (i : Int) < (n : Int) := by omega
    have li0 : (0 : Int) ≤ (i : Int) := by omega
    have HLO : Hid (spanH l < 20 → hardV l = min ((l.getD j default).diff + 1) 8) := fun hs => by rw [hard_low (by omega) (by rw [← hn]; exact h4) hs, HL]
    have HHI : Hid (60 < spanH l → hardV l = max ((l.getD j default).diff - 1) 1) := fun hs => by rw [hard_high (by omega) (by rw [← hn]; exact h4) hs, HL]
    have HMI : Hid (¬ spanH l < 20 → ¬ 60 < spanH l → hardV l = (l.getD j default).diff) := fun h1 h2 => by rw [hard_mid (by omega) (by rw [← hn]; exact h4) h1 h2, HL]
    rw [HSP] at HLO HHI HMI
    rw [h4] at hrem
    generalize hardV l = H at HLO HHI HMI ⊢
    generalize l.getD j default = p at c0 c1 c2 c3 c4 ht hd HLO HHI HMI
    generalize l.getD i default = q at d2 ht2 HLO HHI HMI
    have hws : IntKind.i64.wrap (p.time - q.time) = p.time - q.time := by rw [IntKind.wrap_i64]; omega
    have hwa : IntKind.i64.wrap (p.diff + 1) = p.diff + 1 := by rw [IntKind.wrap_i64]; omega
    have hwb : IntKind.i64.wrap (p.diff - 1) = p.diff - 1 := by rw [IntKind.wrap_i64]; omega
    have f2 : w.drew.cell? ⟨g, j * 5 + 2, none⟩ = some (.int .i64 p.time) := c2
    have f4 : w.drew.cell? ⟨g, i * 5 + 2, none⟩ = some (.int .i64 q.time) := d2
    clear hA hok HL HSP hjl hil hn hj hi h0 h4 hm
    by_cases hs : p.time - q.time < 20
    · by_cases hd8 : p.diff < 8
      · have HV : Hid (H = p.diff + 1) := by have := HLO.out hs; show _ = _; omega
        clear HLO HHI HMI
        go_enter Tryz.func98, Tryz.ntmps98
        go_wp2_with fail
        go_big_region
        go_wp2_with fail
        go_ret
        exact ⟨by rw [HV.out]; rfl, (Below.refl _ _).drew⟩
      · have hs2 : ¬ 60 < p.time - q.time := by omega
        have HV : Hid (H = p.diff) := by have := HLO.out hs; show _ = _; omega
        clear HLO HHI HMI
        go_enter Tryz.func98, Tryz.ntmps98
        go_wp2_with fail
        go_big_region
        go_wp2_with fail
        go_ret
        exact ⟨by rw [HV.out]; rfl, (Below.refl _ _).drew⟩
    · by_cases hs2 : 60 < p.time - q.time
      · by_cases hd1 : 1 < p.diff
        · have HV : Hid (H = p.diff - 1) := by have := HHI.out hs2; show _ = _; omega
          clear HLO HHI HMI
          go_enter Tryz.func98, Tryz.ntmps98
          go_wp2_with fail
          go_big_region
          go_wp2_with fail
          go_ret
          exact ⟨by rw [HV.out]; rfl, (Below.refl _ _).drew⟩
        · have HV : Hid (H = p.diff) := by have := HHI.out hs2; show _ = _; omega
          clear HLO HHI HMI
          go_enter Tryz.func98, Tryz.ntmps98
          go_wp2_with fail
          go_big_region
          go_wp2_with fail
          go_ret
          exact ⟨by rw [HV.out]; rfl, (Below.refl _ _).drew⟩
      · have HV : Hid (H = p.diff) := HMI.out hs hs2
        clear HLO HHI HMI
        go_enter Tryz.func98, Tryz.ntmps98
        go_wp2_with fail
        go_big_region
        go_wp2_with fail
        go_ret
        exact ⟨by rw [HV.out]; rfl, (Below.refl _ _).drew⟩
  · have HV : Hid (hardV l = (l.getD j default).diff) := by show _ = _; rw [hard_odd (by omega) (by rw [← hn]; exact h4), HL]
    have hr4 : ¬ ((n % 4 : Nat) : Int) = 0 := by omega
    generalize hardV l = H at HV ⊢
    generalize n % 4 = r at hrem hr4
    generalize l.getD j default = p at c0 c1 c2 c3 c4 ht hd HV
    clear hA hok HL hjl hn hj h0 h4 hm
    go_enter Tryz.func98, Tryz.ntmps98
    go_wp2_with fail
    go_ret
    exact ⟨by rw [HV.out]; rfl, Below.refl _ _⟩

theorem specL4Zero (w : World) : Calls Tryz.prog 96 #[] w fun e w' => e = .returned (.string zeros16) ∧ w' = w := by
  go_enter Tryz.func96, Tryz.ntmps96
  go_wp2_with fail
  go_ret
  exact ⟨rfl, rfl⟩

theorem fits_no1 {l : List HeadV} {h : HeadV} (hk : headOkB h = false) : fitsB l h = false := by rw [fitsB, hk, Bool.false_and]
theorem fits_no2 {l : List HeadV} {h : HeadV} (hk : headMeets h = false) : fitsB l h = false := by rw [fitsB, hk]; simp
theorem fits_no3 {l : List HeadV} {h : HeadV} (hk : h.diff ≠ hardV l) : fitsB l h = false := by rw [fitsB, decide_eq_false hk]; simp
theorem fits_rest {l : List HeadV} {h : HeadV} (h1 : headOkB h = true) (h2 : headMeets h = true) (h3 : h.diff = hardV l) : fitsB l h = (decide (h.prev = prevV l) && laterB l h.time) := by
  rw [fitsB, h1, h2, decide_eq_true h3]; rfl

end Go.Proofs.YtplldapkcljllaaGreatDoor

set_option linter.unusedVariables false
namespace Go.Proofs.YtplldapkcljllaaGreatDoor
open Go.RowKit

theorem find_first {p : Nat → Bool} : ∀ (n k : Nat), k < n → p k = true → (∀ j, j < k → p j = false) → (List.range n).find? p = some k
  | 0, k, hk, _, _ => by omega
  | n + 1, k, hk, hp, hj => by
    rw [List.range_succ, List.find?_append]
    by_cases h : k < n
    · rw [find_first n k h hp hj]
      rfl
    · obtain rfl : k = n := by omega
      have : (List.range k).find? p = none := List.find?_eq_none.2 fun j hj' => by rw [hj j (List.mem_range.1 hj')]; decide
      rw [this]
      simp [hp]
theorem find_none {p : Nat → Bool} {n : Nat} (h : ∀ j, j < n → p j = false) : (List.range n).find? p = none := List.find?_eq_none.2 fun j hj' => by rw [h j (List.mem_range.1 hj')]; decide
/-- A head with another number. -/
def headNo (h : HeadV) (k : Nat) : HeadV := { h with nonce := (k : Int) }
def zeroH : HeadV := ⟨⟨#[]⟩, ⟨#[]⟩, 0, 0, 0⟩
def headMine (h : HeadV) : HeadV × Bool := match (List.range 401).find? fun k => headMeets (headNo h k) with
  | some k => (headNo h k, true)
  | none => (zeroH, false)
theorem headMine_yes {h : HeadV} {k : Nat} (hk : k ≤ 400) (hm : headMeets (headNo h k) = true) (hj : ∀ j, j < k → headMeets (headNo h j) = false) : headMine h = (headNo h k, true) := by
  unfold headMine
  rw [find_first 401 k (by omega) hm hj]
theorem headMine_no {h : HeadV} (hj : ∀ j, j < 401 → headMeets (headNo h j) = false) : headMine h = (zeroH, false) := by
  unfold headMine
  rw [find_none hj]

set_option maxHeartbeats 1000000 in
set_option maxRecDepth 100000 in
theorem implClone (s : ByteArray) (w : World) (hs : s.size ≤ 281474976710656) :
    Calls Tryz.prog 29 #[.string s] w fun e w' => e = .returned (.string s) ∧ Below w.heap.size w w' := by
  go_enter Tryz.func29, Tryz.ntmps29
  go_wp2_with fail
  refine (Tryz.stringslite_Clone s w hs).mono ?_
  rintro e w1 ⟨rfl, b1⟩
  go_wp2_with fail
  go_ret
  exact ⟨rfl, b1⟩

theorem results_row_tmp {P : Program} {fn : Func} {p u : Tmp} {ty : TypeId} (h : fn.results = #[.cell p ty, .tmp u]) (tmps : Array Value) (w : World) (g : Nat) (t : TypeId) (cs : Array Value) (fr : Nat × Nat) (d : TypeDesc)
    (hp : tmps.getD p undef = .pointer (some ⟨g, 0, none⟩)) (hg : w.heap[g]? = some (.cells cs t fr))
    (hu : P.underlying ty = some d) (hd : (match d with | .struct _ | .array _ _ => true | _ => false) = true) (hi : (P.info? ty).map (·.size) = some cs.size) :
    (results fn tmps).run P w = .ok (.tuple #[.agg cs, tmps.getD u undef]) w := by
  rw [results_cell_tmp h, hp]
  simp [asAddr, run_loadVar_row w g t ty cs fr d hg hu hd hi, Result.andThen]
/-- A head's block. -/
def HBk (w : World) (g : Nat) (p r : ByteArray) (t d n : Int) : Prop := w.heap[g]? = some (.cells #[.string p, .string r, .int .i64 t, .int .i64 d, .int .i64 n] 25 (0, 0))
theorem HBk.lt {w : World} {g : Nat} {p r : ByteArray} {t d n : Int} (h : HBk w g p r t d n) : g < w.heap.size := by
  rcases Nat.lt_or_ge g w.heap.size with h' | h'
  · exact h'
  · simp [HBk, Array.getElem?_eq_none h'] at h
theorem HBk.below {w w' : World} {g B : Nat} {p r : ByteArray} {t d n : Int} (h : HBk w g p r t d n) (hb : Below B w w') (hg : g < B) : HBk w' g p r t d n := by
  unfold HBk at h ⊢
  rw [hb.block g hg]
  exact h
theorem HBk.facts {w : World} {g : Nat} {p r : ByteArray} {t d n : Int} (h : HBk w g p r t d n) : w.cell? ⟨g, 0, none⟩ = some (.string p) ∧ w.cell? ⟨g, 1, none⟩ = some (.string r) ∧ w.cell? ⟨g, 2, none⟩ = some (.int .i64 t) ∧ w.cell? ⟨g, 3, none⟩ = some (.int .i64 d) ∧ w.cell? ⟨g, 4, none⟩ = some (.int .i64 n) ∧ w.frozen? ⟨g, 0, none⟩ = false ∧ w.frozen? ⟨g, 1, none⟩ = false ∧ w.frozen? ⟨g, 2, none⟩ = false ∧ w.frozen? ⟨g, 3, none⟩ = false ∧ w.frozen? ⟨g, 4, none⟩ = false := by
  refine ⟨?_, ?_, ?_, ?_, ?_, Lib.frozen_of_heap h 0, Lib.frozen_of_heap h 1, Lib.frozen_of_heap h 2, Lib.frozen_of_heap h 3, Lib.frozen_of_heap h 4⟩ <;> (rw [Lib.cell_of_heap h]; rfl)
theorem HBk.set0 {w : World} {g : Nat} {p r : ByteArray} {t d n : Int} (h : HBk w g p r t d n) (q : ByteArray) : HBk (w.setCell ⟨g, 0, none⟩ (.string q)) g q r t d n := by
  unfold HBk at h ⊢; simp [World.setCell, Array.getElem?_modify, h]
theorem HBk.set1 {w : World} {g : Nat} {p r : ByteArray} {t d n : Int} (h : HBk w g p r t d n) (q : ByteArray) : HBk (w.setCell ⟨g, 1, none⟩ (.string q)) g p q t d n := by
  unfold HBk at h ⊢; simp [World.setCell, Array.getElem?_modify, h]
theorem HBk.set2 {w : World} {g : Nat} {p r : ByteArray} {t d n : Int} (h : HBk w g p r t d n) (q : Int) : HBk (w.setCell ⟨g, 2, none⟩ (.int .i64 q)) g p r q d n := by
  unfold HBk at h ⊢; simp [World.setCell, Array.getElem?_modify, h]
theorem HBk.set3 {w : World} {g : Nat} {p r : ByteArray} {t d n : Int} (h : HBk w g p r t d n) (q : Int) : HBk (w.setCell ⟨g, 3, none⟩ (.int .i64 q)) g p r t q n := by
  unfold HBk at h ⊢; simp [World.setCell, Array.getElem?_modify, h]
theorem HBk.set4 {w : World} {g : Nat} {p r : ByteArray} {t d n : Int} (h : HBk w g p r t d n) (q : Int) : HBk (w.setCell ⟨g, 4, none⟩ (.int .i64 q)) g p r t d q := by
  unfold HBk at h ⊢; simp [World.setCell, Array.getElem?_modify, h]
theorem HBk.other {w : World} {g g' j : Nat} {p r : ByteArray} {t d n : Int} (h : HBk w g p r t d n) (hg : g' ≠ g) (v : Value) : HBk (w.setCell ⟨g', j, none⟩ v) g p r t d n := by
  unfold HBk at h ⊢; simp [World.setCell, Array.getElem?_modify, h, hg]
theorem HBk.new (w : World) (p r : ByteArray) (t d n : Int) : HBk (w.alloc (.cells #[.string p, .string r, .int .i64 t, .int .i64 d, .int .i64 n] 25)) w.heap.size p r t d n := heap_alloc_new w _
/-- A head handed in at block g, the head handed back at block g + 1, g being the first block behind w. -/
def HTwo (w w' : World) (p r : ByteArray) (t d n : Int) (p2 r2 : ByteArray) (t2 d2 n2 : Int) : Prop := HBk w' w.heap.size p r t d n ∧ HBk w' (w.heap.size + 1) p2 r2 t2 d2 n2 ∧ Below w.heap.size w w'
theorem HTwo.new (w : World) (p r : ByteArray) (t d n : Int) (p2 r2 : ByteArray) (t2 d2 n2 : Int) : HTwo w ((w.alloc (.cells #[.string p, .string r, .int .i64 t, .int .i64 d, .int .i64 n] 25)).alloc (.cells #[.string p2, .string r2, .int .i64 t2, .int .i64 d2, .int .i64 n2] 25)) p r t d n p2 r2 t2 d2 n2 := by
  refine ⟨?_, ?_, ((Below.refl _ w).alloc (Nat.le_refl _) _).alloc (by simp) _⟩
  · exact (HBk.new w p r t d n).below ((Below.refl _ _).alloc (Nat.le_refl _) _) (by simp)
  · have := HBk.new (w.alloc (.cells #[.string p, .string r, .int .i64 t, .int .i64 d, .int .i64 n] 25)) p2 r2 t2 d2 n2
    rwa [show (w.alloc (.cells #[.string p, .string r, .int .i64 t, .int .i64 d, .int .i64 n] 25)).heap.size = w.heap.size + 1 from by simp] at this
theorem HTwo.call {w w' w'' : World} {p r : ByteArray} {t d n : Int} {p2 r2 : ByteArray} {t2 d2 n2 : Int} (h : HTwo w w' p r t d n p2 r2 t2 d2 n2) (hb : Below w'.heap.size w' w'') : HTwo w w'' p r t d n p2 r2 t2 d2 n2 :=
  ⟨h.1.below hb h.1.lt, h.2.1.below hb h.2.1.lt, h.2.2.trans (hb.mono h.2.2.size)⟩
theorem HTwo.set0 {w w' : World} {p r : ByteArray} {t d n : Int} {p2 r2 : ByteArray} {t2 d2 n2 : Int} (h : HTwo w w' p r t d n p2 r2 t2 d2 n2) (q : ByteArray) : HTwo w (w'.setCell ⟨w.heap.size, 0, none⟩ (.string q)) q r t d n p2 r2 t2 d2 n2 :=
  ⟨h.1.set0 q, h.2.1.other (by omega) _, h.2.2.setCell (p := ⟨w.heap.size, 0, none⟩) (Nat.le_refl _) _⟩
theorem HTwo.set1 {w w' : World} {p r : ByteArray} {t d n : Int} {p2 r2 : ByteArray} {t2 d2 n2 : Int} (h : HTwo w w' p r t d n p2 r2 t2 d2 n2) (q : ByteArray) : HTwo w (w'.setCell ⟨w.heap.size, 1, none⟩ (.string q)) p q t d n p2 r2 t2 d2 n2 :=
  ⟨h.1.set1 q, h.2.1.other (by omega) _, h.2.2.setCell (p := ⟨w.heap.size, 1, none⟩) (Nat.le_refl _) _⟩
theorem HTwo.set4 {w w' : World} {p r : ByteArray} {t d n : Int} {p2 r2 : ByteArray} {t2 d2 n2 : Int} (h : HTwo w w' p r t d n p2 r2 t2 d2 n2) (q : Int) : HTwo w (w'.setCell ⟨w.heap.size, 4, none⟩ (.int .i64 q)) p r t d q p2 r2 t2 d2 n2 :=
  ⟨h.1.set4 q, h.2.1.other (by omega) _, h.2.2.setCell (p := ⟨w.heap.size, 4, none⟩) (Nat.le_refl _) _⟩
theorem HTwo.back {w w' : World} {p r : ByteArray} {t d n : Int} {p2 r2 : ByteArray} {t2 d2 n2 : Int} (h : HTwo w w' p r t d n p2 r2 t2 d2 n2) (p3 r3 : ByteArray) (t3 d3 n3 : Int) : HTwo w (((((w'.setCell ⟨w.heap.size + 1, 0, none⟩ (.string p3)).setCell ⟨w.heap.size + 1, 1, none⟩ (.string r3)).setCell ⟨w.heap.size + 1, 2, none⟩ (.int .i64 t3)).setCell ⟨w.heap.size + 1, 3, none⟩ (.int .i64 d3)).setCell ⟨w.heap.size + 1, 4, none⟩ (.int .i64 n3)) p r t d n p3 r3 t3 d3 n3 :=
  ⟨((((h.1.other (by omega) _).other (by omega) _).other (by omega) _).other (by omega) _).other (by omega) _, ((((h.2.1.set0 p3).set1 r3).set2 t3).set3 d3).set4 n3,
    ((((h.2.2.setCell (p := ⟨w.heap.size + 1, 0, none⟩) (Nat.le_succ _) _).setCell (p := ⟨w.heap.size + 1, 1, none⟩) (Nat.le_succ _) _).setCell (p := ⟨w.heap.size + 1, 2, none⟩) (Nat.le_succ _) _).setCell (p := ⟨w.heap.size + 1, 3, none⟩) (Nat.le_succ _) _).setCell (p := ⟨w.heap.size + 1, 4, none⟩) (Nat.le_succ _) _⟩

end Go.Proofs.YtplldapkcljllaaGreatDoor

set_option linter.unusedVariables false
namespace Go.Proofs.YtplldapkcljllaaGreatDoor
open Go.RowKit

theorem ok_nonce {h : HeadV} {k : Nat} (hk : k ≤ 400) : headOkB (headNo h k) = headOkB (headNo h 0) := by
  have e1 : decide (0 ≤ (headNo h k).nonce ∧ (headNo h k).nonce ≤ 400) = true := decide_eq_true (by show 0 ≤ (k : Int) ∧ (k : Int) ≤ 400; omega)
  have e2 : decide (0 ≤ (headNo h 0).nonce ∧ (headNo h 0).nonce ≤ 400) = true := decide_eq_true (by show 0 ≤ ((0 : Nat) : Int) ∧ ((0 : Nat) : Int) ≤ 400; omega)
  unfold headOkB
  rw [e1, e2]
  rfl

set_option maxHeartbeats 1000000 in
set_option maxRecDepth 100000 in
theorem specL3Mine (h : HeadV) (w : World) (hok : headOkB (headNo h 0) = true) :
    Calls Tryz.prog 100 #[headVal h] w fun e w' => e = .returned (.tuple #[headVal (headMine h).1, .bool (headMine h).2]) ∧ Below w.heap.size w w' := by
  have HME : Hid (∀ k, k ≤ 400 → headMeets (headNo h k) = true → (∀ j, j < k → headMeets (headNo h j) = false) → headMine h = (headNo h k, true)) := fun k => headMine_yes
  have HNO : Hid ((∀ j, j < 401 → headMeets (headNo h j) = false) → headMine h = (zeroH, false)) := headMine_no
  have HMT := fun (k : Nat) (hk : k ≤ 400) w' => specL3Meets (headNo h k) w' ((ok_nonce hk).trans hok)
  generalize headMine h = M at HME HNO ⊢
  clear hok
  obtain ⟨p, r, t, d, n⟩ := h
  unfold headNo at HMT HME HNO
  unfold headVal at HMT ⊢
  dsimp only at HMT HME HNO ⊢
  have S0 : Hid (HTwo w _ p r t d 0 ⟨#[]⟩ ⟨#[]⟩ 0 0 0) := (HTwo.new w p r t d n ⟨#[]⟩ ⟨#[]⟩ 0 0 0).set4 0
  go_enter Tryz.func100, Tryz.ntmps100
  go_wp2_with fail
  go_loopw [] (fun wr => ∃ k : Nat, k ≤ 401 ∧ Hid (HTwo w wr p r t d (k : Int) ⟨#[]⟩ ⟨#[]⟩ 0 0 0) ∧ Hid (∀ j, j < k → headMeets ⟨p, r, t, d, (j : Int)⟩ = false)) (fun wr => 401 - (intOf ((wr.cell? ⟨w.heap.size, 4, none⟩).getD undef)).toNat)
  case atStart => exact ⟨0, by omega, by first | exact S0 | exact HTwo.new w p r t d 0 ⟨#[]⟩ ⟨#[]⟩ 0 0 0, fun j hj => by omega⟩
  case round =>
    clear S0
    obtain ⟨k, hk, S0, HJ⟩ := hrel
    obtain ⟨c0, c1, c2, c3, c4, z0, z1, z2, z3, z4⟩ := S0.out.1.facts
    obtain ⟨d0, d1, d2, d3, d4, f0, f1, f2, f3, f4⟩ := S0.out.2.1.facts
    by_cases hlt : k < 401
    · have lk : (k : Int) ≤ 400 := by omega
      have hmt := HMT k (by omega)
      have HMk := HME.out k (by omega)
      have HMk' : Hid (headMeets ⟨p, r, t, d, (k : Int)⟩ = true → M = (⟨p, r, t, d, (k : Int)⟩, true)) := fun h => HMk h HJ.out
      have HJ2 : Hid (headMeets ⟨p, r, t, d, (k : Int)⟩ = false → ∀ j, j < k + 1 → headMeets ⟨p, r, t, d, (j : Int)⟩ = false) := by
        intro h j hj
        rcases Nat.lt_or_ge j k with h' | h'
        · exact HJ.out j h'
        · obtain rfl : j = k := by omega
          exact h
      clear HMT HME HMk
      generalize headMeets ⟨p, r, t, d, (k : Int)⟩ = b at hmt HMk' HJ2
      go_wp2_with fail
      refine (hmt _).mono ?_
      rintro e w1 ⟨rfl, b1⟩
      have S2 : Hid (HTwo w w1 p r t d (k : Int) ⟨#[]⟩ ⟨#[]⟩ 0 0 0) := S0.out.call b1
      have HC4 : Hid (wr.cell? ⟨w.heap.size, 4, none⟩ = some (.int .i64 (k : Int))) := c4
      clear c0 c1 c2 c3 c4 z0 z1 z2 z3 z4 d0 d1 d2 d3 d4 f0 f1 f2 f3 f4 S0 b1 hmt
      obtain ⟨c0, c1, c2, c3, c4, z0, z1, z2, z3, z4⟩ := S2.out.1.facts
      obtain ⟨d0, d1, d2, d3, d4, f0, f1, f2, f3, f4⟩ := S2.out.2.1.facts
      cases b with
      | true =>
        have S4 : Hid (HTwo w _ p r t d (k : Int) p r t d (k : Int)) := S2.out.back p r t d (k : Int)
        have HM : Hid (M = (⟨p, r, t, d, (k : Int)⟩, true)) := HMk'.out (by first | rfl | trivial)
        clear HMk' HJ2
        go_wp2_with fail
        exact bodyPost_ret (results_row_tmp (p := 2) (u := 3) rfl _ _ (w.heap.size + 1) 25 #[.string p, .string r, .int .i64 t, .int .i64 d, .int .i64 (k : Int)] (0, 0) _ rfl S4.out.2.1 Tryz.underlying25 rfl (by kernel_rfl)) rfl ⟨by rw [HM.out]; rfl, S4.out.2.2⟩
      | false =>
        have HJ4 : Hid (∀ j, j < k + 1 → headMeets ⟨p, r, t, d, (j : Int)⟩ = false) := HJ2.out (by first | rfl | trivial)
        clear HJ2 HJ HMk'
        have HK1 : Hid (k + 1 ≤ 401) := hlt
        have S5 : Hid (HTwo w (w1.setCell ⟨w.heap.size, 4, none⟩ (.int .i64 ((k : Int) + 1))) p r t d ((k + 1 : Nat) : Int) ⟨#[]⟩ ⟨#[]⟩ 0 0 0) := S2.out.set4 ((k + 1 : Nat) : Int)
        have wk : IntKind.i64.wrap ((k : Int) + 1) = (k : Int) + 1 := by rw [IntKind.wrap_i64]; omega
        go_wp2_with fail
        go_roundw
        case rel => exact ⟨k + 1, HK1.out, S5, HJ4⟩
        case measure =>
          have e1 := S5.out.1.facts.2.2.2.2.1
          rw [e1, HC4.out]
          have := HK1.out
          simp [intOf]
          omega
    · obtain rfl : k = 401 := by omega
      have HM : Hid (M = (zeroH, false)) := HNO.out HJ.out
      have S4 : Hid (HTwo w _ p r t d ((401 : Nat) : Int) ⟨#[]⟩ ⟨#[]⟩ 0 0 0) := S0.out.back ⟨#[]⟩ ⟨#[]⟩ 0 0 0
      clear HMT HME
      go_wp2_with fail
      exact bodyPost_ret (results_row_tmp (p := 2) (u := 3) rfl _ _ (w.heap.size + 1) 25 #[.string ⟨#[]⟩, .string ⟨#[]⟩, .int .i64 0, .int .i64 0, .int .i64 0] (0, 0) _ rfl S4.out.2.1 Tryz.underlying25 rfl (by kernel_rfl)) rfl ⟨by rw [HM.out]; rfl, S4.out.2.2⟩

end Go.Proofs.YtplldapkcljllaaGreatDoor

set_option linter.unusedVariables false
namespace Go.Proofs.YtplldapkcljllaaGreatDoor
open Go.RowKit

end Go.Proofs.YtplldapkcljllaaGreatDoor

set_option linter.unusedVariables false
namespace Go.Proofs.YtplldapkcljllaaGreatDoor
open Go.RowKit

end Go.Proofs.YtplldapkcljllaaGreatDoor

