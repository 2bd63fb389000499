/-
  Texts that the last part needs, joined.
-/
import Derived.Test.YtkajpkfhedfmaaaGreatDoorPart1
import Derived.Test.YtkajpkfhedfmaaaGreatDoorPart2
import Derived.Test.YtkajpkfhedfmaaaGreatDoorPart3
import Derived.Test.YtkajpkfhedfmaaaGreatDoorPart4
import Derived.Test.YtkajpkfhedfmaaaGreatDoorPart5
import Derived.Test.YtkajpkfhedfmaaaGreatDoorPart6
import Derived.Test.YtkajpkfhedfmaaaGreatDoorPart7
import Derived.Test.YtkajpkfhedfmaaaGreatDoorPart8
import Derived.Test.YtkajpkfhedfmaaaGreatDoorPart9
import Derived.Test.YtkajpkfhedfmaaaGreatDoorPart10
import Derived.Test.YtkajpkfhedfmaaaGreatDoorPart11
import Derived.Test.YtkajpkfhedfmaaaGreatDoorPart12
import Derived.Test.YtkajpkfhedfmaaaGreatDoorPart13
import Derived.Deep.RegionWith
import Derived.Deep.RegionHeld3
import Derived.Deep.AppendLies
import Derived.Deep.Cut
import Derived.Laws.EntriesVeiled
set_option linter.unusedVariables false
namespace Go.Proofs.YtkajpkfhedfmaaaGreatDoor
open Go.RowKit Go.Deep

/-- Whether heads can be those of a range. -/
def headsB (l : List HeadV) : Bool := decide (l.length ≤ 20) && l.all headOkB
theorem heads_at {l : List HeadV} (h : headsB l = true) (i : Nat) (hi : i < l.length) : headOkB (l.getD i default) = true := by
  rw [headsB, Bool.and_eq_true, List.all_eq_true] at h
  rw [List.getD_eq_getElem?_getD, List.getElem?_eq_getElem hi]
  exact h.2 _ (List.getElem_mem hi)
theorem heads_len {l : List HeadV} (h : headsB l = true) : l.length ≤ 20 := by
  rw [headsB, Bool.and_eq_true, decide_eq_true_eq] at h
  exact h.1
theorem heads_long {l : List HeadV} (h : ¬ l.length ≤ 20) : headsB l = false := by rw [headsB, decide_eq_false h]; rfl
theorem heads_bad {l : List HeadV} {i : Nat} (hi : i < l.length) (h : headOkB (l.getD i default) = false) : headsB l = false := by
  cases hs : headsB l with
  | false => rfl
  | true => rw [heads_at hs i hi] at h; cases h
theorem heads_good {l : List HeadV} (h8 : l.length ≤ 20) (h : ∀ i, i < l.length → headOkB (l.getD i default) = true) : headsB l = true := by
  rw [headsB, decide_eq_true h8, Bool.true_and, List.all_eq_true]
  intro q hq
  obtain ⟨j, hj, rfl⟩ := List.mem_iff_getElem.1 hq
  have := h j hj
  rwa [List.getD_eq_getElem?_getD, List.getElem?_eq_getElem hj] at this
/-- The peaks that RangeOf tells. -/
def ofL (l : List HeadV) : List PeakV := if headsB l = true then ofP l l.length else []
theorem ofL_len (l : List HeadV) : (ofL l).length ≤ 20 := by
  unfold ofL
  split
  · rename_i h
    have h1 := heads_len h
    have h2 := (ofP_ok (heads_at h) h1 l.length (Nat.le_refl _)).2.2
    omega
  · exact Nat.zero_le _

set_option maxHeartbeats 2000000 in
set_option maxRecDepth 100000 in
theorem implRangeHeadsOk (g n cap : Nat) (l : List HeadV) (w : World) (hA : AtHead w g l) (hn : n = l.length) (hm : n ≤ 1048576) :
    Calls Tryz.prog 28 #[.slice (some ⟨g, 0, none⟩) n cap] w fun e w' => e = .returned (.bool (headsB l)) ∧ Below w.heap.size w w' := by
  by_cases h20 : n ≤ 20
  · have HA : Hid (AtHead w g l) := hA
    have HN : Hid (n = l.length) := hn
    have HBAD : Hid (∀ k, k < n → headOkB (l.getD k default) = false → headsB l = false) := fun k hk he => heads_bad (by omega) he
    have HGOO : Hid ((∀ k, k < n → headOkB (l.getD k default) = true) → headsB l = true) := fun hf => heads_good (by omega) (fun i hi => hf i (by omega))
    generalize headsB l = R at HBAD HGOO ⊢
    have h21 : ¬ (20 : Int) < (n : Int) := by omega
    clear hA hn
    go_enter Tryz.func28, Tryz.ntmps28
    go_wp2_with fail
    go_loopw [10] (fun i wr => ∃ k : Nat, k ≤ n ∧ i = .int .i64 (k : Int) ∧ Hid (Below w.heap.size w wr) ∧ Hid (∀ j, j < k → headOkB (l.getD j default) = true)) (fun i _ => n - (intOf i).toNat)
    case atStart => exact ⟨0, by omega, rfl, Below.refl _ _, fun j hj => by omega⟩
    case round =>
      obtain ⟨k, hk, rfl, HB, HQ⟩ := hrel
      by_cases hlt : k < n
      · have hkl : k < l.length := by rw [← HN.out]; exact hlt
        have HAr := HA.out.below HB.out HA.out.1
        have c0 := AtHead.c0 HAr k hkl
        have c1 := AtHead.c1 HAr k hkl
        have c2 := AtHead.c2 HAr k hkl
        have c3 := AtHead.c3 HAr k hkl
        have c4 := AtHead.c4 HAr k hkl
        have lk : (k : Int) < (n : Int) := by omega
        have lk0 : (0 : Int) ≤ (k : Int) := by omega
        have wk : IntKind.i64.wrap ((k : Int) + 1) = (k : Int) + 1 := by rw [IntKind.wrap_i64]; omega
        have HK1 : Hid (k + 1 ≤ n) := hlt
        have HH : Hid (headOkB (l.getD k default) = false → R = false) := HBAD.out k hlt
        have HQ2 : Hid (headOkB (l.getD k default) = true → ∀ j, j < k + 1 → headOkB (l.getD j default) = true) := by
          intro h j hj
          rcases Nat.lt_or_ge j k with h' | h'
          · exact HQ.out j h'
          · obtain rfl : j = k := by omega
            exact h
        have hho := fun w' => implHeadOk (l.getD k default) w'
        clear HQ HBAD HGOO hkl HAr
        generalize headOkB (l.getD k default) = ok at hho HH HQ2
        generalize l.getD k default = h at c0 c1 c2 c3 c4 hho
        have L0 : Hid (Below wr.heap.size wr (wr.alloc (.cells #[.string h.prev, .string h.root, .int .i64 h.time, .int .i64 h.diff, .int .i64 h.nonce] 36))) := (Below.refl _ wr).alloc (Nat.le_refl _) _
        cases ok with
        | false =>
          have HV : Hid (R = false) := HH.out rfl
          clear HH HQ2
          go_wp2_with fail
          refine (hho _).mono ?_
          rintro e w1 ⟨rfl, b1⟩
          have HB1 : Hid (Below w.heap.size w w1) := HB.out.trans ((L0.out.trans (b1.mono L0.out.size)).mono HB.out.size)
          clear b1
          go_wp2_with fail
          go_ret
          exact ⟨by rw [HV.out]; rfl, HB1.out⟩
        | true =>
          have HQ3 : Hid (∀ j, j < k + 1 → headOkB (l.getD j default) = true) := HQ2.out rfl
          clear HH HQ2
          go_wp2_with fail
          refine (hho _).mono ?_
          rintro e w1 ⟨rfl, b1⟩
          have HB1 : Hid (Below w.heap.size w w1) := HB.out.trans ((L0.out.trans (b1.mono L0.out.size)).mono HB.out.size)
          clear b1
          go_wp2_with fail
          go_roundw
          case rel => exact ⟨k + 1, HK1.out, by go_num, HB1, HQ3⟩
          case measure => have := HK1.out; simp [intOf]; omega
      · obtain rfl : k = n := by omega
        have HV : Hid (R = true) := HGOO.out HQ.out
        clear HBAD HGOO HQ
        go_wp2_with fail
        go_ret
        exact ⟨by rw [HV.out]; rfl, HB.out⟩
  · have HV : Hid (headsB l = false) := heads_long (by omega)
    generalize headsB l = R at HV ⊢
    have h21 : (20 : Int) < (n : Int) := by omega
    clear hA hn
    go_enter Tryz.func28, Tryz.ntmps28
    go_wp2_with fail
    go_ret
    exact ⟨by rw [HV.out]; rfl, Below.refl _ _⟩

def RofPost (l : List HeadV) (w : World) (e : Ending) (w' : World) : Prop := ∃ v, e = .returned v ∧ Pks w.heap.size v (ofL l) w' ∧ Below w.heap.size w w'
theorem of_no {l : List HeadV} {w w' : World} (h : headsB l = false) (hb : Below w.heap.size w w') : RofPost l w (.returned (.slice none 0 0)) w' := ⟨_, rfl, .inl ⟨rfl, by rw [ofL, h]; rfl⟩, hb⟩
theorem of_yes {l : List HeadV} {w w' : World} {v : Value} (h : headsB l = true) (hr : PRow w.heap.size v (ofP l l.length) w') (hb : Below w.heap.size w w') : RofPost l w (.returned v) w' := ⟨_, rfl, .inr (by rw [ofL, if_pos h]; exact PBk.frow hr), hb⟩

set_option maxHeartbeats 4000000 in
set_option maxRecDepth 100000 in
theorem implRangeOf (g n cap : Nat) (l : List HeadV) (w : World) (hA : AtHead w g l) (hn : n = l.length) (hm : n ≤ 1048576) (hK : RowG w shaK) (hP : TabP w) :
    Calls Tryz.prog 10 #[.slice (some ⟨g, 0, none⟩) n cap] w fun e w' => RofPost l w e w' := by
  have hhs := implRangeHeadsOk g n cap l w hA hn hm
  have HA : Hid (AtHead w g l) := hA
  have HN : Hid (n = l.length) := hn
  have HNO : Hid (∀ w', headsB l = false → Below w.heap.size w w' → RofPost l w (.returned (.slice none 0 0)) w') := fun w' h1 h2 => of_no h1 h2
  have HYES : Hid (∀ w' v, headsB l = true → PRow w.heap.size v (ofP l n) w' → Below w.heap.size w w' → RofPost l w (.returned v) w') := fun w' v h1 h2 h3 => of_yes h1 (by rw [← hn]; exact h2) h3
  generalize RofPost l w = Q at HNO HYES ⊢
  cases hk : headsB l with
  | false =>
    have HV : Hid (∀ w', Below w.heap.size w w' → Q (.returned (.slice none 0 0)) w') := fun w' h => HNO.out w' hk h
    rw [hk] at hhs
    clear HNO HYES hA hn hK hP
    go_enter Tryz.func10, Tryz.ntmps10
    go_wp2_with fail
    refine hhs.mono ?_
    rintro e w1 ⟨rfl, b1⟩
    go_wp2_with fail
    exact HV.out _ b1
  | true =>
  have HV : Hid (∀ w' v, PRow w.heap.size v (ofP l n) w' → Below w.heap.size w w' → Q (.returned v) w') := fun w' v h2 h3 => HYES.out w' v hk h2 h3
  have HM : Hid (n ≤ 20) := by show _ ≤ _; have := heads_len hk; omega
  have HPU : Hid (∀ k, k < n → ∀ (w' : World) (g4 : Nat), Stk w w' g4 (ofP l k) → Calls Tryz.prog 30 #[.pointer (some ⟨g4, 0, none⟩), peakVal (leafP (l.getD k default))] w' fun e w'' => PushRes w g4 (ofP l (k + 1)) e w'') := fun k hkn w' g4 hs => by
    obtain ⟨h1, h2, h3⟩ := ofP_ok (heads_at hk) (heads_len hk) k (by omega)
    have hh := heads_at hk k (by omega)
    exact implPush w g4 (ofP l k) _ w' hs (by have := heads_len hk; omega) (fun i hi => getD_all (C := fun q => peakOkB q = true) h1 i hi) (room_leaf hh (by rw [h2]; have := heads_len hk; omega)) hK hP
  have HPH : Hid (∀ k, k < n → ∀ (w' : World), Below w.heap.size w w' → Calls Tryz.prog 31 #[headVal (l.getD k default)] w' fun e w'' => e = .returned (peakVal (leafP (l.getD k default))) ∧ Below w'.heap.size w' w'') := fun k hkn w' hb => implPeakHead _ w' (heads_at hk k (by omega)) (hK.below hb hK.lt) (TabP.below hP hb (Nat.le_refl _))
  rw [hk] at hhs
  clear HNO HYES hA hn hK hP hk
  unfold headVal at HPH
  unfold peakVal at HPH HPU
  go_enter Tryz.func10, Tryz.ntmps10
  go_wp2_with fail
  refine hhs.mono ?_
  rintro e w1 ⟨rfl, b1⟩
  have B1 : Hid (Below w.heap.size w w1) := b1
  clear b1 hhs
  go_wp2_with fail
  refine Calls.mono (implPeakStackNil w1) ?_
  rintro e w2 ⟨g4, rfl, hs2⟩
  have S2 : Hid (Stk w w2 g4 (ofP l 0)) := hs2.lower B1.out
  clear hs2 B1
  go_wp2_with fail
  go_loopw [12] (fun i wr => ∃ k : Nat, k ≤ n ∧ i = .int .i64 (k : Int) ∧ Hid (Stk w wr g4 (ofP l k))) (fun i _ => n - (intOf i).toNat)
  case atStart => exact ⟨0, by omega, rfl, S2⟩
  case round =>
    clear S2
    obtain ⟨k, hk, rfl, SK⟩ := hrel
    by_cases hlt : k < n
    · have hkl : k < l.length := by rw [← HN.out]; exact hlt
      have HAr := HA.out.below SK.out.b HA.out.1
      have c0 := AtHead.c0 HAr k hkl
      have c1 := AtHead.c1 HAr k hkl
      have c2 := AtHead.c2 HAr k hkl
      have c3 := AtHead.c3 HAr k hkl
      have c4 := AtHead.c4 HAr k hkl
      have lk : (k : Int) < (n : Int) := by omega
      have lk0 : (0 : Int) ≤ (k : Int) := by omega
      have wk : IntKind.i64.wrap ((k : Int) + 1) = (k : Int) + 1 := by have := HM.out; rw [IntKind.wrap_i64]; omega
      have HK1 : Hid (k + 1 ≤ n) := hlt
      have HPUk := HPU.out k hlt
      have HPHk := HPH.out k hlt
      have HPUk : Hid _ := HPUk
      have HPHk : Hid _ := HPHk
      clear hkl HAr
      generalize leafP (l.getD k default) = p at HPUk HPHk
      generalize l.getD k default = h at c0 c1 c2 c3 c4 HPHk
      have L0 : Hid (Below wr.heap.size wr (wr.alloc (.cells #[.string h.prev, .string h.root, .int .i64 h.time, .int .i64 h.diff, .int .i64 h.nonce] 36))) := (Below.refl _ wr).alloc (Nat.le_refl _) _
      have SA : Hid (Stk w (wr.alloc (.cells #[.string h.prev, .string h.root, .int .i64 h.time, .int .i64 h.diff, .int .i64 h.nonce] 36)) g4 (ofP l k)) := SK.out.call L0.out
      have hph := HPHk.out _ SA.out.b
      clear SK HPHk
      go_wp2_with fail
      refine hph.mono ?_
      rintro e w3 ⟨rfl, b3⟩
      have S3 : Hid (Stk w w3 g4 (ofP l k)) := SA.out.call b3
      have hpu := HPUk.out _ _ S3.out
      clear SA b3 hph HPUk c0 c1 c2 c3 c4 L0
      go_wp2_with fail
      refine Calls.mono hpu ?_
      rintro e w4 ⟨rfl, hs4⟩
      have S4 : Hid (Stk w w4 g4 (ofP l (k + 1))) := hs4
      clear hs4 hpu S3
      go_wp2_with fail
      go_roundw
      case rel => exact ⟨k + 1, HK1.out, by go_num, S4⟩
      case measure => have := HK1.out; simp [intOf]; omega
    · obtain rfl : k = n := by omega
      obtain ⟨r, c, M, hw⟩ := id SK.out
      have SW : Hid (StkW w wr g4 r c M (ofP l k)) := hw
      clear hw SK HPU HPH
      obtain ⟨a0, a1, a2⟩ := SW.out.outs
      go_wp2_with fail
      exact HV.out _ _ SW.out.frow SW.out.b

end Go.Proofs.YtkajpkfhedfmaaaGreatDoor

set_option linter.unusedVariables false
namespace Go.Proofs.YtkajpkfhedfmaaaGreatDoor
open Go.RowKit Go.Deep

/-- The stack behind m leaves, the first node first. -/
def stS (l : List HeadV) (x m : Nat) : List NodeV := (stkN (leafF l) x m).reverse
theorem stS_step (l : List HeadV) (x m : Nat) : addS (stS l x m) (leafF l m, decide (m = x)) = stS l x (m + 1) := by simp [addS, stS, stkN]
theorem noteS_step (l : List HeadV) (x m : Nat) : notesN (leafF l) x m ++ noteS (stS l x m) (leafF l m, decide (m = x)) = notesN (leafF l) x (m + 1) := by simp [noteS, stS, notesN]
theorem stS_fst (l : List HeadV) (x m : Nat) : (stS l x m).map Prod.fst = ofP l m := by rw [stS, List.map_reverse, stk_ofP, List.reverse_reverse]
theorem stS_len (l : List HeadV) (x m : Nat) : (stS l x m).length = (ofP l m).length := by rw [← stS_fst l x m, List.length_map]
theorem noteN_len (a b : NodeV) : (noteN a b).length ≤ 2 := by
  unfold noteN
  rw [List.length_append]
  split <;> split <;> simp
theorem noteR_len : ∀ (r : List NodeV) (p : NodeV), (noteR r p).length ≤ 2 * r.length
  | [], p => by simp [noteR]
  | q :: r, p => by
    rw [noteR]
    split
    · have h1 := noteN_len q p
      have h2 := noteR_len r (bothN q p)
      rw [List.length_append, List.length_cons]
      omega
    · simp
theorem notes_len {l : List HeadV} (h : ∀ i, i < l.length → headOkB (l.getD i default) = true) (hl : l.length ≤ 20) (x : Nat) : ∀ m, m ≤ l.length → (notesN (leafF l) x m).length ≤ 40 * m
  | 0, _ => Nat.le_refl _
  | m + 1, hm => by
    have h1 := notes_len h hl x m (by omega)
    have h2 := noteR_len (stkN (leafF l) x m) (leafF l m, decide (m = x))
    have h3 := (ofP_ok h hl m (by omega)).2.2
    have h4 := stS_len l x m
    rw [stS, List.length_reverse] at h4
    rw [notesN, List.length_append]
    omega
theorem addR_lenN : ∀ (r : List PeakV) (p : PeakV), (addR r p).length ≤ r.length + 1
  | [], p => by simp [addR]
  | q :: r, p => by
    rw [addR]
    split
    · have := addR_lenN r (bothP q p)
      rw [List.length_cons]
      omega
    · simp
theorem ofP_len_le (l : List HeadV) : ∀ k, (ofP l k).length ≤ k
  | 0 => Nat.le_refl _
  | k + 1 => by
    have h1 := ofP_len_le l k
    have h2 := addR_lenN (ofP l k).reverse (leafP (l.getD k default))
    rw [ofP, addP, List.length_reverse]
    rw [List.length_reverse] at h2
    omega
/-- What RangeProof tells. -/
def proofL (l : List HeadV) (x : Int) : List PeakV × List PeakV := if headsB l = true ∧ 0 ≤ x ∧ x < (l.length : Int) then (ofP l l.length, notesN (leafF l) x.toNat l.length) else ([], [])
def PrfPost (l : List HeadV) (x : Int) (w : World) (e : Ending) (w' : World) : Prop := ∃ vp vs, e = .returned (.agg #[vp, vs]) ∧ Pks w.heap.size vp (proofL l x).1 w' ∧ Pks w.heap.size vs (proofL l x).2 w' ∧ Below w.heap.size w w'
/-- The two lists of an answer are apart. -/
def Dis (e : Ending) : Prop := ∀ vp vs b, e = .returned (.agg #[vp, vs]) → blkOf vp b → ¬ blkOf vs b
theorem prf_no {l : List HeadV} {x : Int} {w w' : World} (h : ¬ (headsB l = true ∧ 0 ≤ x ∧ x < (l.length : Int))) (hb : Below w.heap.size w w') : PrfPost l x w (.returned (.agg #[.slice none 0 0, .slice none 0 0])) w' ∧ Dis (.returned (.agg #[.slice none 0 0, .slice none 0 0])) := by
  have e : proofL l x = ([], []) := by rw [proofL, if_neg h]
  refine ⟨⟨_, _, rfl, .inl ⟨rfl, by rw [e]⟩, .inl ⟨rfl, by rw [e]⟩, hb⟩, ?_⟩
  intro vp vs b he h1 h2
  simp only [Ending.returned.injEq, Value.agg.injEq, Array.mk.injEq, List.cons.injEq, and_true] at he
  rw [← he.1] at h1
  exact h1
theorem pks_own {B : Nat} {v : Value} {l : List PeakV} {w : World} (h : w.ownsRow B 67 3 v l.length (l.flatMap pEnc)) : Pks B v l w := by
  rcases h.2 with ⟨rfl, h0⟩ | ⟨g, cap, cur, rfl, _⟩
  · exact .inl ⟨rfl, List.eq_nil_of_length_eq_zero h0⟩
  · exact .inr (PBk.frow (FRow.of h rfl))
theorem prf_yes {l : List HeadV} {X : Nat} {w w' : World} {vp vs : Value} {B : Nat} (hk : headsB l = true) (hx : X < l.length) (hp : w'.ownsRow B 67 3 vp (ofP l l.length).length ((ofP l l.length).flatMap pEnc)) (hs : w'.ownsRow w.heap.size 67 3 vs (notesN (leafF l) X l.length).length ((notesN (leafF l) X l.length).flatMap pEnc)) (hB : w.heap.size ≤ B) (hv : ∀ b, vs.ownBlock = some b → b < B) (hb : Below w.heap.size w w') : PrfPost l (X : Int) w (.returned (.agg #[vp, vs])) w' ∧ Dis (.returned (.agg #[vp, vs])) := by
  have e : proofL l (X : Int) = (ofP l l.length, notesN (leafF l) X l.length) := by rw [proofL, if_pos ⟨hk, by omega, by omega⟩]; rfl
  have hp' := pks_own hp
  refine ⟨⟨_, _, rfl, by rw [e]; exact hp'.mono hB, by rw [e]; exact pks_own hs, hb⟩, ?_⟩
  intro vp' vs' b he h1 h2
  simp only [Ending.returned.injEq, Value.agg.injEq, Array.mk.injEq, List.cons.injEq, and_true] at he
  obtain ⟨rfl, rfl⟩ := he
  have h3 := (hp'.blk h1).2
  have h4 : vs.ownBlock = some b := by
    cases vs with
    | slice a n c =>
      cases a with
      | none => exact absurd h2 (by simp [blkOf])
      | some a => simpa [blkOf, Value.ownBlock] using h2
    | _ => exact absurd h2 (by simp [blkOf])
  have := hv b h4
  omega
/-- While the peaks are laid: B blocks stood ahead of it. -/
structure PkW (w0 wB wr : World) (gp : Nat) (vp vs : Value) (ps : List PeakV) : Prop where
  k : CBk wr gp 44 #[vp, vs]
  row : wr.ownsRow wB.heap.size 67 3 vp ps.length (ps.flatMap pEnc)
  same : ∀ c, c < wB.heap.size → c ≠ gp → wr.heap[c]? = wB.heap[c]?
  b : Below w0.heap.size w0 wr
  size : wB.heap.size ≤ wr.heap.size
  g : w0.heap.size ≤ gp
  lt : gp < wB.heap.size
theorem PkW.call {w0 wB wr w' : World} {gp : Nat} {vp vs : Value} {ps : List PeakV} (h : PkW w0 wB wr gp vp vs ps) (hb : Below wr.heap.size wr w') : PkW w0 wB w' gp vp vs ps :=
  ⟨h.k.call hb, ownE_keep h.row (fun b _ hlt => hb.block b hlt), fun c hc hne => (hb.block c (Nat.lt_of_lt_of_le hc h.size)).trans (h.same c hc hne), h.b.trans (hb.mono h.b.size), Nat.le_trans h.size hb.size, h.g, h.lt⟩
theorem PkW.at {w0 wB wr : World} {gp : Nat} {vp vs : Value} {ps : List PeakV} (h : PkW w0 wB wr gp vp vs ps) {c j : Nat} (hc : c < wB.heap.size) (hne : c ≠ gp) : wr.cell? ⟨c, j, none⟩ = wB.cell? ⟨c, j, none⟩ := World.cell?_of_block (a := ⟨c, j, none⟩) (h.same c hc hne)
theorem PkW.keep4 {w0 wB wr w4 : World} {gp : Nat} {vp vs : Value} {ps : List PeakV} (h : PkW w0 wB wr gp vp vs ps) (hb : Below wB.heap.size wr w4) : w4.cell? ⟨gp, 0, none⟩ = some vp ∧ w4.frozen? ⟨gp, 0, none⟩ = false := by
  have h1 : CBk w4 gp 44 #[vp, vs] := h.k.below hb h.lt
  exact ⟨h1.cell 0, h1.frozen 0⟩
theorem PkW.laid {w0 wB wr w4 : World} {gp g4 c4 : Nat} {vp vs : Value} {ps : List PeakV} {t : PeakV} (h : PkW w0 wB wr gp vp vs ps) (hown : w4.ownsRow wB.heap.size 67 3 (.slice (some ⟨g4, 0, none⟩) (ps.length + 1) c4) (ps.length + 1) (ps.flatMap pEnc ++ pEnc t)) (hb : Below wB.heap.size wr w4) (hw : w0.heap.size ≤ wB.heap.size) : PkW w0 wB (w4.setCell ⟨gp, 0, none⟩ (.slice (some ⟨g4, 0, none⟩) (ps.length + 1) c4)) gp (.slice (some ⟨g4, 0, none⟩) (ps.length + 1) c4) vs (ps ++ [t]) := by
  have h1 : CBk w4 gp 44 #[vp, vs] := h.k.below hb h.lt
  have hown' : w4.ownsRow wB.heap.size 67 3 (.slice (some ⟨g4, 0, none⟩) (ps.length + 1) c4) (ps ++ [t]).length ((ps ++ [t]).flatMap pEnc) := by
    rw [List.length_append, List.flatMap_append]
    simpa using hown
  refine ⟨h1.set 0 _, own_set hown' h1 ftne, fun c hc hne => ?_, (h.b.trans (hb.mono hw)).setCell (p := ⟨gp, 0, none⟩) h.g _, by simpa using Nat.le_trans h.size hb.size, h.g, h.lt⟩
  rw [← h.same c hc hne, ← hb.block c hc]
  simp [World.setCell, Array.getElem?_modify, Ne.symm hne]
theorem PkW.start {w0 wB : World} {gp : Nat} {vs : Value} {ss : List PeakV} (h : PfW w0 wB gp vs ss) : PkW w0 wB wB gp (.slice none 0 0) vs [] :=
  ⟨h.k, ⟨rfl, .inl ⟨rfl, rfl⟩⟩, fun _ _ _ => rfl, h.b, Nat.le_refl _, h.lo, h.k.lt⟩
/-- The answer's block, ahead of the last store. -/
theorem PkW.last {w1 wB wr : World} {gp g4 : Nat} {vp vs : Value} {ps : List PeakV} {cs : Array Value} (h : PkW w1 wB wr gp vp vs ps) (h4 : CBk w1 g4 44 cs) : CBk wr g4 44 cs := h4.call h.b
theorem PkW.fin {w w1 wB wr : World} {gp g4 : Nat} {vp vs : Value} {ps ss : List PeakV} (h : PkW w1 wB wr gp vp vs ps) (hs : PfW w1 wB gp vs ss) (h4 : CBk w1 g4 44 #[.slice none 0 0, .slice none 0 0]) (hb : Below w.heap.size w w1) (hw : w.heap.size ≤ g4) :
    CBk ((wr.setCell ⟨g4, 0, none⟩ vp).setCell ⟨g4, 1, none⟩ vs) g4 44 #[vp, vs] ∧ ((wr.setCell ⟨g4, 0, none⟩ vp).setCell ⟨g4, 1, none⟩ vs).ownsRow wB.heap.size 67 3 vp ps.length (ps.flatMap pEnc) ∧ ((wr.setCell ⟨g4, 0, none⟩ vp).setCell ⟨g4, 1, none⟩ vs).ownsRow w.heap.size 67 3 vs ss.length (ss.flatMap pEnc) ∧ w.heap.size ≤ wB.heap.size ∧ (∀ b, vs.ownBlock = some b → b < wB.heap.size) ∧ Below w.heap.size w ((wr.setCell ⟨g4, 0, none⟩ vp).setCell ⟨g4, 1, none⟩ vs) := by
  have h5 : CBk wr g4 44 #[.slice none 0 0, .slice none 0 0] := h4.call h.b
  have h6 := h5.set 0 vp
  have hrs : wr.ownsRow w1.heap.size 67 3 vs ss.length (ss.flatMap pEnc) := ownE_keep hs.row (fun b hv hlt => by
    obtain ⟨⟨cur, hc⟩, _⟩ := ownE_is hs.row hv
    exact h.same b hlt (cbk_ne hc hs.k (Ne.symm ftne)))
  refine ⟨h6.set 1 vs, own_set (own_set h.row h5 ftne) h6 ftne, ownE_mono (own_set (own_set hrs h5 ftne) h6 ftne) hb.size, Nat.le_trans hb.size hs.b.size, fun b hv => ?_, ?_⟩
  · obtain ⟨⟨cur, hc⟩, _⟩ := ownE_is hs.row hv
    exact hc.lt
  · exact ((hb.trans (h.b.mono hb.size)).setCell (p := ⟨g4, 0, none⟩) hw _).setCell (p := ⟨g4, 1, none⟩) hw _
theorem NSt.open {w1 : World} (w1' : World) {l : List HeadV} {X : Nat} (hw : w1' = (w1.alloc (.cells #[.slice none 0 0, .slice none 0 0] 44)).alloc (.cells #[.slice none 0 0, .func (.func 66) #[] #[], .func (.func 67) #[] #[.pointer (some ⟨w1.heap.size, 0, none⟩)]] 124)) : NSt w1 w1' w1.heap.size (w1.heap.size + 1) none 0 0 (stS l X 0) (notesN (leafF l) X 0) := by
  subst hw
  have b1 : Below w1.heap.size w1 (w1.alloc (.cells #[.slice none 0 0, .slice none 0 0] 44)) := (Below.refl _ w1).alloc (Nat.le_refl _) _
  have b2 := b1.alloc (o := .cells #[.slice none 0 0, .func (.func 66) #[] #[], .func (.func 67) #[] #[.pointer (some ⟨w1.heap.size, 0, none⟩)]] 124) b1.size
  refine ⟨?_, ⟨rfl, .inl ⟨rfl, rfl⟩⟩, rfl, ⟨.slice none 0 0, (CBk.new w1 _ _).alloc _, ⟨rfl, .inl ⟨rfl, rfl⟩⟩, b2, Nat.le_refl _⟩, Nat.le_succ _⟩
  have := CBk.new (w1.alloc (.cells #[.slice none 0 0, .slice none 0 0] 44)) 124 #[.slice none 0 0, .func (.func 66) #[] #[], .func (.func 67) #[] #[.pointer (some ⟨w1.heap.size, 0, none⟩)]]
  rwa [show (w1.alloc (.cells #[.slice none 0 0, .slice none 0 0] 44)).heap.size = w1.heap.size + 1 from by simp] at this
end Go.Proofs.YtkajpkfhedfmaaaGreatDoor

set_option linter.unusedVariables false
namespace Go.Proofs.YtkajpkfhedfmaaaGreatDoor
open Go.RowKit Go.Deep

def PlacePost (ps : List PeakV) (a : Int) (e : Ending) : Prop := (∃ k, placeP ps a = some k ∧ e = .returned (.tuple #[.int .i64 (k : Int), .int .i64 (cntTo ps k)])) ∨ (placeP ps a = none ∧ ∃ x, e = .returned (.tuple #[.int .i64 (-1), .int .i64 x]))
theorem results_cell_tmp2 {fn : Func} {p u v : Tmp} {ty : TypeId} (h : fn.results = #[.cell p ty, .tmp u, .tmp v]) (tmps : Array Value) (P : Program) (w : World) :
    (results fn tmps).run P w =
      ((asAddr (tmps.getD p undef)).run P w).andThen fun a w₁ => ((loadVar ty a).run P w₁).andThen fun x w₂ => .ok (.tuple #[x, tmps.getD u undef, tmps.getD v undef]) w₂ := by
  simp only [results, h]
  simp [Sem.run_bind, Result.andThen]
theorem results_row_tmp2 {P : Program} {fn : Func} {p u v : Tmp} {ty : TypeId} (h : fn.results = #[.cell p ty, .tmp u, .tmp v]) (tmps : Array Value) (w : World) (g : Nat) (t : TypeId) (cs : Array Value) (fr : Nat × Nat) (d : TypeDesc)
    (hp : tmps.getD p undef = .pointer (some ⟨g, 0, none⟩)) (hg : w.heap[g]? = some (.cells cs t fr))
    (hu : P.underlying ty = some d) (hd : (match d with | .struct _ | .array _ _ => true | _ => false) = true) (hi : (P.info? ty).map (·.size) = some cs.size) :
    (results fn tmps).run P w = .ok (.tuple #[.agg cs, tmps.getD u undef, tmps.getD v undef]) w := by
  rw [results_cell_tmp2 h, hp]
  simp [asAddr, run_loadVar_row w g t ty cs fr d hg hu hd hi, Result.andThen]

/-- What stands while a leaf is led up: the peak so far, the place of the answer. -/
structure WalkW (w wr : World) (g3 : Nat) (q : PeakV) : Prop where
  p : CBk wr g3 67 #[.string q.sum, .int .i64 q.work, .int .i64 q.count]
  r : CBk wr (g3 + 1) 67 #[.string ⟨#[]⟩, .int .i64 0, .int .i64 0]
  lo : w.heap.size ≤ g3
  b : Below w.heap.size w wr
theorem WalkW.call {w wr w' : World} {g3 : Nat} {q : PeakV} (h : WalkW w wr g3 q) (hb : Below wr.heap.size wr w') : WalkW w w' g3 q :=
  ⟨h.p.call hb, h.r.call hb, h.lo, h.b.trans (hb.mono h.b.size)⟩
theorem WalkW.store {w wr : World} {g3 : Nat} {q : PeakV} (h : WalkW w wr g3 q) (x : PeakV) : WalkW w (((wr.setCell ⟨g3, 0, none⟩ (.string x.sum)).setCell ⟨g3, 1, none⟩ (.int .i64 x.work)).setCell ⟨g3, 2, none⟩ (.int .i64 x.count)) g3 x := by
  have h2 := h.lo
  exact ⟨h.p.set3, ((h.r.other (by omega) _).other (by omega) _).other (by omega) _, h2, ((h.b.setCell (p := ⟨g3, 0, none⟩) (by show w.heap.size ≤ g3; omega) _).setCell (p := ⟨g3, 1, none⟩) (by show w.heap.size ≤ g3; omega) _).setCell (p := ⟨g3, 2, none⟩) (by show w.heap.size ≤ g3; omega) _⟩
theorem WalkW.back {w wr : World} {g3 : Nat} {q : PeakV} (h : WalkW w wr g3 q) (x : PeakV) : Below w.heap.size w (((wr.setCell ⟨g3 + 1, 0, none⟩ (.string x.sum)).setCell ⟨g3 + 1, 1, none⟩ (.int .i64 x.work)).setCell ⟨g3 + 1, 2, none⟩ (.int .i64 x.count)) := by
  have h2 := h.lo
  exact ((h.b.setCell (p := ⟨g3 + 1, 0, none⟩) (by show w.heap.size ≤ g3 + 1; omega) _).setCell (p := ⟨g3 + 1, 1, none⟩) (by show w.heap.size ≤ g3 + 1; omega) _).setCell (p := ⟨g3 + 1, 2, none⟩) (by show w.heap.size ≤ g3 + 1; omega) _
/-- What the walk of a leaf answers. -/
def WalkPost (lf : PeakV) (a : Nat) (ss : List PeakV) (n : Nat) (e : Ending) : Prop := (∃ q l, walkTo lf a ss n = some (q, l) ∧ e = .returned (.tuple #[peakVal q, .int .i64 l, .bool true])) ∨ (walkTo lf a ss n = none ∧ ∃ q, e = .returned (.tuple #[peakVal q, .int .i64 0, .bool false]))

end Go.Proofs.YtkajpkfhedfmaaaGreatDoor

set_option linter.unusedVariables false
namespace Go.Proofs.YtkajpkfhedfmaaaGreatDoor
open Go.RowKit Go.Deep

theorem tree_ok {l : List HeadV} (h : ∀ i, i < l.length → headOkB (l.getD i default) = true) (hl : l.length ≤ 20) : ∀ (k b : Nat), b + 2 ^ k ≤ l.length → peakOkB (treeT (leafF l) b k) = true
  | 0, b, hb => by
    rw [treeT]
    exact fine_ok (fine_leaf (h b (by simp at hb; omega))) (by show (1 : Int) ≤ 20; decide)
  | k + 1, b, hb => by
    have e1 : 2 ^ (k + 1) = 2 ^ k + 2 ^ k := by rw [Nat.pow_succ']; omega
    have hp : 0 < 2 ^ k := Nat.two_pow_pos _
    have h1 := tree_ok h hl k b (by omega)
    have h2 := tree_ok h hl k (b + 2 ^ k) (by omega)
    have c1 := treeT_cnt (leafF_cnt l) k b
    have c2 := treeT_cnt (leafF_cnt l) k (b + 2 ^ k)
    rw [treeT]
    generalize treeT (leafF l) b k = p at h1 c1
    generalize treeT (leafF l) (b + 2 ^ k) k = q at h2 c2
    have i1 := peakOk_in h1
    have i2 := peakOk_in h2
    have hs := isSum_both p q
    simp only [peakOkB, hs, Bool.true_and, Bool.and_eq_true, decide_eq_true_eq]
    show (1 ≤ p.count + q.count ∧ p.count + q.count ≤ 20) ∧ p.count + q.count ≤ p.work + q.work ∧ p.work + q.work ≤ (p.count + q.count) * 8
    generalize 2 ^ k = P at e1 hb c1 c2
    omega
theorem rowT_snoc (f : Nat → PeakV) : ∀ (m a k : Nat), rowT f a k (m + 1) = rowT f a k m ++ [treeT f (a + m * 2 ^ k) k]
  | 0, a, k => by simp [rowT]
  | m + 1, a, k => by
    have e1 : a + 2 ^ k + m * 2 ^ k = a + (m + 1) * 2 ^ k := by rw [Nat.add_mul, Nat.one_mul]; omega
    rw [rowT, rowT_snoc f m (a + 2 ^ k) k, e1]
    rfl
/-- Two of a row become one of the row above it. -/
theorem row_two (f : Nat → PeakV) (a k i N : Nat) (h : 2 * i + 1 < N) : rowT f a (k + 1) (i + 1) = rowT f a (k + 1) i ++ [bothP ((rowT f a k N).getD (2 * i) default) ((rowT f a k N).getD (2 * i + 1) default)] := by
  have e1 : 2 ^ (k + 1) = 2 ^ k + 2 ^ k := by rw [Nat.pow_succ']; omega
  have e2 : a + i * 2 ^ (k + 1) = a + 2 * i * 2 ^ k := by rw [e1, Nat.mul_add, show 2 * i = i + i from by omega, Nat.add_mul]
  have e3 : a + 2 * i * 2 ^ k + 2 ^ k = a + (2 * i + 1) * 2 ^ k := by rw [Nat.add_mul (2 * i) 1, Nat.one_mul]; omega
  rw [rowT_snoc, rowT_at f N a k (2 * i) (by omega), rowT_at f N a k (2 * i + 1) (by omega), treeT, e2, e3]
theorem row_ok {l : List HeadV} (h : ∀ i, i < l.length → headOkB (l.getD i default) = true) (hl : l.length ≤ 20) {a k N z : Nat} (hN : a + N * 2 ^ k ≤ l.length) (hz : z < N) : peakOkB ((rowT (leafF l) a k N).getD z default) = true := by
  rw [rowT_at _ _ _ _ _ hz]
  refine tree_ok h hl k _ ?_
  have h1 : (z + 1) * 2 ^ k ≤ N * 2 ^ k := Nat.mul_le_mul_right _ hz
  rw [Nat.add_mul, Nat.one_mul] at h1
  generalize 2 ^ k = P at *
  generalize z * P = Z at *
  generalize N * P = M at *
  omega
def lenV : Value → Nat
  | .slice _ n _ => n
  | _ => 0
/-- What stands ahead of a row's round: the steps so far, the row. -/
structure TreeW (w wr : World) (v : Value) (o : List PeakV) (g6 : Nat) (ps : List PeakV) : Prop where
  row : PRow w.heap.size v o wr
  at_ : AtP wr g6 ps
  far : v.ownBlock ≠ some g6
  b : Below w.heap.size w wr
theorem prow_own {B : Nat} {v : Value} {l : List PeakV} {w : World} (h : PRow B v l w) : w.ownsRow B 67 3 v l.length (l.flatMap pEnc) := h.2
theorem AtP.keepB {w w' : World} {g : Nat} {l : List PeakV} (h : AtP w g l) (hk : w'.heap[g]? = w.heap[g]?) (hs : w.heap.size ≤ w'.heap.size) : AtP w' g l :=
  ⟨Nat.lt_of_lt_of_le h.1 hs, fun i j hi hj => (World.cell?_of_block (a := ⟨g, i * 3 + j, none⟩) hk).trans (h.2 i j hi hj)⟩

end Go.Proofs.YtkajpkfhedfmaaaGreatDoor

set_option linter.unusedVariables false
namespace Go.Proofs.YtkajpkfhedfmaaaGreatDoor
open Go.RowKit Go.Deep

theorem CBk.pairF {w : World} {g : Nat} {T : TypeId} {a b : Value} (h : CBk w g T #[a, b]) : w.cell? ⟨g, 0, none⟩ = some a ∧ w.cell? ⟨g, 1, none⟩ = some b ∧ w.frozen? ⟨g, 0, none⟩ = false ∧ w.frozen? ⟨g, 1, none⟩ = false :=
  ⟨h.cell 0, h.cell 1, h.frozen 0, h.frozen 1⟩
set_option maxHeartbeats 4000000 in
set_option maxRecDepth 100000 in
theorem implRangeProofNo (g n cap : Nat) (l : List HeadV) (x : Int) (w : World) (hA : AtHead w g l) (hn : n = l.length) (hm : n ≤ 1048576) (hc : ¬ (headsB l = true ∧ 0 ≤ x ∧ x < (l.length : Int))) :
    Calls Tryz.prog 35 #[.slice (some ⟨g, 0, none⟩) n cap, .int .i64 x] w fun e w' => PrfPost l x w e w' ∧ Dis e := by
  have HHS : Hid (∀ w', Below w.heap.size w w' → Calls Tryz.prog 28 #[.slice (some ⟨g, 0, none⟩) n cap] w' fun e w'' => e = .returned (.bool (headsB l)) ∧ Below w'.heap.size w' w'') := fun w' hb => implRangeHeadsOk g n cap l w' (hA.below hb hA.1) hn hm
  have HC : Hid (headsB l = true → ¬ x < 0 → ¬ x < (n : Int)) := fun h1 h2 h3 => hc ⟨h1, by omega, by omega⟩
  have HV : Hid (∀ w', Below w.heap.size w w' → PrfPost l x w (.returned (.agg #[.slice none 0 0, .slice none 0 0])) w' ∧ Dis (.returned (.agg #[.slice none 0 0, .slice none 0 0]))) := fun w' hb => prf_no hc hb
  obtain ⟨Q, hQ⟩ : ∃ Q : Ending → World → Prop, Q = fun e w' => PrfPost l x w e w' ∧ Dis e := ⟨_, rfl⟩
  have HV2 : Hid (∀ w', Below w.heap.size w w' → Q (.returned (.agg #[.slice none 0 0, .slice none 0 0])) w') := fun w' hb => by rw [hQ]; exact HV.out w' hb
  show Calls _ _ _ _ (fun e w' => PrfPost l x w e w' ∧ Dis e)
  rw [← hQ]
  clear hQ HV hA hn hm hc
  have L0 : Hid (Below w.heap.size w (w.alloc (.cells #[.slice none 0 0, .slice none 0 0] 44))) := (Below.refl _ w).alloc (Nat.le_refl _) _
  have T0 : Hid (CBk (w.alloc (.cells #[.slice none 0 0, .slice none 0 0] 44)) w.heap.size 44 #[.slice none 0 0, .slice none 0 0]) := CBk.new w _ _
  obtain ⟨g4, hg4⟩ : ∃ g4, g4 = w.heap.size := ⟨_, rfl⟩
  have HG4 : Hid (w.heap.size ≤ g4) := Nat.le_of_eq hg4.symm
  have HEND : Hid (∀ w1, Below w.heap.size w w1 → CBk w1 g4 44 #[.slice none 0 0, .slice none 0 0] → CBk ((w1.setCell ⟨g4, 0, none⟩ (.slice none 0 0)).setCell ⟨g4, 1, none⟩ (.slice none 0 0)) g4 44 #[.slice none 0 0, .slice none 0 0] ∧ Below w.heap.size w ((w1.setCell ⟨g4, 0, none⟩ (.slice none 0 0)).setCell ⟨g4, 1, none⟩ (.slice none 0 0))) := fun w1 hb h => ⟨(h.set 0 _).set 1 _, (hb.setCell (p := ⟨g4, 0, none⟩) HG4.out _).setCell (p := ⟨g4, 1, none⟩) HG4.out _⟩
  go_enter Tryz.func35, Tryz.ntmps35
  go_wp2_with fail
  have hhs := HHS.out _ L0.out
  rw [← hg4] at T0 ⊢
  clear hg4
  refine hhs.mono ?_
  rintro e w1 ⟨rfl, b1⟩
  have B1 : Hid (Below w.heap.size w w1) := L0.out.trans (b1.mono L0.out.size)
  have T1 : Hid (CBk w1 g4 44 #[.slice none 0 0, .slice none 0 0]) := T0.out.call b1
  clear hhs HHS b1 T0 L0
  have TE : Hid _ := HEND.out w1 B1.out T1.out
  obtain ⟨c0, c1, f0, f1⟩ := T1.out.pairF
  cases hk : headsB l with
  | false =>
    clear HC
    go_wp2_with fail
    exact bodyPost_ret (results_cell_row (p := 4) rfl _ _ g4 44 #[.slice none 0 0, .slice none 0 0] (0, 0) _ rfl TE.out.1 Tryz.underlying44 rfl (by kernel_rfl)) rfl (HV2.out _ TE.out.2)
  | true =>
    by_cases hx : x < 0
    · clear HC
      go_wp2_with fail
      exact bodyPost_ret (results_cell_row (p := 4) rfl _ _ g4 44 #[.slice none 0 0, .slice none 0 0] (0, 0) _ rfl TE.out.1 Tryz.underlying44 rfl (by kernel_rfl)) rfl (HV2.out _ TE.out.2)
    · have hx2 : ¬ x < (n : Int) := by have := HC.out hk (by omega); omega
      clear HC
      go_wp2_with fail
      exact bodyPost_ret (results_cell_row (p := 4) rfl _ _ g4 44 #[.slice none 0 0, .slice none 0 0] (0, 0) _ rfl TE.out.1 Tryz.underlying44 rfl (by kernel_rfl)) rfl (HV2.out _ TE.out.2)
set_option maxHeartbeats 8000000 in
set_option maxRecDepth 100000 in
theorem implRangeProofYes (g n cap : Nat) (l : List HeadV) (X : Nat) (w : World) (hA : AtHead w g l) (hn : n = l.length) (hk : headsB l = true) (hX : X < l.length) (hK : RowG w shaK) (hP : TabP w) :
    Calls Tryz.prog 35 #[.slice (some ⟨g, 0, none⟩) n cap, .int .i64 (X : Int)] w fun e w' => PrfPost l (X : Int) w e w' ∧ Dis e := by
  have HM : Hid (n ≤ 20) := by show _ ≤ _; have := heads_len hk; omega
  have HHS : Hid (∀ w', Below w.heap.size w w' → Calls Tryz.prog 28 #[.slice (some ⟨g, 0, none⟩) n cap] w' fun e w'' => e = .returned (.bool true) ∧ Below w'.heap.size w' w'') := fun w' hb => by
    have := implRangeHeadsOk g n cap l w' (hA.below hb hA.1) hn (by have := HM.out; omega)
    rwa [hk] at this
  have HA : Hid (AtHead w g l) := hA
  have HN : Hid (n = l.length) := hn
  have HPU : Hid (∀ w1, Below w.heap.size w w1 → ∀ k, k < n → ∀ (w' : World) (gp gs : Nat) (a : Option Addr) (m c : Nat), NSt w1 w' gp gs a m c (stS l X k) (notesN (leafF l) X k) → Calls Tryz.prog 68 #[.pointer (some ⟨gs, 0, none⟩), .agg #[.string (leafP (l.getD k default)).sum, .int .i64 (leafP (l.getD k default)).work, .int .i64 (leafP (l.getD k default)).count, .bool ((k : Int) == (X : Int))]] w' fun e w'' => NPush w1 gp gs (stS l X (k + 1)) (notesN (leafF l) X (k + 1)) e w'') := fun w1 hb1 k hkn w' gp gs a m c hs => by
    obtain ⟨h1, h2, h3⟩ := ofP_ok (heads_at hk) (heads_len hk) k (by omega)
    have hh := heads_at hk k (by omega)
    have hl20 := heads_len hk
    have h4 := stS_len l X k
    have h5 := notes_len (heads_at hk) hl20 X (k + 1) (by omega)
    have h6 := implPushN w1 gp gs (stS l X k) (leafF l k, decide (k = X)) (notesN (leafF l) X k) w' a m c hs (by omega) (by rw [stS_fst]; exact fun i hi => getD_all (C := fun q => peakOkB q = true) h1 i hi) (by rw [stS_fst]; exact room_leaf hh (by rw [h2]; omega)) (by rw [noteS_step]; omega) (hK.below hb1 hK.lt) (TabP.below hP hb1 (Nat.le_refl _))
    have hbq : ((k : Int) == (X : Int)) = decide (k = X) := by rw [Bool.eq_iff_iff]; simp only [beq_iff_eq, decide_eq_true_eq]; omega
    rw [stS_step, noteS_step] at h6
    rw [hbq]
    exact h6
  have HPH : Hid (∀ k, k < n → ∀ (w' : World), Below w.heap.size w w' → Calls Tryz.prog 31 #[headVal (l.getD k default)] w' fun e w'' => e = .returned (peakVal (leafP (l.getD k default))) ∧ Below w'.heap.size w' w'') := fun k hkn w' hb => implPeakHead _ w' (heads_at hk k (by omega)) (hK.below hb hK.lt) (TabP.below hP hb (Nat.le_refl _))
  unfold headVal at HPH
  unfold peakVal at HPH
  have HYES : Hid (∀ (w' : World) (vp vs : Value) (B : Nat), w'.ownsRow B 67 3 vp (ofP l n).length ((ofP l n).flatMap pEnc) → w'.ownsRow w.heap.size 67 3 vs (notesN (leafF l) X n).length ((notesN (leafF l) X n).flatMap pEnc) → w.heap.size ≤ B → (∀ b, vs.ownBlock = some b → b < B) → Below w.heap.size w w' → PrfPost l (X : Int) w (.returned (.agg #[vp, vs])) w' ∧ Dis (.returned (.agg #[vp, vs]))) := fun w' vp vs B h1 h2 h3 h4 h5 => prf_yes hk hX (by rw [← hn]; exact h1) (by rw [← hn]; exact h2) h3 h4 h5
  obtain ⟨Q, hQ⟩ : ∃ Q : Ending → World → Prop, Q = fun e w' => PrfPost l (X : Int) w e w' ∧ Dis e := ⟨_, rfl⟩
  have HY : Hid (∀ (w' : World) (vp vs : Value) (B : Nat), w'.ownsRow B 67 3 vp (ofP l n).length ((ofP l n).flatMap pEnc) → w'.ownsRow w.heap.size 67 3 vs (notesN (leafF l) X n).length ((notesN (leafF l) X n).flatMap pEnc) → w.heap.size ≤ B → (∀ b, vs.ownBlock = some b → b < B) → Below w.heap.size w w' → Q (.returned (.agg #[vp, vs])) w') := fun w' vp vs B h1 h2 h3 h4 h5 => by rw [hQ]; exact HYES.out w' vp vs B h1 h2 h3 h4 h5
  show Calls _ _ _ _ (fun e w' => PrfPost l (X : Int) w e w' ∧ Dis e)
  rw [← hQ]
  have hxn : (X : Int) < (n : Int) := by omega
  have hx0 : ¬ (X : Int) < 0 := by omega
  clear hQ HYES hA hn hK hP hk hX
  have L0 : Hid (Below w.heap.size w (w.alloc (.cells #[.slice none 0 0, .slice none 0 0] 44))) := (Below.refl _ w).alloc (Nat.le_refl _) _
  have T0 : Hid (CBk (w.alloc (.cells #[.slice none 0 0, .slice none 0 0] 44)) w.heap.size 44 #[.slice none 0 0, .slice none 0 0]) := CBk.new w _ _
  obtain ⟨g4, hg4⟩ : ∃ g4, g4 = w.heap.size := ⟨_, rfl⟩
  have HG4 : Hid (w.heap.size ≤ g4) := Nat.le_of_eq hg4.symm
  go_enter Tryz.func35, Tryz.ntmps35
  go_wp2_with fail
  have hhs := HHS.out _ L0.out
  rw [← hg4] at T0 ⊢
  clear hg4
  refine hhs.mono ?_
  rintro e w1 ⟨rfl, b1⟩
  have B1 : Hid (Below w.heap.size w w1) := L0.out.trans (b1.mono L0.out.size)
  have T1 : Hid (CBk w1 g4 44 #[.slice none 0 0, .slice none 0 0]) := T0.out.call b1
  clear hhs HHS b1 T0 L0
  go_upto_region 5 with fail
  have hd : decide ((X : Int) < 0) = false := decide_eq_false (by omega)
  have hd2 : decide (n ≤ X) = false := decide_eq_false (by omega)
  simp only [hd, hd2, Bool.or_false]
  clear hd hd2
  have S0 : Hid (NSt w1 ((w1.alloc (.cells #[.slice none 0 0, .slice none 0 0] 44)).alloc (.cells #[.slice none 0 0, .func (.func 66) #[] #[], .func (.func 67) #[] #[.pointer (some ⟨w1.heap.size, 0, none⟩)]] 124)) w1.heap.size (w1.heap.size + 1) none 0 0 (stS l X 0) (notesN (leafF l) X 0)) := NSt.open _ rfl
  have HPU1 : Hid _ := HPU.out w1 B1.out
  generalize (w1.alloc (.cells #[.slice none 0 0, .slice none 0 0] 44)).alloc (.cells #[.slice none 0 0, .func (.func 66) #[] #[], .func (.func 67) #[] #[.pointer (some ⟨w1.heap.size, 0, none⟩)]] 124) = W2 at S0 ⊢
  obtain ⟨gp, hgp⟩ : ∃ gp, gp = w1.heap.size := ⟨_, rfl⟩
  have HGP : Hid (gp = w1.heap.size) := hgp
  obtain ⟨gs, hgs⟩ : ∃ gs, gs = w1.heap.size + 1 := ⟨_, rfl⟩
  rw [← hgs, ← hgp] at S0
  rw [← hgs, ← hgp]
  clear hgs hgp HPU
  go_wp2_with fail
  go_loopw [29] (fun i wr => ∃ (k : Nat) (a : Option Addr) (m c : Nat), k ≤ n ∧ i = .int .i64 (k : Int) ∧ Hid (NSt w1 wr gp gs a m c (stS l X k) (notesN (leafF l) X k))) (fun i _ => n - (intOf i).toNat)
  case atStart => exact ⟨0, none, 0, 0, by omega, rfl, S0⟩
  case round =>
    clear S0
    obtain ⟨k, a, m, c, hk, rfl, SK⟩ := hrel
    by_cases hlt : k < n
    · have hkl : k < l.length := by rw [← HN.out]; exact hlt
      have HBW : Hid (Below w.heap.size w wr) := B1.out.trans (SK.out.f.b.mono B1.out.size)
      have HAr := HA.out.below HBW.out HA.out.1
      have c0 := AtHead.c0 HAr k hkl
      have c1 := AtHead.c1 HAr k hkl
      have c2 := AtHead.c2 HAr k hkl
      have c3 := AtHead.c3 HAr k hkl
      have c4 := AtHead.c4 HAr k hkl
      have lk : (k : Int) < (n : Int) := by omega
      have lk0 : (0 : Int) ≤ (k : Int) := by omega
      have wk : IntKind.i64.wrap ((k : Int) + 1) = (k : Int) + 1 := by have := HM.out; rw [IntKind.wrap_i64]; omega
      have HK1 : Hid (k + 1 ≤ n) := hlt
      have HPUk : Hid _ := HPU1.out k hlt
      have HPHk := HPH.out k hlt
      have HPHk : Hid _ := HPHk
      clear hkl HAr
      generalize leafP (l.getD k default) = p at HPUk HPHk
      generalize l.getD k default = h at c0 c1 c2 c3 c4 HPHk
      have L0 : Hid (Below wr.heap.size wr (wr.alloc (.cells #[.string h.prev, .string h.root, .int .i64 h.time, .int .i64 h.diff, .int .i64 h.nonce] 36))) := (Below.refl _ wr).alloc (Nat.le_refl _) _
      have SA : Hid (NSt w1 (wr.alloc (.cells #[.string h.prev, .string h.root, .int .i64 h.time, .int .i64 h.diff, .int .i64 h.nonce] 36)) gp gs a m c (stS l X k) (notesN (leafF l) X k)) := SK.out.call L0.out
      have hph := HPHk.out _ (B1.out.trans (SA.out.f.b.mono B1.out.size))
      clear SK HPHk
      go_wp2_with fail
      refine hph.mono ?_
      rintro e w3 ⟨rfl, b3⟩
      have S3 : Hid (NSt w1 w3 gp gs a m c (stS l X k) (notesN (leafF l) X k)) := SA.out.call b3
      have hpu := HPUk.out _ _ _ _ _ _ S3.out
      clear SA b3 hph HPUk c0 c1 c2 c3 c4 L0
      go_wp2_with fail
      refine Calls.mono hpu ?_
      rintro e w4 ⟨rfl, a4, m4, c4, hs4⟩
      have S4 : Hid (NSt w1 w4 gp gs a4 m4 c4 (stS l X (k + 1)) (notesN (leafF l) X (k + 1))) := hs4
      clear hs4 hpu S3
      go_wp2_with fail
      go_roundw
      case rel => exact ⟨k + 1, a4, m4, c4, HK1.out, by go_num, S4⟩
      case measure => have := HK1.out; simp [intOf]; omega
    · obtain rfl : k = n := by omega
      clear HPU1 HPH HA
      obtain ⟨i0, hi, hz0, hz1, hz2⟩ := info3 infoPeak
      obtain ⟨vs, hpf⟩ := id SK.out.f
      have HPF : Hid (PfW w1 wr gp vs (notesN (leafF l) X k)) := hpf
      have HVS : Hid (∃ a m c, vs = .slice a m c) := own_slice hpf.row
      have HPT : Hid (ofP l k = (stS l X k).map Prod.fst) := (stS_fst l X k).symm
      have HML : Hid ((stS l X k).length = m) := SK.out.len
      have HMM : Hid (m ≤ 1048576) := by show _ ≤ _; have h1 := SK.out.len; have h2 := stS_len l X k; have h3 := ofP_len_le l k; have := HM.out; omega
      have HYF : Hid (∀ (w' : World) (vp : Value), PkW w1 wr w' gp vp vs (ofP l k) → Q (.returned (.agg #[vp, vs])) ((w'.setCell ⟨g4, 0, none⟩ vp).setCell ⟨g4, 1, none⟩ vs) ∧ CBk ((w'.setCell ⟨g4, 0, none⟩ vp).setCell ⟨g4, 1, none⟩ vs) g4 44 #[vp, vs]) := fun w' vp h => by
        obtain ⟨h1, h2, h3, h4, h5, h6⟩ := h.fin HPF.out T1.out B1.out HG4.out
        exact ⟨HY.out _ vp vs _ h2 h3 h4 h5 h6, h1⟩
      have PS : Hid (PkW w1 wr wr gp (.slice none 0 0) vs []) := PkW.start HPF.out
      have HGR : Hid (∀ r, a = some ⟨r, 0, none⟩ → r < wr.heap.size ∧ r ≠ gp ∧ AtF nEnc 4 wr r (stS l X k)) := fun r hr => by
        have h1 := SK.out
        subst hr
        obtain ⟨⟨cur, hc⟩, _⟩ := ownE_is h1.row (b := r) rfl
        exact ⟨hc.lt, cbk_ne hc HPF.out.k ntf, h1.at.1⟩
      have HAS : Hid (0 < m → ∃ r, a = some ⟨r, 0, none⟩) := fun hm0 => by
        obtain ⟨r, cap, hv, _⟩ := SK.out.row.form hm0
        simp only [Value.slice.injEq] at hv
        exact ⟨r, hv.1⟩
      have HLW : Hid (w1.heap.size ≤ wr.heap.size) := HPF.out.b.size
      obtain ⟨a0, a1, a2⟩ := SK.out.outs
      clear SK HPF hpf HY
      go_wp2_with fail
      clear a0 a1 a2
      rw [HPT.out] at HYF
      clear HPT
      generalize stS l X k = st at HYF HML HGR
      generalize hwB : wr = wB at *
      go_loopw [45] (fun i wr => ∃ (j : Nat) (vp : Value), j ≤ m ∧ i = .int .i64 (j : Int) ∧ Hid (PkW w1 wB wr gp vp vs ((st.map Prod.fst).take j))) (fun i _ => m - (intOf i).toNat)
      case atStart => exact ⟨0, _, by omega, rfl, PS⟩
      case round =>
        clear PS
        obtain ⟨j, vp, hj, rfl, PW⟩ := hrel
        by_cases hjl : j < m
        · obtain ⟨r, hr⟩ := HAS.out (by omega)
          subst hr
          obtain ⟨hr1, hr2, hr3⟩ := HGR.out r rfl
          have hjs : j < st.length := by rw [HML.out]; exact hjl
          have c0 : wr.cell? ⟨r, j * 4, none⟩ = some (.string (st.getD j default).1.sum) := (PW.out.at hr1 hr2).trans (hr3.2 j 0 hjs (by decide))
          have c1 : wr.cell? ⟨r, j * 4 + 1, none⟩ = some (.int .i64 (st.getD j default).1.work) := (PW.out.at hr1 hr2).trans (hr3.2 j 1 hjs (by decide))
          have c2 : wr.cell? ⟨r, j * 4 + 2, none⟩ = some (.int .i64 (st.getD j default).1.count) := (PW.out.at hr1 hr2).trans (hr3.2 j 2 hjs (by decide))
          have c3 : wr.cell? ⟨r, j * 4 + 3, none⟩ = some (.bool (st.getD j default).2) := (PW.out.at hr1 hr2).trans (hr3.2 j 3 hjs (by decide))
          have HTK : Hid ((st.map Prod.fst).take (j + 1) = (st.map Prod.fst).take j ++ [(st.getD j default).1]) := by
            show _ = _
            rw [← fst_at hjs]
            exact take_one (by rw [List.length_map]; exact hjs)
          have HPL : Hid (((st.map Prod.fst).take j).length = j) := by show _ = _; rw [List.length_take, List.length_map]; omega
          have lk : (j : Int) < (m : Int) := by omega
          have lk0 : (0 : Int) ≤ (j : Int) := by omega
          have wk : IntKind.i64.wrap ((j : Int) + 1) = (j : Int) + 1 := by have := HMM.out; rw [IntKind.wrap_i64]; omega
          have HJ1 : Hid (j + 1 ≤ m) := hjl
          clear hr3 hjs
          generalize st.getD j default = t at c0 c1 c2 c3 HTK
          have PA : Hid (PkW w1 wB (wr.alloc (.cells #[.string t.1.sum, .int .i64 t.1.work, .int .i64 t.1.count, .bool t.2] 119)) gp vp vs ((st.map Prod.fst).take j)) := PW.out.call ((Below.refl _ wr).alloc (Nat.le_refl _) _)
          have TA : Hid (NBk (wr.alloc (.cells #[.string t.1.sum, .int .i64 t.1.work, .int .i64 t.1.count, .bool t.2] 119)) wr.heap.size t) := CBk.new wr _ _
          go_upto_region 13 with fail
          clear c0 c1 c2 c3 PW
          generalize wr.alloc (.cells #[.string t.1.sum, .int .i64 t.1.work, .int .i64 t.1.count, .bool t.2] 119) = wa at PA TA ⊢
          obtain ⟨gt, hgt⟩ : ∃ gt, gt = wr.heap.size := ⟨_, rfl⟩
          rw [← hgt] at TA ⊢
          clear hgt
          obtain ⟨d0, d1, d2, d3⟩ := TA.out.four
          have p0 : wa.cell? ⟨gp, 0, none⟩ = some vp := PA.out.k.cell 0
          generalize (st.map Prod.fst).take j = ps at PA HTK HPL
          have hx1 : ps.length + 1 ≤ maxLen := by have := HPL.out; have := HMM.out; unfold maxLen; omega
          have hx2 : (ps.length + 1) * 32 ≤ 140737488355328 := by have := HPL.out; have := HMM.out; omega
          have hu := pEnc_one t.1
          have hsz : wB.heap.size ≤ wa.heap.size := PA.out.size
          have HRW : Hid (wa.ownsRow wB.heap.size 67 3 vp ps.length (ps.flatMap pEnc)) := PA.out.row
          have HTW : Hid (∀ w4 : World, Below wB.heap.size wa w4 → w4.cell? ⟨gp, 0, none⟩ = some vp ∧ w4.frozen? ⟨gp, 0, none⟩ = false) := fun w4 h => PA.out.keep4 h
          go_upto_region 14 with (at_builtin; refine wp_appN rfl _ _ 31 rfl wB.heap.size 67 i0 (.agg #[.string ⟨#[]⟩, .int .i64 0, .int .i64 0]) 3 32 1 Tryz.underlying31 hi hz0 hz1 hz2 rfl (by decide) (by decide) _ _ _ rfl HRW.out (pEnc t.1) (by first | rfl | simp [Act.eval]) rfl hu hx1 hx2 hsz ?_; intro g6 c6 w6 hown6 hb6 hkeep6; obtain ⟨q6, z6⟩ := HTW.out _ hb6)
          have P6 : Hid (PkW w1 wB (w6.setCell ⟨gp, 0, none⟩ (.slice (some ⟨g6, 0, none⟩) (ps.length + 1) c6)) gp (.slice (some ⟨g6, 0, none⟩) (ps.length + 1) c6) vs (ps ++ [t.1])) := PA.out.laid hown6 hb6 HLW.out
          rw [← HTK.out] at P6
          clear d0 d1 d2 d3 p0 hx1 hx2 hu hsz HRW HTW q6 z6 hown6 hb6 hkeep6 PA TA
          go_wp2_with fail
          go_roundw
          case rel => exact ⟨j + 1, _, HJ1.out, by go_num, P6⟩
          case measure => have := HJ1.out; simp [intOf]; omega
        · obtain rfl : j = m := by omega
          have hta : (st.map Prod.fst).take j = st.map Prod.fst := by rw [← HML.out, ← List.length_map (f := Prod.fst), List.take_length]
          rw [hta] at PW
          clear hta
          obtain ⟨pa, pn, pc, rfl⟩ := own_slice PW.out.row
          obtain ⟨sa, sn, sc, rfl⟩ := HVS.out
          obtain ⟨hq, hcb⟩ := HYF.out wr _ PW.out
          have HQF : Hid (Q (.returned (.agg #[.slice pa pn pc, .slice sa sn sc])) ((wr.setCell ⟨g4, 0, none⟩ (.slice pa pn pc)).setCell ⟨g4, 1, none⟩ (.slice sa sn sc))) := hq
          have HCF : Hid (CBk ((wr.setCell ⟨g4, 0, none⟩ (.slice pa pn pc)).setCell ⟨g4, 1, none⟩ (.slice sa sn sc)) g4 44 #[.slice pa pn pc, .slice sa sn sc]) := hcb
          obtain ⟨e0, e1, f0, f1⟩ := (PW.out.last T1.out).pairF
          have p0 : wr.cell? ⟨gp, 0, none⟩ = some (.slice pa pn pc) := PW.out.k.cell 0
          have p1 : wr.cell? ⟨gp, 1, none⟩ = some (.slice sa sn sc) := PW.out.k.cell 1
          clear hq hcb HYF
          go_wp2_with fail
          exact bodyPost_ret (results_cell_row (p := 4) rfl _ _ g4 44 #[.slice pa pn pc, .slice sa sn sc] (0, 0) _ rfl HCF.out Tryz.underlying44 rfl (by kernel_rfl)) rfl HQF.out
theorem implRangeProof (g n cap : Nat) (l : List HeadV) (x : Int) (w : World) (hA : AtHead w g l) (hn : n = l.length) (hm : n ≤ 1048576) (hK : RowG w shaK) (hP : TabP w) :
    Calls Tryz.prog 35 #[.slice (some ⟨g, 0, none⟩) n cap, .int .i64 x] w fun e w' => PrfPost l x w e w' ∧ Dis e := by
  by_cases hc : headsB l = true ∧ 0 ≤ x ∧ x < (l.length : Int)
  · obtain ⟨hk, hx0, hxl⟩ := hc
    obtain ⟨X, rfl⟩ : ∃ X : Nat, x = (X : Int) := ⟨x.toNat, by omega⟩
    exact implRangeProofYes g n cap l X w hA hn hk (by omega) hK hP
  · exact implRangeProofNo g n cap l x w hA hn hm hc
end Go.Proofs.YtkajpkfhedfmaaaGreatDoor

set_option linter.unusedVariables false
namespace Go.Proofs.YtkajpkfhedfmaaaGreatDoor
open Go.RowKit Go.Deep

/-- The place of a leaf among the range's peaks: its peak, where that begins, and its steps. -/
theorem proof_place {l : List HeadV} (hok : ∀ i, i < l.length → headOkB (l.getD i default) = true) (hl : l.length ≤ 20) (x m : Nat) (hx : x < m) (hm : m ≤ l.length) : ∃ (k a i : Nat), placeP (ofP l m) (x : Int) = some k ∧ k < (ofP l m).length ∧ cntTo (ofP l m) k = (a : Int) ∧ ((ofP l m).getD k default).count = ((2 ^ i : Nat) : Int) ∧ a ≤ x ∧ x < a + 2 ^ i ∧ a + 2 ^ i ≤ m ∧ notesN (leafF l) x m = treeS i (rowT (leafF l) a 0 (2 ^ i)) (x - a) := by
  obtain ⟨t, t1, t2, t3⟩ := stk_shp (leafF_cnt l) x m
  have hp := stk_peaks t1
  obtain ⟨k, a, i, k1, k2, k3, k4, k5, k6, k7, k8⟩ := shp_place (leafF_cnt l) x t m 0 t2 hx
  have hc := shp_cnt (leafF_cnt l) t m 0 t2
  have hmo := cnt_mono (peaksT_pos (leafF_cnt l) t) ((peaksT (leafF l) t).length - (k + 1)) (k + 1) (by omega)
  rw [show k + 1 + ((peaksT (leafF l) t).length - (k + 1)) = (peaksT (leafF l) t).length from by omega, hc, cntTo, k4, k5, treeT_cnt (leafF_cnt l)] at hmo
  rw [hp]
  refine ⟨k, a, i, place_at k1 k2 k3, k1, k4, by rw [k5, treeT_cnt (leafF_cnt l)], k6, k7, by omega, ?_⟩
  rw [t3, k8, treeS_sib _ _ _ _ (by omega)]
theorem ofP_in {l : List HeadV} (hok : ∀ i, i < l.length → headOkB (l.getD i default) = true) (hl : l.length ≤ 20) (m : Nat) (hm : m ≤ l.length) : ∀ k, k ≤ (ofP l m).length → 0 ≤ cntTo (ofP l m) k ∧ cntTo (ofP l m) k ≤ 20 := by
  obtain ⟨h1, h2, h3⟩ := ofP_ok hok hl m hm
  intro k hk
  have hpos : ∀ q ∈ ofP l m, 0 ≤ q.count := fun q hq => by have := peakOk_in (h1 q hq); omega
  have a1 := cnt_mono hpos k 0 (by omega)
  have a2 := cnt_mono hpos ((ofP l m).length - k) k (by omega)
  rw [show k + ((ofP l m).length - k) = (ofP l m).length from by omega, h2] at a2
  rw [Nat.zero_add] at a1
  have a3 : cntTo (ofP l m) 0 = 0 := rfl
  omega
theorem spec_fin {w wr : World} {g4 : Nat} {vp vs : Value} {ps ss : List PeakV} (h4 : CBk wr g4 44 #[.slice none 0 0, .slice none 0 0]) (hp : wr.ownsRow w.heap.size 67 3 vp ps.length (ps.flatMap pEnc)) (hs : wr.ownsRow w.heap.size 67 3 vs ss.length (ss.flatMap pEnc)) (hb : Below w.heap.size w wr) (hg : w.heap.size ≤ g4) :
    CBk ((wr.setCell ⟨g4, 0, none⟩ vp).setCell ⟨g4, 1, none⟩ vs) g4 44 #[vp, vs] ∧ ((wr.setCell ⟨g4, 0, none⟩ vp).setCell ⟨g4, 1, none⟩ vs).ownsRow w.heap.size 67 3 vp ps.length (ps.flatMap pEnc) ∧ ((wr.setCell ⟨g4, 0, none⟩ vp).setCell ⟨g4, 1, none⟩ vs).ownsRow w.heap.size 67 3 vs ss.length (ss.flatMap pEnc) ∧ Below w.heap.size w ((wr.setCell ⟨g4, 0, none⟩ vp).setCell ⟨g4, 1, none⟩ vs) := by
  have h6 := h4.set 0 vp
  exact ⟨h6.set 1 vs, own_set (own_set hp h4 ftne) h6 ftne, own_set (own_set hs h4 ftne) h6 ftne, (hb.setCell (p := ⟨g4, 0, none⟩) hg _).setCell (p := ⟨g4, 1, none⟩) hg _⟩
theorem prf_spec {l : List HeadV} {X : Nat} {w w' : World} {vp vs : Value} (hk : headsB l = true) (hx : X < l.length) (hp : w'.ownsRow w.heap.size 67 3 vp (ofP l l.length).length ((ofP l l.length).flatMap pEnc)) (hs : w'.ownsRow w.heap.size 67 3 vs (notesN (leafF l) X l.length).length ((notesN (leafF l) X l.length).flatMap pEnc)) (hb : Below w.heap.size w w') : PrfPost l (X : Int) w (.returned (.agg #[vp, vs])) w' := by
  have e : proofL l (X : Int) = (ofP l l.length, notesN (leafF l) X l.length) := by rw [proofL, if_pos ⟨hk, by omega, by omega⟩]; rfl
  exact ⟨_, _, rfl, by rw [e]; exact pks_own hp, by rw [e]; exact pks_own hs, hb⟩

end Go.Proofs.YtkajpkfhedfmaaaGreatDoor

set_option linter.unusedVariables false
namespace Go.Proofs.YtkajpkfhedfmaaaGreatDoor
open Go.RowKit Go.Deep

theorem pks_slice {B : Nat} {v : Value} {l : List PeakV} {w : World} (h : Pks B v l w) : ∃ a n c, v = .slice a n c := by
  rcases h with ⟨rfl, _⟩ | ⟨g, cap, rfl, _⟩
  · exact ⟨_, _, _, rfl⟩
  · exact ⟨_, _, _, rfl⟩
/-- Behind the store of an answer into a block of before. -/
theorem pks_store {B g4 j : Nat} {v u : Value} {l : List PeakV} {w : World} (h : Pks B v l w) (hg : g4 < B) : Pks B v l (w.setCell ⟨g4, j, none⟩ u) :=
  h.keep (by simp) (fun g hv => by
    have h1 := (h.blk hv).2
    have hne : g4 ≠ g := by omega
    simp [World.setCell, Array.getElem?_modify, hne])
end Go.Proofs.YtkajpkfhedfmaaaGreatDoor

set_option linter.unusedVariables false
namespace Go.Proofs.YtkajpkfhedfmaaaGreatDoor
open Go.RowKit

/-- A sum, and whether the item that is proved is below it. -/
abbrev NodeB := ByteArray × Bool
def bothNB (a b : NodeB) : NodeB := (bothB a.1 b.1, a.2 || b.2)
def noteNB (a b : NodeB) : List SideV := (if a.2 = true then [⟨b.1, false⟩] else []) ++ (if b.2 = true then [⟨a.1, true⟩] else [])
def upN : List NodeB → List NodeB
  | a :: b :: r => bothNB a b :: upN r
  | l => l
def noteU : List NodeB → List SideV
  | a :: b :: r => noteNB a b ++ noteU r
  | _ => []
def mkN : List ByteArray → Nat → Nat → List NodeB
  | [], _, _ => []
  | s :: r, o, x => (s, decide (o = x)) :: mkN r (o + 1) x
theorem mkN_len : ∀ (ss : List ByteArray) (o x : Nat), (mkN ss o x).length = ss.length
  | [], _, _ => rfl
  | s :: r, o, x => by rw [mkN, List.length_cons, mkN_len r, List.length_cons]
theorem mkN_snoc : ∀ (ss : List ByteArray) (s : ByteArray) (o x : Nat), mkN (ss ++ [s]) o x = mkN ss o x ++ [(s, decide (o + ss.length = x))]
  | [], s, o, x => by simp [mkN]
  | a :: r, s, o, x => by
    rw [List.cons_append, mkN, mkN_snoc r s (o + 1) x, mkN, List.cons_append, List.length_cons]
    congr 4
    rw [show o + 1 + r.length = o + (r.length + 1) from by omega]
theorem mkN_fst : ∀ (ss : List ByteArray) (o x : Nat), (mkN ss o x).map Prod.fst = ss
  | [], _, _ => rfl
  | s :: r, o, x => by rw [mkN, List.map_cons, mkN_fst r]
theorem upN_fst : ∀ l : List NodeB, (upN l).map Prod.fst = upR (l.map Prod.fst)
  | [] => rfl
  | [a] => rfl
  | a :: b :: r => by
    rw [upN, List.map_cons, upN_fst r]
    rfl
theorem upN_len (l : List NodeB) : (upN l).length = (l.length + 1) / 2 := by
  have h := upR_length (l.map Prod.fst)
  rw [← upN_fst, List.length_map, List.length_map] at h
  exact h
theorem upN_mk : ∀ (ss : List ByteArray) (o x : Nat), x < 2 * o + ss.length → upN (mkN ss (2 * o) x) = mkN (upR ss) o (x / 2)
  | [], _, _, _ => rfl
  | [a], o, x, h => by
    have e : decide (2 * o = x) = decide (o = x / 2) := by
      simp only [List.length_singleton] at h
      rw [decide_eq_decide]
      omega
    show [(a, decide (2 * o = x))] = [(a, decide (o = x / 2))]
    rw [e]
  | a :: b :: r, o, x, h => by
    have ih := upN_mk r (o + 1) x (by simp only [List.length_cons] at h; omega)
    have e : (decide (2 * o = x) || decide (2 * o + 1 = x)) = decide (o = x / 2) := by
      rw [← Bool.decide_or, decide_eq_decide]
      omega
    show bothNB (a, decide (2 * o = x)) (b, decide (2 * o + 1 = x)) :: upN (mkN r (2 * (o + 1)) x) = (bothB a b, decide (o = x / 2)) :: mkN (upR r) (o + 1) (x / 2)
    rw [ih, bothNB, e]
/-- The side beside the marked one of a row that begins at place 2 * o. -/
def sideV (ss : List ByteArray) (o x : Nat) : List SideV := if 2 * o ≤ x then (if x + 1 - x % 2 * 2 < 2 * o + ss.length then [⟨ss.getD (x + 1 - x % 2 * 2 - 2 * o) ByteArray.empty, decide (x + 1 - x % 2 * 2 < x)⟩] else []) else []
theorem sideV_low {ss : List ByteArray} {o x : Nat} (h : ¬ 2 * o ≤ x) : sideV ss o x = [] := by rw [sideV, if_neg h]
theorem noteU_mk : ∀ (ss : List ByteArray) (o x : Nat), x < 2 * o + ss.length → noteU (mkN ss (2 * o) x) = sideV ss o x
  | [], o, x, h => by
    rw [sideV_low (by simp only [List.length_nil] at h; omega)]
    rfl
  | [a], o, x, h => by
    simp only [List.length_singleton] at h
    by_cases hx : 2 * o ≤ x
    · obtain rfl : x = 2 * o := by omega
      rw [sideV, if_pos (Nat.le_refl _), if_neg (by simp only [List.length_singleton]; omega)]
      rfl
    · rw [sideV_low hx]
      rfl
  | a :: b :: r, o, x, h => by
    have ih := noteU_mk r (o + 1) x (by simp only [List.length_cons] at h; omega)
    show noteNB (a, decide (2 * o = x)) (b, decide (2 * o + 1 = x)) ++ noteU (mkN r (2 * (o + 1)) x) = sideV (a :: b :: r) o x
    rw [ih]
    simp only [List.length_cons] at h
    by_cases h0 : x = 2 * o
    · subst h0
      have e1 : 2 * o + 1 - 2 * o % 2 * 2 = 2 * o + 1 := by omega
      rw [sideV_low (by omega), sideV, if_pos (Nat.le_refl _), e1, if_pos (by simp only [List.length_cons]; omega), show 2 * o + 1 - 2 * o = 1 from by omega, decide_eq_false (show ¬ 2 * o + 1 < 2 * o by omega), noteNB, decide_eq_true rfl, decide_eq_false (show ¬ 2 * o + 1 = 2 * o by omega)]
      rfl
    · by_cases h1 : x = 2 * o + 1
      · subst h1
        have e1 : 2 * o + 1 + 1 - (2 * o + 1) % 2 * 2 = 2 * o := by omega
        rw [sideV_low (by omega), sideV, if_pos (show 2 * o ≤ 2 * o + 1 by omega), e1, if_pos (by simp only [List.length_cons]; omega), Nat.sub_self, decide_eq_true (show 2 * o < 2 * o + 1 by omega), noteNB, decide_eq_true rfl, decide_eq_false (show ¬ 2 * o = 2 * o + 1 by omega)]
        rfl
      · rw [noteNB, decide_eq_false (show ¬ 2 * o = x by omega), decide_eq_false (show ¬ 2 * o + 1 = x by omega)]
        show sideV r (o + 1) x = sideV (a :: b :: r) o x
        by_cases h2 : 2 * (o + 1) ≤ x
        · rw [sideV, sideV, if_pos h2, if_pos (show 2 * o ≤ x by omega)]
          simp only [List.length_cons]
          by_cases h3 : x + 1 - x % 2 * 2 < 2 * o + (r.length + 1 + 1)
          · rw [if_pos h3, if_pos (by omega)]
            have e2 : x + 1 - x % 2 * 2 - 2 * o = (x + 1 - x % 2 * 2 - 2 * (o + 1)) + 1 + 1 := by omega
            rw [e2, List.getD_cons_succ, List.getD_cons_succ]
          · rw [if_neg h3, if_neg (by omega)]
        · rw [sideV_low h2, sideV_low (by omega)]
/-- All sides of the marked one, row by row. -/
def sidesR : Nat → List ByteArray → Nat → List SideV
  | 0, _, _ => []
  | f + 1, ss, x => if ss.length ≤ 1 then [] else sideV ss 0 x ++ sidesR f (upR ss) (x / 2)
def noteT : Nat → List NodeB → List SideV
  | 0, _ => []
  | f + 1, r => if r.length ≤ 1 then [] else noteU r ++ noteT f (upN r)
theorem noteT_mk : ∀ (f : Nat) (ss : List ByteArray) (x : Nat), x < ss.length → noteT f (mkN ss 0 x) = sidesR f ss x
  | 0, _, _, _ => rfl
  | f + 1, ss, x, h => by
    have h1 := upN_mk ss 0 x (by omega)
    have h2 := noteU_mk ss 0 x (by omega)
    have h3 := upR_length ss
    rw [noteT, sidesR, mkN_len]
    split
    · rfl
    · rw [show (0 : Nat) = 2 * 0 from rfl, h2, h1, noteT_mk f (upR ss) (x / 2) (by omega)]
theorem noteT_done {f : Nat} {r : List NodeB} (h : r.length ≤ 1) : noteT f r = [] := by
  cases f with
  | zero => rfl
  | succ f => rw [noteT, if_pos h]
theorem noteT_step {f : Nat} {r : List NodeB} (h : ¬ r.length ≤ 1) : noteT (f + 1) r = noteU r ++ noteT f (upN r) := by rw [noteT, if_neg h]
theorem sidesR_done {f : Nat} {r : List ByteArray} {x : Nat} (h : r.length ≤ 1) : sidesR f r x = [] := by
  cases f with
  | zero => rfl
  | succ f => rw [sidesR, if_pos h]
theorem sidesR_step {f : Nat} {r : List ByteArray} {x : Nat} (h : ¬ r.length ≤ 1) : sidesR (f + 1) r x = sideV r 0 x ++ sidesR f (upR r) (x / 2) := by rw [sidesR, if_neg h]
theorem upN_append : ∀ (l m : List NodeB), l.length % 2 = 0 → upN (l ++ m) = upN l ++ upN m
  | [], m, _ => by simp [upN]
  | [a], m, h => by simp at h
  | a :: b :: r, m, h => by
    have ih := upN_append r m (by simp at h; omega)
    simp [upN, ih]
theorem noteU_append : ∀ (l m : List NodeB), l.length % 2 = 0 → noteU (l ++ m) = noteU l ++ noteU m
  | [], m, _ => by simp [noteU]
  | [a], m, h => by simp at h
  | a :: b :: r, m, h => by
    have ih := noteU_append r m (by simp at h; omega)
    simp [noteU, ih]
theorem takeB_two (l : List NodeB) (k : Nat) (hk : k + 1 < l.length) (he : k % 2 = 0) : upN (l.take (k + 2)) = upN (l.take k) ++ [bothNB (l.getD k default) (l.getD (k + 1) default)] ∧ noteU (l.take (k + 2)) = noteU (l.take k) ++ noteNB (l.getD k default) (l.getD (k + 1) default) := by
  have e : l.take (k + 2) = l.take k ++ [l.getD k default, l.getD (k + 1) default] := by
    rw [show k + 2 = (k + 1) + 1 from rfl, List.take_add_one, List.take_add_one, List.getElem?_eq_getElem (by omega), List.getElem?_eq_getElem hk, List.append_assoc]
    simp [List.getElem?_eq_getElem hk, List.getElem?_eq_getElem (show k < l.length by omega)]
  rw [e, upN_append _ _ (by simp; omega), noteU_append _ _ (by simp; omega)]
  exact ⟨rfl, by simp [noteU]⟩
theorem takeB_rest (l : List NodeB) (k : Nat) (hk : l.length ≤ k + 1) (he : k % 2 = 0) (hkl : k ≤ l.length) : upN l = upN (l.take k) ++ l.drop k ∧ noteU l = noteU (l.take k) := by
  have hd : (l.drop k).length ≤ 1 := by simp; omega
  have e1 : upN (l.drop k) = l.drop k := by
    match l.drop k, hd with
    | [], _ => rfl
    | [a], _ => rfl
  have e2 : noteU (l.drop k) = [] := by
    match l.drop k, hd with
    | [], _ => rfl
    | [a], _ => rfl
  constructor
  · conv => lhs; rw [← List.take_append_drop k l]
    rw [upN_append _ _ (by simp; omega), e1]
  · conv => lhs; rw [← List.take_append_drop k l]
    rw [noteU_append _ _ (by simp; omega), e2, List.append_nil]
theorem noteNB_len (a b : NodeB) : (noteNB a b).length ≤ 2 := by
  unfold noteNB
  rw [List.length_append]
  split <;> split <;> simp
theorem noteU_len : ∀ l : List NodeB, (noteU l).length ≤ 2 * (l.length / 2)
  | [] => Nat.le_refl _
  | [a] => Nat.zero_le _
  | a :: b :: r => by
    have h1 := noteNB_len a b
    have h2 := noteU_len r
    rw [noteU, List.length_append, List.length_cons, List.length_cons]
    omega
theorem noteT_len : ∀ (f : Nat) (r : List NodeB), (noteT f r).length ≤ 2 * r.length
  | 0, _ => Nat.zero_le _
  | f + 1, r => by
    rw [noteT]
    split
    · exact Nat.zero_le _
    · have h1 := noteU_len r
      have h2 := noteT_len f (upN r)
      have h3 := upN_len r
      rw [List.length_append]
      omega
end Go.Proofs.YtkajpkfhedfmaaaGreatDoor

