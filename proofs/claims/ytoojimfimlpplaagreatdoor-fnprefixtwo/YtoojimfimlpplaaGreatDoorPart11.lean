/-
  At every bytes the law that two ways, one behind the other, are a way, as it is drawn from them, is true. The package variables that the row lists are as the program's text lays them.
-/
import Derived.Test.YtoojimfimlpplaaGreatDoorPart1
import Derived.Test.YtoojimfimlpplaaGreatDoorPart2
import Derived.Test.YtoojimfimlpplaaGreatDoorPart3
import Derived.Test.YtoojimfimlpplaaGreatDoorPart4
import Derived.Test.YtoojimfimlpplaaGreatDoorPart5
import Derived.Test.YtoojimfimlpplaaGreatDoorPart6
import Derived.Test.YtoojimfimlpplaaGreatDoorPart7
import Derived.Test.YtoojimfimlpplaaGreatDoorPart8
import Derived.Test.YtoojimfimlpplaaGreatDoorPart9
import Derived.Test.YtoojimfimlpplaaGreatDoorPart10
import Derived.Test.YtoojimfimlpplaaGreatDoorCards
import Derived.Test.YtoojimfimlpplaaGreatDoorTie
import Derived.WalkKit
import Derived.ProofKit
import Derived.OpenShut
import Derived.ShutString
import Derived.ChangeOld
import Derived.ChangeVars
import Derived.Below
import Derived.Carry
import Derived.Deep.DeepHandedRow
import Derived.Lib.LaidTab
set_option linter.unusedVariables false
namespace Go.Proofs.YtoojimfimlpplaaGreatDoor
open Go.RowKit Go.Deep Go.Joins

/-- What the numbers come to. -/
structure PrT (l : List HeadV) (n M : Nat) (N P A T : List PeakV) : Prop where
  few : N.length ≤ 20 ∧ P.length ≤ 20 ∧ A.length ≤ 20 ∧ T.length ≤ 20
  one : prefixB [] ⟨(rangeRoot T).toArray⟩ N = true
  two : (N ++ P).length ≤ 8 → prefixB [] ⟨(rangeRoot A).toArray⟩ (N ++ P) = true
theorem prT {l : List HeadV} {n M : Nat} (hn : n = l.length) (hne : ofL l ≠ []) (hM : M ≤ n) : PrT l n M (prefL (l.take M) 0) (prefL l (M : Int)) (ofL l) (ofL (l.take M)) := by
  have hk := ofL_ne hne
  have hkm := take_heads hk M (by omega)
  have hlm : (l.take M).length = M := by rw [List.length_take]; omega
  have e : prefL l (M : Int) = prefT l (l.length - M) M := by
    rw [prefL_yes ⟨hk, by omega, by omega⟩, Int.toNat_natCast]
  have e0 : prefL (l.take M) 0 = prefT (l.take M) M 0 := by
    rw [prefL_yes ⟨hkm, by omega, by omega⟩, hlm]
    rfl
  refine ⟨⟨prefL_len _ _, prefL_len _ _, ofL_len _, ofL_len _⟩, ?_, fun h8 => ?_⟩
  · rw [e0, ofL_yes hkm]
    have := prefix_none hkm
    rwa [hlm] at this ⊢
  · rw [e, e0, ofL_yes hk]
    rw [e, e0] at h8
    exact prefix_two hk (by omega) h8
/-- What the law's other calls answer. -/
structure PrBns (w1 : World) (g n c : Nat) (l : List HeadV) : Prop where
  no : ∀ (M : Nat) w', M ≤ n → Below w1.heap.size w1 w' → Calls Tryz.prog 6 #[.slice (some ⟨g, 0, none⟩) M c, .int .i64 0] w' fun e w'' => PoxPost (l.take M) 0 w' e w''
  rr : ∀ (M : Nat) w', M ≤ n → Below w1.heap.size w1 w' → Calls Tryz.prog 9 #[.slice (some ⟨g, 0, none⟩) M c] w' fun e w'' => RowPost (l.take M) w' e w''
theorem prBns {w1 : World} {g n c : Nat} {l : List HeadV} (hA : AtHead w1 g l) (hn : n = l.length) (hc : n ≤ c) (h20 : n ≤ 20) (hK : RowG w1 shaK) (hP : TabP w1) : PrBns w1 g n c l := by
  refine ⟨fun M w' hM hb => ?_, fun M w' hM hb => ?_⟩
  · exact implPrefixOf g M c (l.take M) 0 w' ((AtHead.take hA M).below hb hA.1) (by rw [List.length_take]; omega) (by omega) (by omega) (hK.below hb hK.lt) (TabP.below hP hb (Nat.le_refl _))
  · exact implRangeOfRow g M c (l.take M) w' ((AtHead.take hA M).below hb hA.1) (by rw [List.length_take]; omega) (by omega) (hK.below hb hK.lt) (TabP.below hP hb (Nat.le_refl _))
theorem rootP {w1 : World} {g n c : Nat} {l : List HeadV} {m : Int} (h : PrAns w1 g n c l m) {B : Nat} {v : Value} {A : List PeakV} {w' : World} (hp : Pks B v A w') (hne : ¬ (v = .slice none 0 0)) (hm : A.length ≤ 20) (hb : Below w1.heap.size w1 w') : Calls Tryz.prog 11 #[v] w' fun e w'' => e = .returned (.string ⟨(rangeRoot A).toArray⟩) ∧ Below w'.heap.size w' w'' := by
  have hf : ∃ a k c2, v = .slice (some a) k c2 := by
    rcases hp with ⟨hv, _⟩ | ⟨g5, c5, hv, _⟩
    · exact absurd hv hne
    · exact ⟨_, _, _, hv⟩
  exact h.rt B v A w' hp hf (by omega) hb
section
variable {P : Program} {w : World}
theorem run_append_nilP (t ty e : TypeId) (i : TypeInfo) (ht : P.underlying t = some (.slice e)) (hi : P.info? e = some i) {base size n : Nat} {v : Value} {xs : List Value} (hown : w.ownsRow base e size v n xs) :
    (Builtin.append_ #[t, t] ty #[v, .slice none 0 0]).run P w = .ok v w := by
  rcases hown.2 with ⟨rfl, _⟩ | ⟨g, cap, cur, rfl, _, _, hc, _⟩
  · simp [Builtin.append_, run_underlying ht, sizeOf, typeInfo, hi, Builtin.lenOf, run_firstCells_none]
  · simp [Builtin.append_, run_underlying ht, sizeOf, typeInfo, hi, Builtin.lenOf, run_firstCells_none, hc, storeCells]
end
/-- Peaks behind others in a row of one's own: what is appended may be nil. -/
theorem wpList_append_pks {w : World} {ops : Array Oper} {rest : List Oper} {o : Oper} {a : Act} {Q : Exit → Act → World → Prop} (hgd : o.guard = none) (s x : Operand)
    (ho : o.op = .call { callee := .builtin .append, args := #[s, x], argTypes := #[26, 26] })
    (base C : Nat) (v : Value) (L ps : List PeakV) (hs : a.eval s = v) (hown : PkR base v L w) (u : Value) (hx : a.eval x = u) (hu : Pks C u ps w)
    (hl : L.length + ps.length ≤ 1000) (hbase : base ≤ w.heap.size)
    (h : ∀ v' w', PkR base v' (L ++ ps) w' → Below base w w' → wpList Tryz.prog ops Q rest (a.put o.dst v') w') :
    wpList Tryz.prog ops Q (o :: rest) a w := by
  obtain ⟨i0, hi, hz0, hz1, hz2⟩ := info3 infoPeak
  rcases hu with ⟨rfl, rfl⟩ | ⟨g, cap, rfl, ha, _⟩
  · have hr := run_append_nilP (P := Tryz.prog) (w := w) 26 o.type 31 i0 Tryz.underlying26 hi hown
    refine wpList_plain hgd fun K hK => ?_
    unfold Oper.wp execOp
    simp only [ho, resolve, invoke, builtin, Sem.run_bind, Sem.run_pure, Result.andThen_ok, List.map_toArray, List.map_cons, List.map_nil, hs, hx, hr]
    exact hK _ _ (h v w (by rw [List.append_nil]; exact hown) (Below.refl _ _))
  · refine wpList_append_own_at _ hgd s x 26 ho base 31 i0 (.agg #[.string ⟨#[]⟩, .int .i64 0, .int .i64 0]) 3 32 Tryz.underlying26 hi hz0 hz1 hz2 rfl (by decide) v L.length (L.flatMap pEnc) hs hown ⟨g, 0, none⟩ ps.length cap (ps.flatMap pEnc) hx (flat_length 3 pEnc pEnc_len ps) (newsPeaks ha (Below.refl _ w)) (pEncs_one ps) (by unfold maxLen; omega) (by omega) hbase ?_
    intro v' w' h2 h3 _ _
    refine h v' w' ?_ ((Below.refl base w).grown h3 hbase (fun k hk => (World.ownsRow.lt hown k hk).1))
    show World.ownsRow _ _ _ _ _ _ _
    rw [List.length_append, List.flatMap_append]
    exact h2

set_option maxHeartbeats 8000000 in
set_option maxRecDepth 100000 in
theorem walk_FnPrefixTwo (a : Option Addr) (len cap : Nat) (zs : List Int) (w : World) (h : IsRow .u8 w a len cap zs) (hK : RowG w shaK) (hP : TabP w) :
    Calls Tryz.prog 4 #[.slice a len cap] w fun e w' => e = .returned (.bool true) ∧ Below w.heap.size w w' := by
  by_cases hl : (1048576 : Int) < (len : Int)
  · clear hK hP
    go_enter Tryz.func4, Tryz.ntmps4
    go_wp2
    go_ret
    exact ⟨rfl, Below.refl _ _⟩
  have hdr := drawPrefixOf a len cap zs w h
  have HK : Hid (RowG w shaK) := hK
  have HP : Hid (∀ w', Below w.heap.size w w' → TabP w') := fun w' hb => TabP.below hP hb (Nat.le_refl _)
  clear hK hP h
  go_enter Tryz.func4, Tryz.ntmps4
  go_wp2_with fail
  refine hdr.mono ?_
  rintro e w1 ⟨g, n, c, l, m, rfl, hA, hn, hc, h20, hs, hm1, hm2, b1⟩
  have HB1 : Hid (Below w.heap.size w w1) := b1
  have HA : Hid (PrAns w1 g n c l m) := prAns hA hn hc h20 hs (HK.out.below b1 HK.out.lt) (HP.out w1 b1)
  have HB : Hid (PrBns w1 g n c l) := prBns hA hn hc h20 (HK.out.below b1 HK.out.lt) (HP.out w1 b1)
  clear hdr HK HP hA hn hc h20 hs b1
  have him := HA.out.im w1 (Below.refl _ _)
  go_wp2_with fail
  refine Calls.mono him ?_
  rintro e w2 ⟨v2, rfl, p2, b2⟩
  have B2 : Hid (Below w1.heap.size w1 w2) := b2
  obtain ⟨a2, c2, rfl, -⟩ := pks_form p2
  have P2 : Hid (Pks 0 (.slice a2 (prefL l m).length c2) (prefL l m) w2) := p2.mono (Nat.zero_le _)
  have hsp := HA.out.sp w2 B2.out
  have HPL : Hid ((prefL l m).length ≤ 1048576) := Nat.le_trans (prefL_len l m) (by decide)
  clear him p2 b2
  go_wp2_with fail
  refine Calls.mono hsp ?_
  rintro e w3 ⟨v3, rfl, p3, b3⟩
  have B3 : Hid (Below w1.heap.size w1 w3) := B2.out.trans (b3.mono B2.out.size)
  have P3 : Hid (Pks 0 (.slice a2 (prefL l m).length c2) (prefL l m) w3) := P2.out.below b3
  have hcp := coPks P3.out p3 HPL.out
  clear hsp p3 b3 B2 P2
  go_wp2_with fail
  refine hcp.mono ?_
  rintro e w4 ⟨rfl, b4⟩
  have B4 : Hid (Below w1.heap.size w1 w4) := B3.out.trans (b4.mono B3.out.size)
  have P4 : Hid (Pks 0 (.slice a2 (prefL l m).length c2) (prefL l m) w4) := P3.out.below b4
  clear hcp b4 B3 P3
  by_cases hbad : ¬ (0 ≤ m ∧ m ≤ (n : Int))
  · have hsp := HA.out.sp w4 B4.out
    have hd : (decide (m < 0) || decide ((n : Int) < m)) = true := by
      rw [Bool.or_eq_true, decide_eq_true_eq, decide_eq_true_eq]
      omega
    by_cases hm0 : m < 0
    · clear HA HB hd hbad
      go_wp2_with fail
      refine Calls.mono hsp ?_
      rintro e w5 ⟨v5, rfl, p5, b5⟩
      have B5 : Hid (Below w1.heap.size w1 w5) := B4.out.trans (b5.mono B4.out.size)
      have hcp := coPks (P4.out.below b5) p5 HPL.out
      clear hsp p5 b5 B4 P4
      go_wp2_with fail
      refine hcp.mono ?_
      rintro e w6 ⟨rfl, b6⟩
      have B6 : Hid (Below w1.heap.size w1 w6) := B5.out.trans (b6.mono B5.out.size)
      clear hcp b6 B5
      go_wp2_with fail
      go_ret
      exact ⟨rfl, HB1.out.trans (B6.out.mono HB1.out.size)⟩
    · have hmn : (n : Int) < m := by omega
      clear HA HB hd hbad
      go_wp2_with fail
      refine Calls.mono hsp ?_
      rintro e w5 ⟨v5, rfl, p5, b5⟩
      have B5 : Hid (Below w1.heap.size w1 w5) := B4.out.trans (b5.mono B4.out.size)
      have hcp := coPks (P4.out.below b5) p5 HPL.out
      clear hsp p5 b5 B4 P4
      go_wp2_with fail
      refine hcp.mono ?_
      rintro e w6 ⟨rfl, b6⟩
      have B6 : Hid (Below w1.heap.size w1 w6) := B5.out.trans (b6.mono B5.out.size)
      clear hcp b6 B5
      go_wp2_with fail
      go_ret
      exact ⟨rfl, HB1.out.trans (B6.out.mono HB1.out.size)⟩
  obtain ⟨M, rfl⟩ : ∃ M : Nat, m = (M : Int) := ⟨m.toNat, by omega⟩
  have hM : M ≤ n := by omega
  have hdM : ¬ ((n : Int) < (M : Int)) := by omega
  have hdn : decide (n < M) = false := decide_eq_false (by omega)
  have hdz : decide ((M : Int) < 0) = false := decide_eq_false (by omega)
  have hra := HA.out.ra w4 B4.out
  clear hbad hm1 hm2
  go_wp2_with fail
  refine Calls.mono hra ?_
  rintro e w6 ⟨v6, rfl, p6, b6⟩
  have B6 : Hid (Below w1.heap.size w1 w6) := B4.out.trans (b6.mono B4.out.size)
  have P6 : Hid (Pks 0 (.slice a2 (prefL l (M : Int)).length c2) (prefL l (M : Int)) w6) := P4.out.below b6
  obtain ⟨a6, c6, rfl, -⟩ := pks_form p6
  clear hra b6 p6 B4 P4
  by_cases h0 : ofL l = []
  · have ha0 : (ofL l).length = 0 := by rw [h0]; rfl
    rw [ha0]
    have hsp := HA.out.sp w6 B6.out
    clear HA HB
    go_wp2_with fail
    refine Calls.mono hsp ?_
    rintro e w7 ⟨v7, rfl, p7, b7⟩
    have B7 : Hid (Below w1.heap.size w1 w7) := B6.out.trans (b7.mono B6.out.size)
    have hcp := coPks (P6.out.below b7) p7 HPL.out
    clear hsp p7 b7 B6 P6
    go_wp2_with fail
    refine hcp.mono ?_
    rintro e w8 ⟨rfl, b8⟩
    have B8 : Hid (Below w1.heap.size w1 w8) := B7.out.trans (b8.mono B7.out.size)
    clear hcp b8 B7
    go_wp2_with fail
    go_ret
    exact ⟨rfl, HB1.out.trans (B8.out.mono HB1.out.size)⟩
  have HT : Hid (PrT l n M (prefL (l.take M) 0) (prefL l (M : Int)) (ofL l) (ofL (l.take M))) := prT HA.out.nl h0 hM
  have HKH : Hid (headsB l = true) := ofL_ne h0
  have HKM : Hid (headsB (l.take M) = true) := take_heads HKH.out M (by have := HA.out.nl; omega)
  have HTE : Hid (ofL (l.take M) = ofP (l.take M) (l.take M).length) := ofL_yes HKM.out
  have hdA : ((ofL l).length == 0) = false := by
    rw [beq_eq_false_iff_ne]
    intro hh
    exact h0 (List.eq_nil_of_length_eq_zero hh)
  have hal : ¬ ((ofL l).length : Int) = 0 := by
    intro hh
    exact h0 (List.eq_nil_of_length_eq_zero (by omega))
  have l1 : (M : Int) ≤ (c : Int) := by have := HA.out.nc; omega
  have l2 : (0 : Int) ≤ (M : Int) := by omega
  have hno := HB.out.no M w6 hM B6.out
  unfold PoxPost at hno
  have HR9 : Hid (∀ w', Below w1.heap.size w1 w' → Calls Tryz.prog 9 #[.slice (some ⟨g, 0, none⟩) M c] w' fun e w'' => ∃ v, e = .returned v ∧ PRow w'.heap.size v (ofL (l.take M)) w'' ∧ Below w'.heap.size w' w'') := fun w' hb => by
    refine (HB.out.rr M w' hM hb).mono ?_
    rintro e w'' ⟨v, rfl, hr, hb2⟩
    exact ⟨v, rfl, by rw [HTE.out]; exact hr HKM.out, hb2⟩
  have HRA : Hid (∀ w', Below w1.heap.size w1 w' → Calls Tryz.prog 9 #[.slice (some ⟨g, 0, none⟩) n c] w' fun e w'' => RofPost l w' e w'') := fun w' hb => HA.out.ra w' hb
  unfold RofPost at HRA
  have HRT : Hid (∀ (B : Nat) (v : Value) (A : List PeakV) (w' : World), Pks B v A w' → ¬ (v = .slice none 0 0) → A.length ≤ 20 → Below w1.heap.size w1 w' → Calls Tryz.prog 11 #[v] w' fun e w'' => e = .returned (.string ⟨(rangeRoot A).toArray⟩) ∧ Below w'.heap.size w' w'') := fun B v A w' h1 h2 h3 hb => rootP HA.out h1 h2 h3 hb
  have HCK : Hid _ := HA.out.ck
  have HAN : Hid (¬ ofL l = []) := h0
  clear HA HB HKH HKM HTE h0
  generalize prefL (l.take M) 0 = N at HT hno
  generalize prefL l (M : Int) = PP at HT P6 HPL ⊢
  generalize ofL (l.take M) = T at HT HR9
  generalize ofL l = A at HT HRA hdA hal HAN ⊢
  go_wp2_with fail
  refine Calls.mono hno ?_
  rintro e w7 ⟨v7, rfl, p7, b7⟩
  have B7 : Hid (Below w1.heap.size w1 w7) := B6.out.trans (b7.mono B6.out.size)
  have P7 : Hid (Pks 0 (.slice a2 PP.length c2) PP w7) := P6.out.below b7
  obtain ⟨a7, c7, rfl, -⟩ := pks_form p7
  have N7 : Hid (Pks 0 (.slice a7 N.length c7) N w7) := p7.mono (Nat.zero_le _)
  clear hno b7 p7 B6 P6
  have b0 : Below w7.heap.size w7 (w7.alloc (.cells #[] 31)) := (Below.refl _ w7).alloc (Nat.le_refl _) _
  have R8 : Hid (PkR w7.heap.size (.slice (some ⟨w7.heap.size, 0, none⟩) 0 0) [] (w7.alloc (.cells #[] 31))) := (frow_new pEnc 31 3 w7).2
  have B8 : Hid (Below w7.heap.size w7 (w7.alloc (.cells #[] 31))) := b0
  have P8 : Hid (Pks 0 (.slice a2 PP.length c2) PP (w7.alloc (.cells #[] 31))) := P7.out.below b0
  have N8 : Hid (Pks 0 (.slice a7 N.length c7) N (w7.alloc (.cells #[] 31))) := N7.out.below b0
  have hz1 : ([] : List PeakV).length + N.length ≤ 1000 := by have := HT.out.few.1; simp only [List.length_nil]; omega
  have hz2 : ([] ++ N : List PeakV).length + PP.length ≤ 1000 := by have h1 := HT.out.few.1; have h2 := HT.out.few.2.1; simp only [List.nil_append]; omega
  have hsz := B8.out.size
  clear b0
  go_wp2_with (first
    | (at_builtin; refine wpList_append_pks rfl _ _ rfl w7.heap.size 0 (.slice (some ⟨w7.heap.size, 0, none⟩) 0 0) [] N (by rfl) R8.out (.slice a7 N.length c7) (by rfl) N8.out hz1 hsz ?_; intro v9 w9 hr9 hb9; have R9 : Hid (PkR w7.heap.size v9 ([] ++ N) w9) := hr9; have B9 : Hid (Below w7.heap.size w7 w9) := B8.out.trans hb9; have P9 : Hid (Pks 0 (.slice a2 PP.length c2) PP w9) := P7.out.keep B9.out.size (fun g9 hg => B9.out.block g9 (P7.out.blk hg).1); have hsz9 := B9.out.size)
    | (at_builtin; refine wpList_append_pks rfl _ _ rfl w7.heap.size 0 v9 ([] ++ N) PP (by rfl) R9.out (.slice a2 PP.length c2) (by rfl) P9.out hz2 hsz9 ?_; intro v10 w10 hr10 hb10))
  have B10 : Hid (Below w7.heap.size w7 w10) := B9.out.trans hb10
  have B10w : Hid (Below w1.heap.size w1 w10) := B7.out.trans (B10.out.mono B7.out.size)
  have N10 : Hid (Pks 0 (.slice a7 N.length c7) N w10) := N7.out.keep B10.out.size (fun g9 hg => B10.out.block g9 (N7.out.blk hg).1)
  have HNP : Hid (([] ++ N ++ PP : List PeakV) = N ++ PP) := by show _ = _; rw [List.nil_append]
  have Q10 : Hid (Pks 0 v10 (N ++ PP) w10) := by
    have h1 : PkR w7.heap.size v10 ([] ++ N ++ PP) w10 := hr10
    rw [HNP.out] at h1
    exact h1.pks.mono (Nat.zero_le _)
  obtain ⟨a10, c10, rfl, -⟩ := pks_form Q10.out
  obtain ⟨K, hKK⟩ : ∃ K, K = (N ++ PP).length := ⟨_, rfl⟩
  have HKN : Hid (K = (N ++ PP).length) := hKK
  rw [← hKK] at Q10 ⊢
  clear hKK
  clear hr9 hb9 hr10 hb10 R8 B8 P8 N8 R9 B9 P9 hsz hsz9 hz1 hz2 P7 N7 B7 B10 HNP
  have hr9 := HR9.out w10 B10w.out
  go_wp2_with fail
  refine Calls.mono hr9 ?_
  rintro e w11 ⟨v11, rfl, p11, b11⟩
  have B11 : Hid (Below w1.heap.size w1 w11) := B10w.out.trans (b11.mono B10w.out.size)
  have N11 : Hid (Pks 0 (.slice a7 N.length c7) N w11) := N10.out.below b11
  have Q11 : Hid (Pks 0 (.slice a10 K c10) (N ++ PP) w11) := Q10.out.below b11
  obtain ⟨⟨g11, c11, hv11⟩, -⟩ := id p11
  subst hv11
  have hrt := HRT.out 0 _ T w11 (Or.inr (PBk.frow (p11.mono (Nat.zero_le _)))) (by simp) (by have := HT.out.few.2.2.2; omega) B11.out
  clear hr9 p11 b11 B10w N10 Q10
  generalize hrtT : (⟨(rangeRoot T).toArray⟩ : ByteArray) = rtT at hrt
  have HRTT : Hid ((⟨(rangeRoot T).toArray⟩ : ByteArray) = rtT) := hrtT
  clear hrtT
  go_wp2_with fail
  refine Calls.mono hrt ?_
  rintro e w12 ⟨rfl, b12⟩
  have B12 : Hid (Below w1.heap.size w1 w12) := B11.out.trans (b12.mono B11.out.size)
  have N12 : Hid (Pks 0 (.slice a7 N.length c7) N w12) := N11.out.below b12
  have Q12 : Hid (Pks 0 (.slice a10 K c10) (N ++ PP) w12) := Q11.out.below b12
  have hck := HCK.out 0 0 (.slice none 0 0) [] rtT a7 N.length c7 N w12 (.inl ⟨rfl, rfl⟩) N12.out (by decide) (by have := HT.out.few.1; omega) B12.out
  have HONE : Hid (prefixB [] rtT N = true) := by rw [← HRTT.out]; exact HT.out.one
  rw [HONE.out] at hck
  clear hrt b12 B11 N11 Q11
  go_wp2_with fail
  refine Calls.mono hck ?_
  rintro e w13 ⟨rfl, b13⟩
  have B13 : Hid (Below w1.heap.size w1 w13) := B12.out.trans (b13.mono B12.out.size)
  have Q13 : Hid (Pks 0 (.slice a10 K c10) (N ++ PP) w13) := Q12.out.below b13
  have HTW : Hid ((N ++ PP).length ≤ 8 → prefixB [] ⟨(rangeRoot A).toArray⟩ (N ++ PP) = true) := HT.out.two
  have HBL : Hid ((N ++ PP).length ≤ 1048576 ∧ A.length ≤ 20) := by have h1 := HT.out.few; rw [List.length_append]; exact ⟨by omega, h1.2.2.1⟩
  clear hck b13 B12 N12 Q12 HONE HRTT HT
  generalize N ++ PP = NP at Q13 HTW HBL HKN
  by_cases h8 : (8 : Int) < (K : Int)
  · have hd8 : decide (8 < K) = true := decide_eq_true (by omega)
    go_wp2_with fail
    go_ret
    exact ⟨rfl, HB1.out.trans (B13.out.mono HB1.out.size)⟩
  have hd8 : decide (8 < K) = false := decide_eq_false (by omega)
  have h88 : NP.length ≤ 8 := by have := HKN.out; omega
  have hra := HRA.out w13 B13.out
  go_wp2_with fail
  refine Calls.mono hra ?_
  rintro e w14 ⟨v14, rfl, p14, b14⟩
  have B14 : Hid (Below w1.heap.size w1 w14) := B13.out.trans (b14.mono B13.out.size)
  have Q14 : Hid (Pks 0 (.slice a10 K c10) NP w14) := Q13.out.below b14
  have hrt := HRT.out 0 v14 A w14 (p14.mono (Nat.zero_le _)) (fun hv => by
    rcases p14 with ⟨_, hA0⟩ | ⟨g5, c5, hv5, _⟩
    · exact HAN.out hA0
    · rw [hv5] at hv; simp at hv) HBL.out.2 B14.out
  have HYS : Hid (prefixB [] ⟨(rangeRoot A).toArray⟩ NP = true) := HTW.out h88
  generalize (⟨(rangeRoot A).toArray⟩ : ByteArray) = rtA at hrt HYS
  clear hra p14 b14 B13 Q13
  go_wp2_with fail
  refine Calls.mono hrt ?_
  rintro e w15 ⟨rfl, b15⟩
  have B15 : Hid (Below w1.heap.size w1 w15) := B14.out.trans (b15.mono B14.out.size)
  have Q15 : Hid (Pks 0 (.slice a10 K c10) NP w15) := Q14.out.below b15
  have hck := HCK.out 0 0 (.slice none 0 0) [] rtA a10 K c10 NP w15 (.inl ⟨rfl, rfl⟩) Q15.out (by decide) HBL.out.1 B15.out
  rw [HYS.out] at hck
  clear hrt b15 B14 Q14
  go_wp2_with fail
  refine Calls.mono hck ?_
  rintro e w16 ⟨rfl, b16⟩
  have B16 : Hid (Below w1.heap.size w1 w16) := B15.out.trans (b16.mono B15.out.size)
  clear hck b16 B15 Q15
  go_wp2_with fail
  go_ret
  exact ⟨rfl, HB1.out.trans (B16.out.mono HB1.out.size)⟩

end Go.Proofs.YtoojimfimlpplaaGreatDoor

namespace Go.Proofs.YtoojimfimlpplaaGreatDoor
open Go.ChangeShapes Go.WideShapes Go.ChangeAt Go.RowKit
open Go.ChangeMaps (open_string shut_string)
set_option linter.unusedVariables false

theorem own_fnPrefixTwo : ownKnob Tryz.prog.godebug = none := by kernel_rfl
theorem laid_fnPrefixTwo : laidOutB Tryz.prog = true := by kernel_rfl
theorem table_fnPrefixTwo {W : World} (h : laidMetH Tryz.prog Rows.fnPrefixTwoRow.laid W) : RowG W shaK ∧ TabP W := tabs_of_laid h

theorem met_fnPrefixTwo (os : Os) : laidMet Tryz.prog Rows.fnPrefixTwoRow.laid ((laidWorld os).forCall (fun _ _ => 0) ⟨#[], #[.slice none 0 0], []⟩).memory :=
  laidMet_of_run' 8 (by kernel_rfl) (by kernel_rfl)
theorem reads_fnPrefixTwo (os : Os) {H : Type} (enc : TypeId × Value → H) : ∃ places, DataW.whole enc Tryz.prog ((laidWorld os).forCall (fun _ _ => 0) ⟨#[], #[.slice none 0 0], []⟩).memory Tryz.f4.params.toList Rows.fnPrefixTwoSpec.vars false (#[.slice none 0 0] : Array Value).toList 8 = some ([.nil], [Rows.laid_loop_example_cordillera_impl_sumRounds], places) :=
  ⟨MemPlace.row ⟨0, 0, none⟩ 64, by kernel_rfl⟩

set_option maxRecDepth 100000 in
theorem lifted_fnPrefixTwo (os : Os) (started : os.Started) (H : Type) (enc : TypeId × Value → H) (F : Stop.Interp) :
    ReturnsInHanded {} Tryz.checked os 4 .any ((OpenSpec.ofChange Rows.fnPrefixTwoSpec).preRow enc Tryz.prog Tryz.f4 Rows.fnPrefixTwoRow.domain false Rows.fnPrefixTwoRow.laid) (((OpenSpec.ofChange Rows.fnPrefixTwoSpec).at F).post enc Tryz.prog Tryz.f4 false true false false) := by
  obtain ⟨places, hx⟩ := reads_fnPrefixTwo os enc
  refine returnsInHanded_of_row (C := Tryz.checked) (s := OpenSpec.ofChange Rows.fnPrefixTwoSpec) own_fnPrefixTwo started (by kernel_rfl) Tryz.func4
    (witness_row_at (enc := enc) (C := Tryz.checked) false (laidWorld os) #[.slice none 0 0] rfl (by kernel_rfl) (by kernel_rfl) (by kernel_rfl)
      (OpenSpec.preRow_of_cond 8 hx (by kernel_rfl) (fun k hk => by cases hk) (by kernel_rfl) (met_fnPrefixTwo os))) ?_
  intro W base args ds gs before hval0 hW _ _ _ hL _ _
  have hval : ∀ (j : Nat) t v, Tryz.f4.params[j]? = some t → args[j]? = some v → Value.okWide Tryz.prog W .any base t v := hval0
  have hW' := hW
  obtain ⟨p, q, hA0, hV, rfl, hfz, hnd⟩ := hW
  have hA : DataW.TrodAll enc Tryz.prog W 0 (fun _ => true) true Tryz.f4.params.toList args.toList ds p := hA0
  rw [Tryz.params4] at hA hval
  obtain ⟨v0, vs0, d0, ds0, p0, q0, hargs, rfl, rfl, h0, r0⟩ := trodAll_cons hA
  obtain ⟨rfl, rfl, rfl⟩ := trodAll_nil r0
  obtain rfl : args = #[v0] := by cases args; simp_all
  obtain ⟨gv, tv, cv, fv, dv, pv, rfl, hgv, htv, hvv, hdv, rfl⟩ := trodVars_one hV
  obtain ⟨a0, len0, cap0, rfl⟩ := okWide_slice Tryz.underlying22 (hval 0 22 v0 rfl rfl)
  have k0 := h0
  have lt0 : ∀ x ∈ p0, x.block < W.heap.size := by obtain ⟨m, hm⟩ := k0; exact DataW.trod_lt m _ _ _ hm
  obtain ⟨z0, w0⟩ : ∃ zs, IsRow .u8 W a0 len0 cap0 zs := by
    obtain ⟨fuel, hf⟩ := h0
    rcases open_ints Tryz.underlying22 Tryz.underlying5 (by kernel_rfl) hf with ⟨hcs, _⟩ | ⟨x, l, c, zs, hcs, _, hl, hm, hz, _, hcell, hwz⟩
    · simp [Value.cells] at hcs
      obtain ⟨rfl, rfl, rfl⟩ := hcs
      exact ⟨[], .inl ⟨rfl, rfl, rfl, rfl⟩⟩
    · simp [Value.cells] at hcs
      obtain ⟨rfl, rfl, rfl⟩ := hcs
      exact ⟨zs, .inr ⟨_, rfl, hl, hm, by simpa using hz, hcell, hwz⟩⟩
  clear hA0 hval0
  refine (walk_FnPrefixTwo a0 len0 cap0 z0 W w0 (table_fnPrefixTwo hL).1 (table_fnPrefixTwo hL).2).mono fun e W' ⟨he, bel⟩ => ?_
  subst he
  obtain ⟨pv', hpv⟩ := varsBack laid_fnPrefixTwo hgv htv hvv hdv bel
  exact ⟨_, rfl, _, _, _, [], _, pv', hW', trodAll_mk1 (shut_bool Tryz.underlying4 _), (trodAll_cons_mk (Below.trod laid_fnPrefixTwo (by kernel_rfl) (of_decide_eq_true (by kernel_rfl)) k0 bel lt0) trodAll_mk0), hpv, bel.frame _, fun h => by cases h⟩

theorem fnPrefixTwo_said : Rows.FnPrefixTwoSaid :=
  OpenClaim.holds_of_cond 4 Tryz.f4 rfl rfl rfl rfl rfl rfl rfl ⟨rfl, rfl, rfl, rfl, rfl⟩ rfl rfl rfl rfl rfl (by kernel_rfl) Tryz.func4 (by kernel_rfl)
    (of_decide_eq_true (by kernel_rfl)) (by unfold Func.isWrapper; first | (rw [if_pos (by decide +kernel)]; kernel_rfl) | (rw [if_neg (by decide +kernel)]; exact ⟨rfl, rfl⟩))
    (fun os started H enc _ F => by rw [OpenClaim.pre_eq_preRow]; exact lifted_fnPrefixTwo os started H enc F)
theorem plain_fnPrefixTwo (f : FuncId) (fn : Func) (hf : Tryz.pinned.checked.prog.funcNamed "loop.example/cordillera/laws.FnPrefixTwo" = some f) (hfn : Tryz.pinned.checked.prog.funcs[f]? = some fn) :
    false = Tryz.pinned.checked.prog.looks [] ∧ ∀ (j : Nat) t, fn.params[j]? = some t → Tryz.pinned.checked.prog.wantsStandIn t = false := by
  obtain rfl : f = 4 := Option.some.inj ((show Tryz.prog.funcNamed "loop.example/cordillera/laws.FnPrefixTwo" = some 4 by kernel_rfl).symm.trans hf) |>.symm
  obtain rfl : fn = Tryz.f4 := (Option.some.inj (Tryz.func4.symm.trans hfn)).symm
  refine ⟨by kernel_rfl, fun j t ht => ?_⟩
  rw [Tryz.params4] at ht
  have hall : ∀ t ∈ (#[22] : Array TypeId), Tryz.prog.wantsStandIn t = false := by
    intro t ht
    simp only [List.mem_toArray, List.mem_cons, List.not_mem_nil, or_false] at ht
    subst ht; kernel_rfl
  exact hall t (Array.mem_of_getElem? ht)
theorem fnPrefixTwo_holds : Rows.FnPrefixTwoCardSaid :=
  Claim7.holds_tied_plain_at .later [] _ _ _ _ fnPrefixTwo_said (fun _ h => by cases h) (by kernel_rfl) (fun _ h => by cases h) fnPrefixTwo_row_tie rfl ⟨rfl, rfl⟩ (by kernel_rfl) rfl plain_fnPrefixTwo (by kernel_rfl)
#print axioms fnPrefixTwo_holds
end Go.Proofs.YtoojimfimlpplaaGreatDoor

