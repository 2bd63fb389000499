/-
  Texts that the last part needs, joined.
-/
import Derived.Test.YtjeldedjhlicmaaGreatDoorPart1
import Derived.Test.YtjeldedjhlicmaaGreatDoorPart2
import Derived.Test.YtjeldedjhlicmaaGreatDoorPart3
import Derived.Test.YtjeldedjhlicmaaGreatDoorPart4
import Derived.Test.YtjeldedjhlicmaaGreatDoorPart5
import Derived.Test.YtjeldedjhlicmaaGreatDoorPart6
import Derived.Test.YtjeldedjhlicmaaGreatDoorPart7
import Derived.Test.YtjeldedjhlicmaaGreatDoorPart8
import Derived.Deep.RegionHeld3
import Derived.Deep.AppendLies
import Derived.Test.YtjeldedjhlicmaaGreatDoorProg
import Derived.Laws.Strings
set_option linter.unusedVariables false
namespace Go.Proofs.YtjeldedjhlicmaaGreatDoor
open Go.RowKit Go.Deep

theorem ChkW.cells {w wr : World} {g0 : Nat} {h : HeadV} {s : PrfV} (c : ChkW w wr g0 h s) : (wr.cell? ⟨g0, 0, none⟩ = some (.string h.prev) ∧ wr.cell? ⟨g0, 1, none⟩ = some (.string h.root) ∧ wr.cell? ⟨g0, 2, none⟩ = some (.int .i64 h.time) ∧ wr.cell? ⟨g0, 3, none⟩ = some (.int .i64 h.diff) ∧ wr.cell? ⟨g0, 4, none⟩ = some (.int .i64 h.nonce)) ∧ (wr.cell? ⟨g0 + 1, 0, none⟩ = some (.slice (some ⟨s.g, 0, none⟩) s.n s.c) ∧ wr.cell? ⟨g0 + 1, 1, none⟩ = some (.slice (some ⟨s.sg, 0, none⟩) s.sn s.sc)) := ⟨c.a.cells5, c.b.out2⟩
theorem ChkW.alloc {w wr : World} {g0 : Nat} {h : HeadV} {s : PrfV} (c : ChkW w wr g0 h s) (o : Obj) : ChkW w (wr.alloc o) g0 h s := c.call ((Below.refl _ wr).alloc (Nat.le_refl _) o)
theorem ChkW.other {w wr : World} {g0 : Nat} {h : HeadV} {s : PrfV} (c : ChkW w wr g0 h s) {g : Nat} (hg : g0 + 2 ≤ g) (j : Nat) (v : Value) : ChkW w (wr.setCell ⟨g, j, none⟩ v) g0 h s := by
  have h2 := c.lo
  exact ⟨c.a.other (by omega) v, c.b.other (by omega) v, c.l.setCell (p := ⟨g, j, none⟩) (by show w.heap.size ≤ g; omega) v, by simpa [World.setCell] using c.z, h2⟩
theorem ChkW.other3 {w wr : World} {g0 : Nat} {h : HeadV} {s : PrfV} (c : ChkW w wr g0 h s) {g : Nat} (hg : g0 + 2 ≤ g) (x y z : Value) : ChkW w (((wr.setCell ⟨g, 0, none⟩ x).setCell ⟨g, 1, none⟩ y).setCell ⟨g, 2, none⟩ z) g0 h s := ((c.other hg 0 x).other hg 1 y).other hg 2 z
theorem gtk {ps : List PeakV} {i k : Nat} (h : i < k) : (ps.take k).getD i default = ps.getD i default := by simp [h]
theorem cnt_take {ps : List PeakV} {k : Nat} : ∀ j, j ≤ k → cntTo (ps.take k) j = cntTo ps j
  | 0, _ => rfl
  | j + 1, hj => by rw [cntTo, cntTo, cnt_take j (by omega), gtk (by omega)]
theorem wrk_take {ps : List PeakV} {k : Nat} : ∀ j, j ≤ k → wrkTo (ps.take k) j = wrkTo ps j
  | 0, _ => rfl
  | j + 1, hj => by rw [wrkTo, wrkTo, wrk_take j (by omega), gtk (by omega)]
theorem cnt_mono {ps : List PeakV} (h : rangeOkB ps = true) {k : Nat} : ∀ d, k + d ≤ ps.length → cntTo ps k ≤ cntTo ps (k + d)
  | 0, _ => Int.le_refl _
  | d + 1, hd => by
    have ih := cnt_mono h (k := k) d (by omega)
    have := rangeOk_at h (k + d) (by omega)
    rw [← Nat.add_assoc, cntTo]
    omega
theorem range_take {ps : List PeakV} (h : rangeOkB ps = true) {k : Nat} (hk : k ≤ ps.length) : rangeOkB (ps.take k) = true := by
  have hl : (ps.take k).length = k := by rw [List.length_take]; omega
  have hm := cnt_mono h (k := k) (ps.length - k) (by omega)
  rw [show k + (ps.length - k) = ps.length from by omega] at hm
  rw [rangeOkB, Bool.and_eq_true, List.all_eq_true, decide_eq_true_eq] at h ⊢
  rw [hl]
  refine ⟨fun i hi => ?_, by rw [cnt_take k (Nat.le_refl _)]; omega⟩
  have hi := List.mem_range.1 hi
  have := h.1 i (List.mem_range.2 (by omega))
  rw [stepOk] at this ⊢
  rw [gtk hi]
  by_cases h0 : i = 0
  · subst h0
    simpa using this
  · rw [gtk (show i - 1 < k by omega)]
    exact this
theorem AtP.take {w : World} {g : Nat} {ps : List PeakV} (h : AtP w g ps) (k : Nat) : AtP w g (ps.take k) :=
  ⟨h.1, fun a b ha hb => by
    have h1 : a < k ∧ a < ps.length := by rw [List.length_take] at ha; omega
    rw [gtk h1.1]
    exact h.2 a b h1.2 hb⟩

set_option linter.unusedSimpArgs false in
set_option maxHeartbeats 8000000 in
set_option maxRecDepth 100000 in
theorem specL5Check (root : ByteArray) (h : HeadV) (a : Int) (s : PrfV) (w : World) (hS : PrfAt s w) (hok : headOkB h = true) (ha0 : 0 ≤ a) (h8 : s.ss.length ≤ 8) (hrk : rangeOkB s.ps = true) (hz : ∀ i, i < s.sn → (s.ss.getD i default).sum.size ≤ maxLen) :
    Calls Tryz.prog 32 #[.string root, headVal h, .int .i64 a, prfVal s] w fun e w' => e = .returned (.int .i64 (checkV root h a s.ps s.ss)) ∧ Below w.heap.size w w' := by
  have HS : Hid (PrfAt s w) := hS
  have HN : Hid (s.n = s.ps.length ∧ s.sn = s.ss.length) := ⟨hS.pl, hS.tl⟩
  have hpm := hS.pm
  have hnc := hS.pc
  have HRK : Hid (rangeOkB s.ps = true) := hrk
  have HA0 : Hid (0 ≤ a) := ha0
  have hpk := fun (w' : World) (hb : Below w.heap.size w w') => specL5Peak s.g s.n s.c s.ps a w' (HS.out.below hb).p hS.pl hS.pm hrk
  have hrr : ∀ (w' : World), Below w.heap.size w w' → Calls Tryz.prog 46 #[.slice (some ⟨s.g, 0, none⟩) s.n s.c] w' fun e w'' => e = .returned (.string ⟨(rangeRoot s.ps).toArray⟩) ∧ Below w'.heap.size w' w'' := by
    intro w' hb
    have e : sumB (rrT s.ps s.n) = rangeRoot s.ps := by rw [HN.out.1, rr_yes hrk]
    have := specL5Root s.g s.n s.c s.ps w' (HS.out.below hb).p hS.pl hrk
    rw [e] at this
    exact this
  have hlf := fun w' => specL5Leaf h w' hok
  have HPN : Hid (placeP s.ps a = none → checkV root h a s.ps s.ss = -1) := fun hp => check_none hp
  have HRT : Hid ((⟨(rangeRoot s.ps).toArray⟩ : ByteArray) ≠ root → checkV root h a s.ps s.ss = -1) := fun hn => check_root hn
  have HPS : Hid (∀ k, placeP s.ps a = some k → (⟨(rangeRoot s.ps).toArray⟩ : ByteArray) = root → (walkTo (leafP h) (a - cntTo s.ps k).toNat s.ss s.sn = none → checkV root h a s.ps s.ss = -1) ∧ ∀ q l, walkTo (leafP h) (a - cntTo s.ps k).toNat s.ss s.sn = some (q, l) → checkV root h a s.ps s.ss = if samePB q (s.ps.getD k default) = true then wrkTo s.ps k + l else -1) := fun k hp hr => by
    rw [HN.out.2]
    exact check_way ⟨hok, ha0, h8, hrk, hr⟩ hp
  have HWK : Hid (∀ (a' : Nat) (w' : World), a' ≤ 20 → Below w.heap.size w w' → Calls Tryz.prog 47 #[peakVal (leafP h), .int .i64 (a' : Int), .slice (some ⟨s.sg, 0, none⟩) s.sn s.sc] w' fun e w'' => WalkPost (leafP h) a' s.ss s.sn e ∧ Below w'.heap.size w' w'') := fun a' w' h1 hb => specL5Walk h a' s.sg s.sn s.sc s.ss w' hok h1 (HS.out.below hb).t HN.out.2 (by have := HN.out.2; omega) hz
  have HMN : Hid (∀ (k : Nat) (w' : World), k ≤ s.n → Below w.heap.size w w' → Calls Tryz.prog 49 #[.slice (some ⟨s.g, 0, none⟩) k s.c] w' fun e w'' => e = .returned (.tuple #[.int .i64 (cntTo s.ps k), .int .i64 (wrkTo s.ps k)]) ∧ Below w'.heap.size w' w'') := fun k w' hk hb => by
    have hkl : (s.ps.take k).length = k := by rw [List.length_take]; have := HN.out.1; omega
    have := specL5Many s.g k s.c (s.ps.take k) w' ((HS.out.below hb).p.take k) hkl.symm (by omega) (range_take hrk (by have := HN.out.1; omega))
    rw [cnt_take k (Nat.le_refl _), wrk_take k (Nat.le_refl _)] at this
    exact this
  have HFN : Hid (∀ a' q l, walkTo (leafP h) a' s.ss s.sn = some (q, l) → 0 ≤ l ∧ l ≤ 256) := fun a' q l hw => ⟨(walk_fine hok _ q l hw).l0, fine_le (walk_fine hok _ q l hw)⟩
  generalize checkV root h a s.ps s.ss = R at HPN HRT HPS ⊢
  generalize (⟨(rangeRoot s.ps).toArray⟩ : ByteArray) = rt at HRT HPS hrr
  clear hS hok ha0 h8 hrk hz
  unfold headVal at hlf ⊢
  unfold prfVal
  have C0 : Hid (ChkW w _ w.heap.size h s) := ChkW.new w h s
  go_enter Tryz.func32, Tryz.ntmps32
  go_wp2_with fail
  generalize (w.alloc (.cells #[.string h.prev, .string h.root, .int .i64 h.time, .int .i64 h.diff, .int .i64 h.nonce] 32)).alloc (.cells #[.slice (some ⟨s.g, 0, none⟩) s.n s.c, .slice (some ⟨s.sg, 0, none⟩) s.sn s.sc] 35) = W0 at C0 ⊢
  obtain ⟨g0, hg0⟩ : ∃ g0, g0 = w.heap.size := ⟨_, rfl⟩
  rw [← hg0] at C0 ⊢
  clear hg0
  refine (hpk _ C0.out.l).mono ?_
  rintro e w1 ⟨hp, rfl⟩
  obtain ⟨⟨e0, e1, e2, e3, e4⟩, p0, p1⟩ := C0.out.cells
  rcases hp with ⟨k, hpl, rfl⟩ | ⟨hpl, x, rfl⟩
  rotate_left
  · have HV : Hid (R = -1) := HPN.out hpl
    have hx : ((-1 : Int) < 0) := by omega
    clear HPN HRT HPS HWK HMN HFN hpk hlf hrr
    go_wp2_with fail
    go_ret
    exact ⟨by rw [HV.out]; rfl, C0.out.l⟩
  obtain ⟨hk1, hk2, hk3⟩ := place_some hpl
  have hk4 := place_ge HA0.out hpl
  have hci := cnt_in HRK.out k (by omega)
  have hwi := wrk_in HRK.out k (by omega)
  have hri := rangeOk_at HRK.out k hk1
  have hl20 := range_len HRK.out
  have hk0 : ¬ (k : Int) < 0 := by omega
  have hkn : (k : Int) < (s.n : Int) := by have := HN.out.1; omega
  have HPS := HPS.out k hpl
  have HPS : Hid _ := HPS
  obtain ⟨a', ha'⟩ : ∃ a' : Nat, a - cntTo s.ps k = (a' : Int) := ⟨(a - cntTo s.ps k).toNat, by omega⟩
  have ha20 : a' ≤ 20 := by rw [cntTo] at hk2; omega
  have hws : IntKind.i64.wrap (a - cntTo s.ps k) = (a' : Int) := by rw [IntKind.wrap_i64, ha']; omega
  rw [ha', Int.toNat_natCast] at HPS
  have hwk := fun (w' : World) (hb : Below w.heap.size w w') => HWK.out a' w' ha20 hb
  have hmn := fun (w' : World) (hb : Below w.heap.size w w') => HMN.out k w' (by have := HN.out.1; omega) hb
  have HKL : Hid (k < s.ps.length) := hk1
  have HFN := HFN.out a'
  have HFN : Hid _ := HFN
  clear HPN HWK HMN hpk hpl hk1 hk2 hk3 hk4 hci hri ha' ha20
  generalize cntTo s.ps k = ck at hws ⊢
  have h0 := hrr _ C0.out.l
  clear hrr
  go_wp2_with fail
  refine h0.mono ?_
  rintro e w3 ⟨rfl, b3⟩
  have C3 : Hid (ChkW w w3 g0 h s) := C0.out.call b3
  clear C0 b3 h0 e0 e1 e2 e3 e4 p0 p1
  by_cases hrt : ¬ rt = root
  · have HV : Hid (R = -1) := HRT.out hrt
    have hrt1 : (rt.toList == root.toList) = false := by rw [sameR, decide_eq_false hrt]
    clear HRT HPS HFN hwk hmn hlf hrt
    go_wp2_with fail
    go_ret
    exact ⟨by rw [HV.out]; rfl, C3.out.l⟩
  replace hrt := Classical.not_not.1 hrt
  have hrt1 : (rt.toList == root.toList) = true := by rw [sameR, decide_eq_true hrt]
  have HPS := HPS.out hrt
  have HPS : Hid _ := HPS
  clear HRT hrt
  generalize leafP h = lf at hlf hwk HPS HFN
  obtain ⟨lfs, lfw, lfc⟩ := lf
  unfold peakVal at hlf hwk
  dsimp only at hlf hwk
  obtain ⟨⟨e0, e1, e2, e3, e4⟩, p0, p1⟩ := C3.out.cells
  cases hwt : walkTo ⟨lfs, lfw, lfc⟩ a' s.ss s.sn with
  | none =>
    have HV : Hid (R = -1) := HPS.out.1 hwt
    have hwk0 : ∀ (w' : World), Below w.heap.size w w' → Calls Tryz.prog 47 #[.agg #[.string lfs, .int .i64 lfw, .int .i64 lfc], .int .i64 (a' : Int), .slice (some ⟨s.sg, 0, none⟩) s.sn s.sc] w' fun e w'' => (∃ q : PeakV, e = .returned (.tuple #[.agg #[.string q.sum, .int .i64 q.work, .int .i64 q.count], .int .i64 0, .bool false])) ∧ Below w'.heap.size w' w'' := fun w' hb => (hwk w' hb).mono fun e w'' hh => by
      rcases hh with ⟨⟨q, l, h1, _⟩ | ⟨_, q, h2⟩, h3⟩
      · rw [hwt] at h1; cases h1
      · exact ⟨⟨q, h2⟩, h3⟩
    replace hwk := hwk0
    clear hwk0 HPS HFN hmn hwt
    go_wp2_with fail
    have CD : Hid (ChkW w w3.drew g0 h s) := C3.out.call (Below.refl _ _).drew
    have hlf1 := hlf
    have hwk1 := hwk
    go_region_held3 (fun w' => ((w'.cell? ⟨g0, 0, none⟩ = some (.string h.prev) ∧ w'.cell? ⟨g0, 1, none⟩ = some (.string h.root) ∧ w'.cell? ⟨g0, 2, none⟩ = some (.int .i64 h.time) ∧ w'.cell? ⟨g0, 3, none⟩ = some (.int .i64 h.diff) ∧ w'.cell? ⟨g0, 4, none⟩ = some (.int .i64 h.nonce)) ∧ (w'.cell? ⟨g0 + 1, 0, none⟩ = some (.slice (some ⟨s.g, 0, none⟩) s.n s.c) ∧ w'.cell? ⟨g0 + 1, 1, none⟩ = some (.slice (some ⟨s.sg, 0, none⟩) s.sn s.sc))))
      (first | exact C3.out.cells | exact CD.out.cells | exact (C1.out).cells | exact (C2.out).cells | exact CA.out.cells | exact (C2.out.alloc _).cells | exact (C2.out.other3 C3.out.z _ _ _).cells | exact (C2.out.other3 C1.out.z _ _ _).cells | go_keep)
      (first
        | (go_at_call 48; refine (hlf1 _).mono ?_; rintro e w5 ⟨rfl, b5⟩; first | (have N1 : Hid (CBk w5 w3.heap.size 80 #[.string ⟨#[]⟩, .int .i64 0, .int .i64 0]) := (CBk.new w3.drew _ _).call b5; have C1 : Hid (ChkW w w5 g0 h s) := (CD.out.alloc _).call b5) | (have C1 : Hid (ChkW w w5 g0 h s) := CD.out.call b5))
        | (go_at_call 47; first | (have CA : Hid (ChkW w (w5.alloc (.cells #[.string ⟨#[]⟩, .int .i64 0, .int .i64 0] 80)) g0 h s) := C1.out.alloc _; refine (hwk1 _ CA.out.l).mono ?_; rintro e w6 ⟨⟨q, rfl⟩, b6⟩; have N2 : Hid (CBk w6 w5.heap.size 80 #[.string ⟨#[]⟩, .int .i64 0, .int .i64 0]) := (CBk.new w5 _ _).call b6; obtain ⟨m0, m1, m2⟩ := N2.out.cells3; obtain ⟨f0, f1, f2⟩ := N2.out.free3; have C2 : Hid (ChkW w w6 g0 h s) := CA.out.call b6) | (refine (hwk1 _ C1.out.l).mono ?_; rintro e w6 ⟨⟨q, rfl⟩, b6⟩; first | (have N2 : Hid (CBk w6 w3.heap.size 80 #[.string ⟨#[]⟩, .int .i64 0, .int .i64 0]) := N1.out.call b6; obtain ⟨m0, m1, m2⟩ := N2.out.cells3; obtain ⟨f0, f1, f2⟩ := N2.out.free3; have C2 : Hid (ChkW w w6 g0 h s) := C1.out.call b6) | (have C2 : Hid (ChkW w w6 g0 h s) := C1.out.call b6))))

    · have NE : Hid (CBk (w6.alloc (.cells #[.string q.sum, .int .i64 q.work, .int .i64 q.count] 80)) w6.heap.size 80 #[.string q.sum, .int .i64 q.work, .int .i64 q.count]) := CBk.new w6 _ _
      have CE : Hid (ChkW w (w6.alloc (.cells #[.string q.sum, .int .i64 q.work, .int .i64 q.count] 80)) g0 h s) := C2.out.alloc _
      generalize (w6.alloc (.cells #[.string q.sum, .int .i64 q.work, .int .i64 q.count] 80)) = wz at NE CE ⊢
      generalize w6.heap.size = gA at NE ⊢
      clear hlf hwk hlf1 hwk1 CD
      go_wp2_with fail
      refine wp_region_noPanic ?_
      refine wp_region_held_drew (S := fun w' => True) (by kernel_rfl) (trivial) (fun hHeld => ?_)
      refine takeL 0 (v := ?_) rfl (by kernel_rfl) (by kernel_rfl) (by kernel_rfl) (fun _ _ _ h => h) (by kernel_rfl) ?_ (by assumption) ?_
      rotate_left
      · intro w hSw; (try dsimp only at hSw); first | (go_simp; done) | (go_simp; with_reducible rfl)
      try simp only [Act.put, List.setIfInBounds_toArray, List.set_cons_zero, List.set_cons_succ]
      refine takeL 1 (v := ?_) rfl (by kernel_rfl) (by kernel_rfl) (by kernel_rfl) (fun _ _ _ h => h) (by kernel_rfl) ?_ (by assumption) ?_
      rotate_left
      · intro w hSw; (try dsimp only at hSw); first | (go_simp; done) | (go_simp; with_reducible rfl)
      try simp only [Act.put, List.setIfInBounds_toArray, List.set_cons_zero, List.set_cons_succ]
      refine takeL 2 (v := ?_) rfl (by kernel_rfl) (by kernel_rfl) (by kernel_rfl) (fun _ _ _ h => h) (by kernel_rfl) ?_ (by assumption) ?_
      rotate_left
      · intro w hSw; (try dsimp only at hSw); first | (go_simp; done) | (go_simp; with_reducible rfl)
      try simp only [Act.put, List.setIfInBounds_toArray, List.set_cons_zero, List.set_cons_succ]
      refine skipL 3 rfl (by kernel_rfl) (by kernel_rfl) (by kernel_rfl) (fun _ _ _ h => h) (by kernel_rfl) (by assumption) ?_
      try simp only [Act.put, List.setIfInBounds_toArray, List.set_cons_zero, List.set_cons_succ]
      refine skipL 4 rfl (by kernel_rfl) (by kernel_rfl) (by kernel_rfl) (fun _ _ _ h => h) (by kernel_rfl) (by assumption) ?_
      try simp only [Act.put, List.setIfInBounds_toArray, List.set_cons_zero, List.set_cons_succ]
      refine skipL 5 rfl (by kernel_rfl) (by kernel_rfl) (by kernel_rfl) (fun _ _ _ h => h) (by kernel_rfl) (by assumption) ?_
      try simp only [Act.put, List.setIfInBounds_toArray, List.set_cons_zero, List.set_cons_succ]
      refine skipL 6 rfl (by kernel_rfl) (by kernel_rfl) (by kernel_rfl) (fun _ _ _ h => h) (by kernel_rfl) (by assumption) ?_
      try simp only [Act.put, List.setIfInBounds_toArray, List.set_cons_zero, List.set_cons_succ]
      refine skipL 7 rfl (by kernel_rfl) (by kernel_rfl) (by kernel_rfl) (fun _ _ _ h => h) (by kernel_rfl) (by assumption) ?_
      try simp only [Act.put, List.setIfInBounds_toArray, List.set_cons_zero, List.set_cons_succ]
      refine skipL 8 rfl (by kernel_rfl) (by kernel_rfl) (by kernel_rfl) (fun _ _ _ h => h) (by kernel_rfl) (by assumption) ?_
      try simp only [Act.put, List.setIfInBounds_toArray, List.set_cons_zero, List.set_cons_succ]
      refine skipL 9 rfl (by kernel_rfl) (by kernel_rfl) (by kernel_rfl) (fun _ _ _ h => h) (by kernel_rfl) (by assumption) ?_
      try simp only [Act.put, List.setIfInBounds_toArray, List.set_cons_zero, List.set_cons_succ]
      refine takeL 10 (v := ?_) rfl (by kernel_rfl) (by kernel_rfl) (by kernel_rfl) (fun _ _ _ h => h) (by kernel_rfl) ?_ (by assumption) ?_
      rotate_left
      · intro w hSw; (try dsimp only at hSw); first | (go_simp; done) | (go_simp; with_reducible rfl)
      try simp only [Act.put, List.setIfInBounds_toArray, List.set_cons_zero, List.set_cons_succ]
      refine wpAnyH_done (by kernel_rfl) ?_ _
      refine NoPanic.normal ?_
      go_wp2_with fail
      go_ret
      exact ⟨by rw [HV.out]; rfl, CE.out.l.drew⟩
    · have NE : Hid (CBk (((w6.setCell ⟨w5.heap.size, 0, none⟩ (.string q.sum)).setCell ⟨w5.heap.size, 1, none⟩ (.int .i64 q.work)).setCell ⟨w5.heap.size, 2, none⟩ (.int .i64 q.count)) w5.heap.size 80 #[.string q.sum, .int .i64 q.work, .int .i64 q.count]) := N2.out.set3
      have CE : Hid (ChkW w (((w6.setCell ⟨w5.heap.size, 0, none⟩ (.string q.sum)).setCell ⟨w5.heap.size, 1, none⟩ (.int .i64 q.work)).setCell ⟨w5.heap.size, 2, none⟩ (.int .i64 q.count)) g0 h s) := C2.out.other3 C1.out.z _ _ _
      generalize (((w6.setCell ⟨w5.heap.size, 0, none⟩ (.string q.sum)).setCell ⟨w5.heap.size, 1, none⟩ (.int .i64 q.work)).setCell ⟨w5.heap.size, 2, none⟩ (.int .i64 q.count)) = wz at NE CE ⊢
      generalize w5.heap.size = gA at NE ⊢
      clear hlf hwk hlf1 hwk1 CD
      go_wp2_with fail
      refine wp_region_noPanic ?_
      refine wp_region_held_drew (S := fun w' => True) (by kernel_rfl) (trivial) (fun hHeld => ?_)
      refine takeL 0 (v := ?_) rfl (by kernel_rfl) (by kernel_rfl) (by kernel_rfl) (fun _ _ _ h => h) (by kernel_rfl) ?_ (by assumption) ?_
      rotate_left
      · intro w hSw; (try dsimp only at hSw); first | (go_simp; done) | (go_simp; with_reducible rfl)
      try simp only [Act.put, List.setIfInBounds_toArray, List.set_cons_zero, List.set_cons_succ]
      refine takeL 1 (v := ?_) rfl (by kernel_rfl) (by kernel_rfl) (by kernel_rfl) (fun _ _ _ h => h) (by kernel_rfl) ?_ (by assumption) ?_
      rotate_left
      · intro w hSw; (try dsimp only at hSw); first | (go_simp; done) | (go_simp; with_reducible rfl)
      try simp only [Act.put, List.setIfInBounds_toArray, List.set_cons_zero, List.set_cons_succ]
      refine takeL 2 (v := ?_) rfl (by kernel_rfl) (by kernel_rfl) (by kernel_rfl) (fun _ _ _ h => h) (by kernel_rfl) ?_ (by assumption) ?_
      rotate_left
      · intro w hSw; (try dsimp only at hSw); first | (go_simp; done) | (go_simp; with_reducible rfl)
      try simp only [Act.put, List.setIfInBounds_toArray, List.set_cons_zero, List.set_cons_succ]
      refine skipL 3 rfl (by kernel_rfl) (by kernel_rfl) (by kernel_rfl) (fun _ _ _ h => h) (by kernel_rfl) (by assumption) ?_
      try simp only [Act.put, List.setIfInBounds_toArray, List.set_cons_zero, List.set_cons_succ]
      refine skipL 4 rfl (by kernel_rfl) (by kernel_rfl) (by kernel_rfl) (fun _ _ _ h => h) (by kernel_rfl) (by assumption) ?_
      try simp only [Act.put, List.setIfInBounds_toArray, List.set_cons_zero, List.set_cons_succ]
      refine skipL 5 rfl (by kernel_rfl) (by kernel_rfl) (by kernel_rfl) (fun _ _ _ h => h) (by kernel_rfl) (by assumption) ?_
      try simp only [Act.put, List.setIfInBounds_toArray, List.set_cons_zero, List.set_cons_succ]
      refine skipL 6 rfl (by kernel_rfl) (by kernel_rfl) (by kernel_rfl) (fun _ _ _ h => h) (by kernel_rfl) (by assumption) ?_
      try simp only [Act.put, List.setIfInBounds_toArray, List.set_cons_zero, List.set_cons_succ]
      refine skipL 7 rfl (by kernel_rfl) (by kernel_rfl) (by kernel_rfl) (fun _ _ _ h => h) (by kernel_rfl) (by assumption) ?_
      try simp only [Act.put, List.setIfInBounds_toArray, List.set_cons_zero, List.set_cons_succ]
      refine skipL 8 rfl (by kernel_rfl) (by kernel_rfl) (by kernel_rfl) (fun _ _ _ h => h) (by kernel_rfl) (by assumption) ?_
      try simp only [Act.put, List.setIfInBounds_toArray, List.set_cons_zero, List.set_cons_succ]
      refine skipL 9 rfl (by kernel_rfl) (by kernel_rfl) (by kernel_rfl) (fun _ _ _ h => h) (by kernel_rfl) (by assumption) ?_
      try simp only [Act.put, List.setIfInBounds_toArray, List.set_cons_zero, List.set_cons_succ]
      refine takeL 10 (v := ?_) rfl (by kernel_rfl) (by kernel_rfl) (by kernel_rfl) (fun _ _ _ h => h) (by kernel_rfl) ?_ (by assumption) ?_
      rotate_left
      · intro w hSw; (try dsimp only at hSw); first | (go_simp; done) | (go_simp; with_reducible rfl)
      try simp only [Act.put, List.setIfInBounds_toArray, List.set_cons_zero, List.set_cons_succ]
      refine wpAnyH_done (by kernel_rfl) ?_ _
      refine NoPanic.normal ?_
      go_wp2_with fail
      go_ret
      exact ⟨by rw [HV.out]; rfl, CE.out.l.drew⟩
    · have NE : Hid (CBk (((w6.setCell ⟨w3.heap.size, 0, none⟩ (.string q.sum)).setCell ⟨w3.heap.size, 1, none⟩ (.int .i64 q.work)).setCell ⟨w3.heap.size, 2, none⟩ (.int .i64 q.count)) w3.heap.size 80 #[.string q.sum, .int .i64 q.work, .int .i64 q.count]) := N2.out.set3
      have CE : Hid (ChkW w (((w6.setCell ⟨w3.heap.size, 0, none⟩ (.string q.sum)).setCell ⟨w3.heap.size, 1, none⟩ (.int .i64 q.work)).setCell ⟨w3.heap.size, 2, none⟩ (.int .i64 q.count)) g0 h s) := C2.out.other3 C3.out.z _ _ _
      generalize (((w6.setCell ⟨w3.heap.size, 0, none⟩ (.string q.sum)).setCell ⟨w3.heap.size, 1, none⟩ (.int .i64 q.work)).setCell ⟨w3.heap.size, 2, none⟩ (.int .i64 q.count)) = wz at NE CE ⊢
      generalize w3.heap.size = gA at NE ⊢
      clear hlf hwk hlf1 hwk1 CD
      go_wp2_with fail
      refine wp_region_noPanic ?_
      refine wp_region_held_drew (S := fun w' => True) (by kernel_rfl) (trivial) (fun hHeld => ?_)
      refine takeL 0 (v := ?_) rfl (by kernel_rfl) (by kernel_rfl) (by kernel_rfl) (fun _ _ _ h => h) (by kernel_rfl) ?_ (by assumption) ?_
      rotate_left
      · intro w hSw; (try dsimp only at hSw); first | (go_simp; done) | (go_simp; with_reducible rfl)
      try simp only [Act.put, List.setIfInBounds_toArray, List.set_cons_zero, List.set_cons_succ]
      refine takeL 1 (v := ?_) rfl (by kernel_rfl) (by kernel_rfl) (by kernel_rfl) (fun _ _ _ h => h) (by kernel_rfl) ?_ (by assumption) ?_
      rotate_left
      · intro w hSw; (try dsimp only at hSw); first | (go_simp; done) | (go_simp; with_reducible rfl)
      try simp only [Act.put, List.setIfInBounds_toArray, List.set_cons_zero, List.set_cons_succ]
      refine takeL 2 (v := ?_) rfl (by kernel_rfl) (by kernel_rfl) (by kernel_rfl) (fun _ _ _ h => h) (by kernel_rfl) ?_ (by assumption) ?_
      rotate_left
      · intro w hSw; (try dsimp only at hSw); first | (go_simp; done) | (go_simp; with_reducible rfl)
      try simp only [Act.put, List.setIfInBounds_toArray, List.set_cons_zero, List.set_cons_succ]
      refine skipL 3 rfl (by kernel_rfl) (by kernel_rfl) (by kernel_rfl) (fun _ _ _ h => h) (by kernel_rfl) (by assumption) ?_
      try simp only [Act.put, List.setIfInBounds_toArray, List.set_cons_zero, List.set_cons_succ]
      refine skipL 4 rfl (by kernel_rfl) (by kernel_rfl) (by kernel_rfl) (fun _ _ _ h => h) (by kernel_rfl) (by assumption) ?_
      try simp only [Act.put, List.setIfInBounds_toArray, List.set_cons_zero, List.set_cons_succ]
      refine skipL 5 rfl (by kernel_rfl) (by kernel_rfl) (by kernel_rfl) (fun _ _ _ h => h) (by kernel_rfl) (by assumption) ?_
      try simp only [Act.put, List.setIfInBounds_toArray, List.set_cons_zero, List.set_cons_succ]
      refine skipL 6 rfl (by kernel_rfl) (by kernel_rfl) (by kernel_rfl) (fun _ _ _ h => h) (by kernel_rfl) (by assumption) ?_
      try simp only [Act.put, List.setIfInBounds_toArray, List.set_cons_zero, List.set_cons_succ]
      refine skipL 7 rfl (by kernel_rfl) (by kernel_rfl) (by kernel_rfl) (fun _ _ _ h => h) (by kernel_rfl) (by assumption) ?_
      try simp only [Act.put, List.setIfInBounds_toArray, List.set_cons_zero, List.set_cons_succ]
      refine skipL 8 rfl (by kernel_rfl) (by kernel_rfl) (by kernel_rfl) (fun _ _ _ h => h) (by kernel_rfl) (by assumption) ?_
      try simp only [Act.put, List.setIfInBounds_toArray, List.set_cons_zero, List.set_cons_succ]
      refine skipL 9 rfl (by kernel_rfl) (by kernel_rfl) (by kernel_rfl) (fun _ _ _ h => h) (by kernel_rfl) (by assumption) ?_
      try simp only [Act.put, List.setIfInBounds_toArray, List.set_cons_zero, List.set_cons_succ]
      refine takeL 10 (v := ?_) rfl (by kernel_rfl) (by kernel_rfl) (by kernel_rfl) (fun _ _ _ h => h) (by kernel_rfl) ?_ (by assumption) ?_
      rotate_left
      · intro w hSw; (try dsimp only at hSw); first | (go_simp; done) | (go_simp; with_reducible rfl)
      try simp only [Act.put, List.setIfInBounds_toArray, List.set_cons_zero, List.set_cons_succ]
      refine wpAnyH_done (by kernel_rfl) ?_ _
      refine NoPanic.normal ?_
      go_wp2_with fail
      go_ret
      exact ⟨by rw [HV.out]; rfl, CE.out.l.drew⟩

  | some y =>
    obtain ⟨q, l⟩ := y
    have hwk0 : ∀ (w' : World), Below w.heap.size w w' → Calls Tryz.prog 47 #[.agg #[.string lfs, .int .i64 lfw, .int .i64 lfc], .int .i64 (a' : Int), .slice (some ⟨s.sg, 0, none⟩) s.sn s.sc] w' fun e w'' => e = .returned (.tuple #[.agg #[.string q.sum, .int .i64 q.work, .int .i64 q.count], .int .i64 l, .bool true]) ∧ Below w'.heap.size w' w'' := fun w' hb => (hwk w' hb).mono fun e w'' hh => by
      rcases hh with ⟨⟨q', l', h1, h2⟩ | ⟨h1, _⟩, h3⟩
      · rw [hwt] at h1
        simp only [Option.some.injEq, Prod.mk.injEq] at h1
        obtain ⟨rfl, rfl⟩ := h1
        exact ⟨h2, h3⟩
      · rw [hwt] at h1; cases h1
    have hfl := HFN.out q l hwt
    have HVV : Hid (R = if samePB q (s.ps.getD k default) = true then wrkTo s.ps k + l else -1) := HPS.out.2 q l hwt
    have hw3 : IntKind.i64.wrap (wrkTo s.ps k + l) = wrkTo s.ps k + l := by rw [IntKind.wrap_i64]; omega
    have hkc : (k : Int) ≤ (s.c : Int) := by omega
    have hc0 : ¬ s.c = 0 := by omega
    replace hwk := hwk0
    clear hwk0 HPS HFN hwt hfl hwi
    generalize wrkTo s.ps k = wv at hmn hw3 HVV
    go_wp2_with fail
    have CD : Hid (ChkW w w3.drew g0 h s) := C3.out.call (Below.refl _ _).drew
    have hlf1 := hlf
    have hwk1 := hwk
    go_region_held3 (fun w' => ((w'.cell? ⟨g0, 0, none⟩ = some (.string h.prev) ∧ w'.cell? ⟨g0, 1, none⟩ = some (.string h.root) ∧ w'.cell? ⟨g0, 2, none⟩ = some (.int .i64 h.time) ∧ w'.cell? ⟨g0, 3, none⟩ = some (.int .i64 h.diff) ∧ w'.cell? ⟨g0, 4, none⟩ = some (.int .i64 h.nonce)) ∧ (w'.cell? ⟨g0 + 1, 0, none⟩ = some (.slice (some ⟨s.g, 0, none⟩) s.n s.c) ∧ w'.cell? ⟨g0 + 1, 1, none⟩ = some (.slice (some ⟨s.sg, 0, none⟩) s.sn s.sc))))
      (first | exact C3.out.cells | exact CD.out.cells | exact (C1.out).cells | exact (C2.out).cells | exact CA.out.cells | exact (C2.out.alloc _).cells | exact (C2.out.other3 C3.out.z _ _ _).cells | exact (C2.out.other3 C1.out.z _ _ _).cells | go_keep)
      (first
        | (go_at_call 48; refine (hlf1 _).mono ?_; rintro e w5 ⟨rfl, b5⟩; first | (have N1 : Hid (CBk w5 w3.heap.size 80 #[.string ⟨#[]⟩, .int .i64 0, .int .i64 0]) := (CBk.new w3.drew _ _).call b5; have C1 : Hid (ChkW w w5 g0 h s) := (CD.out.alloc _).call b5) | (have C1 : Hid (ChkW w w5 g0 h s) := CD.out.call b5))
        | (go_at_call 47; first | (have CA : Hid (ChkW w (w5.alloc (.cells #[.string ⟨#[]⟩, .int .i64 0, .int .i64 0] 80)) g0 h s) := C1.out.alloc _; refine (hwk1 _ CA.out.l).mono ?_; rintro e w6 ⟨rfl, b6⟩; have N2 : Hid (CBk w6 w5.heap.size 80 #[.string ⟨#[]⟩, .int .i64 0, .int .i64 0]) := (CBk.new w5 _ _).call b6; obtain ⟨m0, m1, m2⟩ := N2.out.cells3; obtain ⟨f0, f1, f2⟩ := N2.out.free3; have C2 : Hid (ChkW w w6 g0 h s) := CA.out.call b6) | (refine (hwk1 _ C1.out.l).mono ?_; rintro e w6 ⟨rfl, b6⟩; first | (have N2 : Hid (CBk w6 w3.heap.size 80 #[.string ⟨#[]⟩, .int .i64 0, .int .i64 0]) := N1.out.call b6; obtain ⟨m0, m1, m2⟩ := N2.out.cells3; obtain ⟨f0, f1, f2⟩ := N2.out.free3; have C2 : Hid (ChkW w w6 g0 h s) := C1.out.call b6) | (have C2 : Hid (ChkW w w6 g0 h s) := C1.out.call b6))))

    · have NE : Hid (CBk (w6.alloc (.cells #[.string q.sum, .int .i64 q.work, .int .i64 q.count] 80)) w6.heap.size 80 #[.string q.sum, .int .i64 q.work, .int .i64 q.count]) := CBk.new w6 _ _
      have CE : Hid (ChkW w (w6.alloc (.cells #[.string q.sum, .int .i64 q.work, .int .i64 q.count] 80)) g0 h s) := C2.out.alloc _
      generalize (w6.alloc (.cells #[.string q.sum, .int .i64 q.work, .int .i64 q.count] 80)) = wz at NE CE ⊢
      generalize w6.heap.size = gA at NE ⊢
      clear hlf hwk hlf1 hwk1 CD
      have HAr : Hid (AtP wz s.g s.ps) := (HS.out.below CE.out.l).p
      have q0 := AtP.c0 HAr.out k HKL.out
      have q1 := AtP.c1 HAr.out k HKL.out
      have q2 := AtP.c2 HAr.out k HKL.out
      generalize s.ps.getD k default = p at q0 q1 q2 HVV
      have hse := runSamePk q p
      have hgd := eqPkG
      generalize samePB q p = sm at hse HVV
      have hmz := hmn wz.drew CE.out.l.drew
      obtain ⟨_, p0, p1⟩ := CE.out.cells
      obtain ⟨m0, m1, m2⟩ := NE.out.cells3
      have hst : (fun w' => (w'.cell? ⟨gA, 0, none⟩ = some (.string q.sum) ∧ w'.cell? ⟨gA, 1, none⟩ = some (.int .i64 q.work) ∧ w'.cell? ⟨gA, 2, none⟩ = some (.int .i64 q.count)) ∧ (w'.cell? ⟨g0 + 1, 0, none⟩ = some (.slice (some ⟨s.g, 0, none⟩) s.n s.c)) ∧ (w'.cell? ⟨s.g, k * 3, none⟩ = some (.string p.sum) ∧ w'.cell? ⟨s.g, k * 3 + 1, none⟩ = some (.int .i64 p.work) ∧ w'.cell? ⟨s.g, k * 3 + 2, none⟩ = some (.int .i64 p.count))) wz.drew := ⟨⟨m0, m1, m2⟩, p0, q0, q1, q2⟩
      have LZ : Hid (Below w.heap.size w wz.drew) := CE.out.l.drew
      clear HAr hmn
      cases sm with
      | false =>
        have HV2 : Hid (R = -1) := HVV.out
        clear hmz
        go_wp2_with fail
        refine wp_region_noPanic ?_
        refine wp_region_held_drew (S := fun w' => (w'.cell? ⟨gA, 0, none⟩ = some (.string q.sum) ∧ w'.cell? ⟨gA, 1, none⟩ = some (.int .i64 q.work) ∧ w'.cell? ⟨gA, 2, none⟩ = some (.int .i64 q.count)) ∧ (w'.cell? ⟨g0 + 1, 0, none⟩ = some (.slice (some ⟨s.g, 0, none⟩) s.n s.c)) ∧ (w'.cell? ⟨s.g, k * 3, none⟩ = some (.string p.sum) ∧ w'.cell? ⟨s.g, k * 3 + 1, none⟩ = some (.int .i64 p.work) ∧ w'.cell? ⟨s.g, k * 3 + 2, none⟩ = some (.int .i64 p.count))) (by kernel_rfl) (hst) (fun hHeld => ?_)
        refine takeL 0 (v := ?_) rfl (by kernel_rfl) (by kernel_rfl) (by kernel_rfl) (fun _ _ _ h => h) (by kernel_rfl) ?_ (by assumption) ?_
        rotate_left
        · intro w hSw; (try dsimp only at hSw); first | (go_simp; done) | (go_simp; with_reducible rfl)
        try simp only [Act.put, List.setIfInBounds_toArray, List.set_cons_zero, List.set_cons_succ]
        refine takeL 1 (v := ?_) rfl (by kernel_rfl) (by kernel_rfl) (by kernel_rfl) (fun _ _ _ h => h) (by kernel_rfl) ?_ (by assumption) ?_
        rotate_left
        · intro w hSw; (try dsimp only at hSw); first | (go_simp; done) | (go_simp; with_reducible rfl)
        try simp only [Act.put, List.setIfInBounds_toArray, List.set_cons_zero, List.set_cons_succ]
        refine takeL 2 (v := ?_) rfl (by kernel_rfl) (by kernel_rfl) (by kernel_rfl) (fun _ _ _ h => h) (by kernel_rfl) ?_ (by assumption) ?_
        rotate_left
        · intro w hSw; (try dsimp only at hSw); first | (go_simp; done) | (go_simp; with_reducible rfl)
        try simp only [Act.put, List.setIfInBounds_toArray, List.set_cons_zero, List.set_cons_succ]
        refine takeL 3 (v := ?_) rfl (by kernel_rfl) (by kernel_rfl) (by kernel_rfl) (fun _ _ _ h => h) (by kernel_rfl) ?_ (by assumption) ?_
        rotate_left
        · intro w hSw; (try dsimp only at hSw); first | (go_simp; done) | (go_simp; with_reducible rfl)
        try simp only [Act.put, List.setIfInBounds_toArray, List.set_cons_zero, List.set_cons_succ]
        refine takeL 4 (v := ?_) rfl (by kernel_rfl) (by kernel_rfl) (by kernel_rfl) (fun _ _ _ h => h) (by kernel_rfl) ?_ (by assumption) ?_
        rotate_left
        · intro w hSw; (try dsimp only at hSw); first | (go_simp; done) | (go_simp; with_reducible rfl)
        try simp only [Act.put, List.setIfInBounds_toArray, List.set_cons_zero, List.set_cons_succ]
        refine takeL 5 (v := ?_) rfl (by kernel_rfl) (by kernel_rfl) (by kernel_rfl) (fun _ _ _ h => h) (by kernel_rfl) ?_ (by assumption) ?_
        rotate_left
        · intro w hSw; (try dsimp only at hSw); first | (go_simp; done) | (go_simp; with_reducible rfl)
        try simp only [Act.put, List.setIfInBounds_toArray, List.set_cons_zero, List.set_cons_succ]
        refine takeL 6 (v := ?_) rfl (by kernel_rfl) (by kernel_rfl) (by kernel_rfl) (fun _ _ _ h => h) (by kernel_rfl) ?_ (by assumption) ?_
        rotate_left
        · intro w hSw; (try dsimp only at hSw); first | (go_simp; done) | (go_simp; with_reducible rfl)
        try simp only [Act.put, List.setIfInBounds_toArray, List.set_cons_zero, List.set_cons_succ]
        refine takeL 7 (v := ?_) rfl (by kernel_rfl) (by kernel_rfl) (by kernel_rfl) (fun _ _ _ h => h) (by kernel_rfl) ?_ (by assumption) ?_
        rotate_left
        · intro w hSw; (try dsimp only at hSw); first | (go_simp; done) | (go_simp; with_reducible rfl)
        try simp only [Act.put, List.setIfInBounds_toArray, List.set_cons_zero, List.set_cons_succ]
        refine takeL 8 (v := ?_) rfl (by kernel_rfl) (by kernel_rfl) (by kernel_rfl) (fun _ _ _ h => h) (by kernel_rfl) ?_ (by assumption) ?_
        rotate_left
        · intro w hSw; (try dsimp only at hSw); first | (go_simp; done) | (go_simp; with_reducible rfl)
        try simp only [Act.put, List.setIfInBounds_toArray, List.set_cons_zero, List.set_cons_succ]
        refine takeL 9 (v := ?_) rfl (by kernel_rfl) (by kernel_rfl) (by kernel_rfl) (fun _ _ _ h => h) (by kernel_rfl) ?_ (by assumption) ?_
        rotate_left
        · intro w hSw; (try dsimp only at hSw); first | (go_simp; done) | (go_simp; with_reducible rfl)
        try simp only [Act.put, List.setIfInBounds_toArray, List.set_cons_zero, List.set_cons_succ]
        refine takeL 10 (v := ?_) rfl (by kernel_rfl) (by kernel_rfl) (by kernel_rfl) (fun _ _ _ h => h) (by kernel_rfl) ?_ (by assumption) ?_
        rotate_left
        · intro w hSw; (try dsimp only at hSw); first | (go_simp; done) | (go_simp; with_reducible rfl)
        try simp only [Act.put, List.setIfInBounds_toArray, List.set_cons_zero, List.set_cons_succ]
        refine wpAnyH_done (by kernel_rfl) ?_ _
        refine NoPanic.normal ?_
        go_wp2_with fail
        go_ret
        exact ⟨by rw [HV2.out]; rfl, LZ.out⟩
      | true =>
        have HV2 : Hid (R = wv + l) := HVV.out
        go_wp2_with fail
        refine wp_region_noPanic ?_
        refine wp_region_held_drew (S := fun w' => (w'.cell? ⟨gA, 0, none⟩ = some (.string q.sum) ∧ w'.cell? ⟨gA, 1, none⟩ = some (.int .i64 q.work) ∧ w'.cell? ⟨gA, 2, none⟩ = some (.int .i64 q.count)) ∧ (w'.cell? ⟨g0 + 1, 0, none⟩ = some (.slice (some ⟨s.g, 0, none⟩) s.n s.c)) ∧ (w'.cell? ⟨s.g, k * 3, none⟩ = some (.string p.sum) ∧ w'.cell? ⟨s.g, k * 3 + 1, none⟩ = some (.int .i64 p.work) ∧ w'.cell? ⟨s.g, k * 3 + 2, none⟩ = some (.int .i64 p.count))) (by kernel_rfl) (hst) (fun hHeld => ?_)
        refine takeL 0 (v := ?_) rfl (by kernel_rfl) (by kernel_rfl) (by kernel_rfl) (fun _ _ _ h => h) (by kernel_rfl) ?_ (by assumption) ?_
        rotate_left
        · intro w hSw; (try dsimp only at hSw); first | (go_simp; done) | (go_simp; with_reducible rfl)
        try simp only [Act.put, List.setIfInBounds_toArray, List.set_cons_zero, List.set_cons_succ]
        refine takeL 1 (v := ?_) rfl (by kernel_rfl) (by kernel_rfl) (by kernel_rfl) (fun _ _ _ h => h) (by kernel_rfl) ?_ (by assumption) ?_
        rotate_left
        · intro w hSw; (try dsimp only at hSw); first | (go_simp; done) | (go_simp; with_reducible rfl)
        try simp only [Act.put, List.setIfInBounds_toArray, List.set_cons_zero, List.set_cons_succ]
        refine takeL 2 (v := ?_) rfl (by kernel_rfl) (by kernel_rfl) (by kernel_rfl) (fun _ _ _ h => h) (by kernel_rfl) ?_ (by assumption) ?_
        rotate_left
        · intro w hSw; (try dsimp only at hSw); first | (go_simp; done) | (go_simp; with_reducible rfl)
        try simp only [Act.put, List.setIfInBounds_toArray, List.set_cons_zero, List.set_cons_succ]
        refine takeL 3 (v := ?_) rfl (by kernel_rfl) (by kernel_rfl) (by kernel_rfl) (fun _ _ _ h => h) (by kernel_rfl) ?_ (by assumption) ?_
        rotate_left
        · intro w hSw; (try dsimp only at hSw); first | (go_simp; done) | (go_simp; with_reducible rfl)
        try simp only [Act.put, List.setIfInBounds_toArray, List.set_cons_zero, List.set_cons_succ]
        refine takeL 4 (v := ?_) rfl (by kernel_rfl) (by kernel_rfl) (by kernel_rfl) (fun _ _ _ h => h) (by kernel_rfl) ?_ (by assumption) ?_
        rotate_left
        · intro w hSw; (try dsimp only at hSw); first | (go_simp; done) | (go_simp; with_reducible rfl)
        try simp only [Act.put, List.setIfInBounds_toArray, List.set_cons_zero, List.set_cons_succ]
        refine takeL 5 (v := ?_) rfl (by kernel_rfl) (by kernel_rfl) (by kernel_rfl) (fun _ _ _ h => h) (by kernel_rfl) ?_ (by assumption) ?_
        rotate_left
        · intro w hSw; (try dsimp only at hSw); first | (go_simp; done) | (go_simp; with_reducible rfl)
        try simp only [Act.put, List.setIfInBounds_toArray, List.set_cons_zero, List.set_cons_succ]
        refine takeL 6 (v := ?_) rfl (by kernel_rfl) (by kernel_rfl) (by kernel_rfl) (fun _ _ _ h => h) (by kernel_rfl) ?_ (by assumption) ?_
        rotate_left
        · intro w hSw; (try dsimp only at hSw); first | (go_simp; done) | (go_simp; with_reducible rfl)
        try simp only [Act.put, List.setIfInBounds_toArray, List.set_cons_zero, List.set_cons_succ]
        refine takeL 7 (v := ?_) rfl (by kernel_rfl) (by kernel_rfl) (by kernel_rfl) (fun _ _ _ h => h) (by kernel_rfl) ?_ (by assumption) ?_
        rotate_left
        · intro w hSw; (try dsimp only at hSw); first | (go_simp; done) | (go_simp; with_reducible rfl)
        try simp only [Act.put, List.setIfInBounds_toArray, List.set_cons_zero, List.set_cons_succ]
        refine takeL 8 (v := ?_) rfl (by kernel_rfl) (by kernel_rfl) (by kernel_rfl) (fun _ _ _ h => h) (by kernel_rfl) ?_ (by assumption) ?_
        rotate_left
        · intro w hSw; (try dsimp only at hSw); first | (go_simp; done) | (go_simp; with_reducible rfl)
        try simp only [Act.put, List.setIfInBounds_toArray, List.set_cons_zero, List.set_cons_succ]
        refine takeL 9 (v := ?_) rfl (by kernel_rfl) (by kernel_rfl) (by kernel_rfl) (fun _ _ _ h => h) (by kernel_rfl) ?_ (by assumption) ?_
        rotate_left
        · intro w hSw; (try dsimp only at hSw); first | (go_simp; done) | (go_simp; with_reducible rfl)
        try simp only [Act.put, List.setIfInBounds_toArray, List.set_cons_zero, List.set_cons_succ]
        refine takeL 10 (v := ?_) rfl (by kernel_rfl) (by kernel_rfl) (by kernel_rfl) (fun _ _ _ h => h) (by kernel_rfl) ?_ (by assumption) ?_
        rotate_left
        · intro w hSw; (try dsimp only at hSw); first | (go_simp; done) | (go_simp; with_reducible rfl)
        try simp only [Act.put, List.setIfInBounds_toArray, List.set_cons_zero, List.set_cons_succ]
        refine wpAnyH_done (by kernel_rfl) ?_ _
        refine NoPanic.normal ?_
        go_wp2_with fail
        refine hmz.mono ?_
        rintro e w7 ⟨rfl, b7⟩
        go_wp2_with fail
        go_ret
        exact ⟨by rw [HV2.out]; rfl, LZ.out.trans (b7.mono LZ.out.size)⟩
    · have NE : Hid (CBk (((w6.setCell ⟨w5.heap.size, 0, none⟩ (.string q.sum)).setCell ⟨w5.heap.size, 1, none⟩ (.int .i64 q.work)).setCell ⟨w5.heap.size, 2, none⟩ (.int .i64 q.count)) w5.heap.size 80 #[.string q.sum, .int .i64 q.work, .int .i64 q.count]) := N2.out.set3
      have CE : Hid (ChkW w (((w6.setCell ⟨w5.heap.size, 0, none⟩ (.string q.sum)).setCell ⟨w5.heap.size, 1, none⟩ (.int .i64 q.work)).setCell ⟨w5.heap.size, 2, none⟩ (.int .i64 q.count)) g0 h s) := C2.out.other3 C1.out.z _ _ _
      generalize (((w6.setCell ⟨w5.heap.size, 0, none⟩ (.string q.sum)).setCell ⟨w5.heap.size, 1, none⟩ (.int .i64 q.work)).setCell ⟨w5.heap.size, 2, none⟩ (.int .i64 q.count)) = wz at NE CE ⊢
      generalize w5.heap.size = gA at NE ⊢
      clear hlf hwk hlf1 hwk1 CD
      have HAr : Hid (AtP wz s.g s.ps) := (HS.out.below CE.out.l).p
      have q0 := AtP.c0 HAr.out k HKL.out
      have q1 := AtP.c1 HAr.out k HKL.out
      have q2 := AtP.c2 HAr.out k HKL.out
      generalize s.ps.getD k default = p at q0 q1 q2 HVV
      have hse := runSamePk q p
      have hgd := eqPkG
      generalize samePB q p = sm at hse HVV
      have hmz := hmn wz.drew CE.out.l.drew
      obtain ⟨_, p0, p1⟩ := CE.out.cells
      obtain ⟨m0, m1, m2⟩ := NE.out.cells3
      have hst : (fun w' => (w'.cell? ⟨gA, 0, none⟩ = some (.string q.sum) ∧ w'.cell? ⟨gA, 1, none⟩ = some (.int .i64 q.work) ∧ w'.cell? ⟨gA, 2, none⟩ = some (.int .i64 q.count)) ∧ (w'.cell? ⟨g0 + 1, 0, none⟩ = some (.slice (some ⟨s.g, 0, none⟩) s.n s.c)) ∧ (w'.cell? ⟨s.g, k * 3, none⟩ = some (.string p.sum) ∧ w'.cell? ⟨s.g, k * 3 + 1, none⟩ = some (.int .i64 p.work) ∧ w'.cell? ⟨s.g, k * 3 + 2, none⟩ = some (.int .i64 p.count))) wz.drew := ⟨⟨m0, m1, m2⟩, p0, q0, q1, q2⟩
      have LZ : Hid (Below w.heap.size w wz.drew) := CE.out.l.drew
      clear HAr hmn
      cases sm with
      | false =>
        have HV2 : Hid (R = -1) := HVV.out
        clear hmz
        go_wp2_with fail
        refine wp_region_noPanic ?_
        refine wp_region_held_drew (S := fun w' => (w'.cell? ⟨gA, 0, none⟩ = some (.string q.sum) ∧ w'.cell? ⟨gA, 1, none⟩ = some (.int .i64 q.work) ∧ w'.cell? ⟨gA, 2, none⟩ = some (.int .i64 q.count)) ∧ (w'.cell? ⟨g0 + 1, 0, none⟩ = some (.slice (some ⟨s.g, 0, none⟩) s.n s.c)) ∧ (w'.cell? ⟨s.g, k * 3, none⟩ = some (.string p.sum) ∧ w'.cell? ⟨s.g, k * 3 + 1, none⟩ = some (.int .i64 p.work) ∧ w'.cell? ⟨s.g, k * 3 + 2, none⟩ = some (.int .i64 p.count))) (by kernel_rfl) (hst) (fun hHeld => ?_)
        refine takeL 0 (v := ?_) rfl (by kernel_rfl) (by kernel_rfl) (by kernel_rfl) (fun _ _ _ h => h) (by kernel_rfl) ?_ (by assumption) ?_
        rotate_left
        · intro w hSw; (try dsimp only at hSw); first | (go_simp; done) | (go_simp; with_reducible rfl)
        try simp only [Act.put, List.setIfInBounds_toArray, List.set_cons_zero, List.set_cons_succ]
        refine takeL 1 (v := ?_) rfl (by kernel_rfl) (by kernel_rfl) (by kernel_rfl) (fun _ _ _ h => h) (by kernel_rfl) ?_ (by assumption) ?_
        rotate_left
        · intro w hSw; (try dsimp only at hSw); first | (go_simp; done) | (go_simp; with_reducible rfl)
        try simp only [Act.put, List.setIfInBounds_toArray, List.set_cons_zero, List.set_cons_succ]
        refine takeL 2 (v := ?_) rfl (by kernel_rfl) (by kernel_rfl) (by kernel_rfl) (fun _ _ _ h => h) (by kernel_rfl) ?_ (by assumption) ?_
        rotate_left
        · intro w hSw; (try dsimp only at hSw); first | (go_simp; done) | (go_simp; with_reducible rfl)
        try simp only [Act.put, List.setIfInBounds_toArray, List.set_cons_zero, List.set_cons_succ]
        refine takeL 3 (v := ?_) rfl (by kernel_rfl) (by kernel_rfl) (by kernel_rfl) (fun _ _ _ h => h) (by kernel_rfl) ?_ (by assumption) ?_
        rotate_left
        · intro w hSw; (try dsimp only at hSw); first | (go_simp; done) | (go_simp; with_reducible rfl)
        try simp only [Act.put, List.setIfInBounds_toArray, List.set_cons_zero, List.set_cons_succ]
        refine takeL 4 (v := ?_) rfl (by kernel_rfl) (by kernel_rfl) (by kernel_rfl) (fun _ _ _ h => h) (by kernel_rfl) ?_ (by assumption) ?_
        rotate_left
        · intro w hSw; (try dsimp only at hSw); first | (go_simp; done) | (go_simp; with_reducible rfl)
        try simp only [Act.put, List.setIfInBounds_toArray, List.set_cons_zero, List.set_cons_succ]
        refine takeL 5 (v := ?_) rfl (by kernel_rfl) (by kernel_rfl) (by kernel_rfl) (fun _ _ _ h => h) (by kernel_rfl) ?_ (by assumption) ?_
        rotate_left
        · intro w hSw; (try dsimp only at hSw); first | (go_simp; done) | (go_simp; with_reducible rfl)
        try simp only [Act.put, List.setIfInBounds_toArray, List.set_cons_zero, List.set_cons_succ]
        refine takeL 6 (v := ?_) rfl (by kernel_rfl) (by kernel_rfl) (by kernel_rfl) (fun _ _ _ h => h) (by kernel_rfl) ?_ (by assumption) ?_
        rotate_left
        · intro w hSw; (try dsimp only at hSw); first | (go_simp; done) | (go_simp; with_reducible rfl)
        try simp only [Act.put, List.setIfInBounds_toArray, List.set_cons_zero, List.set_cons_succ]
        refine takeL 7 (v := ?_) rfl (by kernel_rfl) (by kernel_rfl) (by kernel_rfl) (fun _ _ _ h => h) (by kernel_rfl) ?_ (by assumption) ?_
        rotate_left
        · intro w hSw; (try dsimp only at hSw); first | (go_simp; done) | (go_simp; with_reducible rfl)
        try simp only [Act.put, List.setIfInBounds_toArray, List.set_cons_zero, List.set_cons_succ]
        refine takeL 8 (v := ?_) rfl (by kernel_rfl) (by kernel_rfl) (by kernel_rfl) (fun _ _ _ h => h) (by kernel_rfl) ?_ (by assumption) ?_
        rotate_left
        · intro w hSw; (try dsimp only at hSw); first | (go_simp; done) | (go_simp; with_reducible rfl)
        try simp only [Act.put, List.setIfInBounds_toArray, List.set_cons_zero, List.set_cons_succ]
        refine takeL 9 (v := ?_) rfl (by kernel_rfl) (by kernel_rfl) (by kernel_rfl) (fun _ _ _ h => h) (by kernel_rfl) ?_ (by assumption) ?_
        rotate_left
        · intro w hSw; (try dsimp only at hSw); first | (go_simp; done) | (go_simp; with_reducible rfl)
        try simp only [Act.put, List.setIfInBounds_toArray, List.set_cons_zero, List.set_cons_succ]
        refine takeL 10 (v := ?_) rfl (by kernel_rfl) (by kernel_rfl) (by kernel_rfl) (fun _ _ _ h => h) (by kernel_rfl) ?_ (by assumption) ?_
        rotate_left
        · intro w hSw; (try dsimp only at hSw); first | (go_simp; done) | (go_simp; with_reducible rfl)
        try simp only [Act.put, List.setIfInBounds_toArray, List.set_cons_zero, List.set_cons_succ]
        refine wpAnyH_done (by kernel_rfl) ?_ _
        refine NoPanic.normal ?_
        go_wp2_with fail
        go_ret
        exact ⟨by rw [HV2.out]; rfl, LZ.out⟩
      | true =>
        have HV2 : Hid (R = wv + l) := HVV.out
        go_wp2_with fail
        refine wp_region_noPanic ?_
        refine wp_region_held_drew (S := fun w' => (w'.cell? ⟨gA, 0, none⟩ = some (.string q.sum) ∧ w'.cell? ⟨gA, 1, none⟩ = some (.int .i64 q.work) ∧ w'.cell? ⟨gA, 2, none⟩ = some (.int .i64 q.count)) ∧ (w'.cell? ⟨g0 + 1, 0, none⟩ = some (.slice (some ⟨s.g, 0, none⟩) s.n s.c)) ∧ (w'.cell? ⟨s.g, k * 3, none⟩ = some (.string p.sum) ∧ w'.cell? ⟨s.g, k * 3 + 1, none⟩ = some (.int .i64 p.work) ∧ w'.cell? ⟨s.g, k * 3 + 2, none⟩ = some (.int .i64 p.count))) (by kernel_rfl) (hst) (fun hHeld => ?_)
        refine takeL 0 (v := ?_) rfl (by kernel_rfl) (by kernel_rfl) (by kernel_rfl) (fun _ _ _ h => h) (by kernel_rfl) ?_ (by assumption) ?_
        rotate_left
        · intro w hSw; (try dsimp only at hSw); first | (go_simp; done) | (go_simp; with_reducible rfl)
        try simp only [Act.put, List.setIfInBounds_toArray, List.set_cons_zero, List.set_cons_succ]
        refine takeL 1 (v := ?_) rfl (by kernel_rfl) (by kernel_rfl) (by kernel_rfl) (fun _ _ _ h => h) (by kernel_rfl) ?_ (by assumption) ?_
        rotate_left
        · intro w hSw; (try dsimp only at hSw); first | (go_simp; done) | (go_simp; with_reducible rfl)
        try simp only [Act.put, List.setIfInBounds_toArray, List.set_cons_zero, List.set_cons_succ]
        refine takeL 2 (v := ?_) rfl (by kernel_rfl) (by kernel_rfl) (by kernel_rfl) (fun _ _ _ h => h) (by kernel_rfl) ?_ (by assumption) ?_
        rotate_left
        · intro w hSw; (try dsimp only at hSw); first | (go_simp; done) | (go_simp; with_reducible rfl)
        try simp only [Act.put, List.setIfInBounds_toArray, List.set_cons_zero, List.set_cons_succ]
        refine takeL 3 (v := ?_) rfl (by kernel_rfl) (by kernel_rfl) (by kernel_rfl) (fun _ _ _ h => h) (by kernel_rfl) ?_ (by assumption) ?_
        rotate_left
        · intro w hSw; (try dsimp only at hSw); first | (go_simp; done) | (go_simp; with_reducible rfl)
        try simp only [Act.put, List.setIfInBounds_toArray, List.set_cons_zero, List.set_cons_succ]
        refine takeL 4 (v := ?_) rfl (by kernel_rfl) (by kernel_rfl) (by kernel_rfl) (fun _ _ _ h => h) (by kernel_rfl) ?_ (by assumption) ?_
        rotate_left
        · intro w hSw; (try dsimp only at hSw); first | (go_simp; done) | (go_simp; with_reducible rfl)
        try simp only [Act.put, List.setIfInBounds_toArray, List.set_cons_zero, List.set_cons_succ]
        refine takeL 5 (v := ?_) rfl (by kernel_rfl) (by kernel_rfl) (by kernel_rfl) (fun _ _ _ h => h) (by kernel_rfl) ?_ (by assumption) ?_
        rotate_left
        · intro w hSw; (try dsimp only at hSw); first | (go_simp; done) | (go_simp; with_reducible rfl)
        try simp only [Act.put, List.setIfInBounds_toArray, List.set_cons_zero, List.set_cons_succ]
        refine takeL 6 (v := ?_) rfl (by kernel_rfl) (by kernel_rfl) (by kernel_rfl) (fun _ _ _ h => h) (by kernel_rfl) ?_ (by assumption) ?_
        rotate_left
        · intro w hSw; (try dsimp only at hSw); first | (go_simp; done) | (go_simp; with_reducible rfl)
        try simp only [Act.put, List.setIfInBounds_toArray, List.set_cons_zero, List.set_cons_succ]
        refine takeL 7 (v := ?_) rfl (by kernel_rfl) (by kernel_rfl) (by kernel_rfl) (fun _ _ _ h => h) (by kernel_rfl) ?_ (by assumption) ?_
        rotate_left
        · intro w hSw; (try dsimp only at hSw); first | (go_simp; done) | (go_simp; with_reducible rfl)
        try simp only [Act.put, List.setIfInBounds_toArray, List.set_cons_zero, List.set_cons_succ]
        refine takeL 8 (v := ?_) rfl (by kernel_rfl) (by kernel_rfl) (by kernel_rfl) (fun _ _ _ h => h) (by kernel_rfl) ?_ (by assumption) ?_
        rotate_left
        · intro w hSw; (try dsimp only at hSw); first | (go_simp; done) | (go_simp; with_reducible rfl)
        try simp only [Act.put, List.setIfInBounds_toArray, List.set_cons_zero, List.set_cons_succ]
        refine takeL 9 (v := ?_) rfl (by kernel_rfl) (by kernel_rfl) (by kernel_rfl) (fun _ _ _ h => h) (by kernel_rfl) ?_ (by assumption) ?_
        rotate_left
        · intro w hSw; (try dsimp only at hSw); first | (go_simp; done) | (go_simp; with_reducible rfl)
        try simp only [Act.put, List.setIfInBounds_toArray, List.set_cons_zero, List.set_cons_succ]
        refine takeL 10 (v := ?_) rfl (by kernel_rfl) (by kernel_rfl) (by kernel_rfl) (fun _ _ _ h => h) (by kernel_rfl) ?_ (by assumption) ?_
        rotate_left
        · intro w hSw; (try dsimp only at hSw); first | (go_simp; done) | (go_simp; with_reducible rfl)
        try simp only [Act.put, List.setIfInBounds_toArray, List.set_cons_zero, List.set_cons_succ]
        refine wpAnyH_done (by kernel_rfl) ?_ _
        refine NoPanic.normal ?_
        go_wp2_with fail
        refine hmz.mono ?_
        rintro e w7 ⟨rfl, b7⟩
        go_wp2_with fail
        go_ret
        exact ⟨by rw [HV2.out]; rfl, LZ.out.trans (b7.mono LZ.out.size)⟩
    · have NE : Hid (CBk (((w6.setCell ⟨w3.heap.size, 0, none⟩ (.string q.sum)).setCell ⟨w3.heap.size, 1, none⟩ (.int .i64 q.work)).setCell ⟨w3.heap.size, 2, none⟩ (.int .i64 q.count)) w3.heap.size 80 #[.string q.sum, .int .i64 q.work, .int .i64 q.count]) := N2.out.set3
      have CE : Hid (ChkW w (((w6.setCell ⟨w3.heap.size, 0, none⟩ (.string q.sum)).setCell ⟨w3.heap.size, 1, none⟩ (.int .i64 q.work)).setCell ⟨w3.heap.size, 2, none⟩ (.int .i64 q.count)) g0 h s) := C2.out.other3 C3.out.z _ _ _
      generalize (((w6.setCell ⟨w3.heap.size, 0, none⟩ (.string q.sum)).setCell ⟨w3.heap.size, 1, none⟩ (.int .i64 q.work)).setCell ⟨w3.heap.size, 2, none⟩ (.int .i64 q.count)) = wz at NE CE ⊢
      generalize w3.heap.size = gA at NE ⊢
      clear hlf hwk hlf1 hwk1 CD
      have HAr : Hid (AtP wz s.g s.ps) := (HS.out.below CE.out.l).p
      have q0 := AtP.c0 HAr.out k HKL.out
      have q1 := AtP.c1 HAr.out k HKL.out
      have q2 := AtP.c2 HAr.out k HKL.out
      generalize s.ps.getD k default = p at q0 q1 q2 HVV
      have hse := runSamePk q p
      have hgd := eqPkG
      generalize samePB q p = sm at hse HVV
      have hmz := hmn wz.drew CE.out.l.drew
      obtain ⟨_, p0, p1⟩ := CE.out.cells
      obtain ⟨m0, m1, m2⟩ := NE.out.cells3
      have hst : (fun w' => (w'.cell? ⟨gA, 0, none⟩ = some (.string q.sum) ∧ w'.cell? ⟨gA, 1, none⟩ = some (.int .i64 q.work) ∧ w'.cell? ⟨gA, 2, none⟩ = some (.int .i64 q.count)) ∧ (w'.cell? ⟨g0 + 1, 0, none⟩ = some (.slice (some ⟨s.g, 0, none⟩) s.n s.c)) ∧ (w'.cell? ⟨s.g, k * 3, none⟩ = some (.string p.sum) ∧ w'.cell? ⟨s.g, k * 3 + 1, none⟩ = some (.int .i64 p.work) ∧ w'.cell? ⟨s.g, k * 3 + 2, none⟩ = some (.int .i64 p.count))) wz.drew := ⟨⟨m0, m1, m2⟩, p0, q0, q1, q2⟩
      have LZ : Hid (Below w.heap.size w wz.drew) := CE.out.l.drew
      clear HAr hmn
      cases sm with
      | false =>
        have HV2 : Hid (R = -1) := HVV.out
        clear hmz
        go_wp2_with fail
        refine wp_region_noPanic ?_
        refine wp_region_held_drew (S := fun w' => (w'.cell? ⟨gA, 0, none⟩ = some (.string q.sum) ∧ w'.cell? ⟨gA, 1, none⟩ = some (.int .i64 q.work) ∧ w'.cell? ⟨gA, 2, none⟩ = some (.int .i64 q.count)) ∧ (w'.cell? ⟨g0 + 1, 0, none⟩ = some (.slice (some ⟨s.g, 0, none⟩) s.n s.c)) ∧ (w'.cell? ⟨s.g, k * 3, none⟩ = some (.string p.sum) ∧ w'.cell? ⟨s.g, k * 3 + 1, none⟩ = some (.int .i64 p.work) ∧ w'.cell? ⟨s.g, k * 3 + 2, none⟩ = some (.int .i64 p.count))) (by kernel_rfl) (hst) (fun hHeld => ?_)
        refine takeL 0 (v := ?_) rfl (by kernel_rfl) (by kernel_rfl) (by kernel_rfl) (fun _ _ _ h => h) (by kernel_rfl) ?_ (by assumption) ?_
        rotate_left
        · intro w hSw; (try dsimp only at hSw); first | (go_simp; done) | (go_simp; with_reducible rfl)
        try simp only [Act.put, List.setIfInBounds_toArray, List.set_cons_zero, List.set_cons_succ]
        refine takeL 1 (v := ?_) rfl (by kernel_rfl) (by kernel_rfl) (by kernel_rfl) (fun _ _ _ h => h) (by kernel_rfl) ?_ (by assumption) ?_
        rotate_left
        · intro w hSw; (try dsimp only at hSw); first | (go_simp; done) | (go_simp; with_reducible rfl)
        try simp only [Act.put, List.setIfInBounds_toArray, List.set_cons_zero, List.set_cons_succ]
        refine takeL 2 (v := ?_) rfl (by kernel_rfl) (by kernel_rfl) (by kernel_rfl) (fun _ _ _ h => h) (by kernel_rfl) ?_ (by assumption) ?_
        rotate_left
        · intro w hSw; (try dsimp only at hSw); first | (go_simp; done) | (go_simp; with_reducible rfl)
        try simp only [Act.put, List.setIfInBounds_toArray, List.set_cons_zero, List.set_cons_succ]
        refine takeL 3 (v := ?_) rfl (by kernel_rfl) (by kernel_rfl) (by kernel_rfl) (fun _ _ _ h => h) (by kernel_rfl) ?_ (by assumption) ?_
        rotate_left
        · intro w hSw; (try dsimp only at hSw); first | (go_simp; done) | (go_simp; with_reducible rfl)
        try simp only [Act.put, List.setIfInBounds_toArray, List.set_cons_zero, List.set_cons_succ]
        refine takeL 4 (v := ?_) rfl (by kernel_rfl) (by kernel_rfl) (by kernel_rfl) (fun _ _ _ h => h) (by kernel_rfl) ?_ (by assumption) ?_
        rotate_left
        · intro w hSw; (try dsimp only at hSw); first | (go_simp; done) | (go_simp; with_reducible rfl)
        try simp only [Act.put, List.setIfInBounds_toArray, List.set_cons_zero, List.set_cons_succ]
        refine takeL 5 (v := ?_) rfl (by kernel_rfl) (by kernel_rfl) (by kernel_rfl) (fun _ _ _ h => h) (by kernel_rfl) ?_ (by assumption) ?_
        rotate_left
        · intro w hSw; (try dsimp only at hSw); first | (go_simp; done) | (go_simp; with_reducible rfl)
        try simp only [Act.put, List.setIfInBounds_toArray, List.set_cons_zero, List.set_cons_succ]
        refine takeL 6 (v := ?_) rfl (by kernel_rfl) (by kernel_rfl) (by kernel_rfl) (fun _ _ _ h => h) (by kernel_rfl) ?_ (by assumption) ?_
        rotate_left
        · intro w hSw; (try dsimp only at hSw); first | (go_simp; done) | (go_simp; with_reducible rfl)
        try simp only [Act.put, List.setIfInBounds_toArray, List.set_cons_zero, List.set_cons_succ]
        refine takeL 7 (v := ?_) rfl (by kernel_rfl) (by kernel_rfl) (by kernel_rfl) (fun _ _ _ h => h) (by kernel_rfl) ?_ (by assumption) ?_
        rotate_left
        · intro w hSw; (try dsimp only at hSw); first | (go_simp; done) | (go_simp; with_reducible rfl)
        try simp only [Act.put, List.setIfInBounds_toArray, List.set_cons_zero, List.set_cons_succ]
        refine takeL 8 (v := ?_) rfl (by kernel_rfl) (by kernel_rfl) (by kernel_rfl) (fun _ _ _ h => h) (by kernel_rfl) ?_ (by assumption) ?_
        rotate_left
        · intro w hSw; (try dsimp only at hSw); first | (go_simp; done) | (go_simp; with_reducible rfl)
        try simp only [Act.put, List.setIfInBounds_toArray, List.set_cons_zero, List.set_cons_succ]
        refine takeL 9 (v := ?_) rfl (by kernel_rfl) (by kernel_rfl) (by kernel_rfl) (fun _ _ _ h => h) (by kernel_rfl) ?_ (by assumption) ?_
        rotate_left
        · intro w hSw; (try dsimp only at hSw); first | (go_simp; done) | (go_simp; with_reducible rfl)
        try simp only [Act.put, List.setIfInBounds_toArray, List.set_cons_zero, List.set_cons_succ]
        refine takeL 10 (v := ?_) rfl (by kernel_rfl) (by kernel_rfl) (by kernel_rfl) (fun _ _ _ h => h) (by kernel_rfl) ?_ (by assumption) ?_
        rotate_left
        · intro w hSw; (try dsimp only at hSw); first | (go_simp; done) | (go_simp; with_reducible rfl)
        try simp only [Act.put, List.setIfInBounds_toArray, List.set_cons_zero, List.set_cons_succ]
        refine wpAnyH_done (by kernel_rfl) ?_ _
        refine NoPanic.normal ?_
        go_wp2_with fail
        go_ret
        exact ⟨by rw [HV2.out]; rfl, LZ.out⟩
      | true =>
        have HV2 : Hid (R = wv + l) := HVV.out
        go_wp2_with fail
        refine wp_region_noPanic ?_
        refine wp_region_held_drew (S := fun w' => (w'.cell? ⟨gA, 0, none⟩ = some (.string q.sum) ∧ w'.cell? ⟨gA, 1, none⟩ = some (.int .i64 q.work) ∧ w'.cell? ⟨gA, 2, none⟩ = some (.int .i64 q.count)) ∧ (w'.cell? ⟨g0 + 1, 0, none⟩ = some (.slice (some ⟨s.g, 0, none⟩) s.n s.c)) ∧ (w'.cell? ⟨s.g, k * 3, none⟩ = some (.string p.sum) ∧ w'.cell? ⟨s.g, k * 3 + 1, none⟩ = some (.int .i64 p.work) ∧ w'.cell? ⟨s.g, k * 3 + 2, none⟩ = some (.int .i64 p.count))) (by kernel_rfl) (hst) (fun hHeld => ?_)
        refine takeL 0 (v := ?_) rfl (by kernel_rfl) (by kernel_rfl) (by kernel_rfl) (fun _ _ _ h => h) (by kernel_rfl) ?_ (by assumption) ?_
        rotate_left
        · intro w hSw; (try dsimp only at hSw); first | (go_simp; done) | (go_simp; with_reducible rfl)
        try simp only [Act.put, List.setIfInBounds_toArray, List.set_cons_zero, List.set_cons_succ]
        refine takeL 1 (v := ?_) rfl (by kernel_rfl) (by kernel_rfl) (by kernel_rfl) (fun _ _ _ h => h) (by kernel_rfl) ?_ (by assumption) ?_
        rotate_left
        · intro w hSw; (try dsimp only at hSw); first | (go_simp; done) | (go_simp; with_reducible rfl)
        try simp only [Act.put, List.setIfInBounds_toArray, List.set_cons_zero, List.set_cons_succ]
        refine takeL 2 (v := ?_) rfl (by kernel_rfl) (by kernel_rfl) (by kernel_rfl) (fun _ _ _ h => h) (by kernel_rfl) ?_ (by assumption) ?_
        rotate_left
        · intro w hSw; (try dsimp only at hSw); first | (go_simp; done) | (go_simp; with_reducible rfl)
        try simp only [Act.put, List.setIfInBounds_toArray, List.set_cons_zero, List.set_cons_succ]
        refine takeL 3 (v := ?_) rfl (by kernel_rfl) (by kernel_rfl) (by kernel_rfl) (fun _ _ _ h => h) (by kernel_rfl) ?_ (by assumption) ?_
        rotate_left
        · intro w hSw; (try dsimp only at hSw); first | (go_simp; done) | (go_simp; with_reducible rfl)
        try simp only [Act.put, List.setIfInBounds_toArray, List.set_cons_zero, List.set_cons_succ]
        refine takeL 4 (v := ?_) rfl (by kernel_rfl) (by kernel_rfl) (by kernel_rfl) (fun _ _ _ h => h) (by kernel_rfl) ?_ (by assumption) ?_
        rotate_left
        · intro w hSw; (try dsimp only at hSw); first | (go_simp; done) | (go_simp; with_reducible rfl)
        try simp only [Act.put, List.setIfInBounds_toArray, List.set_cons_zero, List.set_cons_succ]
        refine takeL 5 (v := ?_) rfl (by kernel_rfl) (by kernel_rfl) (by kernel_rfl) (fun _ _ _ h => h) (by kernel_rfl) ?_ (by assumption) ?_
        rotate_left
        · intro w hSw; (try dsimp only at hSw); first | (go_simp; done) | (go_simp; with_reducible rfl)
        try simp only [Act.put, List.setIfInBounds_toArray, List.set_cons_zero, List.set_cons_succ]
        refine takeL 6 (v := ?_) rfl (by kernel_rfl) (by kernel_rfl) (by kernel_rfl) (fun _ _ _ h => h) (by kernel_rfl) ?_ (by assumption) ?_
        rotate_left
        · intro w hSw; (try dsimp only at hSw); first | (go_simp; done) | (go_simp; with_reducible rfl)
        try simp only [Act.put, List.setIfInBounds_toArray, List.set_cons_zero, List.set_cons_succ]
        refine takeL 7 (v := ?_) rfl (by kernel_rfl) (by kernel_rfl) (by kernel_rfl) (fun _ _ _ h => h) (by kernel_rfl) ?_ (by assumption) ?_
        rotate_left
        · intro w hSw; (try dsimp only at hSw); first | (go_simp; done) | (go_simp; with_reducible rfl)
        try simp only [Act.put, List.setIfInBounds_toArray, List.set_cons_zero, List.set_cons_succ]
        refine takeL 8 (v := ?_) rfl (by kernel_rfl) (by kernel_rfl) (by kernel_rfl) (fun _ _ _ h => h) (by kernel_rfl) ?_ (by assumption) ?_
        rotate_left
        · intro w hSw; (try dsimp only at hSw); first | (go_simp; done) | (go_simp; with_reducible rfl)
        try simp only [Act.put, List.setIfInBounds_toArray, List.set_cons_zero, List.set_cons_succ]
        refine takeL 9 (v := ?_) rfl (by kernel_rfl) (by kernel_rfl) (by kernel_rfl) (fun _ _ _ h => h) (by kernel_rfl) ?_ (by assumption) ?_
        rotate_left
        · intro w hSw; (try dsimp only at hSw); first | (go_simp; done) | (go_simp; with_reducible rfl)
        try simp only [Act.put, List.setIfInBounds_toArray, List.set_cons_zero, List.set_cons_succ]
        refine takeL 10 (v := ?_) rfl (by kernel_rfl) (by kernel_rfl) (by kernel_rfl) (fun _ _ _ h => h) (by kernel_rfl) ?_ (by assumption) ?_
        rotate_left
        · intro w hSw; (try dsimp only at hSw); first | (go_simp; done) | (go_simp; with_reducible rfl)
        try simp only [Act.put, List.setIfInBounds_toArray, List.set_cons_zero, List.set_cons_succ]
        refine wpAnyH_done (by kernel_rfl) ?_ _
        refine NoPanic.normal ?_
        go_wp2_with fail
        refine hmz.mono ?_
        rintro e w7 ⟨rfl, b7⟩
        go_wp2_with fail
        go_ret
        exact ⟨by rw [HV2.out]; rfl, LZ.out.trans (b7.mono LZ.out.size)⟩


end Go.Proofs.YtjeldedjhlicmaaGreatDoor

set_option linter.unusedVariables false
namespace Go.Proofs.YtjeldedjhlicmaaGreatDoor
open Go.ChangeShapes Go.WideShapes Go.ChangeAt Go.RowKit Go.Deep

set_option maxHeartbeats 4000000 in
set_option maxRecDepth 100000 in
theorem specRangeCheck (root : ByteArray) (h : HeadV) (a : Int) (s : PrfV) (w : World) (hS : PrfAt s w) (hp : h.prev.size ≤ maxLen) (hr : h.root.size ≤ maxLen) (hpz : ∀ i, i < s.n → (s.ps.getD i default).sum.size ≤ maxLen) (hz : ∀ i, i < s.sn → (s.ss.getD i default).sum.size ≤ maxLen) :
    Calls Tryz.prog 15 #[.string root, headVal h, .int .i64 a, prfVal s] w fun e w' => e = .returned (.int .i64 (checkV root h a s.ps s.ss)) ∧ Below w.heap.size w w' := by
  have HS : Hid (PrfAt s w) := hS
  have HN : Hid (s.n = s.ps.length ∧ s.sn = s.ss.length) := ⟨hS.pl, hS.tl⟩
  have hpm := hS.pm
  have hro := fun (w' : World) (hb : Below w.heap.size w w') => specL5Ok s.g s.n s.c s.ps w' (HS.out.below hb).p hS.pl (by omega) (fun i hi => hpz i (by rw [hS.pl]; exact hi))
  have hho := fun w' => specL3Ok h w' hp hr
  have HNO : Hid (¬ (headOkB h = true ∧ 0 ≤ a ∧ s.ss.length ≤ 8 ∧ rangeOkB s.ps = true ∧ (⟨(rangeRoot s.ps).toArray⟩ : ByteArray) = root) → checkV root h a s.ps s.ss = -1) := fun hn => check_no hn
  have HCK : Hid (headOkB h = true → 0 ≤ a → s.ss.length ≤ 8 → rangeOkB s.ps = true → ∀ (w' : World), Below w.heap.size w w' → Calls Tryz.prog 32 #[.string root, headVal h, .int .i64 a, prfVal s] w' fun e w'' => e = .returned (.int .i64 (checkV root h a s.ps s.ss)) ∧ Below w'.heap.size w' w'') := fun h1 h2 h3 h4 w' hb => specL5Check root h a s w' (HS.out.below hb) h1 h2 h3 h4 hz
  generalize checkV root h a s.ps s.ss = R at HNO HCK ⊢
  clear hS hp hr hpz hz
  unfold headVal prfVal at HCK
  unfold headVal prfVal
  have C0 : Hid (ChkW w _ w.heap.size h s) := ChkW.new w h s
  go_enter Tryz.func15, Tryz.ntmps15
  go_wp2_with fail
  generalize (w.alloc (.cells #[.string h.prev, .string h.root, .int .i64 h.time, .int .i64 h.diff, .int .i64 h.nonce] 32)).alloc (.cells #[.slice (some ⟨s.g, 0, none⟩) s.n s.c, .slice (some ⟨s.sg, 0, none⟩) s.sn s.sc] 35) = W0 at C0 ⊢
  obtain ⟨g0, hg0⟩ : ∃ g0, g0 = w.heap.size := ⟨_, rfl⟩
  rw [← hg0] at C0 ⊢
  clear hg0
  have h0 := hro _ C0.out.l
  clear hro
  cases hrk : rangeOkB s.ps with
  | false =>
    have HV : Hid (R = -1) := HNO.out (fun hh => by have h1 := hh.2.2.2.1; rw [hrk] at h1; cases h1)
    rw [hrk] at h0
    clear HNO HCK hho hrk
    refine h0.mono ?_
    rintro e w1 ⟨rfl, b1⟩
    go_wp2_with fail
    go_ret
    exact ⟨by rw [HV.out]; rfl, C0.out.l.trans (b1.mono C0.out.l.size)⟩
  | true =>
  have HRK : Hid (rangeOkB s.ps = true) := hrk
  rw [hrk] at h0
  clear hrk
  refine h0.mono ?_
  rintro e w1 ⟨rfl, b1⟩
  have C1 : Hid (ChkW w w1 g0 h s) := C0.out.call b1
  clear C0 b1 h0
  obtain ⟨⟨e0, e1, e2, e3, e4⟩, p0, p1⟩ := C1.out.cells
  cases hok : headOkB h with
  | false =>
    have HV : Hid (R = -1) := HNO.out (by rw [hok]; intro hh; exact absurd hh.1 (by decide))
    rw [hok] at hho
    clear HNO HCK hok
    go_wp2_with fail
    refine (hho _).mono ?_
    rintro e w2 ⟨rfl, b2⟩
    go_wp2_with fail
    go_ret
    exact ⟨by rw [HV.out]; rfl, C1.out.l.trans (b2.mono C1.out.l.size)⟩
  | true =>
  have HCK := HCK.out hok
  have HCK : Hid _ := HCK
  rw [hok] at hho
  clear hok
  go_wp2_with fail
  refine (hho _).mono ?_
  rintro e w2 ⟨rfl, b2⟩
  have C2 : Hid (ChkW w w2 g0 h s) := C1.out.call b2
  clear C1 b2 hho e0 e1 e2 e3 e4 p0 p1
  obtain ⟨⟨e0, e1, e2, e3, e4⟩, p0, p1⟩ := C2.out.cells
  by_cases ha0 : a < 0
  · have HV : Hid (R = -1) := HNO.out (fun hh => absurd hh.2.1 (by omega))
    clear HNO HCK
    go_wp2_with fail
    go_ret
    exact ⟨by rw [HV.out]; rfl, C2.out.l⟩
  by_cases h8 : (8 : Int) < (s.sn : Int)
  · have HV : Hid (R = -1) := HNO.out (fun hh => by have h1 := hh.2.2.1; have := HN.out.2; omega)
    clear HNO HCK
    go_wp2_with fail
    go_ret
    exact ⟨by rw [HV.out]; rfl, C2.out.l⟩
  have hck := HCK.out (by omega) (by have := HN.out.2; omega) HRK.out w2 C2.out.l
  clear HNO HCK
  go_wp2_with fail
  refine hck.mono ?_
  rintro e w3 ⟨rfl, b3⟩
  go_wp2_with fail
  go_ret
  exact ⟨rfl, C2.out.l.trans (b3.mono C2.out.l.size)⟩

theorem CopyPrf.at {B : Nat} {L : LPrf} {s : PrfV} {w : World} (h : CopyPrf B L s w) (hs : SmallPrf L) (hp : L.pl.length = L.pn) (hq : L.sl.length = L.sn) : PrfAt s w := by
  refine ⟨by rw [h.ps]; exact h.p.at 3 pEnc_len, by rw [h.pn, h.ps, hp], by rw [h.pn]; exact hs.pn, by rw [h.pc]; exact Nat.le_refl _, by rw [h.ss]; exact h.st.at 3 pEnc_len, by rw [h.sn, h.ss, hq], by rw [h.sn]; exact hs.sn⟩
/-- What stands while the statement is walked: the head, the proof, as they were handed in. -/
structure LawW (w wr : World) (g0 : Nat) (h : HeadV) (L : LPrf) : Prop where
  a : CBk wr g0 23 #[.string h.prev, .string h.root, .int .i64 h.time, .int .i64 h.diff, .int .i64 h.nonce]
  b : CBk wr (g0 + 1) 26 #[.slice L.pa L.pn L.pc, .slice L.sa L.sn L.sc]
  l : Below w.heap.size w wr
  lo : w.heap.size ≤ g0
theorem LawW.call {w wr w' : World} {g0 : Nat} {h : HeadV} {L : LPrf} (c : LawW w wr g0 h L) (hb : Below wr.heap.size wr w') : LawW w w' g0 h L :=
  ⟨c.a.call hb, c.b.call hb, c.l.trans (hb.mono c.l.size), c.lo⟩
theorem LawW.cells {w wr : World} {g0 : Nat} {h : HeadV} {L : LPrf} (c : LawW w wr g0 h L) : (wr.cell? ⟨g0, 0, none⟩ = some (.string h.prev) ∧ wr.cell? ⟨g0, 1, none⟩ = some (.string h.root) ∧ wr.cell? ⟨g0, 2, none⟩ = some (.int .i64 h.time) ∧ wr.cell? ⟨g0, 3, none⟩ = some (.int .i64 h.diff) ∧ wr.cell? ⟨g0, 4, none⟩ = some (.int .i64 h.nonce)) ∧ (wr.cell? ⟨g0 + 1, 0, none⟩ = some (.slice L.pa L.pn L.pc) ∧ wr.cell? ⟨g0 + 1, 1, none⟩ = some (.slice L.sa L.sn L.sc)) := ⟨c.a.cells5, c.b.out2⟩
theorem LawW.new (w : World) (h : HeadV) (L : LPrf) : LawW w ((w.alloc (.cells #[.string h.prev, .string h.root, .int .i64 h.time, .int .i64 h.diff, .int .i64 h.nonce] 23)).alloc (.cells #[.slice L.pa L.pn L.pc, .slice L.sa L.sn L.sc] 26)) w.heap.size h L := by
  refine ⟨(CBk.new w _ _).alloc _, ?_, ((Below.refl _ w).alloc (Nat.le_refl _) _).alloc (by simp) _, Nat.le_refl _⟩
  have := CBk.new (w.alloc (.cells #[.string h.prev, .string h.root, .int .i64 h.time, .int .i64 h.diff, .int .i64 h.nonce] 23)) 26 #[.slice L.pa L.pn L.pc, .slice L.sa L.sn L.sc]
  rwa [show (w.alloc (.cells #[.string h.prev, .string h.root, .int .i64 h.time, .int .i64 h.diff, .int .i64 h.nonce] 23)).heap.size = w.heap.size + 1 from by simp] at this

end Go.Proofs.YtjeldedjhlicmaaGreatDoor

set_option linter.unusedVariables false
namespace Go.Proofs.YtjeldedjhlicmaaGreatDoor
open Go.RowKit

theorem meets_yes {h : HeadV} (hok : headOkB h = true) : headMeets h = decide ((headOf (headX h) : Int) / 65536 * h.diff < 32768) := by rw [headMeets, hok, Bool.true_and]
theorem meets_no {h : HeadV} (hok : headOkB h = false) : headMeets h = false := by rw [headMeets, hok, Bool.false_and]

set_option maxHeartbeats 1000000 in
set_option maxRecDepth 100000 in
theorem implHeadMeets (h : HeadV) (w : World) (hK : RowG w shaK) (hP : TabP w) :
    Calls Tryz.prog 54 #[headVal h] w fun e w' => e = .returned (.bool (headMeets h)) ∧ Below w.heap.size w w' := by
  have HK : Hid (RowG w shaK) := hK
  have HP : Hid (∀ w', Below w.heap.size w w' → TabP w') := fun w' hb => TabP.below hP hb (Nat.le_refl _)
  clear hK hP
  have hck := fun w' => implHeadOk h w'
  cases hok : headOkB h with
  | false =>
    rw [meets_no hok]
    unfold headVal
    simp only [hok] at hck
    go_enter Tryz.func54, Tryz.ntmps54
    go_wp2_with (go_at_call 69; refine (hck _).mono ?_; rintro e w1 ⟨rfl, b1⟩)
    go_ret
    exact ⟨rfl, ((Below.refl _ w).alloc (Nat.le_refl _) _).trans (b1.mono (by simp))⟩
  | true =>
    rw [meets_yes hok]
    have hpt := fun w' hk hp => implHeadSum h w' hk hp
    rw [headSum_yes hok] at hpt
    have hsh := fun w' => implSumHead ⟨(sumB (headX h)).toArray⟩ w'
    have e1 : sumHead (⟨(sumB (headX h)).toArray⟩ : ByteArray).data.toList = (headOf (headX h) : Int) := sumHead_sumB _
    rw [e1] at hsh
    clear e1
    have hhl := headOf_lt (headX h)
    generalize sumB (headX h) = sb at hpt hsh
    generalize headOf (headX h) = hd at hsh hhl ⊢
    obtain ⟨_, _, h3, h4, h5⟩ := headOk_in hok
    simp only [hok] at hck
    unfold headVal at hpt ⊢
    clear hok
    obtain ⟨p, r, t, d, n⟩ := h
    dsimp only at h3 h4 h5 hpt hck ⊢
    have ed : (hd : Int).tdiv 65536 = (hd : Int) / 65536 := Int.tdiv_eq_ediv_of_nonneg (by omega)
    have hq0 : 0 ≤ (hd : Int) / 65536 := by omega
    have hq1 : (hd : Int) / 65536 ≤ 32767 := by omega
    generalize (hd : Int) / 65536 = q at ed hq0 hq1 ⊢
    have hm1 : q * d ≤ 32767 * 8 := Int.mul_le_mul hq1 h4.2 (by omega) (by omega)
    have hm0 : 0 ≤ q * d := Int.mul_nonneg hq0 (by omega)
    have wq : IntKind.i64.wrap q = q := by rw [IntKind.wrap_i64]; omega
    have wm : IntKind.i64.wrap (q * d) = q * d := by generalize q * d = x at hm0 hm1 ⊢; rw [IntKind.wrap_i64]; omega
    have S0 : HSt w _ w.heap.size p r t d n := HSt.new w 32 p r t d n
    go_enter Tryz.func54, Tryz.ntmps54
    go_wp2_with fail
    refine (hck _).mono ?_
    rintro e w1 ⟨rfl, b1⟩
    have S1 := S0.call b1
    obtain ⟨c0, c1, c2, c3, c4⟩ := S1.out
    go_wp2_with fail
    go_region_held3 (fun w' => w'.cell? ⟨w.heap.size, 0, none⟩ = some (.string p) ∧ w'.cell? ⟨w.heap.size, 1, none⟩ = some (.string r) ∧ w'.cell? ⟨w.heap.size, 2, none⟩ = some (.int .i64 t) ∧ w'.cell? ⟨w.heap.size, 3, none⟩ = some (.int .i64 d) ∧ w'.cell? ⟨w.heap.size, 4, none⟩ = some (.int .i64 n))
      (first | (with_reducible first | exact S2.out | exact S1.out | exact S1.drew.out) | go_keep)
      (first
        | (go_at_call 71; refine (hpt _ (HK.out.below S1.drew.2.1 HK.out.lt) (HP.out _ S1.drew.2.1)).mono ?_; rintro e w2 ⟨rfl, b2⟩; have S2 : HSt w w2 w.heap.size p r t d n := S1.drew.call b2)
        | (go_at_call 70; refine (hsh _).mono ?_; rintro e w3 ⟨rfl, rfl⟩))
    go_wp2_with fail
    go_ret
    exact ⟨rfl, S2.2.1⟩

set_option maxHeartbeats 1000000 in
set_option maxRecDepth 100000 in
theorem specL3Meets (h : HeadV) (w : World) (hok : headOkB h = true) :
    Calls Tryz.prog 14 #[headVal h] w fun e w' => e = .returned (.bool (headMeets h)) ∧ Below w.heap.size w w' := by
  rw [meets_yes hok]
  have hpt := fun w' => specL3Sum h w' hok
  have hsh := fun w' => specHead ⟨(sumB (headX h)).toArray⟩ w' (isSum_sumB _)
  have e1 : ((hexN ((⟨(sumB (headX h)).toArray⟩ : ByteArray).data.toList.take 8) / 2 : Nat) : Int) = (headOf (headX h) : Int) := rfl
  rw [e1] at hsh
  clear e1
  have hhl := headOf_lt (headX h)
  generalize sumB (headX h) = sb at hpt hsh
  generalize headOf (headX h) = hd at hsh hhl ⊢
  obtain ⟨_, _, h3, h4, h5⟩ := headOk_in hok
  unfold headVal at hpt ⊢
  clear hok
  obtain ⟨p, r, t, d, n⟩ := h
  dsimp only at h3 h4 h5 hpt ⊢
  have ed : (hd : Int).tdiv 65536 = (hd : Int) / 65536 := Int.tdiv_eq_ediv_of_nonneg (by omega)
  have hq0 : 0 ≤ (hd : Int) / 65536 := by omega
  have hq1 : (hd : Int) / 65536 ≤ 32767 := by omega
  generalize (hd : Int) / 65536 = q at ed hq0 hq1 ⊢
  have hm1 : q * d ≤ 32767 * 8 := Int.mul_le_mul hq1 h4.2 (by omega) (by omega)
  have hm0 : 0 ≤ q * d := Int.mul_nonneg hq0 (by omega)
  have wq : IntKind.i64.wrap q = q := by rw [IntKind.wrap_i64]; omega
  have wm : IntKind.i64.wrap (q * d) = q * d := by generalize q * d = x at hm0 hm1 ⊢; rw [IntKind.wrap_i64]; omega
  have S1 : HSt w _ w.heap.size p r t d n := HSt.new w 32 p r t d n
  go_enter Tryz.func14, Tryz.ntmps14
  go_wp2_with fail
  go_region_held3 (fun w' => w'.cell? ⟨w.heap.size, 0, none⟩ = some (.string p) ∧ w'.cell? ⟨w.heap.size, 1, none⟩ = some (.string r) ∧ w'.cell? ⟨w.heap.size, 2, none⟩ = some (.int .i64 t) ∧ w'.cell? ⟨w.heap.size, 3, none⟩ = some (.int .i64 d) ∧ w'.cell? ⟨w.heap.size, 4, none⟩ = some (.int .i64 n))
    (first | (with_reducible first | exact S2.out | exact S1.out | exact S1.drew.out) | go_keep)
    (first
      | (go_at_call 30; refine (hpt _).mono ?_; rintro e w2 ⟨rfl, b2⟩; have S2 : HSt w w2 w.heap.size p r t d n := S1.drew.call b2)
      | (go_at_call 29; refine (hsh _).mono ?_; rintro e w3 ⟨rfl, rfl⟩))
  go_wp2_with fail
  go_ret
  exact ⟨rfl, S2.2.1⟩

end Go.Proofs.YtjeldedjhlicmaaGreatDoor

set_option linter.unusedVariables false
namespace Go.Proofs.YtjeldedjhlicmaaGreatDoor
open Go.RowKit

def bsum (t : List UInt8) : ByteArray := ⟨(sumB t).toArray⟩
theorem bsum_size (t : List UInt8) : (bsum t).size = 16 := by simp [bsum, ByteArray.size, sumB, hexOf]
def rootItemB (s : ByteArray) : ByteArray := bsum ([105, 116, 101, 109, 32] ++ s.data.toList)
def bothB (a b : ByteArray) : ByteArray := bsum ([98, 111, 116, 104, 32] ++ a.data.toList ++ [32] ++ b.data.toList)
def upR : List ByteArray → List ByteArray
  | a :: b :: r => bothB a b :: upR r
  | l => l
theorem upR_append : ∀ (l m : List ByteArray), l.length % 2 = 0 → upR (l ++ m) = upR l ++ upR m
  | [], m, _ => by simp [upR]
  | [a], m, h => by simp at h
  | a :: b :: r, m, h => by
    have ih := upR_append r m (by simp at h; omega)
    simp [upR, ih]
theorem upR_short {l : List ByteArray} (h : l.length ≤ 1) : upR l = l := by
  match l, h with
  | [], _ => rfl
  | [a], _ => rfl
theorem upR_length : ∀ l : List ByteArray, (upR l).length = (l.length + 1) / 2
  | [] => by simp [upR]
  | [a] => by simp [upR]
  | a :: b :: r => by
    have := upR_length r
    simp [upR, this]
    omega
theorem upR_16 : ∀ l : List ByteArray, (∀ s ∈ l, s.size = 16) → ∀ s ∈ upR l, s.size = 16
  | [], _ => by simp [upR]
  | [a], h => by simpa [upR] using h
  | a :: b :: r, h => by
    intro s hs
    rcases List.mem_cons.1 hs with rfl | hs
    · exact bsum_size _
    · exact upR_16 r (fun x hx => h x (by simp [hx])) s hs
theorem take_two (l : List ByteArray) (k : Nat) (hk : k + 1 < l.length) (he : k % 2 = 0) : upR (l.take (k + 2)) = upR (l.take k) ++ [bothB (l.getD k ByteArray.empty) (l.getD (k + 1) ByteArray.empty)] := by
  have e : l.take (k + 2) = l.take k ++ [l.getD k ByteArray.empty, l.getD (k + 1) ByteArray.empty] := by
    rw [show k + 2 = (k + 1) + 1 from rfl, List.take_add_one, List.take_add_one, List.getElem?_eq_getElem (by omega), List.getElem?_eq_getElem hk, List.append_assoc]
    simp [List.getElem?_eq_getElem hk, List.getElem?_eq_getElem (show k < l.length by omega)]
  rw [e, upR_append _ _ (by simp; omega)]
  rfl
theorem take_last (l : List ByteArray) (k : Nat) (hk : k + 1 = l.length) (he : k % 2 = 0) : upR l = upR (l.take k) ++ [l.getD k ByteArray.empty] := by
  have e : l = l.take k ++ [l.getD k ByteArray.empty] := by
    conv => lhs; rw [← List.take_append_drop k l]
    congr 1
    rw [List.drop_eq_getElem_cons (by omega), List.drop_eq_nil_of_le (by omega)]
    simp [List.getElem?_eq_getElem (show k < l.length by omega)]
  conv => lhs; rw [e]
  rw [upR_append _ _ (by simp; omega)]
  rfl
theorem take_rest (l : List ByteArray) (k : Nat) (hk : l.length ≤ k + 1) (he : k % 2 = 0) (hkl : k ≤ l.length) : upR l = upR (l.take k) ++ l.drop k := by
  conv => lhs; rw [← List.take_append_drop k l]
  rw [upR_append _ _ (by simp; omega), upR_short (l := l.drop k) (by simp; omega)]
def topR : Nat → List ByteArray → List ByteArray
  | 0, r => r
  | f + 1, r => if r.length ≤ 1 then r else topR f (upR r)
theorem topR_done (f : Nat) {r : List ByteArray} (h : r.length ≤ 1) : topR f r = r := by
  cases f with
  | zero => rfl
  | succ f => simp [topR, h]
theorem topR_step (f : Nat) {r : List ByteArray} (h : ¬ r.length ≤ 1) (hf : r.length ≤ f) : topR f r = topR (f - 1) (upR r) := by
  cases f with
  | zero => omega
  | succ f => simp [topR, h]
theorem topR_more (f g : Nat) : ∀ (r : List ByteArray), r.length ≤ f → r.length ≤ g → topR f r = topR g r := by
  induction f generalizing g with
  | zero => intro r hf hg; rw [topR_done 0 (by omega), topR_done g (by omega)]
  | succ f ih =>
    intro r hf hg
    by_cases h : r.length ≤ 1
    · rw [topR_done _ h, topR_done _ h]
    · rw [topR_step _ h hf, topR_step _ h hg]
      have := upR_length r
      exact ih _ _ (by omega) (by omega)
theorem topR_up {r : List ByteArray} (h : ¬ r.length ≤ 1) : topR r.length r = topR (upR r).length (upR r) := by
  rw [topR_step _ h (Nat.le_refl _)]
  have := upR_length r
  exact topR_more _ _ _ (by omega) (Nat.le_refl _)
/-- What a row comes to. -/
def rootR (r : List ByteArray) : ByteArray := (topR r.length r).getD 0 ByteArray.empty
theorem rootR_up {r : List ByteArray} (h : ¬ r.length ≤ 1) : rootR r = rootR (upR r) := by rw [rootR, topR_up h]; rfl
theorem rootR_one {r : List ByteArray} (h : r.length ≤ 1) : rootR r = r.getD 0 ByteArray.empty := by rw [rootR, topR_done _ h]

end Go.Proofs.YtjeldedjhlicmaaGreatDoor

set_option linter.unusedVariables false
namespace Go.Proofs.YtjeldedjhlicmaaGreatDoor
open Go.RowKit

end Go.Proofs.YtjeldedjhlicmaaGreatDoor

set_option linter.unusedVariables false
namespace Go.Proofs.YtjeldedjhlicmaaGreatDoor
open Go.RowKit

def sliceLen2 : Value → Nat
  | .slice _ n _ => n
  | _ => 0
theorem row_below {B n : Nat} {e : TypeId} {v : Value} {xs : List Value} {w w1 : World} (h : w.ownsRow B e 1 v n xs) (b1 : Below w.heap.size w w1) : w1.ownsRow B e 1 v n xs := by
  refine ⟨h.1, ?_⟩
  rcases h.2 with h2 | ⟨g, cap, cur, hv, h2, h3, h4⟩
  · exact .inl h2
  · exact .inr ⟨g, cap, cur, hv, h2, by rw [b1.block g (Array.getElem?_eq_some_iff.1 h3).1]; exact h3, h4⟩
theorem bothSum (a b : ByteArray) (w : World) (ha : a.size = 16) (hb : b.size = 16) :
    Calls Tryz.prog 34 #[.string ((⟨#[98, 111, 116, 104, 32]⟩ : ByteArray) ++ a ++ (⟨#[32]⟩ : ByteArray) ++ b)] w fun e w' => e = .returned (.string (bothB a b)) ∧ Below w.heap.size w w' := by
  have hsum := specSum ((⟨#[98, 111, 116, 104, 32]⟩ : ByteArray) ++ a ++ (⟨#[32]⟩ : ByteArray) ++ b) w (by
    simp only [ByteArray.size_append]
    have e1 : (⟨#[98, 111, 116, 104, 32]⟩ : ByteArray).size = 5 := rfl
    have e2 : (⟨#[32]⟩ : ByteArray).size = 1 := rfl
    omega)
  have et : ((⟨#[98, 111, 116, 104, 32]⟩ : ByteArray) ++ a ++ (⟨#[32]⟩ : ByteArray) ++ b).data.toList = [98, 111, 116, 104, 32] ++ a.data.toList ++ [32] ++ b.data.toList := by simp
  rw [et] at hsum
  exact hsum

end Go.Proofs.YtjeldedjhlicmaaGreatDoor

set_option linter.unusedVariables false
namespace Go.Proofs.YtjeldedjhlicmaaGreatDoor
open Go.RowKit

set_option maxHeartbeats 1000000 in
set_option maxRecDepth 100000 in
theorem implRootItem (z : ByteArray) (w : World) (hz : z.size ≤ 1048576) (hK : RowG w shaK) :
    Calls Tryz.prog 59 #[.string z] w fun e w' => e = .returned (.string (rootItemB z)) ∧ Below w.heap.size w w' := by
  have hsum := implSum ((⟨#[105, 116, 101, 109, 32]⟩ : ByteArray) ++ z) w (by
    simp only [ByteArray.size_append]
    have e1 : (⟨#[105, 116, 101, 109, 32]⟩ : ByteArray).size = 5 := rfl
    omega) hK
  have et : ((⟨#[105, 116, 101, 109, 32]⟩ : ByteArray) ++ z).data.toList = [105, 116, 101, 109, 32] ++ z.data.toList := by simp
  rw [et] at hsum
  have er : (⟨(sumB ([105, 116, 101, 109, 32] ++ z.data.toList)).toArray⟩ : ByteArray) = rootItemB z := rfl
  rw [er] at hsum
  generalize rootItemB z = rz at hsum
  clear et er hK
  go_enter Tryz.func59, Tryz.ntmps59
  go_wp2_with fail
  refine hsum.mono ?_
  rintro e w1 ⟨rfl, b1⟩
  go_wp2_with fail
  go_ret
  exact ⟨rfl, b1⟩

set_option maxHeartbeats 1000000 in
set_option maxRecDepth 100000 in
theorem implRootBoth (a b : ByteArray) (w : World) (ha : a.size = 16) (hb : b.size = 16) (hK : RowG w shaK) :
    Calls Tryz.prog 77 #[.string a, .string b] w fun e w' => e = .returned (.string (bothB a b)) ∧ Below w.heap.size w w' := by
  have hsum := implSum ((⟨#[98, 111, 116, 104, 32]⟩ : ByteArray) ++ a ++ (⟨#[32]⟩ : ByteArray) ++ b) w (by
    simp only [ByteArray.size_append]
    have e1 : (⟨#[98, 111, 116, 104, 32]⟩ : ByteArray).size = 5 := rfl
    have e2 : (⟨#[32]⟩ : ByteArray).size = 1 := rfl
    omega) hK
  have et : ((⟨#[98, 111, 116, 104, 32]⟩ : ByteArray) ++ a ++ (⟨#[32]⟩ : ByteArray) ++ b).data.toList = [98, 111, 116, 104, 32] ++ a.data.toList ++ [32] ++ b.data.toList := by simp
  rw [et] at hsum
  have er : (⟨(sumB ([98, 111, 116, 104, 32] ++ a.data.toList ++ [32] ++ b.data.toList)).toArray⟩ : ByteArray) = bothB a b := rfl
  rw [er] at hsum
  generalize bothB a b = rz at hsum
  clear et er hK
  go_enter Tryz.func77, Tryz.ntmps77
  go_wp2_with fail
  refine hsum.mono ?_
  rintro e w1 ⟨rfl, b1⟩
  go_wp2_with fail
  go_ret
  exact ⟨rfl, b1⟩

theorem drop_news {w : World} {g : Nat} {ss : List ByteArray} (h : AtS w g ss) (k r off : Nat) (hk : k + r = ss.length) (ho : 0 < r → off = k) : ∀ j u, ((ss.drop k).map Value.string)[j]? = some u → w.cell? ((⟨g, off, none⟩ : Addr).add j) = some u := by
  intro j u hu
  have hj : j < r := by
    have := (List.getElem?_eq_some_iff.1 hu).1
    simp at this
    omega
  have e := ho (by omega)
  subst e
  have hc := h.2 (off + j) (by omega)
  have e2 : ((ss.drop off).map Value.string)[j]? = some (.string (ss.getD (off + j) ByteArray.empty)) := by
    rw [List.getElem?_map, List.getElem?_drop, List.getElem?_eq_getElem (by omega)]
    simp [List.getElem?_eq_getElem (show off + j < ss.length by omega)]
  rw [e2] at hu
  rw [← hu, ← hc]
  rcases j with _ | j
  · simp [Addr.add]
  · simp [Addr.add]

end Go.Proofs.YtjeldedjhlicmaaGreatDoor

set_option linter.unusedVariables false
namespace Go.Proofs.YtjeldedjhlicmaaGreatDoor
open Go.RowKit

set_option maxHeartbeats 2000000 in
set_option maxRecDepth 100000 in
theorem implItemOk (s : ByteArray) (w : World) :
    Calls Tryz.prog 56 #[.string s] w fun e w' => e = .returned (.bool (isItem s.data.toList)) ∧ w = w' := by
  by_cases h0 : s.size = 0
  · have hno := isItem_len_no (s := s) (by omega)
    obtain rfl : s = ⟨#[]⟩ := by
      apply ByteArray.ext
      exact Array.size_eq_zero_iff.1 h0
    rw [hno]
    go_enter Tryz.func56, Tryz.ntmps56
    go_wp2
    go_ret
    exact ⟨rfl, rfl⟩
  · have hne : ¬ s = ⟨#[]⟩ := by rintro rfl; exact h0 rfl
    have hn1 : ¬ s.toList = [] := by
      rw [ByteArray.toList_eq]
      intro h
      exact h0 (by have := congrArg List.length h; simpa using this)
    have hn2 : s.toList.isEmpty = false := by
      cases hl : s.toList with
      | nil => exact absurd hl hn1
      | cons a l => rfl
    by_cases h8 : (8 : Int) < (s.size : Int)
    · have hno := isItem_len_no (s := s) (by omega)
      rw [hno]
      go_enter Tryz.func56, Tryz.ntmps56
      go_wp2
      go_ret
      exact ⟨rfl, rfl⟩
    · have hl : 1 ≤ s.size ∧ s.size ≤ 8 := by omega
      go_enter Tryz.func56, Tryz.ntmps56
      go_wp2
      go_loop [15] (fun i => ∃ k : Nat, k ≤ s.size ∧ i = .int .i64 k ∧ Hid (∀ j (hj : j < s.size), j < k → itemC s[j] = true)) (fun i => s.size - (intOf i).toNat)
      case atStart => exact ⟨0, by omega, rfl, fun j hj h => by omega⟩
      case round =>
        obtain ⟨k, hk, rfl, hall⟩ := hrel
        by_cases hlt : k < s.size
        · cases hx : itemC s[k] with
          | true =>
            have hxx := of_decide_eq_true hx
            have HX : Hid (itemC s[k] = true) := hx
            by_cases h97 : (97 : Int) ≤ (s[k].toNat : Int)
            · have h122 : (s[k].toNat : Int) ≤ 122 := by omega
              have h48 : (48 : Int) ≤ (s[k].toNat : Int) := by omega
              have h57 : decide ((s[k].toNat : Int) ≤ 57) = false := decide_eq_false (by omega)
              clear hx hxx
              go_wp2
              go_round
              case rel =>
                refine ⟨k + 1, by omega, by go_num, ?_⟩
                intro j hj hjk
                rcases Nat.lt_or_ge j k with h | h
                · exact hall.out j hj h
                · obtain rfl : j = k := by omega
                  exact HX.out
              case measure => simp [intOf]; omega
            · have h97' : decide ((97 : Int) ≤ (s[k].toNat : Int)) = false := decide_eq_false h97
              have h48 : (48 : Int) ≤ (s[k].toNat : Int) := by omega
              have h57 : (s[k].toNat : Int) ≤ 57 := by omega
              clear hx hxx
              go_wp2
              go_round
              case rel =>
                refine ⟨k + 1, by omega, by go_num, ?_⟩
                intro j hj hjk
                rcases Nat.lt_or_ge j k with h | h
                · exact hall.out j hj h
                · obtain rfl : j = k := by omega
                  exact HX.out
              case measure => simp [intOf]; omega
          | false =>
            have hxx := of_decide_eq_false hx
            have HNO : Hid (isItem s.data.toList = false) := isItem_no k hlt hx
            clear hx
            by_cases h97 : (97 : Int) ≤ (s[k].toNat : Int)
            · have h122 : decide ((s[k].toNat : Int) ≤ 122) = false := decide_eq_false (by omega)
              have h48 : (48 : Int) ≤ (s[k].toNat : Int) := by omega
              have h57 : decide ((s[k].toNat : Int) ≤ 57) = false := decide_eq_false (by omega)
              go_wp2
              go_ret
              rw [HNO.out]
              exact ⟨rfl, rfl⟩
            · have h97' : decide ((97 : Int) ≤ (s[k].toNat : Int)) = false := decide_eq_false h97
              by_cases h48 : (48 : Int) ≤ (s[k].toNat : Int)
              · have h57 : decide ((s[k].toNat : Int) ≤ 57) = false := decide_eq_false (by omega)
                go_wp2
                go_ret
                rw [HNO.out]
                exact ⟨rfl, rfl⟩
              · have h48' : decide ((48 : Int) ≤ (s[k].toNat : Int)) = false := decide_eq_false h48
                go_wp2
                go_ret
                rw [HNO.out]
                exact ⟨rfl, rfl⟩
        · have HY : Hid (isItem s.data.toList = true) := isItem_yes hl (fun j hj => hall.out j hj (by omega))
          go_wp2
          go_ret
          rw [HY.out]
          exact ⟨rfl, rfl⟩

end Go.Proofs.YtjeldedjhlicmaaGreatDoor

set_option linter.unusedVariables false
namespace Go.Proofs.YtjeldedjhlicmaaGreatDoor
open Go.RowKit Go.Deep

theorem sameB (a b : ByteArray) : (a.toList == b.toList) = decide (a = b) := by
  rw [Bool.eq_iff_iff, beq_iff_eq, decide_eq_true_eq, ByteArray.toList_eq, ByteArray.toList_eq]
  constructor
  · intro h
    exact ByteArray.ext (by simpa using h)
  · intro h
    rw [h]
def sideOkB (x : SideV) : Bool := isSum x.sum.data.toList
def sidesOkB (l : List SideV) : Bool := decide (l.length ≤ 8) && (List.range l.length).all fun i => sideOkB (l.getD i default)
theorem sidesOk_no {l : List SideV} (i : Nat) (hi : i < l.length) (h : sideOkB (l.getD i default) = false) : sidesOkB l = false := by
  have : ((List.range l.length).all fun i => sideOkB (l.getD i default)) = false := by
    rw [List.all_eq_false]
    exact ⟨i, List.mem_range.2 hi, by rw [h]; decide⟩
  rw [sidesOkB, this, Bool.and_false]
theorem sidesOk_long {l : List SideV} (h : ¬ l.length ≤ 8) : sidesOkB l = false := by rw [sidesOkB, decide_eq_false h, Bool.false_and]
theorem sidesOk_yes {l : List SideV} (h : l.length ≤ 8) (h2 : ∀ i, i < l.length → sideOkB (l.getD i default) = true) : sidesOkB l = true := by
  rw [sidesOkB, decide_eq_true h, Bool.true_and, List.all_eq_true]
  exact fun i hi => h2 i (List.mem_range.1 hi)
theorem sidesOk_at {l : List SideV} (h : sidesOkB l = true) : l.length ≤ 8 ∧ ∀ i, i < l.length → sideOkB (l.getD i default) = true := by
  rw [sidesOkB, Bool.and_eq_true, decide_eq_true_eq, List.all_eq_true] at h
  exact ⟨h.1, fun i hi => h.2 i (List.mem_range.2 hi)⟩
def stepS (s : ByteArray) (x : SideV) : ByteArray := if x.left = true then bothB x.sum s else bothB s x.sum
def wayTo (s : ByteArray) (l : List SideV) : Nat → ByteArray
  | 0 => s
  | k + 1 => stepS (wayTo s l k) (l.getD k default)
theorem wayTo_size {s : ByteArray} (hs : s.size = 16) (l : List SideV) : ∀ k, (wayTo s l k).size = 16
  | 0 => hs
  | k + 1 => by
    show (stepS _ _).size = 16
    unfold stepS
    split <;> exact bsum_size _
def rootCheckB (root item : ByteArray) (l : List SideV) : Bool := isItem item.data.toList && (sidesOkB l && decide (wayTo (rootItemB item) l l.length = root))

set_option maxHeartbeats 1000000 in
set_option maxRecDepth 100000 in
theorem implSidesOk (g n cap : Nat) (ps : List SideV) (w : World) (h : AtSide w g ps) (hn : n = ps.length) (hm : n ≤ 1073741824) :
    Calls Tryz.prog 57 #[.slice (some ⟨g, 0, none⟩) n cap] w fun e w' => e = .returned (.bool (sidesOkB ps)) ∧ Below w.heap.size w w' := by
  have HA : Hid (AtSide w g ps) := h
  have HN : Hid (n = ps.length) := hn
  clear h hn
  by_cases hl : (8 : Int) < (n : Int)
  · have HNO : Hid (sidesOkB ps = false) := sidesOk_long (by rw [← HN.out]; omega)
    go_enter Tryz.func57, Tryz.ntmps57
    go_wp2_with fail
    go_ret
    exact ⟨by rw [HNO.out]; rfl, Below.refl _ _⟩
  go_enter Tryz.func57, Tryz.ntmps57
  go_wp2_with fail
  go_loopw [10] (fun i wr => ∃ k : Nat, k ≤ n ∧ i = .int .i64 (k : Int) ∧ Hid (∀ q, q < k → sideOkB (ps.getD q default) = true) ∧ Hid (Below w.heap.size w wr)) (fun i _ => n - (intOf i).toNat)
  case atStart => exact ⟨0, by omega, rfl, fun q hq => by omega, Below.refl _ _⟩
  case round =>
    obtain ⟨k, hk, rfl, HS, HB⟩ := hrel
    by_cases hlt : k < n
    · have hkl : k < ps.length := by rw [← HN.out]; exact hlt
      have HAr : Hid (AtSide wr g ps) := HA.out.below HB.out HA.out.1
      have c0 := AtSide.c0 HAr.out k hkl
      have c1 := AtSide.c1 HAr.out k hkl
      have lk : (k : Int) < (n : Int) := by omega
      have HK : Hid (k + 1 ≤ n) := hlt
      have HNO : Hid (sideOkB (ps.getD k default) = false → sidesOkB ps = false) := fun h => sidesOk_no k hkl h
      have HNX : Hid (sideOkB (ps.getD k default) = true → ∀ q, q < k + 1 → sideOkB (ps.getD q default) = true) := by
        intro h q hq
        rcases Nat.lt_or_ge q k with h' | h'
        · exact HS.out q h'
        · obtain rfl : q = k := by omega
          exact h
      unfold sideOkB at HNO HNX
      generalize ps.getD k default = p at c0 c1 HNO HNX
      have hb : ∀ o, Below w.heap.size w (wr.alloc o) := fun o => HB.out.alloc HB.out.size o
      clear hkl
      cases hok : isSum p.sum.data.toList with
      | false =>
        have HN2 : Hid (sidesOkB ps = false) := HNO.out hok
        clear HNO HNX
        go_wp2_with (go_at_call 53; refine (implSumOk _ _).mono ?_; rintro e w1 ⟨rfl, rfl⟩)
        go_ret
        exact ⟨by rw [HN2.out]; rfl, hb _⟩
      | true =>
        have HN2 : Hid (∀ q, q < k + 1 → sideOkB (ps.getD q default) = true) := HNX.out hok
        clear HNO HNX
        go_wp2_with (go_at_call 53; refine (implSumOk _ _).mono ?_; rintro e w1 ⟨rfl, rfl⟩)
        go_roundw
        case rel => exact ⟨k + 1, HK.out, by go_num, HN2, hb _⟩
        case measure => have := HK.out; simp [intOf]; omega
    · have HN2 : Hid (sidesOkB ps = true) := sidesOk_yes (by rw [← HN.out]; omega) (fun i hi => HS.out i (by rw [← HN.out] at hi; omega))
      go_wp2_with fail
      go_ret
      exact ⟨by rw [HN2.out]; rfl, HB.out⟩

set_option maxHeartbeats 1000000 in
set_option maxRecDepth 100000 in
theorem implRootWay (g n cap : Nat) (w : World) :
    Calls Tryz.prog 58 #[.slice (some ⟨g, 0, none⟩) n cap] w fun e w' => e = .returned (.func (.func 76) #[] #[.pointer (some ⟨w.heap.size, 0, none⟩)]) ∧ w' = w.alloc (.cells #[.slice (some ⟨g, 0, none⟩) n cap] 36) := by
  go_enter Tryz.func58, Tryz.ntmps58
  go_wp2_with fail
  go_ret
  exact ⟨rfl, rfl⟩

set_option maxHeartbeats 1000000 in
set_option maxRecDepth 100000 in
theorem implWay (x g n cap : Nat) (r0 : ByteArray) (ps : List SideV) (w : World) (h : AtSide w g ps) (hx : w.cell? ⟨x, 0, none⟩ = some (.slice (some ⟨g, 0, none⟩) n cap)) (hn : n = ps.length) (hm : n ≤ 8) (hr : r0.size = 16) (hs : ∀ i, i < ps.length → (ps.getD i default).sum.size = 16) (hK : RowG w shaK) :
    Calls Tryz.prog 76 #[.string r0, .pointer (some ⟨x, 0, none⟩)] w fun e w' => e = .returned (.string (wayTo r0 ps ps.length)) ∧ Below w.heap.size w w' := by
  have HA : Hid (AtSide w g ps) := h
  have HN : Hid (n = ps.length) := hn
  have HK : Hid (RowG w shaK) := hK
  have HS : Hid (∀ i, i < ps.length → (ps.getD i default).sum.size = 16) := hs
  have HR : Hid (r0.size = 16) := hr
  rw [← hn]
  clear h hn hs hr hK
  go_enter Tryz.func76, Tryz.ntmps76
  go_wp2_with fail
  clear hx
  go_loopw [0, 8] (fun s i wr => ∃ (k : Nat) (t : ByteArray), k ≤ n ∧ i = .int .i64 (k : Int) ∧ s = .string t ∧ t.size = 16 ∧ Hid (t = wayTo r0 ps k) ∧ Hid (Below w.heap.size w wr)) (fun _ i _ => n - (intOf i).toNat)
  case atStart => exact ⟨0, r0, by omega, rfl, rfl, HR.out, rfl, Below.refl _ _⟩
  case round =>
    obtain ⟨k, t, hk, rfl, rfl, ht, HT, HB⟩ := hrel
    by_cases hlt : k < n
    · have hkl : k < ps.length := by rw [← HN.out]; exact hlt
      have HAr : Hid (AtSide wr g ps) := HA.out.below HB.out HA.out.1
      have c0 := AtSide.c0 HAr.out k hkl
      have c1 := AtSide.c1 HAr.out k hkl
      have hp16 := HS.out k hkl
      have lk : (k : Int) < (n : Int) := by omega
      have HK1 : Hid (k + 1 ≤ n) := hlt
      have HT2 : Hid (wayTo r0 ps (k + 1) = stepS t (ps.getD k default)) := by show _ = _; rw [HT.out]; rfl
      have HKr : Hid (∀ o, RowG (wr.alloc o) shaK) := fun o => HK.out.below (HB.out.alloc HB.out.size o) HK.out.lt
      generalize ps.getD k default = p at c0 c1 hp16 HT2
      obtain ⟨ps1, left⟩ := p
      dsimp only at c0 c1 hp16
      unfold stepS at HT2
      dsimp only at HT2
      clear hkl HT
      cases left with
      | true =>
        have hbt := fun w' hk => implRootBoth ps1 t w' hp16 ht hk
        have HT3 : Hid (bothB ps1 t = wayTo r0 ps (k + 1)) := by show _ = _; rw [HT2.out]; rfl
        have ht2 : (bothB ps1 t).size = 16 := bsum_size _
        clear HT2
        generalize bothB ps1 t = t2 at hbt HT3 ht2
        go_wp2_with fail
        refine (hbt _ (HKr.out _)).mono ?_
        rintro e w1 ⟨rfl, b1⟩
        have HB2 : Hid (Below w.heap.size w w1) := (HB.out.alloc HB.out.size _).trans (b1.mono (HB.out.alloc HB.out.size _).size)
        clear hbt b1 c0 c1 HKr HAr HB
        go_wp2_with fail
        go_roundw
        case rel => exact ⟨k + 1, t2, HK1.out, by go_num, rfl, ht2, HT3, HB2⟩
        case measure => have := HK1.out; simp [intOf]; omega
      | false =>
        have hbt := fun w' hk => implRootBoth t ps1 w' ht hp16 hk
        have HT3 : Hid (bothB t ps1 = wayTo r0 ps (k + 1)) := by show _ = _; rw [HT2.out]; rfl
        have ht2 : (bothB t ps1).size = 16 := bsum_size _
        clear HT2
        generalize bothB t ps1 = t2 at hbt HT3 ht2
        go_wp2_with fail
        refine (hbt _ (HKr.out _)).mono ?_
        rintro e w1 ⟨rfl, b1⟩
        have HB2 : Hid (Below w.heap.size w w1) := (HB.out.alloc HB.out.size _).trans (b1.mono (HB.out.alloc HB.out.size _).size)
        clear hbt b1 c0 c1 HKr HAr HB
        go_wp2_with fail
        go_roundw
        case rel => exact ⟨k + 1, t2, HK1.out, by go_num, rfl, ht2, HT3, HB2⟩
        case measure => have := HK1.out; simp [intOf]; omega
    · obtain rfl : k = n := by omega
      go_wp2_with fail
      go_ret
      exact ⟨by rw [← HT.out]; rfl, HB.out⟩

set_option maxHeartbeats 1000000 in
set_option maxRecDepth 100000 in
theorem implRootCheck (g n cap : Nat) (root item : ByteArray) (ps : List SideV) (w : World) (h : AtSide w g ps) (hn : n = ps.length) (hm : n ≤ 1073741824) (hK : RowG w shaK) :
    Calls Tryz.prog 38 #[.string root, .string item, .slice (some ⟨g, 0, none⟩) n cap] w fun e w' => e = .returned (.bool (rootCheckB root item ps)) ∧ Below w.heap.size w w' := by
  have HA : Hid (AtSide w g ps) := h
  have HN : Hid (n = ps.length) := hn
  have HK : Hid (RowG w shaK) := hK
  have hit := implItemOk item w
  have hso := fun w' h' => implSidesOk g n cap ps w' h' hn hm
  clear h hn hK
  cases hi : isItem item.data.toList with
  | false =>
    have HR : Hid (rootCheckB root item ps = false) := by show _ = _; rw [rootCheckB, hi, Bool.false_and]
    rw [hi] at hit
    go_enter Tryz.func38, Tryz.ntmps38
    go_wp2_with fail
    refine hit.mono ?_
    rintro e w1 ⟨rfl, rfl⟩
    go_wp2_with fail
    go_ret
    exact ⟨by rw [HR.out]; rfl, Below.refl _ _⟩
  | true =>
    cases hs : sidesOkB ps with
    | false =>
      have HR : Hid (rootCheckB root item ps = false) := by show _ = _; rw [rootCheckB, hs, Bool.false_and, Bool.and_false]
      rw [hi] at hit
      rw [hs] at hso
      go_enter Tryz.func38, Tryz.ntmps38
      go_wp2_with fail
      refine hit.mono ?_
      rintro e w1 ⟨rfl, rfl⟩
      go_wp2_with fail
      refine (hso _ HA.out).mono ?_
      rintro e w2 ⟨rfl, b2⟩
      go_wp2_with fail
      go_ret
      exact ⟨by rw [HR.out]; rfl, b2⟩
    | true =>
      rw [hi] at hit
      rw [hs] at hso
      obtain ⟨h8, hall⟩ := sidesOk_at hs
      have HS : Hid (∀ i, i < ps.length → (ps.getD i default).sum.size = 16) := fun i hi => sum_size (hall i hi)
      have hn8 : n ≤ 8 := by rw [HN.out]; exact h8
      have hiz := (isItem_size hi).2
      have hri := fun w' hk => implRootItem item w' (by omega) hk
      have hri16 : (rootItemB item).size = 16 := bsum_size _
      have HR : Hid (rootCheckB root item ps = decide (wayTo (rootItemB item) ps ps.length = root)) := by show _ = _; rw [rootCheckB, hi, hs]; rfl
      generalize rootItemB item = r0 at hri hri16 HR
      have HWY : Hid (∀ (x : Nat) w', AtSide w' g ps → w'.cell? ⟨x, 0, none⟩ = some (.slice (some ⟨g, 0, none⟩) n cap) → RowG w' shaK → Calls Tryz.prog 76 #[.string r0, .pointer (some ⟨x, 0, none⟩)] w' fun e w'' => e = .returned (.string (wayTo r0 ps ps.length)) ∧ Below w'.heap.size w' w'') := fun x w' h1 h2 h3 => implWay x g n cap r0 ps w' h1 h2 HN.out hn8 hri16 HS.out h3
      generalize wayTo r0 ps ps.length = T at HR HWY
      clear hall hi hs
      go_enter Tryz.func38, Tryz.ntmps38
      go_wp2_with fail
      refine hit.mono ?_
      rintro e w1 ⟨rfl, rfl⟩
      go_wp2_with fail
      refine (hso _ HA.out).mono ?_
      rintro e w2 ⟨rfl, b2⟩
      go_wp2_with fail
      refine (implRootWay g n cap w2).mono ?_
      rintro e w3 ⟨rfl, h3⟩
      have b3 : Below w.heap.size w w3 := by rw [h3]; exact b2.alloc b2.size _
      have X3 : w3.heap[w2.heap.size]? = some (.cells #[.slice (some ⟨g, 0, none⟩) n cap] 36 (0, 0)) := by rw [h3]; exact heap_alloc_new w2 _
      have l3 : w2.heap.size < w3.heap.size := by rw [h3]; simp
      clear h3
      have HX3 : Hid (w3.heap[w2.heap.size]? = some (.cells #[.slice (some ⟨g, 0, none⟩) n cap] 36 (0, 0))) := X3
      clear X3
      go_wp2_with fail
      refine (hri _ (HK.out.below b3 HK.out.lt)).mono ?_
      rintro e w4 ⟨rfl, b4⟩
      have b5 : Below w.heap.size w w4 := b3.trans (b4.mono b3.size)
      have X4 : w4.cell? ⟨w2.heap.size, 0, none⟩ = some (.slice (some ⟨g, 0, none⟩) n cap) := by
        rw [b4.cell (p := ⟨w2.heap.size, 0, none⟩) l3, Lib.cell_of_heap HX3.out]
        rfl
      have hwy := HWY.out w2.heap.size w4 (HA.out.below b5 HA.out.1) X4 (HK.out.below b5 HK.out.lt)
      clear X4
      go_wp2_with fail
      refine hwy.mono ?_
      rintro e w6 ⟨rfl, b6⟩
      go_wp2_with fail
      go_ret
      refine ⟨?_, b5.trans (b6.mono b5.size)⟩
      rw [HR.out]
      show Ending.returned (Value.bool (T.toList == root.toList)) = _
      rw [sameB]

end Go.Proofs.YtjeldedjhlicmaaGreatDoor

set_option linter.unusedVariables false
namespace Go.Proofs.YtjeldedjhlicmaaGreatDoor
open Go.RowKit

set_option maxHeartbeats 2000000 in
set_option maxRecDepth 100000 in
theorem specItemOk (s : ByteArray) (w : World) (hs : s.size ≤ maxLen) :
    Calls Tryz.prog 33 #[.string s] w fun e w' => e = .returned (.bool (isItem s.data.toList)) ∧ w = w' := by
  unfold maxLen at hs
  go_enter Tryz.func33, Tryz.ntmps33
  go_wp2
  go_loop [3] (fun i => ∃ k : Nat, k ≤ s.size ∧ i = .int .i64 k ∧ Hid (∀ j (hj : j < s.size), j < k → itemC s[j] = true)) (fun i => s.size - (intOf i).toNat)
  case atStart => exact ⟨0, by omega, rfl, fun j hj h => by omega⟩
  case round =>
    obtain ⟨k, hk, rfl, hall⟩ := hrel
    by_cases hlt : k < s.size
    · cases hx : itemC s[k] with
      | true =>
        have hxx := of_decide_eq_true hx
        have HX : Hid (itemC s[k] = true) := hx
        by_cases hfg : figB s[k] = true
        · have h97 : (s[k].toNat : Int) < 97 := by
            have : 48 ≤ s[k].toNat ∧ s[k].toNat ≤ 57 := of_decide_eq_true hfg
            omega
          clear hx hxx
          go_wp2_with (go_at_call 27; refine (specFigure _ _).mono ?_; rintro e w1 ⟨rfl, rfl⟩)
          go_round
          case rel =>
            refine ⟨k + 1, by omega, by go_num, ?_⟩
            intro j hj hjk
            rcases Nat.lt_or_ge j k with h | h
            · exact hall.out j hj h
            · obtain rfl : j = k := by omega
              exact HX.out
          case measure => simp [intOf]; omega
        · have hff : figB s[k] = false := by simpa using hfg
          have h97 : ¬ (s[k].toNat : Int) < 97 := by
            have : ¬ (48 ≤ s[k].toNat ∧ s[k].toNat ≤ 57) := of_decide_eq_false hff
            omega
          have h122 : ¬ (122 : Int) < (s[k].toNat : Int) := by omega
          clear hx hxx hfg
          go_wp2_with (go_at_call 27; refine (specFigure _ _).mono ?_; rintro e w1 ⟨rfl, rfl⟩)
          go_round
          case rel =>
            refine ⟨k + 1, by omega, by go_num, ?_⟩
            intro j hj hjk
            rcases Nat.lt_or_ge j k with h | h
            · exact hall.out j hj h
            · obtain rfl : j = k := by omega
              exact HX.out
          case measure => simp [intOf]; omega
      | false =>
        have hxx := of_decide_eq_false hx
        have hff : figB s[k] = false := decide_eq_false (by omega)
        have HNO : Hid (isItem s.data.toList = false) := isItem_no k hlt hx
        clear hx
        by_cases h97 : (s[k].toNat : Int) < 97
        · go_wp2_with (go_at_call 27; refine (specFigure _ _).mono ?_; rintro e w1 ⟨rfl, rfl⟩)
          go_ret
          rw [HNO.out]
          exact ⟨rfl, rfl⟩
        · have h122 : (122 : Int) < (s[k].toNat : Int) := by omega
          go_wp2_with (go_at_call 27; refine (specFigure _ _).mono ?_; rintro e w1 ⟨rfl, rfl⟩)
          go_ret
          rw [HNO.out]
          exact ⟨rfl, rfl⟩
    · have HE : Hid (inB (s.size : Int) 1 8 = isItem s.data.toList) := by
        show _ = _
        by_cases hl : 1 ≤ s.size ∧ s.size ≤ 8
        · rw [isItem_yes hl (fun j hj => hall.out j hj (by omega)), inB_yes (by omega)]
        · rw [isItem_len_no hl, inB_no (by omega)]
      go_wp2_with (go_at_call 28; refine (specIn _ _ _ _).mono ?_; rintro e w1 ⟨rfl, rfl⟩)
      go_ret
      rw [HE.out]
      exact ⟨rfl, rfl⟩

end Go.Proofs.YtjeldedjhlicmaaGreatDoor

