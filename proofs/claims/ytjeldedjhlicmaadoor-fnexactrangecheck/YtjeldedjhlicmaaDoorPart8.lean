/-
  At every root, head, place and proof the program's RangeCheck answers what the specification answers; the arguments stand. The package variables that the row lists are as the program's text lays them.
-/
import Derived.Test.YtjeldedjhlicmaaDoorPart1
import Derived.Test.YtjeldedjhlicmaaDoorPart2
import Derived.Test.YtjeldedjhlicmaaDoorPart3
import Derived.Test.YtjeldedjhlicmaaDoorPart4
import Derived.Test.YtjeldedjhlicmaaDoorPart5
import Derived.Test.YtjeldedjhlicmaaDoorPart6
import Derived.Test.YtjeldedjhlicmaaDoorPart7
import Derived.Deep.RegionHeld3
import Derived.Test.YtjeldedjhlicmaaDoorCards
import Derived.Test.YtjeldedjhlicmaaDoorTie
import Derived.WalkKit
import Derived.ProofKit
import Derived.OpenShut
import Derived.ShutString
import Derived.ChangeOld
import Derived.ChangeVars
import Derived.Below
import Derived.Carry
import Derived.Deep.DeepHandedRow
import Derived.Lib.LaidTab
set_option linter.unusedVariables false
namespace Go.Proofs.YtjeldedjhlicmaaDoor
open Go.RowKit Go.Deep

theorem ChkW.cells {w wr : World} {g0 : Nat} {h : HeadV} {s : PrfV} (c : ChkW w wr g0 h s) : (wr.cell? ⟨g0, 0, none⟩ = some (.string h.prev) ∧ wr.cell? ⟨g0, 1, none⟩ = some (.string h.root) ∧ wr.cell? ⟨g0, 2, none⟩ = some (.int .i64 h.time) ∧ wr.cell? ⟨g0, 3, none⟩ = some (.int .i64 h.diff) ∧ wr.cell? ⟨g0, 4, none⟩ = some (.int .i64 h.nonce)) ∧ (wr.cell? ⟨g0 + 1, 0, none⟩ = some (.slice (some ⟨s.g, 0, none⟩) s.n s.c) ∧ wr.cell? ⟨g0 + 1, 1, none⟩ = some (.slice (some ⟨s.sg, 0, none⟩) s.sn s.sc)) := ⟨c.a.cells5, c.b.out2⟩
theorem ChkW.alloc {w wr : World} {g0 : Nat} {h : HeadV} {s : PrfV} (c : ChkW w wr g0 h s) (o : Obj) : ChkW w (wr.alloc o) g0 h s := c.call ((Below.refl _ wr).alloc (Nat.le_refl _) o)
theorem ChkW.other {w wr : World} {g0 : Nat} {h : HeadV} {s : PrfV} (c : ChkW w wr g0 h s) {g : Nat} (hg : g0 + 2 ≤ g) (j : Nat) (v : Value) : ChkW w (wr.setCell ⟨g, j, none⟩ v) g0 h s := by
  have h2 := c.lo
  exact ⟨c.a.other (by omega) v, c.b.other (by omega) v, c.l.setCell (p := ⟨g, j, none⟩) (by show w.heap.size ≤ g; omega) v, by simpa [World.setCell] using c.z, h2⟩
theorem ChkW.other3 {w wr : World} {g0 : Nat} {h : HeadV} {s : PrfV} (c : ChkW w wr g0 h s) {g : Nat} (hg : g0 + 2 ≤ g) (x y z : Value) : ChkW w (((wr.setCell ⟨g, 0, none⟩ x).setCell ⟨g, 1, none⟩ y).setCell ⟨g, 2, none⟩ z) g0 h s := ((c.other hg 0 x).other hg 1 y).other hg 2 z
theorem gtk {ps : List PeakV} {i k : Nat} (h : i < k) : (ps.take k).getD i default = ps.getD i default := by simp [h]
theorem cnt_take {ps : List PeakV} {k : Nat} : ∀ j, j ≤ k → cntTo (ps.take k) j = cntTo ps j
  | 0, _ => rfl
  | j + 1, hj => by rw [cntTo, cntTo, cnt_take j (by omega), gtk (by omega)]
theorem wrk_take {ps : List PeakV} {k : Nat} : ∀ j, j ≤ k → wrkTo (ps.take k) j = wrkTo ps j
  | 0, _ => rfl
  | j + 1, hj => by rw [wrkTo, wrkTo, wrk_take j (by omega), gtk (by omega)]
theorem cnt_mono {ps : List PeakV} (h : rangeOkB ps = true) {k : Nat} : ∀ d, k + d ≤ ps.length → cntTo ps k ≤ cntTo ps (k + d)
  | 0, _ => Int.le_refl _
  | d + 1, hd => by
    have ih := cnt_mono h (k := k) d (by omega)
    have := rangeOk_at h (k + d) (by omega)
    rw [← Nat.add_assoc, cntTo]
    omega
theorem range_take {ps : List PeakV} (h : rangeOkB ps = true) {k : Nat} (hk : k ≤ ps.length) : rangeOkB (ps.take k) = true := by
  have hl : (ps.take k).length = k := by rw [List.length_take]; omega
  have hm := cnt_mono h (k := k) (ps.length - k) (by omega)
  rw [show k + (ps.length - k) = ps.length from by omega] at hm
  rw [rangeOkB, Bool.and_eq_true, List.all_eq_true, decide_eq_true_eq] at h ⊢
  rw [hl]
  refine ⟨fun i hi => ?_, by rw [cnt_take k (Nat.le_refl _)]; omega⟩
  have hi := List.mem_range.1 hi
  have := h.1 i (List.mem_range.2 (by omega))
  rw [stepOk] at this ⊢
  rw [gtk hi]
  by_cases h0 : i = 0
  · subst h0
    simpa using this
  · rw [gtk (show i - 1 < k by omega)]
    exact this
theorem AtP.take {w : World} {g : Nat} {ps : List PeakV} (h : AtP w g ps) (k : Nat) : AtP w g (ps.take k) :=
  ⟨h.1, fun a b ha hb => by
    have h1 : a < k ∧ a < ps.length := by rw [List.length_take] at ha; omega
    rw [gtk h1.1]
    exact h.2 a b h1.2 hb⟩

set_option linter.unusedSimpArgs false in
set_option maxHeartbeats 8000000 in
set_option maxRecDepth 100000 in
theorem specL5Check (root : ByteArray) (h : HeadV) (a : Int) (s : PrfV) (w : World) (hS : PrfAt s w) (hok : headOkB h = true) (ha0 : 0 ≤ a) (h8 : s.ss.length ≤ 8) (hrk : rangeOkB s.ps = true) (hz : ∀ i, i < s.sn → (s.ss.getD i default).sum.size ≤ maxLen) :
    Calls Tryd.prog 63 #[.string root, headVal h, .int .i64 a, prfVal s] w fun e w' => e = .returned (.int .i64 (checkV root h a s.ps s.ss)) ∧ Below w.heap.size w w' := by
  have HS : Hid (PrfAt s w) := hS
  have HN : Hid (s.n = s.ps.length ∧ s.sn = s.ss.length) := ⟨hS.pl, hS.tl⟩
  have hpm := hS.pm
  have hnc := hS.pc
  have HRK : Hid (rangeOkB s.ps = true) := hrk
  have HA0 : Hid (0 ≤ a) := ha0
  have hpk := fun (w' : World) (hb : Below w.heap.size w w') => specL5Peak s.g s.n s.c s.ps a w' (HS.out.below hb).p hS.pl hS.pm hrk
  have hrr : ∀ (w' : World), Below w.heap.size w w' → Calls Tryd.prog 51 #[.slice (some ⟨s.g, 0, none⟩) s.n s.c] w' fun e w'' => e = .returned (.string ⟨(rangeRoot s.ps).toArray⟩) ∧ Below w'.heap.size w' w'' := by
    intro w' hb
    have e : sumB (rrT s.ps s.n) = rangeRoot s.ps := by rw [HN.out.1, rr_yes hrk]
    have := specL5Root s.g s.n s.c s.ps w' (HS.out.below hb).p hS.pl hrk
    rw [e] at this
    exact this
  have hlf := fun w' => specL5Leaf h w' hok
  have HPN : Hid (placeP s.ps a = none → checkV root h a s.ps s.ss = -1) := fun hp => check_none hp
  have HRT : Hid ((⟨(rangeRoot s.ps).toArray⟩ : ByteArray) ≠ root → checkV root h a s.ps s.ss = -1) := fun hn => check_root hn
  have HPS : Hid (∀ k, placeP s.ps a = some k → (⟨(rangeRoot s.ps).toArray⟩ : ByteArray) = root → (walkTo (leafP h) (a - cntTo s.ps k).toNat s.ss s.sn = none → checkV root h a s.ps s.ss = -1) ∧ ∀ q l, walkTo (leafP h) (a - cntTo s.ps k).toNat s.ss s.sn = some (q, l) → checkV root h a s.ps s.ss = if samePB q (s.ps.getD k default) = true then wrkTo s.ps k + l else -1) := fun k hp hr => by
    rw [HN.out.2]
    exact check_way ⟨hok, ha0, h8, hrk, hr⟩ hp
  have HWK : Hid (∀ (a' : Nat) (w' : World), a' ≤ 20 → Below w.heap.size w w' → Calls Tryd.prog 86 #[peakVal (leafP h), .int .i64 (a' : Int), .slice (some ⟨s.sg, 0, none⟩) s.sn s.sc] w' fun e w'' => WalkPost (leafP h) a' s.ss s.sn e ∧ Below w'.heap.size w' w'') := fun a' w' h1 hb => specL5Walk h a' s.sg s.sn s.sc s.ss w' hok h1 (HS.out.below hb).t HN.out.2 (by have := HN.out.2; omega) hz
  have HMN : Hid (∀ (k : Nat) (w' : World), k ≤ s.n → Below w.heap.size w w' → Calls Tryd.prog 87 #[.slice (some ⟨s.g, 0, none⟩) k s.c] w' fun e w'' => e = .returned (.tuple #[.int .i64 (cntTo s.ps k), .int .i64 (wrkTo s.ps k)]) ∧ Below w'.heap.size w' w'') := fun k w' hk hb => by
    have hkl : (s.ps.take k).length = k := by rw [List.length_take]; have := HN.out.1; omega
    have := specL5Many s.g k s.c (s.ps.take k) w' ((HS.out.below hb).p.take k) hkl.symm (by omega) (range_take hrk (by have := HN.out.1; omega))
    rw [cnt_take k (Nat.le_refl _), wrk_take k (Nat.le_refl _)] at this
    exact this
  have HFN : Hid (∀ a' q l, walkTo (leafP h) a' s.ss s.sn = some (q, l) → 0 ≤ l ∧ l ≤ 256) := fun a' q l hw => ⟨(walk_fine hok _ q l hw).l0, fine_le (walk_fine hok _ q l hw)⟩
  generalize checkV root h a s.ps s.ss = R at HPN HRT HPS ⊢
  generalize (⟨(rangeRoot s.ps).toArray⟩ : ByteArray) = rt at HRT HPS hrr
  clear hS hok ha0 h8 hrk hz
  unfold headVal at hlf ⊢
  unfold prfVal
  have C0 : Hid (ChkW w _ w.heap.size h s) := ChkW.new w h s
  go_enter Tryd.func63, Tryd.ntmps63
  go_wp2_with fail
  generalize (w.alloc (.cells #[.string h.prev, .string h.root, .int .i64 h.time, .int .i64 h.diff, .int .i64 h.nonce] 41)).alloc (.cells #[.slice (some ⟨s.g, 0, none⟩) s.n s.c, .slice (some ⟨s.sg, 0, none⟩) s.sn s.sc] 47) = W0 at C0 ⊢
  obtain ⟨g0, hg0⟩ : ∃ g0, g0 = w.heap.size := ⟨_, rfl⟩
  rw [← hg0] at C0 ⊢
  clear hg0
  refine (hpk _ C0.out.l).mono ?_
  rintro e w1 ⟨hp, rfl⟩
  obtain ⟨⟨e0, e1, e2, e3, e4⟩, p0, p1⟩ := C0.out.cells
  rcases hp with ⟨k, hpl, rfl⟩ | ⟨hpl, x, rfl⟩
  rotate_left
  · have HV : Hid (R = -1) := HPN.out hpl
    have hx : ((-1 : Int) < 0) := by omega
    clear HPN HRT HPS HWK HMN HFN hpk hlf hrr
    go_wp2_with fail
    go_ret
    exact ⟨by rw [HV.out]; rfl, C0.out.l⟩
  obtain ⟨hk1, hk2, hk3⟩ := place_some hpl
  have hk4 := place_ge HA0.out hpl
  have hci := cnt_in HRK.out k (by omega)
  have hwi := wrk_in HRK.out k (by omega)
  have hri := rangeOk_at HRK.out k hk1
  have hl20 := range_len HRK.out
  have hk0 : ¬ (k : Int) < 0 := by omega
  have hkn : (k : Int) < (s.n : Int) := by have := HN.out.1; omega
  have HPS := HPS.out k hpl
  have HPS : Hid _ := HPS
  obtain ⟨a', ha'⟩ : ∃ a' : Nat, a - cntTo s.ps k = (a' : Int) := ⟨(a - cntTo s.ps k).toNat, by omega⟩
  have ha20 : a' ≤ 20 := by rw [cntTo] at hk2; omega
  have hws : IntKind.i64.wrap (a - cntTo s.ps k) = (a' : Int) := by rw [IntKind.wrap_i64, ha']; omega
  rw [ha', Int.toNat_natCast] at HPS
  have hwk := fun (w' : World) (hb : Below w.heap.size w w') => HWK.out a' w' ha20 hb
  have hmn := fun (w' : World) (hb : Below w.heap.size w w') => HMN.out k w' (by have := HN.out.1; omega) hb
  have HKL : Hid (k < s.ps.length) := hk1
  have HFN := HFN.out a'
  have HFN : Hid _ := HFN
  clear HPN HWK HMN hpk hpl hk1 hk2 hk3 hk4 hci hri ha' ha20
  generalize cntTo s.ps k = ck at hws ⊢
  have h0 := hrr _ C0.out.l
  clear hrr
  go_wp2_with fail
  refine h0.mono ?_
  rintro e w3 ⟨rfl, b3⟩
  have C3 : Hid (ChkW w w3 g0 h s) := C0.out.call b3
  clear C0 b3 h0 e0 e1 e2 e3 e4 p0 p1
  by_cases hrt : ¬ rt = root
  · have HV : Hid (R = -1) := HRT.out hrt
    have hrt1 : (rt.toList == root.toList) = false := by rw [sameR, decide_eq_false hrt]
    clear HRT HPS HFN hwk hmn hlf hrt
    go_wp2_with fail
    go_ret
    exact ⟨by rw [HV.out]; rfl, C3.out.l⟩
  replace hrt := Classical.not_not.1 hrt
  have hrt1 : (rt.toList == root.toList) = true := by rw [sameR, decide_eq_true hrt]
  have HPS := HPS.out hrt
  have HPS : Hid _ := HPS
  clear HRT hrt
  generalize leafP h = lf at hlf hwk HPS HFN
  obtain ⟨lfs, lfw, lfc⟩ := lf
  unfold peakVal at hlf hwk
  dsimp only at hlf hwk
  obtain ⟨⟨e0, e1, e2, e3, e4⟩, p0, p1⟩ := C3.out.cells
  cases hwt : walkTo ⟨lfs, lfw, lfc⟩ a' s.ss s.sn with
  | none =>
    have HV : Hid (R = -1) := HPS.out.1 hwt
    have hwk0 : ∀ (w' : World), Below w.heap.size w w' → Calls Tryd.prog 86 #[.agg #[.string lfs, .int .i64 lfw, .int .i64 lfc], .int .i64 (a' : Int), .slice (some ⟨s.sg, 0, none⟩) s.sn s.sc] w' fun e w'' => (∃ q : PeakV, e = .returned (.tuple #[.agg #[.string q.sum, .int .i64 q.work, .int .i64 q.count], .int .i64 0, .bool false])) ∧ Below w'.heap.size w' w'' := fun w' hb => (hwk w' hb).mono fun e w'' hh => by
      rcases hh with ⟨⟨q, l, h1, _⟩ | ⟨_, q, h2⟩, h3⟩
      · rw [hwt] at h1; cases h1
      · exact ⟨⟨q, h2⟩, h3⟩
    replace hwk := hwk0
    clear hwk0 HPS HFN hmn hwt
    go_wp2_with fail
    have CD : Hid (ChkW w w3.drew g0 h s) := C3.out.call (Below.refl _ _).drew
    have hlf1 := hlf
    have hwk1 := hwk
    go_region_held3 (fun w' => ((w'.cell? ⟨g0, 0, none⟩ = some (.string h.prev) ∧ w'.cell? ⟨g0, 1, none⟩ = some (.string h.root) ∧ w'.cell? ⟨g0, 2, none⟩ = some (.int .i64 h.time) ∧ w'.cell? ⟨g0, 3, none⟩ = some (.int .i64 h.diff) ∧ w'.cell? ⟨g0, 4, none⟩ = some (.int .i64 h.nonce)) ∧ (w'.cell? ⟨g0 + 1, 0, none⟩ = some (.slice (some ⟨s.g, 0, none⟩) s.n s.c) ∧ w'.cell? ⟨g0 + 1, 1, none⟩ = some (.slice (some ⟨s.sg, 0, none⟩) s.sn s.sc))))
      (first | exact C3.out.cells | exact CD.out.cells | exact (C1.out).cells | exact (C2.out).cells | exact CA.out.cells | exact (C2.out.alloc _).cells | exact (C2.out.other3 C3.out.z _ _ _).cells | exact (C2.out.other3 C1.out.z _ _ _).cells | go_keep)
      (first
        | (go_at_call 47; refine (hlf1 _).mono ?_; rintro e w5 ⟨rfl, b5⟩; first | (have N1 : Hid (CBk w5 w3.heap.size 63 #[.string ⟨#[]⟩, .int .i64 0, .int .i64 0]) := (CBk.new w3.drew _ _).call b5; have C1 : Hid (ChkW w w5 g0 h s) := (CD.out.alloc _).call b5) | (have C1 : Hid (ChkW w w5 g0 h s) := CD.out.call b5))
        | (go_at_call 86; first | (have CA : Hid (ChkW w (w5.alloc (.cells #[.string ⟨#[]⟩, .int .i64 0, .int .i64 0] 63)) g0 h s) := C1.out.alloc _; refine (hwk1 _ CA.out.l).mono ?_; rintro e w6 ⟨⟨q, rfl⟩, b6⟩; have N2 : Hid (CBk w6 w5.heap.size 63 #[.string ⟨#[]⟩, .int .i64 0, .int .i64 0]) := (CBk.new w5 _ _).call b6; obtain ⟨m0, m1, m2⟩ := N2.out.cells3; obtain ⟨f0, f1, f2⟩ := N2.out.free3; have C2 : Hid (ChkW w w6 g0 h s) := CA.out.call b6) | (refine (hwk1 _ C1.out.l).mono ?_; rintro e w6 ⟨⟨q, rfl⟩, b6⟩; first | (have N2 : Hid (CBk w6 w3.heap.size 63 #[.string ⟨#[]⟩, .int .i64 0, .int .i64 0]) := N1.out.call b6; obtain ⟨m0, m1, m2⟩ := N2.out.cells3; obtain ⟨f0, f1, f2⟩ := N2.out.free3; have C2 : Hid (ChkW w w6 g0 h s) := C1.out.call b6) | (have C2 : Hid (ChkW w w6 g0 h s) := C1.out.call b6))))

    · have NE : Hid (CBk (w6.alloc (.cells #[.string q.sum, .int .i64 q.work, .int .i64 q.count] 63)) w6.heap.size 63 #[.string q.sum, .int .i64 q.work, .int .i64 q.count]) := CBk.new w6 _ _
      have CE : Hid (ChkW w (w6.alloc (.cells #[.string q.sum, .int .i64 q.work, .int .i64 q.count] 63)) g0 h s) := C2.out.alloc _
      generalize (w6.alloc (.cells #[.string q.sum, .int .i64 q.work, .int .i64 q.count] 63)) = wz at NE CE ⊢
      generalize w6.heap.size = gA at NE ⊢
      clear hlf hwk hlf1 hwk1 CD
      go_wp2_with fail
      refine wp_region_noPanic ?_
      refine wp_region_held_drew (S := fun w' => True) (by kernel_rfl) (trivial) (fun hHeld => ?_)
      refine takeL 0 (v := ?_) rfl (by kernel_rfl) (by kernel_rfl) (by kernel_rfl) (fun _ _ _ h => h) (by kernel_rfl) ?_ (by assumption) ?_
      rotate_left
      · intro w hSw; (try dsimp only at hSw); first | (go_simp; done) | (go_simp; with_reducible rfl)
      try simp only [Act.put, List.setIfInBounds_toArray, List.set_cons_zero, List.set_cons_succ]
      refine takeL 1 (v := ?_) rfl (by kernel_rfl) (by kernel_rfl) (by kernel_rfl) (fun _ _ _ h => h) (by kernel_rfl) ?_ (by assumption) ?_
      rotate_left
      · intro w hSw; (try dsimp only at hSw); first | (go_simp; done) | (go_simp; with_reducible rfl)
      try simp only [Act.put, List.setIfInBounds_toArray, List.set_cons_zero, List.set_cons_succ]
      refine takeL 2 (v := ?_) rfl (by kernel_rfl) (by kernel_rfl) (by kernel_rfl) (fun _ _ _ h => h) (by kernel_rfl) ?_ (by assumption) ?_
      rotate_left
      · intro w hSw; (try dsimp only at hSw); first | (go_simp; done) | (go_simp; with_reducible rfl)
      try simp only [Act.put, List.setIfInBounds_toArray, List.set_cons_zero, List.set_cons_succ]
      refine skipL 3 rfl (by kernel_rfl) (by kernel_rfl) (by kernel_rfl) (fun _ _ _ h => h) (by kernel_rfl) (by assumption) ?_
      try simp only [Act.put, List.setIfInBounds_toArray, List.set_cons_zero, List.set_cons_succ]
      refine skipL 4 rfl (by kernel_rfl) (by kernel_rfl) (by kernel_rfl) (fun _ _ _ h => h) (by kernel_rfl) (by assumption) ?_
      try simp only [Act.put, List.setIfInBounds_toArray, List.set_cons_zero, List.set_cons_succ]
      refine skipL 5 rfl (by kernel_rfl) (by kernel_rfl) (by kernel_rfl) (fun _ _ _ h => h) (by kernel_rfl) (by assumption) ?_
      try simp only [Act.put, List.setIfInBounds_toArray, List.set_cons_zero, List.set_cons_succ]
      refine skipL 6 rfl (by kernel_rfl) (by kernel_rfl) (by kernel_rfl) (fun _ _ _ h => h) (by kernel_rfl) (by assumption) ?_
      try simp only [Act.put, List.setIfInBounds_toArray, List.set_cons_zero, List.set_cons_succ]
      refine skipL 7 rfl (by kernel_rfl) (by kernel_rfl) (by kernel_rfl) (fun _ _ _ h => h) (by kernel_rfl) (by assumption) ?_
      try simp only [Act.put, List.setIfInBounds_toArray, List.set_cons_zero, List.set_cons_succ]
      refine skipL 8 rfl (by kernel_rfl) (by kernel_rfl) (by kernel_rfl) (fun _ _ _ h => h) (by kernel_rfl) (by assumption) ?_
      try simp only [Act.put, List.setIfInBounds_toArray, List.set_cons_zero, List.set_cons_succ]
      refine skipL 9 rfl (by kernel_rfl) (by kernel_rfl) (by kernel_rfl) (fun _ _ _ h => h) (by kernel_rfl) (by assumption) ?_
      try simp only [Act.put, List.setIfInBounds_toArray, List.set_cons_zero, List.set_cons_succ]
      refine takeL 10 (v := ?_) rfl (by kernel_rfl) (by kernel_rfl) (by kernel_rfl) (fun _ _ _ h => h) (by kernel_rfl) ?_ (by assumption) ?_
      rotate_left
      · intro w hSw; (try dsimp only at hSw); first | (go_simp; done) | (go_simp; with_reducible rfl)
      try simp only [Act.put, List.setIfInBounds_toArray, List.set_cons_zero, List.set_cons_succ]
      refine wpAnyH_done (by kernel_rfl) ?_ _
      refine NoPanic.normal ?_
      go_wp2_with fail
      go_ret
      exact ⟨by rw [HV.out]; rfl, CE.out.l.drew⟩
    · have NE : Hid (CBk (((w6.setCell ⟨w5.heap.size, 0, none⟩ (.string q.sum)).setCell ⟨w5.heap.size, 1, none⟩ (.int .i64 q.work)).setCell ⟨w5.heap.size, 2, none⟩ (.int .i64 q.count)) w5.heap.size 63 #[.string q.sum, .int .i64 q.work, .int .i64 q.count]) := N2.out.set3
      have CE : Hid (ChkW w (((w6.setCell ⟨w5.heap.size, 0, none⟩ (.string q.sum)).setCell ⟨w5.heap.size, 1, none⟩ (.int .i64 q.work)).setCell ⟨w5.heap.size, 2, none⟩ (.int .i64 q.count)) g0 h s) := C2.out.other3 C1.out.z _ _ _
      generalize (((w6.setCell ⟨w5.heap.size, 0, none⟩ (.string q.sum)).setCell ⟨w5.heap.size, 1, none⟩ (.int .i64 q.work)).setCell ⟨w5.heap.size, 2, none⟩ (.int .i64 q.count)) = wz at NE CE ⊢
      generalize w5.heap.size = gA at NE ⊢
      clear hlf hwk hlf1 hwk1 CD
      go_wp2_with fail
      refine wp_region_noPanic ?_
      refine wp_region_held_drew (S := fun w' => True) (by kernel_rfl) (trivial) (fun hHeld => ?_)
      refine takeL 0 (v := ?_) rfl (by kernel_rfl) (by kernel_rfl) (by kernel_rfl) (fun _ _ _ h => h) (by kernel_rfl) ?_ (by assumption) ?_
      rotate_left
      · intro w hSw; (try dsimp only at hSw); first | (go_simp; done) | (go_simp; with_reducible rfl)
      try simp only [Act.put, List.setIfInBounds_toArray, List.set_cons_zero, List.set_cons_succ]
      refine takeL 1 (v := ?_) rfl (by kernel_rfl) (by kernel_rfl) (by kernel_rfl) (fun _ _ _ h => h) (by kernel_rfl) ?_ (by assumption) ?_
      rotate_left
      · intro w hSw; (try dsimp only at hSw); first | (go_simp; done) | (go_simp; with_reducible rfl)
      try simp only [Act.put, List.setIfInBounds_toArray, List.set_cons_zero, List.set_cons_succ]
      refine takeL 2 (v := ?_) rfl (by kernel_rfl) (by kernel_rfl) (by kernel_rfl) (fun _ _ _ h => h) (by kernel_rfl) ?_ (by assumption) ?_
      rotate_left
      · intro w hSw; (try dsimp only at hSw); first | (go_simp; done) | (go_simp; with_reducible rfl)
      try simp only [Act.put, List.setIfInBounds_toArray, List.set_cons_zero, List.set_cons_succ]
      refine skipL 3 rfl (by kernel_rfl) (by kernel_rfl) (by kernel_rfl) (fun _ _ _ h => h) (by kernel_rfl) (by assumption) ?_
      try simp only [Act.put, List.setIfInBounds_toArray, List.set_cons_zero, List.set_cons_succ]
      refine skipL 4 rfl (by kernel_rfl) (by kernel_rfl) (by kernel_rfl) (fun _ _ _ h => h) (by kernel_rfl) (by assumption) ?_
      try simp only [Act.put, List.setIfInBounds_toArray, List.set_cons_zero, List.set_cons_succ]
      refine skipL 5 rfl (by kernel_rfl) (by kernel_rfl) (by kernel_rfl) (fun _ _ _ h => h) (by kernel_rfl) (by assumption) ?_
      try simp only [Act.put, List.setIfInBounds_toArray, List.set_cons_zero, List.set_cons_succ]
      refine skipL 6 rfl (by kernel_rfl) (by kernel_rfl) (by kernel_rfl) (fun _ _ _ h => h) (by kernel_rfl) (by assumption) ?_
      try simp only [Act.put, List.setIfInBounds_toArray, List.set_cons_zero, List.set_cons_succ]
      refine skipL 7 rfl (by kernel_rfl) (by kernel_rfl) (by kernel_rfl) (fun _ _ _ h => h) (by kernel_rfl) (by assumption) ?_
      try simp only [Act.put, List.setIfInBounds_toArray, List.set_cons_zero, List.set_cons_succ]
      refine skipL 8 rfl (by kernel_rfl) (by kernel_rfl) (by kernel_rfl) (fun _ _ _ h => h) (by kernel_rfl) (by assumption) ?_
      try simp only [Act.put, List.setIfInBounds_toArray, List.set_cons_zero, List.set_cons_succ]
      refine skipL 9 rfl (by kernel_rfl) (by kernel_rfl) (by kernel_rfl) (fun _ _ _ h => h) (by kernel_rfl) (by assumption) ?_
      try simp only [Act.put, List.setIfInBounds_toArray, List.set_cons_zero, List.set_cons_succ]
      refine takeL 10 (v := ?_) rfl (by kernel_rfl) (by kernel_rfl) (by kernel_rfl) (fun _ _ _ h => h) (by kernel_rfl) ?_ (by assumption) ?_
      rotate_left
      · intro w hSw; (try dsimp only at hSw); first | (go_simp; done) | (go_simp; with_reducible rfl)
      try simp only [Act.put, List.setIfInBounds_toArray, List.set_cons_zero, List.set_cons_succ]
      refine wpAnyH_done (by kernel_rfl) ?_ _
      refine NoPanic.normal ?_
      go_wp2_with fail
      go_ret
      exact ⟨by rw [HV.out]; rfl, CE.out.l.drew⟩
    · have NE : Hid (CBk (((w6.setCell ⟨w3.heap.size, 0, none⟩ (.string q.sum)).setCell ⟨w3.heap.size, 1, none⟩ (.int .i64 q.work)).setCell ⟨w3.heap.size, 2, none⟩ (.int .i64 q.count)) w3.heap.size 63 #[.string q.sum, .int .i64 q.work, .int .i64 q.count]) := N2.out.set3
      have CE : Hid (ChkW w (((w6.setCell ⟨w3.heap.size, 0, none⟩ (.string q.sum)).setCell ⟨w3.heap.size, 1, none⟩ (.int .i64 q.work)).setCell ⟨w3.heap.size, 2, none⟩ (.int .i64 q.count)) g0 h s) := C2.out.other3 C3.out.z _ _ _
      generalize (((w6.setCell ⟨w3.heap.size, 0, none⟩ (.string q.sum)).setCell ⟨w3.heap.size, 1, none⟩ (.int .i64 q.work)).setCell ⟨w3.heap.size, 2, none⟩ (.int .i64 q.count)) = wz at NE CE ⊢
      generalize w3.heap.size = gA at NE ⊢
      clear hlf hwk hlf1 hwk1 CD
      go_wp2_with fail
      refine wp_region_noPanic ?_
      refine wp_region_held_drew (S := fun w' => True) (by kernel_rfl) (trivial) (fun hHeld => ?_)
      refine takeL 0 (v := ?_) rfl (by kernel_rfl) (by kernel_rfl) (by kernel_rfl) (fun _ _ _ h => h) (by kernel_rfl) ?_ (by assumption) ?_
      rotate_left
      · intro w hSw; (try dsimp only at hSw); first | (go_simp; done) | (go_simp; with_reducible rfl)
      try simp only [Act.put, List.setIfInBounds_toArray, List.set_cons_zero, List.set_cons_succ]
      refine takeL 1 (v := ?_) rfl (by kernel_rfl) (by kernel_rfl) (by kernel_rfl) (fun _ _ _ h => h) (by kernel_rfl) ?_ (by assumption) ?_
      rotate_left
      · intro w hSw; (try dsimp only at hSw); first | (go_simp; done) | (go_simp; with_reducible rfl)
      try simp only [Act.put, List.setIfInBounds_toArray, List.set_cons_zero, List.set_cons_succ]
      refine takeL 2 (v := ?_) rfl (by kernel_rfl) (by kernel_rfl) (by kernel_rfl) (fun _ _ _ h => h) (by kernel_rfl) ?_ (by assumption) ?_
      rotate_left
      · intro w hSw; (try dsimp only at hSw); first | (go_simp; done) | (go_simp; with_reducible rfl)
      try simp only [Act.put, List.setIfInBounds_toArray, List.set_cons_zero, List.set_cons_succ]
      refine skipL 3 rfl (by kernel_rfl) (by kernel_rfl) (by kernel_rfl) (fun _ _ _ h => h) (by kernel_rfl) (by assumption) ?_
      try simp only [Act.put, List.setIfInBounds_toArray, List.set_cons_zero, List.set_cons_succ]
      refine skipL 4 rfl (by kernel_rfl) (by kernel_rfl) (by kernel_rfl) (fun _ _ _ h => h) (by kernel_rfl) (by assumption) ?_
      try simp only [Act.put, List.setIfInBounds_toArray, List.set_cons_zero, List.set_cons_succ]
      refine skipL 5 rfl (by kernel_rfl) (by kernel_rfl) (by kernel_rfl) (fun _ _ _ h => h) (by kernel_rfl) (by assumption) ?_
      try simp only [Act.put, List.setIfInBounds_toArray, List.set_cons_zero, List.set_cons_succ]
      refine skipL 6 rfl (by kernel_rfl) (by kernel_rfl) (by kernel_rfl) (fun _ _ _ h => h) (by kernel_rfl) (by assumption) ?_
      try simp only [Act.put, List.setIfInBounds_toArray, List.set_cons_zero, List.set_cons_succ]
      refine skipL 7 rfl (by kernel_rfl) (by kernel_rfl) (by kernel_rfl) (fun _ _ _ h => h) (by kernel_rfl) (by assumption) ?_
      try simp only [Act.put, List.setIfInBounds_toArray, List.set_cons_zero, List.set_cons_succ]
      refine skipL 8 rfl (by kernel_rfl) (by kernel_rfl) (by kernel_rfl) (fun _ _ _ h => h) (by kernel_rfl) (by assumption) ?_
      try simp only [Act.put, List.setIfInBounds_toArray, List.set_cons_zero, List.set_cons_succ]
      refine skipL 9 rfl (by kernel_rfl) (by kernel_rfl) (by kernel_rfl) (fun _ _ _ h => h) (by kernel_rfl) (by assumption) ?_
      try simp only [Act.put, List.setIfInBounds_toArray, List.set_cons_zero, List.set_cons_succ]
      refine takeL 10 (v := ?_) rfl (by kernel_rfl) (by kernel_rfl) (by kernel_rfl) (fun _ _ _ h => h) (by kernel_rfl) ?_ (by assumption) ?_
      rotate_left
      · intro w hSw; (try dsimp only at hSw); first | (go_simp; done) | (go_simp; with_reducible rfl)
      try simp only [Act.put, List.setIfInBounds_toArray, List.set_cons_zero, List.set_cons_succ]
      refine wpAnyH_done (by kernel_rfl) ?_ _
      refine NoPanic.normal ?_
      go_wp2_with fail
      go_ret
      exact ⟨by rw [HV.out]; rfl, CE.out.l.drew⟩

  | some y =>
    obtain ⟨q, l⟩ := y
    have hwk0 : ∀ (w' : World), Below w.heap.size w w' → Calls Tryd.prog 86 #[.agg #[.string lfs, .int .i64 lfw, .int .i64 lfc], .int .i64 (a' : Int), .slice (some ⟨s.sg, 0, none⟩) s.sn s.sc] w' fun e w'' => e = .returned (.tuple #[.agg #[.string q.sum, .int .i64 q.work, .int .i64 q.count], .int .i64 l, .bool true]) ∧ Below w'.heap.size w' w'' := fun w' hb => (hwk w' hb).mono fun e w'' hh => by
      rcases hh with ⟨⟨q', l', h1, h2⟩ | ⟨h1, _⟩, h3⟩
      · rw [hwt] at h1
        simp only [Option.some.injEq, Prod.mk.injEq] at h1
        obtain ⟨rfl, rfl⟩ := h1
        exact ⟨h2, h3⟩
      · rw [hwt] at h1; cases h1
    have hfl := HFN.out q l hwt
    have HVV : Hid (R = if samePB q (s.ps.getD k default) = true then wrkTo s.ps k + l else -1) := HPS.out.2 q l hwt
    have hw3 : IntKind.i64.wrap (wrkTo s.ps k + l) = wrkTo s.ps k + l := by rw [IntKind.wrap_i64]; omega
    have hkc : (k : Int) ≤ (s.c : Int) := by omega
    have hc0 : ¬ s.c = 0 := by omega
    replace hwk := hwk0
    clear hwk0 HPS HFN hwt hfl hwi
    generalize wrkTo s.ps k = wv at hmn hw3 HVV
    go_wp2_with fail
    have CD : Hid (ChkW w w3.drew g0 h s) := C3.out.call (Below.refl _ _).drew
    have hlf1 := hlf
    have hwk1 := hwk
    go_region_held3 (fun w' => ((w'.cell? ⟨g0, 0, none⟩ = some (.string h.prev) ∧ w'.cell? ⟨g0, 1, none⟩ = some (.string h.root) ∧ w'.cell? ⟨g0, 2, none⟩ = some (.int .i64 h.time) ∧ w'.cell? ⟨g0, 3, none⟩ = some (.int .i64 h.diff) ∧ w'.cell? ⟨g0, 4, none⟩ = some (.int .i64 h.nonce)) ∧ (w'.cell? ⟨g0 + 1, 0, none⟩ = some (.slice (some ⟨s.g, 0, none⟩) s.n s.c) ∧ w'.cell? ⟨g0 + 1, 1, none⟩ = some (.slice (some ⟨s.sg, 0, none⟩) s.sn s.sc))))
      (first | exact C3.out.cells | exact CD.out.cells | exact (C1.out).cells | exact (C2.out).cells | exact CA.out.cells | exact (C2.out.alloc _).cells | exact (C2.out.other3 C3.out.z _ _ _).cells | exact (C2.out.other3 C1.out.z _ _ _).cells | go_keep)
      (first
        | (go_at_call 47; refine (hlf1 _).mono ?_; rintro e w5 ⟨rfl, b5⟩; first | (have N1 : Hid (CBk w5 w3.heap.size 63 #[.string ⟨#[]⟩, .int .i64 0, .int .i64 0]) := (CBk.new w3.drew _ _).call b5; have C1 : Hid (ChkW w w5 g0 h s) := (CD.out.alloc _).call b5) | (have C1 : Hid (ChkW w w5 g0 h s) := CD.out.call b5))
        | (go_at_call 86; first | (have CA : Hid (ChkW w (w5.alloc (.cells #[.string ⟨#[]⟩, .int .i64 0, .int .i64 0] 63)) g0 h s) := C1.out.alloc _; refine (hwk1 _ CA.out.l).mono ?_; rintro e w6 ⟨rfl, b6⟩; have N2 : Hid (CBk w6 w5.heap.size 63 #[.string ⟨#[]⟩, .int .i64 0, .int .i64 0]) := (CBk.new w5 _ _).call b6; obtain ⟨m0, m1, m2⟩ := N2.out.cells3; obtain ⟨f0, f1, f2⟩ := N2.out.free3; have C2 : Hid (ChkW w w6 g0 h s) := CA.out.call b6) | (refine (hwk1 _ C1.out.l).mono ?_; rintro e w6 ⟨rfl, b6⟩; first | (have N2 : Hid (CBk w6 w3.heap.size 63 #[.string ⟨#[]⟩, .int .i64 0, .int .i64 0]) := N1.out.call b6; obtain ⟨m0, m1, m2⟩ := N2.out.cells3; obtain ⟨f0, f1, f2⟩ := N2.out.free3; have C2 : Hid (ChkW w w6 g0 h s) := C1.out.call b6) | (have C2 : Hid (ChkW w w6 g0 h s) := C1.out.call b6))))

    · have NE : Hid (CBk (w6.alloc (.cells #[.string q.sum, .int .i64 q.work, .int .i64 q.count] 63)) w6.heap.size 63 #[.string q.sum, .int .i64 q.work, .int .i64 q.count]) := CBk.new w6 _ _
      have CE : Hid (ChkW w (w6.alloc (.cells #[.string q.sum, .int .i64 q.work, .int .i64 q.count] 63)) g0 h s) := C2.out.alloc _
      generalize (w6.alloc (.cells #[.string q.sum, .int .i64 q.work, .int .i64 q.count] 63)) = wz at NE CE ⊢
      generalize w6.heap.size = gA at NE ⊢
      clear hlf hwk hlf1 hwk1 CD
      have HAr : Hid (AtP wz s.g s.ps) := (HS.out.below CE.out.l).p
      have q0 := AtP.c0 HAr.out k HKL.out
      have q1 := AtP.c1 HAr.out k HKL.out
      have q2 := AtP.c2 HAr.out k HKL.out
      generalize s.ps.getD k default = p at q0 q1 q2 HVV
      have hse := runSamePk q p
      have hgd := eqPkG
      generalize samePB q p = sm at hse HVV
      have hmz := hmn wz.drew CE.out.l.drew
      obtain ⟨_, p0, p1⟩ := CE.out.cells
      obtain ⟨m0, m1, m2⟩ := NE.out.cells3
      have hst : (fun w' => (w'.cell? ⟨gA, 0, none⟩ = some (.string q.sum) ∧ w'.cell? ⟨gA, 1, none⟩ = some (.int .i64 q.work) ∧ w'.cell? ⟨gA, 2, none⟩ = some (.int .i64 q.count)) ∧ (w'.cell? ⟨g0 + 1, 0, none⟩ = some (.slice (some ⟨s.g, 0, none⟩) s.n s.c)) ∧ (w'.cell? ⟨s.g, k * 3, none⟩ = some (.string p.sum) ∧ w'.cell? ⟨s.g, k * 3 + 1, none⟩ = some (.int .i64 p.work) ∧ w'.cell? ⟨s.g, k * 3 + 2, none⟩ = some (.int .i64 p.count))) wz.drew := ⟨⟨m0, m1, m2⟩, p0, q0, q1, q2⟩
      have LZ : Hid (Below w.heap.size w wz.drew) := CE.out.l.drew
      clear HAr hmn
      cases sm with
      | false =>
        have HV2 : Hid (R = -1) := HVV.out
        clear hmz
        go_wp2_with fail
        refine wp_region_noPanic ?_
        refine wp_region_held_drew (S := fun w' => (w'.cell? ⟨gA, 0, none⟩ = some (.string q.sum) ∧ w'.cell? ⟨gA, 1, none⟩ = some (.int .i64 q.work) ∧ w'.cell? ⟨gA, 2, none⟩ = some (.int .i64 q.count)) ∧ (w'.cell? ⟨g0 + 1, 0, none⟩ = some (.slice (some ⟨s.g, 0, none⟩) s.n s.c)) ∧ (w'.cell? ⟨s.g, k * 3, none⟩ = some (.string p.sum) ∧ w'.cell? ⟨s.g, k * 3 + 1, none⟩ = some (.int .i64 p.work) ∧ w'.cell? ⟨s.g, k * 3 + 2, none⟩ = some (.int .i64 p.count))) (by kernel_rfl) (hst) (fun hHeld => ?_)
        refine takeL 0 (v := ?_) rfl (by kernel_rfl) (by kernel_rfl) (by kernel_rfl) (fun _ _ _ h => h) (by kernel_rfl) ?_ (by assumption) ?_
        rotate_left
        · intro w hSw; (try dsimp only at hSw); first | (go_simp; done) | (go_simp; with_reducible rfl)
        try simp only [Act.put, List.setIfInBounds_toArray, List.set_cons_zero, List.set_cons_succ]
        refine takeL 1 (v := ?_) rfl (by kernel_rfl) (by kernel_rfl) (by kernel_rfl) (fun _ _ _ h => h) (by kernel_rfl) ?_ (by assumption) ?_
        rotate_left
        · intro w hSw; (try dsimp only at hSw); first | (go_simp; done) | (go_simp; with_reducible rfl)
        try simp only [Act.put, List.setIfInBounds_toArray, List.set_cons_zero, List.set_cons_succ]
        refine takeL 2 (v := ?_) rfl (by kernel_rfl) (by kernel_rfl) (by kernel_rfl) (fun _ _ _ h => h) (by kernel_rfl) ?_ (by assumption) ?_
        rotate_left
        · intro w hSw; (try dsimp only at hSw); first | (go_simp; done) | (go_simp; with_reducible rfl)
        try simp only [Act.put, List.setIfInBounds_toArray, List.set_cons_zero, List.set_cons_succ]
        refine takeL 3 (v := ?_) rfl (by kernel_rfl) (by kernel_rfl) (by kernel_rfl) (fun _ _ _ h => h) (by kernel_rfl) ?_ (by assumption) ?_
        rotate_left
        · intro w hSw; (try dsimp only at hSw); first | (go_simp; done) | (go_simp; with_reducible rfl)
        try simp only [Act.put, List.setIfInBounds_toArray, List.set_cons_zero, List.set_cons_succ]
        refine takeL 4 (v := ?_) rfl (by kernel_rfl) (by kernel_rfl) (by kernel_rfl) (fun _ _ _ h => h) (by kernel_rfl) ?_ (by assumption) ?_
        rotate_left
        · intro w hSw; (try dsimp only at hSw); first | (go_simp; done) | (go_simp; with_reducible rfl)
        try simp only [Act.put, List.setIfInBounds_toArray, List.set_cons_zero, List.set_cons_succ]
        refine takeL 5 (v := ?_) rfl (by kernel_rfl) (by kernel_rfl) (by kernel_rfl) (fun _ _ _ h => h) (by kernel_rfl) ?_ (by assumption) ?_
        rotate_left
        · intro w hSw; (try dsimp only at hSw); first | (go_simp; done) | (go_simp; with_reducible rfl)
        try simp only [Act.put, List.setIfInBounds_toArray, List.set_cons_zero, List.set_cons_succ]
        refine takeL 6 (v := ?_) rfl (by kernel_rfl) (by kernel_rfl) (by kernel_rfl) (fun _ _ _ h => h) (by kernel_rfl) ?_ (by assumption) ?_
        rotate_left
        · intro w hSw; (try dsimp only at hSw); first | (go_simp; done) | (go_simp; with_reducible rfl)
        try simp only [Act.put, List.setIfInBounds_toArray, List.set_cons_zero, List.set_cons_succ]
        refine takeL 7 (v := ?_) rfl (by kernel_rfl) (by kernel_rfl) (by kernel_rfl) (fun _ _ _ h => h) (by kernel_rfl) ?_ (by assumption) ?_
        rotate_left
        · intro w hSw; (try dsimp only at hSw); first | (go_simp; done) | (go_simp; with_reducible rfl)
        try simp only [Act.put, List.setIfInBounds_toArray, List.set_cons_zero, List.set_cons_succ]
        refine takeL 8 (v := ?_) rfl (by kernel_rfl) (by kernel_rfl) (by kernel_rfl) (fun _ _ _ h => h) (by kernel_rfl) ?_ (by assumption) ?_
        rotate_left
        · intro w hSw; (try dsimp only at hSw); first | (go_simp; done) | (go_simp; with_reducible rfl)
        try simp only [Act.put, List.setIfInBounds_toArray, List.set_cons_zero, List.set_cons_succ]
        refine takeL 9 (v := ?_) rfl (by kernel_rfl) (by kernel_rfl) (by kernel_rfl) (fun _ _ _ h => h) (by kernel_rfl) ?_ (by assumption) ?_
        rotate_left
        · intro w hSw; (try dsimp only at hSw); first | (go_simp; done) | (go_simp; with_reducible rfl)
        try simp only [Act.put, List.setIfInBounds_toArray, List.set_cons_zero, List.set_cons_succ]
        refine takeL 10 (v := ?_) rfl (by kernel_rfl) (by kernel_rfl) (by kernel_rfl) (fun _ _ _ h => h) (by kernel_rfl) ?_ (by assumption) ?_
        rotate_left
        · intro w hSw; (try dsimp only at hSw); first | (go_simp; done) | (go_simp; with_reducible rfl)
        try simp only [Act.put, List.setIfInBounds_toArray, List.set_cons_zero, List.set_cons_succ]
        refine wpAnyH_done (by kernel_rfl) ?_ _
        refine NoPanic.normal ?_
        go_wp2_with fail
        go_ret
        exact ⟨by rw [HV2.out]; rfl, LZ.out⟩
      | true =>
        have HV2 : Hid (R = wv + l) := HVV.out
        go_wp2_with fail
        refine wp_region_noPanic ?_
        refine wp_region_held_drew (S := fun w' => (w'.cell? ⟨gA, 0, none⟩ = some (.string q.sum) ∧ w'.cell? ⟨gA, 1, none⟩ = some (.int .i64 q.work) ∧ w'.cell? ⟨gA, 2, none⟩ = some (.int .i64 q.count)) ∧ (w'.cell? ⟨g0 + 1, 0, none⟩ = some (.slice (some ⟨s.g, 0, none⟩) s.n s.c)) ∧ (w'.cell? ⟨s.g, k * 3, none⟩ = some (.string p.sum) ∧ w'.cell? ⟨s.g, k * 3 + 1, none⟩ = some (.int .i64 p.work) ∧ w'.cell? ⟨s.g, k * 3 + 2, none⟩ = some (.int .i64 p.count))) (by kernel_rfl) (hst) (fun hHeld => ?_)
        refine takeL 0 (v := ?_) rfl (by kernel_rfl) (by kernel_rfl) (by kernel_rfl) (fun _ _ _ h => h) (by kernel_rfl) ?_ (by assumption) ?_
        rotate_left
        · intro w hSw; (try dsimp only at hSw); first | (go_simp; done) | (go_simp; with_reducible rfl)
        try simp only [Act.put, List.setIfInBounds_toArray, List.set_cons_zero, List.set_cons_succ]
        refine takeL 1 (v := ?_) rfl (by kernel_rfl) (by kernel_rfl) (by kernel_rfl) (fun _ _ _ h => h) (by kernel_rfl) ?_ (by assumption) ?_
        rotate_left
        · intro w hSw; (try dsimp only at hSw); first | (go_simp; done) | (go_simp; with_reducible rfl)
        try simp only [Act.put, List.setIfInBounds_toArray, List.set_cons_zero, List.set_cons_succ]
        refine takeL 2 (v := ?_) rfl (by kernel_rfl) (by kernel_rfl) (by kernel_rfl) (fun _ _ _ h => h) (by kernel_rfl) ?_ (by assumption) ?_
        rotate_left
        · intro w hSw; (try dsimp only at hSw); first | (go_simp; done) | (go_simp; with_reducible rfl)
        try simp only [Act.put, List.setIfInBounds_toArray, List.set_cons_zero, List.set_cons_succ]
        refine takeL 3 (v := ?_) rfl (by kernel_rfl) (by kernel_rfl) (by kernel_rfl) (fun _ _ _ h => h) (by kernel_rfl) ?_ (by assumption) ?_
        rotate_left
        · intro w hSw; (try dsimp only at hSw); first | (go_simp; done) | (go_simp; with_reducible rfl)
        try simp only [Act.put, List.setIfInBounds_toArray, List.set_cons_zero, List.set_cons_succ]
        refine takeL 4 (v := ?_) rfl (by kernel_rfl) (by kernel_rfl) (by kernel_rfl) (fun _ _ _ h => h) (by kernel_rfl) ?_ (by assumption) ?_
        rotate_left
        · intro w hSw; (try dsimp only at hSw); first | (go_simp; done) | (go_simp; with_reducible rfl)
        try simp only [Act.put, List.setIfInBounds_toArray, List.set_cons_zero, List.set_cons_succ]
        refine takeL 5 (v := ?_) rfl (by kernel_rfl) (by kernel_rfl) (by kernel_rfl) (fun _ _ _ h => h) (by kernel_rfl) ?_ (by assumption) ?_
        rotate_left
        · intro w hSw; (try dsimp only at hSw); first | (go_simp; done) | (go_simp; with_reducible rfl)
        try simp only [Act.put, List.setIfInBounds_toArray, List.set_cons_zero, List.set_cons_succ]
        refine takeL 6 (v := ?_) rfl (by kernel_rfl) (by kernel_rfl) (by kernel_rfl) (fun _ _ _ h => h) (by kernel_rfl) ?_ (by assumption) ?_
        rotate_left
        · intro w hSw; (try dsimp only at hSw); first | (go_simp; done) | (go_simp; with_reducible rfl)
        try simp only [Act.put, List.setIfInBounds_toArray, List.set_cons_zero, List.set_cons_succ]
        refine takeL 7 (v := ?_) rfl (by kernel_rfl) (by kernel_rfl) (by kernel_rfl) (fun _ _ _ h => h) (by kernel_rfl) ?_ (by assumption) ?_
        rotate_left
        · intro w hSw; (try dsimp only at hSw); first | (go_simp; done) | (go_simp; with_reducible rfl)
        try simp only [Act.put, List.setIfInBounds_toArray, List.set_cons_zero, List.set_cons_succ]
        refine takeL 8 (v := ?_) rfl (by kernel_rfl) (by kernel_rfl) (by kernel_rfl) (fun _ _ _ h => h) (by kernel_rfl) ?_ (by assumption) ?_
        rotate_left
        · intro w hSw; (try dsimp only at hSw); first | (go_simp; done) | (go_simp; with_reducible rfl)
        try simp only [Act.put, List.setIfInBounds_toArray, List.set_cons_zero, List.set_cons_succ]
        refine takeL 9 (v := ?_) rfl (by kernel_rfl) (by kernel_rfl) (by kernel_rfl) (fun _ _ _ h => h) (by kernel_rfl) ?_ (by assumption) ?_
        rotate_left
        · intro w hSw; (try dsimp only at hSw); first | (go_simp; done) | (go_simp; with_reducible rfl)
        try simp only [Act.put, List.setIfInBounds_toArray, List.set_cons_zero, List.set_cons_succ]
        refine takeL 10 (v := ?_) rfl (by kernel_rfl) (by kernel_rfl) (by kernel_rfl) (fun _ _ _ h => h) (by kernel_rfl) ?_ (by assumption) ?_
        rotate_left
        · intro w hSw; (try dsimp only at hSw); first | (go_simp; done) | (go_simp; with_reducible rfl)
        try simp only [Act.put, List.setIfInBounds_toArray, List.set_cons_zero, List.set_cons_succ]
        refine wpAnyH_done (by kernel_rfl) ?_ _
        refine NoPanic.normal ?_
        go_wp2_with fail
        refine hmz.mono ?_
        rintro e w7 ⟨rfl, b7⟩
        go_wp2_with fail
        go_ret
        exact ⟨by rw [HV2.out]; rfl, LZ.out.trans (b7.mono LZ.out.size)⟩
    · have NE : Hid (CBk (((w6.setCell ⟨w5.heap.size, 0, none⟩ (.string q.sum)).setCell ⟨w5.heap.size, 1, none⟩ (.int .i64 q.work)).setCell ⟨w5.heap.size, 2, none⟩ (.int .i64 q.count)) w5.heap.size 63 #[.string q.sum, .int .i64 q.work, .int .i64 q.count]) := N2.out.set3
      have CE : Hid (ChkW w (((w6.setCell ⟨w5.heap.size, 0, none⟩ (.string q.sum)).setCell ⟨w5.heap.size, 1, none⟩ (.int .i64 q.work)).setCell ⟨w5.heap.size, 2, none⟩ (.int .i64 q.count)) g0 h s) := C2.out.other3 C1.out.z _ _ _
      generalize (((w6.setCell ⟨w5.heap.size, 0, none⟩ (.string q.sum)).setCell ⟨w5.heap.size, 1, none⟩ (.int .i64 q.work)).setCell ⟨w5.heap.size, 2, none⟩ (.int .i64 q.count)) = wz at NE CE ⊢
      generalize w5.heap.size = gA at NE ⊢
      clear hlf hwk hlf1 hwk1 CD
      have HAr : Hid (AtP wz s.g s.ps) := (HS.out.below CE.out.l).p
      have q0 := AtP.c0 HAr.out k HKL.out
      have q1 := AtP.c1 HAr.out k HKL.out
      have q2 := AtP.c2 HAr.out k HKL.out
      generalize s.ps.getD k default = p at q0 q1 q2 HVV
      have hse := runSamePk q p
      have hgd := eqPkG
      generalize samePB q p = sm at hse HVV
      have hmz := hmn wz.drew CE.out.l.drew
      obtain ⟨_, p0, p1⟩ := CE.out.cells
      obtain ⟨m0, m1, m2⟩ := NE.out.cells3
      have hst : (fun w' => (w'.cell? ⟨gA, 0, none⟩ = some (.string q.sum) ∧ w'.cell? ⟨gA, 1, none⟩ = some (.int .i64 q.work) ∧ w'.cell? ⟨gA, 2, none⟩ = some (.int .i64 q.count)) ∧ (w'.cell? ⟨g0 + 1, 0, none⟩ = some (.slice (some ⟨s.g, 0, none⟩) s.n s.c)) ∧ (w'.cell? ⟨s.g, k * 3, none⟩ = some (.string p.sum) ∧ w'.cell? ⟨s.g, k * 3 + 1, none⟩ = some (.int .i64 p.work) ∧ w'.cell? ⟨s.g, k * 3 + 2, none⟩ = some (.int .i64 p.count))) wz.drew := ⟨⟨m0, m1, m2⟩, p0, q0, q1, q2⟩
      have LZ : Hid (Below w.heap.size w wz.drew) := CE.out.l.drew
      clear HAr hmn
      cases sm with
      | false =>
        have HV2 : Hid (R = -1) := HVV.out
        clear hmz
        go_wp2_with fail
        refine wp_region_noPanic ?_
        refine wp_region_held_drew (S := fun w' => (w'.cell? ⟨gA, 0, none⟩ = some (.string q.sum) ∧ w'.cell? ⟨gA, 1, none⟩ = some (.int .i64 q.work) ∧ w'.cell? ⟨gA, 2, none⟩ = some (.int .i64 q.count)) ∧ (w'.cell? ⟨g0 + 1, 0, none⟩ = some (.slice (some ⟨s.g, 0, none⟩) s.n s.c)) ∧ (w'.cell? ⟨s.g, k * 3, none⟩ = some (.string p.sum) ∧ w'.cell? ⟨s.g, k * 3 + 1, none⟩ = some (.int .i64 p.work) ∧ w'.cell? ⟨s.g, k * 3 + 2, none⟩ = some (.int .i64 p.count))) (by kernel_rfl) (hst) (fun hHeld => ?_)
        refine takeL 0 (v := ?_) rfl (by kernel_rfl) (by kernel_rfl) (by kernel_rfl) (fun _ _ _ h => h) (by kernel_rfl) ?_ (by assumption) ?_
        rotate_left
        · intro w hSw; (try dsimp only at hSw); first | (go_simp; done) | (go_simp; with_reducible rfl)
        try simp only [Act.put, List.setIfInBounds_toArray, List.set_cons_zero, List.set_cons_succ]
        refine takeL 1 (v := ?_) rfl (by kernel_rfl) (by kernel_rfl) (by kernel_rfl) (fun _ _ _ h => h) (by kernel_rfl) ?_ (by assumption) ?_
        rotate_left
        · intro w hSw; (try dsimp only at hSw); first | (go_simp; done) | (go_simp; with_reducible rfl)
        try simp only [Act.put, List.setIfInBounds_toArray, List.set_cons_zero, List.set_cons_succ]
        refine takeL 2 (v := ?_) rfl (by kernel_rfl) (by kernel_rfl) (by kernel_rfl) (fun _ _ _ h => h) (by kernel_rfl) ?_ (by assumption) ?_
        rotate_left
        · intro w hSw; (try dsimp only at hSw); first | (go_simp; done) | (go_simp; with_reducible rfl)
        try simp only [Act.put, List.setIfInBounds_toArray, List.set_cons_zero, List.set_cons_succ]
        refine takeL 3 (v := ?_) rfl (by kernel_rfl) (by kernel_rfl) (by kernel_rfl) (fun _ _ _ h => h) (by kernel_rfl) ?_ (by assumption) ?_
        rotate_left
        · intro w hSw; (try dsimp only at hSw); first | (go_simp; done) | (go_simp; with_reducible rfl)
        try simp only [Act.put, List.setIfInBounds_toArray, List.set_cons_zero, List.set_cons_succ]
        refine takeL 4 (v := ?_) rfl (by kernel_rfl) (by kernel_rfl) (by kernel_rfl) (fun _ _ _ h => h) (by kernel_rfl) ?_ (by assumption) ?_
        rotate_left
        · intro w hSw; (try dsimp only at hSw); first | (go_simp; done) | (go_simp; with_reducible rfl)
        try simp only [Act.put, List.setIfInBounds_toArray, List.set_cons_zero, List.set_cons_succ]
        refine takeL 5 (v := ?_) rfl (by kernel_rfl) (by kernel_rfl) (by kernel_rfl) (fun _ _ _ h => h) (by kernel_rfl) ?_ (by assumption) ?_
        rotate_left
        · intro w hSw; (try dsimp only at hSw); first | (go_simp; done) | (go_simp; with_reducible rfl)
        try simp only [Act.put, List.setIfInBounds_toArray, List.set_cons_zero, List.set_cons_succ]
        refine takeL 6 (v := ?_) rfl (by kernel_rfl) (by kernel_rfl) (by kernel_rfl) (fun _ _ _ h => h) (by kernel_rfl) ?_ (by assumption) ?_
        rotate_left
        · intro w hSw; (try dsimp only at hSw); first | (go_simp; done) | (go_simp; with_reducible rfl)
        try simp only [Act.put, List.setIfInBounds_toArray, List.set_cons_zero, List.set_cons_succ]
        refine takeL 7 (v := ?_) rfl (by kernel_rfl) (by kernel_rfl) (by kernel_rfl) (fun _ _ _ h => h) (by kernel_rfl) ?_ (by assumption) ?_
        rotate_left
        · intro w hSw; (try dsimp only at hSw); first | (go_simp; done) | (go_simp; with_reducible rfl)
        try simp only [Act.put, List.setIfInBounds_toArray, List.set_cons_zero, List.set_cons_succ]
        refine takeL 8 (v := ?_) rfl (by kernel_rfl) (by kernel_rfl) (by kernel_rfl) (fun _ _ _ h => h) (by kernel_rfl) ?_ (by assumption) ?_
        rotate_left
        · intro w hSw; (try dsimp only at hSw); first | (go_simp; done) | (go_simp; with_reducible rfl)
        try simp only [Act.put, List.setIfInBounds_toArray, List.set_cons_zero, List.set_cons_succ]
        refine takeL 9 (v := ?_) rfl (by kernel_rfl) (by kernel_rfl) (by kernel_rfl) (fun _ _ _ h => h) (by kernel_rfl) ?_ (by assumption) ?_
        rotate_left
        · intro w hSw; (try dsimp only at hSw); first | (go_simp; done) | (go_simp; with_reducible rfl)
        try simp only [Act.put, List.setIfInBounds_toArray, List.set_cons_zero, List.set_cons_succ]
        refine takeL 10 (v := ?_) rfl (by kernel_rfl) (by kernel_rfl) (by kernel_rfl) (fun _ _ _ h => h) (by kernel_rfl) ?_ (by assumption) ?_
        rotate_left
        · intro w hSw; (try dsimp only at hSw); first | (go_simp; done) | (go_simp; with_reducible rfl)
        try simp only [Act.put, List.setIfInBounds_toArray, List.set_cons_zero, List.set_cons_succ]
        refine wpAnyH_done (by kernel_rfl) ?_ _
        refine NoPanic.normal ?_
        go_wp2_with fail
        go_ret
        exact ⟨by rw [HV2.out]; rfl, LZ.out⟩
      | true =>
        have HV2 : Hid (R = wv + l) := HVV.out
        go_wp2_with fail
        refine wp_region_noPanic ?_
        refine wp_region_held_drew (S := fun w' => (w'.cell? ⟨gA, 0, none⟩ = some (.string q.sum) ∧ w'.cell? ⟨gA, 1, none⟩ = some (.int .i64 q.work) ∧ w'.cell? ⟨gA, 2, none⟩ = some (.int .i64 q.count)) ∧ (w'.cell? ⟨g0 + 1, 0, none⟩ = some (.slice (some ⟨s.g, 0, none⟩) s.n s.c)) ∧ (w'.cell? ⟨s.g, k * 3, none⟩ = some (.string p.sum) ∧ w'.cell? ⟨s.g, k * 3 + 1, none⟩ = some (.int .i64 p.work) ∧ w'.cell? ⟨s.g, k * 3 + 2, none⟩ = some (.int .i64 p.count))) (by kernel_rfl) (hst) (fun hHeld => ?_)
        refine takeL 0 (v := ?_) rfl (by kernel_rfl) (by kernel_rfl) (by kernel_rfl) (fun _ _ _ h => h) (by kernel_rfl) ?_ (by assumption) ?_
        rotate_left
        · intro w hSw; (try dsimp only at hSw); first | (go_simp; done) | (go_simp; with_reducible rfl)
        try simp only [Act.put, List.setIfInBounds_toArray, List.set_cons_zero, List.set_cons_succ]
        refine takeL 1 (v := ?_) rfl (by kernel_rfl) (by kernel_rfl) (by kernel_rfl) (fun _ _ _ h => h) (by kernel_rfl) ?_ (by assumption) ?_
        rotate_left
        · intro w hSw; (try dsimp only at hSw); first | (go_simp; done) | (go_simp; with_reducible rfl)
        try simp only [Act.put, List.setIfInBounds_toArray, List.set_cons_zero, List.set_cons_succ]
        refine takeL 2 (v := ?_) rfl (by kernel_rfl) (by kernel_rfl) (by kernel_rfl) (fun _ _ _ h => h) (by kernel_rfl) ?_ (by assumption) ?_
        rotate_left
        · intro w hSw; (try dsimp only at hSw); first | (go_simp; done) | (go_simp; with_reducible rfl)
        try simp only [Act.put, List.setIfInBounds_toArray, List.set_cons_zero, List.set_cons_succ]
        refine takeL 3 (v := ?_) rfl (by kernel_rfl) (by kernel_rfl) (by kernel_rfl) (fun _ _ _ h => h) (by kernel_rfl) ?_ (by assumption) ?_
        rotate_left
        · intro w hSw; (try dsimp only at hSw); first | (go_simp; done) | (go_simp; with_reducible rfl)
        try simp only [Act.put, List.setIfInBounds_toArray, List.set_cons_zero, List.set_cons_succ]
        refine takeL 4 (v := ?_) rfl (by kernel_rfl) (by kernel_rfl) (by kernel_rfl) (fun _ _ _ h => h) (by kernel_rfl) ?_ (by assumption) ?_
        rotate_left
        · intro w hSw; (try dsimp only at hSw); first | (go_simp; done) | (go_simp; with_reducible rfl)
        try simp only [Act.put, List.setIfInBounds_toArray, List.set_cons_zero, List.set_cons_succ]
        refine takeL 5 (v := ?_) rfl (by kernel_rfl) (by kernel_rfl) (by kernel_rfl) (fun _ _ _ h => h) (by kernel_rfl) ?_ (by assumption) ?_
        rotate_left
        · intro w hSw; (try dsimp only at hSw); first | (go_simp; done) | (go_simp; with_reducible rfl)
        try simp only [Act.put, List.setIfInBounds_toArray, List.set_cons_zero, List.set_cons_succ]
        refine takeL 6 (v := ?_) rfl (by kernel_rfl) (by kernel_rfl) (by kernel_rfl) (fun _ _ _ h => h) (by kernel_rfl) ?_ (by assumption) ?_
        rotate_left
        · intro w hSw; (try dsimp only at hSw); first | (go_simp; done) | (go_simp; with_reducible rfl)
        try simp only [Act.put, List.setIfInBounds_toArray, List.set_cons_zero, List.set_cons_succ]
        refine takeL 7 (v := ?_) rfl (by kernel_rfl) (by kernel_rfl) (by kernel_rfl) (fun _ _ _ h => h) (by kernel_rfl) ?_ (by assumption) ?_
        rotate_left
        · intro w hSw; (try dsimp only at hSw); first | (go_simp; done) | (go_simp; with_reducible rfl)
        try simp only [Act.put, List.setIfInBounds_toArray, List.set_cons_zero, List.set_cons_succ]
        refine takeL 8 (v := ?_) rfl (by kernel_rfl) (by kernel_rfl) (by kernel_rfl) (fun _ _ _ h => h) (by kernel_rfl) ?_ (by assumption) ?_
        rotate_left
        · intro w hSw; (try dsimp only at hSw); first | (go_simp; done) | (go_simp; with_reducible rfl)
        try simp only [Act.put, List.setIfInBounds_toArray, List.set_cons_zero, List.set_cons_succ]
        refine takeL 9 (v := ?_) rfl (by kernel_rfl) (by kernel_rfl) (by kernel_rfl) (fun _ _ _ h => h) (by kernel_rfl) ?_ (by assumption) ?_
        rotate_left
        · intro w hSw; (try dsimp only at hSw); first | (go_simp; done) | (go_simp; with_reducible rfl)
        try simp only [Act.put, List.setIfInBounds_toArray, List.set_cons_zero, List.set_cons_succ]
        refine takeL 10 (v := ?_) rfl (by kernel_rfl) (by kernel_rfl) (by kernel_rfl) (fun _ _ _ h => h) (by kernel_rfl) ?_ (by assumption) ?_
        rotate_left
        · intro w hSw; (try dsimp only at hSw); first | (go_simp; done) | (go_simp; with_reducible rfl)
        try simp only [Act.put, List.setIfInBounds_toArray, List.set_cons_zero, List.set_cons_succ]
        refine wpAnyH_done (by kernel_rfl) ?_ _
        refine NoPanic.normal ?_
        go_wp2_with fail
        refine hmz.mono ?_
        rintro e w7 ⟨rfl, b7⟩
        go_wp2_with fail
        go_ret
        exact ⟨by rw [HV2.out]; rfl, LZ.out.trans (b7.mono LZ.out.size)⟩
    · have NE : Hid (CBk (((w6.setCell ⟨w3.heap.size, 0, none⟩ (.string q.sum)).setCell ⟨w3.heap.size, 1, none⟩ (.int .i64 q.work)).setCell ⟨w3.heap.size, 2, none⟩ (.int .i64 q.count)) w3.heap.size 63 #[.string q.sum, .int .i64 q.work, .int .i64 q.count]) := N2.out.set3
      have CE : Hid (ChkW w (((w6.setCell ⟨w3.heap.size, 0, none⟩ (.string q.sum)).setCell ⟨w3.heap.size, 1, none⟩ (.int .i64 q.work)).setCell ⟨w3.heap.size, 2, none⟩ (.int .i64 q.count)) g0 h s) := C2.out.other3 C3.out.z _ _ _
      generalize (((w6.setCell ⟨w3.heap.size, 0, none⟩ (.string q.sum)).setCell ⟨w3.heap.size, 1, none⟩ (.int .i64 q.work)).setCell ⟨w3.heap.size, 2, none⟩ (.int .i64 q.count)) = wz at NE CE ⊢
      generalize w3.heap.size = gA at NE ⊢
      clear hlf hwk hlf1 hwk1 CD
      have HAr : Hid (AtP wz s.g s.ps) := (HS.out.below CE.out.l).p
      have q0 := AtP.c0 HAr.out k HKL.out
      have q1 := AtP.c1 HAr.out k HKL.out
      have q2 := AtP.c2 HAr.out k HKL.out
      generalize s.ps.getD k default = p at q0 q1 q2 HVV
      have hse := runSamePk q p
      have hgd := eqPkG
      generalize samePB q p = sm at hse HVV
      have hmz := hmn wz.drew CE.out.l.drew
      obtain ⟨_, p0, p1⟩ := CE.out.cells
      obtain ⟨m0, m1, m2⟩ := NE.out.cells3
      have hst : (fun w' => (w'.cell? ⟨gA, 0, none⟩ = some (.string q.sum) ∧ w'.cell? ⟨gA, 1, none⟩ = some (.int .i64 q.work) ∧ w'.cell? ⟨gA, 2, none⟩ = some (.int .i64 q.count)) ∧ (w'.cell? ⟨g0 + 1, 0, none⟩ = some (.slice (some ⟨s.g, 0, none⟩) s.n s.c)) ∧ (w'.cell? ⟨s.g, k * 3, none⟩ = some (.string p.sum) ∧ w'.cell? ⟨s.g, k * 3 + 1, none⟩ = some (.int .i64 p.work) ∧ w'.cell? ⟨s.g, k * 3 + 2, none⟩ = some (.int .i64 p.count))) wz.drew := ⟨⟨m0, m1, m2⟩, p0, q0, q1, q2⟩
      have LZ : Hid (Below w.heap.size w wz.drew) := CE.out.l.drew
      clear HAr hmn
      cases sm with
      | false =>
        have HV2 : Hid (R = -1) := HVV.out
        clear hmz
        go_wp2_with fail
        refine wp_region_noPanic ?_
        refine wp_region_held_drew (S := fun w' => (w'.cell? ⟨gA, 0, none⟩ = some (.string q.sum) ∧ w'.cell? ⟨gA, 1, none⟩ = some (.int .i64 q.work) ∧ w'.cell? ⟨gA, 2, none⟩ = some (.int .i64 q.count)) ∧ (w'.cell? ⟨g0 + 1, 0, none⟩ = some (.slice (some ⟨s.g, 0, none⟩) s.n s.c)) ∧ (w'.cell? ⟨s.g, k * 3, none⟩ = some (.string p.sum) ∧ w'.cell? ⟨s.g, k * 3 + 1, none⟩ = some (.int .i64 p.work) ∧ w'.cell? ⟨s.g, k * 3 + 2, none⟩ = some (.int .i64 p.count))) (by kernel_rfl) (hst) (fun hHeld => ?_)
        refine takeL 0 (v := ?_) rfl (by kernel_rfl) (by kernel_rfl) (by kernel_rfl) (fun _ _ _ h => h) (by kernel_rfl) ?_ (by assumption) ?_
        rotate_left
        · intro w hSw; (try dsimp only at hSw); first | (go_simp; done) | (go_simp; with_reducible rfl)
        try simp only [Act.put, List.setIfInBounds_toArray, List.set_cons_zero, List.set_cons_succ]
        refine takeL 1 (v := ?_) rfl (by kernel_rfl) (by kernel_rfl) (by kernel_rfl) (fun _ _ _ h => h) (by kernel_rfl) ?_ (by assumption) ?_
        rotate_left
        · intro w hSw; (try dsimp only at hSw); first | (go_simp; done) | (go_simp; with_reducible rfl)
        try simp only [Act.put, List.setIfInBounds_toArray, List.set_cons_zero, List.set_cons_succ]
        refine takeL 2 (v := ?_) rfl (by kernel_rfl) (by kernel_rfl) (by kernel_rfl) (fun _ _ _ h => h) (by kernel_rfl) ?_ (by assumption) ?_
        rotate_left
        · intro w hSw; (try dsimp only at hSw); first | (go_simp; done) | (go_simp; with_reducible rfl)
        try simp only [Act.put, List.setIfInBounds_toArray, List.set_cons_zero, List.set_cons_succ]
        refine takeL 3 (v := ?_) rfl (by kernel_rfl) (by kernel_rfl) (by kernel_rfl) (fun _ _ _ h => h) (by kernel_rfl) ?_ (by assumption) ?_
        rotate_left
        · intro w hSw; (try dsimp only at hSw); first | (go_simp; done) | (go_simp; with_reducible rfl)
        try simp only [Act.put, List.setIfInBounds_toArray, List.set_cons_zero, List.set_cons_succ]
        refine takeL 4 (v := ?_) rfl (by kernel_rfl) (by kernel_rfl) (by kernel_rfl) (fun _ _ _ h => h) (by kernel_rfl) ?_ (by assumption) ?_
        rotate_left
        · intro w hSw; (try dsimp only at hSw); first | (go_simp; done) | (go_simp; with_reducible rfl)
        try simp only [Act.put, List.setIfInBounds_toArray, List.set_cons_zero, List.set_cons_succ]
        refine takeL 5 (v := ?_) rfl (by kernel_rfl) (by kernel_rfl) (by kernel_rfl) (fun _ _ _ h => h) (by kernel_rfl) ?_ (by assumption) ?_
        rotate_left
        · intro w hSw; (try dsimp only at hSw); first | (go_simp; done) | (go_simp; with_reducible rfl)
        try simp only [Act.put, List.setIfInBounds_toArray, List.set_cons_zero, List.set_cons_succ]
        refine takeL 6 (v := ?_) rfl (by kernel_rfl) (by kernel_rfl) (by kernel_rfl) (fun _ _ _ h => h) (by kernel_rfl) ?_ (by assumption) ?_
        rotate_left
        · intro w hSw; (try dsimp only at hSw); first | (go_simp; done) | (go_simp; with_reducible rfl)
        try simp only [Act.put, List.setIfInBounds_toArray, List.set_cons_zero, List.set_cons_succ]
        refine takeL 7 (v := ?_) rfl (by kernel_rfl) (by kernel_rfl) (by kernel_rfl) (fun _ _ _ h => h) (by kernel_rfl) ?_ (by assumption) ?_
        rotate_left
        · intro w hSw; (try dsimp only at hSw); first | (go_simp; done) | (go_simp; with_reducible rfl)
        try simp only [Act.put, List.setIfInBounds_toArray, List.set_cons_zero, List.set_cons_succ]
        refine takeL 8 (v := ?_) rfl (by kernel_rfl) (by kernel_rfl) (by kernel_rfl) (fun _ _ _ h => h) (by kernel_rfl) ?_ (by assumption) ?_
        rotate_left
        · intro w hSw; (try dsimp only at hSw); first | (go_simp; done) | (go_simp; with_reducible rfl)
        try simp only [Act.put, List.setIfInBounds_toArray, List.set_cons_zero, List.set_cons_succ]
        refine takeL 9 (v := ?_) rfl (by kernel_rfl) (by kernel_rfl) (by kernel_rfl) (fun _ _ _ h => h) (by kernel_rfl) ?_ (by assumption) ?_
        rotate_left
        · intro w hSw; (try dsimp only at hSw); first | (go_simp; done) | (go_simp; with_reducible rfl)
        try simp only [Act.put, List.setIfInBounds_toArray, List.set_cons_zero, List.set_cons_succ]
        refine takeL 10 (v := ?_) rfl (by kernel_rfl) (by kernel_rfl) (by kernel_rfl) (fun _ _ _ h => h) (by kernel_rfl) ?_ (by assumption) ?_
        rotate_left
        · intro w hSw; (try dsimp only at hSw); first | (go_simp; done) | (go_simp; with_reducible rfl)
        try simp only [Act.put, List.setIfInBounds_toArray, List.set_cons_zero, List.set_cons_succ]
        refine wpAnyH_done (by kernel_rfl) ?_ _
        refine NoPanic.normal ?_
        go_wp2_with fail
        go_ret
        exact ⟨by rw [HV2.out]; rfl, LZ.out⟩
      | true =>
        have HV2 : Hid (R = wv + l) := HVV.out
        go_wp2_with fail
        refine wp_region_noPanic ?_
        refine wp_region_held_drew (S := fun w' => (w'.cell? ⟨gA, 0, none⟩ = some (.string q.sum) ∧ w'.cell? ⟨gA, 1, none⟩ = some (.int .i64 q.work) ∧ w'.cell? ⟨gA, 2, none⟩ = some (.int .i64 q.count)) ∧ (w'.cell? ⟨g0 + 1, 0, none⟩ = some (.slice (some ⟨s.g, 0, none⟩) s.n s.c)) ∧ (w'.cell? ⟨s.g, k * 3, none⟩ = some (.string p.sum) ∧ w'.cell? ⟨s.g, k * 3 + 1, none⟩ = some (.int .i64 p.work) ∧ w'.cell? ⟨s.g, k * 3 + 2, none⟩ = some (.int .i64 p.count))) (by kernel_rfl) (hst) (fun hHeld => ?_)
        refine takeL 0 (v := ?_) rfl (by kernel_rfl) (by kernel_rfl) (by kernel_rfl) (fun _ _ _ h => h) (by kernel_rfl) ?_ (by assumption) ?_
        rotate_left
        · intro w hSw; (try dsimp only at hSw); first | (go_simp; done) | (go_simp; with_reducible rfl)
        try simp only [Act.put, List.setIfInBounds_toArray, List.set_cons_zero, List.set_cons_succ]
        refine takeL 1 (v := ?_) rfl (by kernel_rfl) (by kernel_rfl) (by kernel_rfl) (fun _ _ _ h => h) (by kernel_rfl) ?_ (by assumption) ?_
        rotate_left
        · intro w hSw; (try dsimp only at hSw); first | (go_simp; done) | (go_simp; with_reducible rfl)
        try simp only [Act.put, List.setIfInBounds_toArray, List.set_cons_zero, List.set_cons_succ]
        refine takeL 2 (v := ?_) rfl (by kernel_rfl) (by kernel_rfl) (by kernel_rfl) (fun _ _ _ h => h) (by kernel_rfl) ?_ (by assumption) ?_
        rotate_left
        · intro w hSw; (try dsimp only at hSw); first | (go_simp; done) | (go_simp; with_reducible rfl)
        try simp only [Act.put, List.setIfInBounds_toArray, List.set_cons_zero, List.set_cons_succ]
        refine takeL 3 (v := ?_) rfl (by kernel_rfl) (by kernel_rfl) (by kernel_rfl) (fun _ _ _ h => h) (by kernel_rfl) ?_ (by assumption) ?_
        rotate_left
        · intro w hSw; (try dsimp only at hSw); first | (go_simp; done) | (go_simp; with_reducible rfl)
        try simp only [Act.put, List.setIfInBounds_toArray, List.set_cons_zero, List.set_cons_succ]
        refine takeL 4 (v := ?_) rfl (by kernel_rfl) (by kernel_rfl) (by kernel_rfl) (fun _ _ _ h => h) (by kernel_rfl) ?_ (by assumption) ?_
        rotate_left
        · intro w hSw; (try dsimp only at hSw); first | (go_simp; done) | (go_simp; with_reducible rfl)
        try simp only [Act.put, List.setIfInBounds_toArray, List.set_cons_zero, List.set_cons_succ]
        refine takeL 5 (v := ?_) rfl (by kernel_rfl) (by kernel_rfl) (by kernel_rfl) (fun _ _ _ h => h) (by kernel_rfl) ?_ (by assumption) ?_
        rotate_left
        · intro w hSw; (try dsimp only at hSw); first | (go_simp; done) | (go_simp; with_reducible rfl)
        try simp only [Act.put, List.setIfInBounds_toArray, List.set_cons_zero, List.set_cons_succ]
        refine takeL 6 (v := ?_) rfl (by kernel_rfl) (by kernel_rfl) (by kernel_rfl) (fun _ _ _ h => h) (by kernel_rfl) ?_ (by assumption) ?_
        rotate_left
        · intro w hSw; (try dsimp only at hSw); first | (go_simp; done) | (go_simp; with_reducible rfl)
        try simp only [Act.put, List.setIfInBounds_toArray, List.set_cons_zero, List.set_cons_succ]
        refine takeL 7 (v := ?_) rfl (by kernel_rfl) (by kernel_rfl) (by kernel_rfl) (fun _ _ _ h => h) (by kernel_rfl) ?_ (by assumption) ?_
        rotate_left
        · intro w hSw; (try dsimp only at hSw); first | (go_simp; done) | (go_simp; with_reducible rfl)
        try simp only [Act.put, List.setIfInBounds_toArray, List.set_cons_zero, List.set_cons_succ]
        refine takeL 8 (v := ?_) rfl (by kernel_rfl) (by kernel_rfl) (by kernel_rfl) (fun _ _ _ h => h) (by kernel_rfl) ?_ (by assumption) ?_
        rotate_left
        · intro w hSw; (try dsimp only at hSw); first | (go_simp; done) | (go_simp; with_reducible rfl)
        try simp only [Act.put, List.setIfInBounds_toArray, List.set_cons_zero, List.set_cons_succ]
        refine takeL 9 (v := ?_) rfl (by kernel_rfl) (by kernel_rfl) (by kernel_rfl) (fun _ _ _ h => h) (by kernel_rfl) ?_ (by assumption) ?_
        rotate_left
        · intro w hSw; (try dsimp only at hSw); first | (go_simp; done) | (go_simp; with_reducible rfl)
        try simp only [Act.put, List.setIfInBounds_toArray, List.set_cons_zero, List.set_cons_succ]
        refine takeL 10 (v := ?_) rfl (by kernel_rfl) (by kernel_rfl) (by kernel_rfl) (fun _ _ _ h => h) (by kernel_rfl) ?_ (by assumption) ?_
        rotate_left
        · intro w hSw; (try dsimp only at hSw); first | (go_simp; done) | (go_simp; with_reducible rfl)
        try simp only [Act.put, List.setIfInBounds_toArray, List.set_cons_zero, List.set_cons_succ]
        refine wpAnyH_done (by kernel_rfl) ?_ _
        refine NoPanic.normal ?_
        go_wp2_with fail
        refine hmz.mono ?_
        rintro e w7 ⟨rfl, b7⟩
        go_wp2_with fail
        go_ret
        exact ⟨by rw [HV2.out]; rfl, LZ.out.trans (b7.mono LZ.out.size)⟩


end Go.Proofs.YtjeldedjhlicmaaDoor

set_option linter.unusedVariables false
namespace Go.Proofs.YtjeldedjhlicmaaDoor
open Go.ChangeShapes Go.WideShapes Go.ChangeAt Go.RowKit Go.Deep

set_option maxHeartbeats 4000000 in
set_option maxRecDepth 100000 in
theorem specRangeCheck (root : ByteArray) (h : HeadV) (a : Int) (s : PrfV) (w : World) (hS : PrfAt s w) (hp : h.prev.size ≤ maxLen) (hr : h.root.size ≤ maxLen) (hpz : ∀ i, i < s.n → (s.ps.getD i default).sum.size ≤ maxLen) (hz : ∀ i, i < s.sn → (s.ss.getD i default).sum.size ≤ maxLen) :
    Calls Tryd.prog 31 #[.string root, headVal h, .int .i64 a, prfVal s] w fun e w' => e = .returned (.int .i64 (checkV root h a s.ps s.ss)) ∧ Below w.heap.size w w' := by
  have HS : Hid (PrfAt s w) := hS
  have HN : Hid (s.n = s.ps.length ∧ s.sn = s.ss.length) := ⟨hS.pl, hS.tl⟩
  have hpm := hS.pm
  have hro := fun (w' : World) (hb : Below w.heap.size w w') => specL5Ok s.g s.n s.c s.ps w' (HS.out.below hb).p hS.pl (by omega) (fun i hi => hpz i (by rw [hS.pl]; exact hi))
  have hho := fun w' => specL3Ok h w' hp hr
  have HNO : Hid (¬ (headOkB h = true ∧ 0 ≤ a ∧ s.ss.length ≤ 8 ∧ rangeOkB s.ps = true ∧ (⟨(rangeRoot s.ps).toArray⟩ : ByteArray) = root) → checkV root h a s.ps s.ss = -1) := fun hn => check_no hn
  have HCK : Hid (headOkB h = true → 0 ≤ a → s.ss.length ≤ 8 → rangeOkB s.ps = true → ∀ (w' : World), Below w.heap.size w w' → Calls Tryd.prog 63 #[.string root, headVal h, .int .i64 a, prfVal s] w' fun e w'' => e = .returned (.int .i64 (checkV root h a s.ps s.ss)) ∧ Below w'.heap.size w' w'') := fun h1 h2 h3 h4 w' hb => specL5Check root h a s w' (HS.out.below hb) h1 h2 h3 h4 hz
  generalize checkV root h a s.ps s.ss = R at HNO HCK ⊢
  clear hS hp hr hpz hz
  unfold headVal prfVal at HCK
  unfold headVal prfVal
  have C0 : Hid (ChkW w _ w.heap.size h s) := ChkW.new w h s
  go_enter Tryd.func31, Tryd.ntmps31
  go_wp2_with fail
  generalize (w.alloc (.cells #[.string h.prev, .string h.root, .int .i64 h.time, .int .i64 h.diff, .int .i64 h.nonce] 41)).alloc (.cells #[.slice (some ⟨s.g, 0, none⟩) s.n s.c, .slice (some ⟨s.sg, 0, none⟩) s.sn s.sc] 47) = W0 at C0 ⊢
  obtain ⟨g0, hg0⟩ : ∃ g0, g0 = w.heap.size := ⟨_, rfl⟩
  rw [← hg0] at C0 ⊢
  clear hg0
  have h0 := hro _ C0.out.l
  clear hro
  cases hrk : rangeOkB s.ps with
  | false =>
    have HV : Hid (R = -1) := HNO.out (fun hh => by have h1 := hh.2.2.2.1; rw [hrk] at h1; cases h1)
    rw [hrk] at h0
    clear HNO HCK hho hrk
    refine h0.mono ?_
    rintro e w1 ⟨rfl, b1⟩
    go_wp2_with fail
    go_ret
    exact ⟨by rw [HV.out]; rfl, C0.out.l.trans (b1.mono C0.out.l.size)⟩
  | true =>
  have HRK : Hid (rangeOkB s.ps = true) := hrk
  rw [hrk] at h0
  clear hrk
  refine h0.mono ?_
  rintro e w1 ⟨rfl, b1⟩
  have C1 : Hid (ChkW w w1 g0 h s) := C0.out.call b1
  clear C0 b1 h0
  obtain ⟨⟨e0, e1, e2, e3, e4⟩, p0, p1⟩ := C1.out.cells
  cases hok : headOkB h with
  | false =>
    have HV : Hid (R = -1) := HNO.out (by rw [hok]; intro hh; exact absurd hh.1 (by decide))
    rw [hok] at hho
    clear HNO HCK hok
    go_wp2_with fail
    refine (hho _).mono ?_
    rintro e w2 ⟨rfl, b2⟩
    go_wp2_with fail
    go_ret
    exact ⟨by rw [HV.out]; rfl, C1.out.l.trans (b2.mono C1.out.l.size)⟩
  | true =>
  have HCK := HCK.out hok
  have HCK : Hid _ := HCK
  rw [hok] at hho
  clear hok
  go_wp2_with fail
  refine (hho _).mono ?_
  rintro e w2 ⟨rfl, b2⟩
  have C2 : Hid (ChkW w w2 g0 h s) := C1.out.call b2
  clear C1 b2 hho e0 e1 e2 e3 e4 p0 p1
  obtain ⟨⟨e0, e1, e2, e3, e4⟩, p0, p1⟩ := C2.out.cells
  by_cases ha0 : a < 0
  · have HV : Hid (R = -1) := HNO.out (fun hh => absurd hh.2.1 (by omega))
    clear HNO HCK
    go_wp2_with fail
    go_ret
    exact ⟨by rw [HV.out]; rfl, C2.out.l⟩
  by_cases h8 : (8 : Int) < (s.sn : Int)
  · have HV : Hid (R = -1) := HNO.out (fun hh => by have h1 := hh.2.2.1; have := HN.out.2; omega)
    clear HNO HCK
    go_wp2_with fail
    go_ret
    exact ⟨by rw [HV.out]; rfl, C2.out.l⟩
  have hck := HCK.out (by omega) (by have := HN.out.2; omega) HRK.out w2 C2.out.l
  clear HNO HCK
  go_wp2_with fail
  refine hck.mono ?_
  rintro e w3 ⟨rfl, b3⟩
  go_wp2_with fail
  go_ret
  exact ⟨rfl, C2.out.l.trans (b3.mono C2.out.l.size)⟩

theorem CopyPrf.at {B : Nat} {L : LPrf} {s : PrfV} {w : World} (h : CopyPrf B L s w) (hs : SmallPrf L) (hp : L.pl.length = L.pn) (hq : L.sl.length = L.sn) : PrfAt s w := by
  refine ⟨by rw [h.ps]; exact h.p.at 3 pEnc_len, by rw [h.pn, h.ps, hp], by rw [h.pn]; exact hs.pn, by rw [h.pc]; exact Nat.le_refl _, by rw [h.ss]; exact h.st.at 3 pEnc_len, by rw [h.sn, h.ss, hq], by rw [h.sn]; exact hs.sn⟩
/-- What stands while the statement is walked: the head, the proof, as they were handed in. -/
structure LawW (w wr : World) (g0 : Nat) (h : HeadV) (L : LPrf) : Prop where
  a : CBk wr g0 35 #[.string h.prev, .string h.root, .int .i64 h.time, .int .i64 h.diff, .int .i64 h.nonce]
  b : CBk wr (g0 + 1) 53 #[.slice L.pa L.pn L.pc, .slice L.sa L.sn L.sc]
  l : Below w.heap.size w wr
  lo : w.heap.size ≤ g0
theorem LawW.call {w wr w' : World} {g0 : Nat} {h : HeadV} {L : LPrf} (c : LawW w wr g0 h L) (hb : Below wr.heap.size wr w') : LawW w w' g0 h L :=
  ⟨c.a.call hb, c.b.call hb, c.l.trans (hb.mono c.l.size), c.lo⟩
theorem LawW.cells {w wr : World} {g0 : Nat} {h : HeadV} {L : LPrf} (c : LawW w wr g0 h L) : (wr.cell? ⟨g0, 0, none⟩ = some (.string h.prev) ∧ wr.cell? ⟨g0, 1, none⟩ = some (.string h.root) ∧ wr.cell? ⟨g0, 2, none⟩ = some (.int .i64 h.time) ∧ wr.cell? ⟨g0, 3, none⟩ = some (.int .i64 h.diff) ∧ wr.cell? ⟨g0, 4, none⟩ = some (.int .i64 h.nonce)) ∧ (wr.cell? ⟨g0 + 1, 0, none⟩ = some (.slice L.pa L.pn L.pc) ∧ wr.cell? ⟨g0 + 1, 1, none⟩ = some (.slice L.sa L.sn L.sc)) := ⟨c.a.cells5, c.b.out2⟩
theorem LawW.new (w : World) (h : HeadV) (L : LPrf) : LawW w ((w.alloc (.cells #[.string h.prev, .string h.root, .int .i64 h.time, .int .i64 h.diff, .int .i64 h.nonce] 35)).alloc (.cells #[.slice L.pa L.pn L.pc, .slice L.sa L.sn L.sc] 53)) w.heap.size h L := by
  refine ⟨(CBk.new w _ _).alloc _, ?_, ((Below.refl _ w).alloc (Nat.le_refl _) _).alloc (by simp) _, Nat.le_refl _⟩
  have := CBk.new (w.alloc (.cells #[.string h.prev, .string h.root, .int .i64 h.time, .int .i64 h.diff, .int .i64 h.nonce] 35)) 53 #[.slice L.pa L.pn L.pc, .slice L.sa L.sn L.sc]
  rwa [show (w.alloc (.cells #[.string h.prev, .string h.root, .int .i64 h.time, .int .i64 h.diff, .int .i64 h.nonce] 35)).heap.size = w.heap.size + 1 from by simp] at this

set_option maxHeartbeats 8000000 in
set_option maxRecDepth 100000 in
theorem walk_FnExactRangeCheck (root : ByteArray) (h : HeadV) (a : Int) (L : LPrf) (w : World) (hr : root.size ≤ maxLen) (hw0 : HeadWf h) (ha : (Lit.int .i64 a).wf = true) (h0 : IsPrf w L) (hK : RowG w shaK) (hP : TabP w) :
    Calls Tryd.prog 7 #[.string root, .agg #[.string h.prev, .string h.root, .int .i64 h.time, .int .i64 h.diff, .int .i64 h.nonce], .int .i64 a, lprfVal L] w fun e w' => e = .returned (.bool true) ∧ Below w.heap.size w w' := by
  have hw : wfHead h := ⟨hw0.p, hw0.r⟩
  have ham := (bounds_i64 ha).2
  have HK : Hid (RowG w shaK) := hK
  have HP : Hid (TabP w) := hP
  have HLN : Hid (L.pl.length = L.pn ∧ L.sl.length = L.sn) := ⟨h0.p.len, h0.s.len⟩
  have HSH : Hid (∀ w1, Calls Tryd.prog 18 #[.agg #[.string h.prev, .string h.root, .int .i64 h.time, .int .i64 h.diff, .int .i64 h.nonce], .int .i64 ((1048576 : Nat) : Int)] w1 fun e w' => Below w1.heap.size w1 w' ∧ (e = .returned (.int .i64 (-1)) ∨ ∃ q : Nat, e = .returned (.int .i64 (q : Int)) ∧ q ≤ 1048576 ∧ smallHead h)) := fun w1 => szHead1 h 1048576 w1 (Nat.le_refl _) hw
  have HSZ : Hid (∀ (r : Nat) w1, r ≤ 1048576 → Below w.heap.size w w1 → Calls Tryd.prog 30 #[lprfVal L, .int .i64 (r : Int)] w1 fun e w' => Below w1.heap.size w1 w' ∧ (e = .returned (.int .i64 (-1)) ∨ ∃ r : Nat, e = .returned (.int .i64 (r : Int)) ∧ r ≤ 1048576 ∧ SmallPrf L)) := fun r w1 h1 hb => szProof1 L r h1 w1 (h0.below hb)
  have HTO : Hid (SmallPrf L → ∀ w1, Below w.heap.size w w1 → Calls Tryd.prog 32 #[lprfVal L] w1 fun e w' => ∃ s, e = .returned (prfVal s) ∧ CopyPrf w1.heap.size L s w' ∧ Below w1.heap.size w1 w') := fun hs w1 hb => toProof1 L w1 w h0 hb hs
  have hth := fun w1 => toHeadA h w1
  have HSP : Hid (SmallPrf L → smallHead h → ∀ (s : PrfV) (B : Nat) w1, CopyPrf B L s w1 → Calls Tryd.prog 31 #[.string root, .agg #[.string h.prev, .string h.root, .int .i64 h.time, .int .i64 h.diff, .int .i64 h.nonce], .int .i64 a, prfVal s] w1 fun e w' => e = .returned (.int .i64 (checkV root h a L.pl L.sl)) ∧ Below w1.heap.size w1 w') := fun hs hh s B w1 hc => by
    have := specRangeCheck root h a s w1 (hc.at hs HLN.out.1 HLN.out.2) (by have := hh.1; unfold maxLen; omega) (by have := hh.2; unfold maxLen; omega) (fun i hi => by rw [hc.ps]; rw [hc.pn] at hi; have := hs.ps i hi; unfold maxLen; omega) (fun i hi => by rw [hc.ss]; rw [hc.sn] at hi; have := hs.ss i hi; unfold maxLen; omega)
    rw [hc.ps, hc.ss] at this
    exact this
  have HIM : Hid (SmallPrf L → ∀ (s : PrfV) (B : Nat) w1, CopyPrf B L s w1 → Below w.heap.size w w1 → Calls Tryd.prog 33 #[.string root, .agg #[.string h.prev, .string h.root, .int .i64 h.time, .int .i64 h.diff, .int .i64 h.nonce], .int .i64 a, prfVal s] w1 fun e w' => e = .returned (.int .i64 (checkV root h a L.pl L.sl)) ∧ Below w1.heap.size w1 w') := fun hs s B w1 hc hb => by
    have := implRangeCheck root h a s w1 ham (hc.at hs HLN.out.1 HLN.out.2) (HK.out.below hb HK.out.lt) (TabP.below HP.out hb (Nat.le_refl _))
    rw [hc.ps, hc.ss] at this
    exact this
  have HEQ : Hid (SmallPrf L → ∀ (s t : PrfV) (B C : Nat) w1, CopyPrf B L s w1 → CopyPrf C L t w1 → Calls Tryd.prog 27 #[prfVal s, prfVal t] w1 fun e w' => e = .returned (.bool true) ∧ Below w1.heap.size w1 w') := fun hs s t B C w1 h1 h2 => eqProof1 L s t B C w1 hs HLN.out.1 HLN.out.2 h1 h2
  clear h0 hK hP HLN ha ham hw hw0
  generalize checkV root h a L.pl L.sl = R at HSP HIM
  unfold lprfVal at HSZ HTO ⊢
  unfold prfVal at HTO HSP HIM HEQ
  by_cases hrz : (1048576 : Int) < (root.size : Int)
  · clear HSH HSZ HTO hth HSP HIM HEQ
    have L0 : Hid (Below w.heap.size w _) := (LawW.new w h L).l
    go_enter Tryd.func7, Tryd.ntmps7
    go_wp2_with fail
    go_ret
    exact ⟨rfl, L0.out⟩
  have C0 : Hid (LawW w _ w.heap.size h L) := LawW.new w h L
  go_enter Tryd.func7, Tryd.ntmps7
  go_wp2_with fail
  generalize (w.alloc (.cells #[.string h.prev, .string h.root, .int .i64 h.time, .int .i64 h.diff, .int .i64 h.nonce] 35)).alloc (.cells #[.slice L.pa L.pn L.pc, .slice L.sa L.sn L.sc] 53) = W0 at C0 ⊢
  obtain ⟨g0, hg0⟩ : ∃ g0, g0 = w.heap.size := ⟨_, rfl⟩
  rw [← hg0] at C0 ⊢
  clear hg0 hrz
  refine (HSH.out _).mono ?_
  rintro e w1 ⟨b1, rfl | ⟨r, rfl, hr1, hsh⟩⟩
  · have C1 : Hid (LawW w w1 g0 h L) := C0.out.call b1
    clear HSZ HTO hth HSP HIM HEQ
    go_wp2_with fail
    go_ret
    exact ⟨rfl, C1.out.l⟩
  have C1 : Hid (LawW w w1 g0 h L) := C0.out.call b1
  clear C0 b1 HSH
  have hr0 : ¬ (r : Int) < 0 := by omega
  obtain ⟨⟨e0, e1, e2, e3, e4⟩, p0, p1⟩ := C1.out.cells
  go_wp2_with fail
  refine (HSZ.out r _ hr1 C1.out.l).mono ?_
  rintro e w2 ⟨b2, rfl | ⟨r2, rfl, hr2, hsm⟩⟩
  · have C2 : Hid (LawW w w2 g0 h L) := C1.out.call b2
    clear HTO hth HSP HIM HEQ
    go_wp2_with fail
    go_ret
    exact ⟨rfl, C2.out.l⟩
  have C2 : Hid (LawW w w2 g0 h L) := C1.out.call b2
  have HTO : Hid _ := HTO.out hsm
  have HSP : Hid _ := HSP.out hsm hsh
  have HIM : Hid _ := HIM.out hsm
  have HEQ : Hid _ := HEQ.out hsm
  clear C1 b2 HSZ hsm hsh hr0 hr1
  have hr0 : ¬ (r2 : Int) < 0 := by omega
  clear e0 e1 e2 e3 e4 p0 p1
  obtain ⟨⟨e0, e1, e2, e3, e4⟩, p0, p1⟩ := C2.out.cells
  have CD : Hid (LawW w w2.drew g0 h L) := C2.out.call (Below.refl _ _).drew
  go_wp2_with fail
  go_region_held3 (fun w' => (w'.cell? ⟨g0, 0, none⟩ = some (.string h.prev) ∧ w'.cell? ⟨g0, 1, none⟩ = some (.string h.root) ∧ w'.cell? ⟨g0, 2, none⟩ = some (.int .i64 h.time) ∧ w'.cell? ⟨g0, 3, none⟩ = some (.int .i64 h.diff) ∧ w'.cell? ⟨g0, 4, none⟩ = some (.int .i64 h.nonce)) ∧ (w'.cell? ⟨g0 + 1, 0, none⟩ = some (.slice L.pa L.pn L.pc) ∧ w'.cell? ⟨g0 + 1, 1, none⟩ = some (.slice L.sa L.sn L.sc)))
    (first | exact C2.out.cells | exact CD.out.cells | exact C3.out.cells | exact C4.out.cells | exact C5.out.cells)
    (first
      | (go_at_call 21; refine (hth _).mono ?_; rintro e w3 ⟨rfl, b3⟩; have C3 : Hid (LawW w w3 g0 h L) := CD.out.call b3)
      | (go_at_call 32; refine (HTO.out _ C3.out.l).mono ?_; rintro e w4 ⟨s4, rfl, c4, b4⟩; have C4 : Hid (LawW w w4 g0 h L) := C3.out.call b4; have K4 : Hid (CopyPrf w3.heap.size L s4 w4) := c4)
      | (go_at_call 31; refine (HSP.out s4 _ _ K4.out).mono ?_; rintro e w5 ⟨rfl, b5⟩; have C5 : Hid (LawW w w5 g0 h L) := C4.out.call b5))
  clear e0 e1 e2 e3 e4 p0 p1 C2 CD C3 C4 c4 K4 b3 b4 b5 hr0
  obtain ⟨⟨e0, e1, e2, e3, e4⟩, p0, p1⟩ := C5.out.cells
  go_wp2_with fail
  refine (HTO.out _ C5.out.l).mono ?_
  rintro e w6 ⟨s6, rfl, c6, b6⟩
  have C6 : Hid (LawW w (w6.alloc (.cells #[.slice (some ⟨s6.g, 0, none⟩) s6.n s6.c, .slice (some ⟨s6.sg, 0, none⟩) s6.sn s6.sc] 47)) g0 h L) := (C5.out.call b6).call ((Below.refl _ w6).alloc (Nat.le_refl _) _)
  have X6 : Hid (CBk (w6.alloc (.cells #[.slice (some ⟨s6.g, 0, none⟩) s6.n s6.c, .slice (some ⟨s6.sg, 0, none⟩) s6.sn s6.sc] 47)) w6.heap.size 47 #[.slice (some ⟨s6.g, 0, none⟩) s6.n s6.c, .slice (some ⟨s6.sg, 0, none⟩) s6.sn s6.sc]) := CBk.new w6 _ _
  have K6 : Hid (CopyPrf w5.heap.size L s6 (w6.alloc (.cells #[.slice (some ⟨s6.g, 0, none⟩) s6.n s6.c, .slice (some ⟨s6.sg, 0, none⟩) s6.sn s6.sc] 47))) := c6.below ((Below.refl _ w6).alloc (Nat.le_refl _) _)
  have HBW : Hid (Below w5.heap.size w5 (w6.alloc (.cells #[.slice (some ⟨s6.g, 0, none⟩) s6.n s6.c, .slice (some ⟨s6.sg, 0, none⟩) s6.sn s6.sc] 47))) := b6.alloc b6.size _
  clear e0 e1 e2 e3 e4 p0 p1 c6 b6
  obtain ⟨⟨e0, e1, e2, e3, e4⟩, p0, p1⟩ := C6.out.cells
  obtain ⟨x0, x1⟩ := X6.out.out2
  go_wp2_with fail
  generalize hwx : w6.alloc (.cells #[.slice (some ⟨s6.g, 0, none⟩) s6.n s6.c, .slice (some ⟨s6.sg, 0, none⟩) s6.sn s6.sc] 47) = wx at C6 X6 K6 e0 e1 e2 e3 e4 p0 p1 x0 x1 ⊢
  obtain ⟨g9, hg9⟩ : ∃ g9, g9 = w6.heap.size := ⟨_, rfl⟩
  rw [← hg9] at X6 x0 x1 ⊢
  clear hg9 hwx HBW
  have CX : Hid (LawW w wx.drew g0 h L) := C6.out.call (Below.refl _ _).drew
  have XX : Hid (CBk wx.drew g9 47 #[.slice (some ⟨s6.g, 0, none⟩) s6.n s6.c, .slice (some ⟨s6.sg, 0, none⟩) s6.sn s6.sc]) := X6.out
  have KX : Hid (CopyPrf w5.heap.size L s6 wx.drew) := K6.out.below (Below.refl _ _).drew
  go_region_held3 (fun w' => ((w'.cell? ⟨g0, 0, none⟩ = some (.string h.prev) ∧ w'.cell? ⟨g0, 1, none⟩ = some (.string h.root) ∧ w'.cell? ⟨g0, 2, none⟩ = some (.int .i64 h.time) ∧ w'.cell? ⟨g0, 3, none⟩ = some (.int .i64 h.diff) ∧ w'.cell? ⟨g0, 4, none⟩ = some (.int .i64 h.nonce)) ∧ (w'.cell? ⟨g0 + 1, 0, none⟩ = some (.slice L.pa L.pn L.pc) ∧ w'.cell? ⟨g0 + 1, 1, none⟩ = some (.slice L.sa L.sn L.sc))) ∧ (w'.cell? ⟨g9, 0, none⟩ = some (.slice (some ⟨s6.g, 0, none⟩) s6.n s6.c) ∧ w'.cell? ⟨g9, 1, none⟩ = some (.slice (some ⟨s6.sg, 0, none⟩) s6.sn s6.sc)))
    (first | exact ⟨C6.out.cells, X6.out.out2⟩ | exact ⟨CX.out.cells, XX.out.out2⟩ | exact ⟨C7.out.cells, X7.out.out2⟩ | exact ⟨C8.out.cells, X8.out.out2⟩)
    (first
      | (go_at_call 21; refine (hth _).mono ?_; rintro e w7 ⟨rfl, b7⟩; have C7 : Hid (LawW w w7 g0 h L) := CX.out.call b7; have X7 : Hid (CBk w7 g9 47 #[.slice (some ⟨s6.g, 0, none⟩) s6.n s6.c, .slice (some ⟨s6.sg, 0, none⟩) s6.sn s6.sc]) := XX.out.call b7; have K7 : Hid (CopyPrf w5.heap.size L s6 w7) := KX.out.below b7)
      | (go_at_call 33; refine (HIM.out s6 _ _ K7.out C7.out.l).mono ?_; rintro e w8 ⟨rfl, b8⟩; have C8 : Hid (LawW w w8 g0 h L) := C7.out.call b8; have X8 : Hid (CBk w8 g9 47 #[.slice (some ⟨s6.g, 0, none⟩) s6.n s6.c, .slice (some ⟨s6.sg, 0, none⟩) s6.sn s6.sc]) := X7.out.call b8; have K8 : Hid (CopyPrf w5.heap.size L s6 w8) := K7.out.below b8))
  clear e0 e1 e2 e3 e4 p0 p1 x0 x1 C6 X6 K6 CX XX KX C7 X7 K7 b7 b8
  have hRR : (R != R) = false := by simp
  obtain ⟨⟨e0, e1, e2, e3, e4⟩, p0, p1⟩ := C8.out.cells
  obtain ⟨x0, x1⟩ := X8.out.out2
  have CX : Hid (LawW w w8.drew g0 h L) := C8.out.call (Below.refl _ _).drew
  have XX : Hid (CBk w8.drew g9 47 #[.slice (some ⟨s6.g, 0, none⟩) s6.n s6.c, .slice (some ⟨s6.sg, 0, none⟩) s6.sn s6.sc]) := X8.out
  have KX : Hid (CopyPrf w5.heap.size L s6 w8.drew) := K8.out.below (Below.refl _ _).drew
  go_wp2_with fail
  go_region_held3 (fun w' => (w'.cell? ⟨g0 + 1, 0, none⟩ = some (.slice L.pa L.pn L.pc) ∧ w'.cell? ⟨g0 + 1, 1, none⟩ = some (.slice L.sa L.sn L.sc)) ∧ (w'.cell? ⟨g9, 0, none⟩ = some (.slice (some ⟨s6.g, 0, none⟩) s6.n s6.c) ∧ w'.cell? ⟨g9, 1, none⟩ = some (.slice (some ⟨s6.sg, 0, none⟩) s6.sn s6.sc)))
    (first | exact ⟨C8.out.cells.2, X8.out.out2⟩ | exact ⟨CX.out.cells.2, XX.out.out2⟩ | exact ⟨C9.out.cells.2, X9.out.out2⟩ | exact ⟨CT.out.cells.2, XT.out.out2⟩)
    (first
      | (go_at_call 32; refine (HTO.out _ CX.out.l).mono ?_; rintro e w9 ⟨s9, rfl, c9, b9⟩; have C9 : Hid (LawW w w9 g0 h L) := CX.out.call b9; have X9 : Hid (CBk w9 g9 47 #[.slice (some ⟨s6.g, 0, none⟩) s6.n s6.c, .slice (some ⟨s6.sg, 0, none⟩) s6.sn s6.sc]) := XX.out.call b9; have K9 : Hid (CopyPrf w5.heap.size L s6 w9) := KX.out.below b9; have Q9 : Hid (CopyPrf w8.drew.heap.size L s9 w9) := c9)
      | (go_at_call 27; refine (HEQ.out s6 s9 _ _ _ K9.out Q9.out).mono ?_; rintro e wt ⟨rfl, bt⟩; have CT : Hid (LawW w wt g0 h L) := C9.out.call bt; have XT : Hid (CBk wt g9 47 #[.slice (some ⟨s6.g, 0, none⟩) s6.n s6.c, .slice (some ⟨s6.sg, 0, none⟩) s6.sn s6.sc]) := X9.out.call bt))
  go_wp2_with fail
  go_ret
  exact ⟨rfl, CT.out.l⟩

end Go.Proofs.YtjeldedjhlicmaaDoor

namespace Go.Proofs.YtjeldedjhlicmaaDoor
open Go.ChangeShapes Go.WideShapes Go.ChangeAt Go.RowKit
open Go.ChangeMaps (open_string shut_string)
set_option linter.unusedVariables false

theorem own_fnExactRangeCheck : ownKnob Tryd.prog.godebug = none := by kernel_rfl
theorem laid_fnExactRangeCheck : laidOutB Tryd.prog = true := by kernel_rfl
theorem table_fnExactRangeCheck {W : World} (h : laidMetH Tryd.prog Rows.fnExactRangeCheckRow.laid W) : RowG W shaK ∧ TabP W := tabs_of_laid h

theorem met_fnExactRangeCheck (os : Os) : laidMet Tryd.prog Rows.fnExactRangeCheckRow.laid ((laidWorld os).forCall (fun _ _ => 0) ⟨#[], #[.string ByteArray.empty, .agg #[.string ByteArray.empty, .string ByteArray.empty, .int .i64 0, .int .i64 0, .int .i64 0], .int .i64 0, .agg #[.slice none 0 0, .slice none 0 0]], []⟩).memory :=
  laidMet_of_run' 8 (by kernel_rfl) (by kernel_rfl)
theorem reads_fnExactRangeCheck (os : Os) {H : Type} (enc : TypeId × Value → H) : ∃ places, DataW.whole enc Tryd.prog ((laidWorld os).forCall (fun _ _ => 0) ⟨#[], #[.string ByteArray.empty, .agg #[.string ByteArray.empty, .string ByteArray.empty, .int .i64 0, .int .i64 0, .int .i64 0], .int .i64 0, .agg #[.slice none 0 0, .slice none 0 0]], []⟩).memory Tryd.f7.params.toList Rows.fnExactRangeCheckSpec.vars false (#[.string ByteArray.empty, .agg #[.string ByteArray.empty, .string ByteArray.empty, .int .i64 0, .int .i64 0, .int .i64 0], .int .i64 0, .agg #[.slice none 0 0, .slice none 0 0]] : Array Value).toList 8 = some ([.lit (.string []), .agg [.lit (.string []), .lit (.string []), .lit (.int .i64 0), .lit (.int .i64 0), .lit (.int .i64 0)], .lit (.int .i64 0), .agg [.nil, .nil]], [Rows.laid_loop_example_cordillera_impl_sumRounds], places) :=
  ⟨MemPlace.row ⟨0, 0, none⟩ 64, by kernel_rfl⟩

set_option maxRecDepth 100000 in
theorem lifted_fnExactRangeCheck (os : Os) (started : os.Started) (H : Type) (enc : TypeId × Value → H) (F : Stop.Interp) :
    ReturnsInHanded {} Tryd.checked os 7 .any ((OpenSpec.ofChange Rows.fnExactRangeCheckSpec).preRow enc Tryd.prog Tryd.f7 Rows.fnExactRangeCheckRow.domain false Rows.fnExactRangeCheckRow.laid) (((OpenSpec.ofChange Rows.fnExactRangeCheckSpec).at F).post enc Tryd.prog Tryd.f7 false true false false) := by
  obtain ⟨places, hx⟩ := reads_fnExactRangeCheck os enc
  refine returnsInHanded_of_row (C := Tryd.checked) (s := OpenSpec.ofChange Rows.fnExactRangeCheckSpec) own_fnExactRangeCheck started (by kernel_rfl) Tryd.func7
    (witness_row_at (enc := enc) (C := Tryd.checked) false (laidWorld os) #[.string ByteArray.empty, .agg #[.string ByteArray.empty, .string ByteArray.empty, .int .i64 0, .int .i64 0, .int .i64 0], .int .i64 0, .agg #[.slice none 0 0, .slice none 0 0]] rfl (by kernel_rfl) (by kernel_rfl) (by kernel_rfl)
      (OpenSpec.preRow_of_cond 8 hx (by kernel_rfl) (fun k hk => by cases hk) (by kernel_rfl) (met_fnExactRangeCheck os))) ?_
  intro W base args ds gs before hval0 hW _ _ _ hL _ _
  have hval : ∀ (j : Nat) t v, Tryd.f7.params[j]? = some t → args[j]? = some v → Value.okWide Tryd.prog W .any base t v := hval0
  have hW' := hW
  obtain ⟨p, q, hA0, hV, rfl, hfz, hnd⟩ := hW
  have hA : DataW.TrodAll enc Tryd.prog W 0 (fun _ => true) true Tryd.f7.params.toList args.toList ds p := hA0
  rw [Tryd.params7] at hA hval
  obtain ⟨v0, vs0, d0, ds0, p0, q0, hargs, rfl, rfl, h0, r0⟩ := trodAll_cons hA
  obtain ⟨v1, vs1, d1, ds1, p1, q1, rfl, rfl, rfl, h1, r1⟩ := trodAll_cons r0
  obtain ⟨v2, vs2, d2, ds2, p2, q2, rfl, rfl, rfl, h2, r2⟩ := trodAll_cons r1
  obtain ⟨v3, vs3, d3, ds3, p3, q3, rfl, rfl, rfl, h3, r3⟩ := trodAll_cons r2
  obtain ⟨rfl, rfl, rfl⟩ := trodAll_nil r3
  obtain rfl : args = #[v0, v1, v2, v3] := by cases args; simp_all
  obtain ⟨gv, tv, cv, fv, dv, pv, rfl, hgv, htv, hvv, hdv, rfl⟩ := trodVars_one hV
  obtain ⟨a0, rfl, rfl, rfl, w0⟩ := open_string Tryd.underlying9 (hval 0 9 v0 rfl rfl) h0
  have k1 := h1
  have lt1 : ∀ x ∈ p1, x.block < W.heap.size := by obtain ⟨m, hm⟩ := k1; exact DataW.trod_lt m _ _ _ hm
  obtain ⟨a1, rfl, w1⟩ := open_head (hval 1 35 v1 rfl rfl) h1
  obtain ⟨a2, rfl, rfl, rfl, w2⟩ := open_int Tryd.underlying3 (hval 2 3 v2 rfl rfl) h2
  have k3 := h3
  have lt3 : ∀ x ∈ p3, x.block < W.heap.size := by obtain ⟨m, hm⟩ := k3; exact DataW.trod_lt m _ _ _ hm
  obtain ⟨a3, rfl, w3⟩ := open_proof (hval 3 53 v3 rfl rfl) h3
  clear hA0 hval0
  refine (walk_FnExactRangeCheck a0 a1 a2 a3 W w0 w1 w2 w3 (table_fnExactRangeCheck hL).1 (table_fnExactRangeCheck hL).2).mono fun e W' ⟨he, bel⟩ => ?_
  subst he
  obtain ⟨pv', hpv⟩ := varsBack laid_fnExactRangeCheck hgv htv hvv hdv bel
  exact ⟨_, rfl, _, _, _, [], _, pv', hW', trodAll_mk1 (shut_bool Tryd.underlying4 _), (trodAll_cons_mk (shut_string Tryd.underlying9 w0) (trodAll_cons_mk (Below.trod laid_fnExactRangeCheck (by kernel_rfl) (of_decide_eq_true (by kernel_rfl)) k1 bel lt1) (trodAll_cons_mk (shut_int Tryd.underlying3 w2) (trodAll_cons_mk (Below.trod laid_fnExactRangeCheck (by kernel_rfl) (of_decide_eq_true (by kernel_rfl)) k3 bel lt3) trodAll_mk0)))), hpv, bel.frame _, fun h => by cases h⟩

theorem fnExactRangeCheck_said : Rows.FnExactRangeCheckSaid :=
  OpenClaim.holds_of_cond 7 Tryd.f7 rfl rfl rfl rfl rfl rfl rfl ⟨rfl, rfl, rfl, rfl, rfl⟩ rfl rfl rfl rfl rfl (by kernel_rfl) Tryd.func7 (by kernel_rfl)
    (of_decide_eq_true (by kernel_rfl)) (by unfold Func.isWrapper; first | (rw [if_pos (by decide +kernel)]; kernel_rfl) | (rw [if_neg (by decide +kernel)]; exact ⟨rfl, rfl⟩))
    (fun os started H enc _ F => by rw [OpenClaim.pre_eq_preRow]; exact lifted_fnExactRangeCheck os started H enc F)
theorem plain_fnExactRangeCheck (f : FuncId) (fn : Func) (hf : Tryd.pinned.checked.prog.funcNamed "loop.example/cordillera/laws.FnExactRangeCheck" = some f) (hfn : Tryd.pinned.checked.prog.funcs[f]? = some fn) :
    false = Tryd.pinned.checked.prog.looks [] ∧ ∀ (j : Nat) t, fn.params[j]? = some t → Tryd.pinned.checked.prog.wantsStandIn t = false := by
  obtain rfl : f = 7 := Option.some.inj ((show Tryd.prog.funcNamed "loop.example/cordillera/laws.FnExactRangeCheck" = some 7 by kernel_rfl).symm.trans hf) |>.symm
  obtain rfl : fn = Tryd.f7 := (Option.some.inj (Tryd.func7.symm.trans hfn)).symm
  refine ⟨by kernel_rfl, fun j t ht => ?_⟩
  rw [Tryd.params7] at ht
  have hall : ∀ t ∈ (#[9, 35, 3, 53] : Array TypeId), Tryd.prog.wantsStandIn t = false := by
    intro t ht
    simp only [List.mem_toArray, List.mem_cons, List.not_mem_nil, or_false] at ht
    rcases ht with rfl | rfl | rfl | rfl <;> kernel_rfl
  exact hall t (Array.mem_of_getElem? ht)
theorem fnExactRangeCheck_holds : Rows.FnExactRangeCheckCardSaid :=
  Claim7.holds_tied_plain_at .later [] _ _ _ _ fnExactRangeCheck_said (fun _ h => by cases h) (by kernel_rfl) (fun _ h => by cases h) fnExactRangeCheck_row_tie rfl ⟨rfl, rfl⟩ (by kernel_rfl) rfl plain_fnExactRangeCheck (by kernel_rfl)
#print axioms fnExactRangeCheck_holds
end Go.Proofs.YtjeldedjhlicmaaDoor

