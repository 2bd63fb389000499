/-
  How deep an item is: the model, the program, the specification, the walk of the statement.
-/
import Derived.Test.YtjeldedjhlicmabPaidO
import Derived.Test.YtjeldedjhlicmabRangeN
import Derived.Deep.RegionHeld3
set_option linter.unusedVariables false
namespace Go.Proofs.Ytjeldedjhlicmab
open Go.RowKit Go.Deep

/-- How many heads a range has behind a place. -/
def deepV (ps : List PeakV) (a : Int) : Int := if 0 ≤ a ∧ a < (rangeMany ps).1 then (rangeMany ps).1 - 1 - a else -1
theorem many_in (ps : List PeakV) : -1 ≤ (rangeMany ps).1 ∧ (rangeMany ps).1 ≤ 20 := by
  cases h : rangeOkB ps with
  | false => rw [many_no h]; exact ⟨by decide, by decide⟩
  | true =>
    rw [many_yes h]
    have h2 := h
    rw [rangeOkB, Bool.and_eq_true, decide_eq_true_eq] at h2
    refine ⟨?_, h2.2⟩
    have : ∀ k, k ≤ ps.length → 0 ≤ cntTo ps k := by
      intro k
      induction k with
      | zero => intro _; exact Int.le_refl _
      | succ k ih =>
        intro hk
        have h3 := ih (by omega)
        have h4 := rangeOk_at h k (by omega)
        rw [cntTo]
        omega
    have h5 := this ps.length (Nat.le_refl _)
    show (-1 : Int) ≤ cntTo ps ps.length
    omega

set_option maxHeartbeats 4000000 in
set_option maxRecDepth 100000 in
theorem implDeep (L : LPaid) (v : PaidV) (ps : List PeakV) (w : World) (h : AtP w v.s.g ps) (hn : v.s.n = ps.length) (hm : v.s.n ≤ 1048576) :
    Calls Try.prog 18 #[pheadVal L v] w fun e w' => e = .returned (.int .i64 (deepV ps L.a)) ∧ Below w.heap.size w w' := by
  have L0 : Hid (Below w.heap.size w (w.alloc (.cells #[.int .i64 L.a, .string L.h.prev, .string L.h.root, .int .i64 L.h.time, .int .i64 L.h.diff, .int .i64 L.h.nonce, .slice (some ⟨v.s.g, 0, none⟩) v.s.n v.s.c, .slice (some ⟨v.s.sg, 0, none⟩) v.s.sn v.s.sc] 52))) := (Below.refl _ w).alloc (Nat.le_refl _) _
  have C0 : Hid (CBk (w.alloc (.cells #[.int .i64 L.a, .string L.h.prev, .string L.h.root, .int .i64 L.h.time, .int .i64 L.h.diff, .int .i64 L.h.nonce, .slice (some ⟨v.s.g, 0, none⟩) v.s.n v.s.c, .slice (some ⟨v.s.sg, 0, none⟩) v.s.sn v.s.sc] 52)) w.heap.size 52 #[.int .i64 L.a, .string L.h.prev, .string L.h.root, .int .i64 L.h.time, .int .i64 L.h.diff, .int .i64 L.h.nonce, .slice (some ⟨v.s.g, 0, none⟩) v.s.n v.s.c, .slice (some ⟨v.s.sg, 0, none⟩) v.s.sn v.s.sc]) := CBk.new w _ _
  have hmy := implRangeMany v.s.g v.s.n v.s.c ps _ (h.below L0.out h.1) hn hm
  have HV : Hid (deepV ps L.a = if 0 ≤ L.a ∧ L.a < (rangeMany ps).1 then (rangeMany ps).1 - 1 - L.a else -1) := rfl
  have HB := many_in ps
  generalize (rangeMany ps).2 = y at hmy
  generalize (rangeMany ps).1 = m at hmy HV HB
  generalize deepV ps L.a = R at HV ⊢
  clear h hn hm
  unfold pheadVal
  have hw1 : IntKind.i64.wrap (m - 1) = m - 1 := by rw [IntKind.wrap_i64]; omega
  go_enter Try.func18, Try.ntmps18
  go_wp2_with fail
  refine hmy.mono ?_
  rintro e w1 ⟨rfl, b1⟩
  have C1 : Hid (CBk w1 w.heap.size 52 #[.int .i64 L.a, .string L.h.prev, .string L.h.root, .int .i64 L.h.time, .int .i64 L.h.diff, .int .i64 L.h.nonce, .slice (some ⟨v.s.g, 0, none⟩) v.s.n v.s.c, .slice (some ⟨v.s.sg, 0, none⟩) v.s.sn v.s.sc]) := C0.out.call b1
  have L1 : Hid (Below w.heap.size w w1) := L0.out.trans (b1.mono L0.out.size)
  have c0 := C1.out.cell 0
  clear C0 L0 b1 hmy
  replace c0 : w1.cell? ⟨w.heap.size, 0, none⟩ = some (.int .i64 L.a) := c0
  by_cases h0 : L.a < 0
  · have HR : Hid (R = -1) := by show _ = _; rw [HV.out, if_neg (by omega)]
    clear HV HB hw1
    go_wp2_with fail
    go_ret
    exact ⟨by rw [HR.out]; rfl, L1.out⟩
  by_cases h1 : m ≤ L.a
  · have HR : Hid (R = -1) := by show _ = _; rw [HV.out, if_neg (by omega)]
    clear HV HB hw1
    go_wp2_with fail
    go_ret
    exact ⟨by rw [HR.out]; rfl, L1.out⟩
  have HR : Hid (R = m - 1 - L.a) := by show _ = _; rw [HV.out, if_pos (by omega)]
  have hw2 : IntKind.i64.wrap (m - 1 - L.a) = m - 1 - L.a := by rw [IntKind.wrap_i64]; omega
  clear HV HB
  go_wp2_with fail
  go_ret
  exact ⟨by rw [HR.out]; rfl, L1.out⟩

set_option maxHeartbeats 4000000 in
set_option maxRecDepth 100000 in
theorem specPaidDeep (L : LPaid) (v : PaidV) (ps : List PeakV) (w : World) (h : AtP w v.s.g ps) (hn : v.s.n = ps.length) (hm : v.s.n ≤ 1048576) (hz : ∀ i, i < ps.length → (ps.getD i default).sum.size ≤ maxLen) :
    Calls Try.prog 5 #[paidVal L v] w fun e w' => e = .returned (.int .i64 (deepV ps L.a)) ∧ Below w.heap.size w w' := by
  have L0 : Hid (Below w.heap.size w (w.alloc (.cells #[.int .i64 L.a, .string L.h.prev, .string L.h.root, .int .i64 L.h.time, .int .i64 L.h.diff, .int .i64 L.h.nonce, .slice (some ⟨v.s.g, 0, none⟩) v.s.n v.s.c, .slice (some ⟨v.s.sg, 0, none⟩) v.s.sn v.s.sc, .slice (some ⟨v.g, 0, none⟩) v.n v.c] 38))) := (Below.refl _ w).alloc (Nat.le_refl _) _
  have C0 : Hid (CBk (w.alloc (.cells #[.int .i64 L.a, .string L.h.prev, .string L.h.root, .int .i64 L.h.time, .int .i64 L.h.diff, .int .i64 L.h.nonce, .slice (some ⟨v.s.g, 0, none⟩) v.s.n v.s.c, .slice (some ⟨v.s.sg, 0, none⟩) v.s.sn v.s.sc, .slice (some ⟨v.g, 0, none⟩) v.n v.c] 38)) w.heap.size 38 #[.int .i64 L.a, .string L.h.prev, .string L.h.root, .int .i64 L.h.time, .int .i64 L.h.diff, .int .i64 L.h.nonce, .slice (some ⟨v.s.g, 0, none⟩) v.s.n v.s.c, .slice (some ⟨v.s.sg, 0, none⟩) v.s.sn v.s.sc, .slice (some ⟨v.g, 0, none⟩) v.n v.c]) := CBk.new w _ _
  have hmy := specRangeMany v.s.g v.s.n v.s.c ps _ (h.below L0.out h.1) hn hm hz
  have HV : Hid (deepV ps L.a = if 0 ≤ L.a ∧ L.a < (rangeMany ps).1 then (rangeMany ps).1 - 1 - L.a else -1) := rfl
  have HB := many_in ps
  generalize (rangeMany ps).2 = y at hmy
  generalize (rangeMany ps).1 = m at hmy HV HB
  generalize deepV ps L.a = R at HV ⊢
  have hin := fun w' => specIn L.a 0 (m - 1) w'
  clear h hn hm hz
  unfold paidVal
  have hw1 : IntKind.i64.wrap (m - 1) = m - 1 := by rw [IntKind.wrap_i64]; omega
  go_enter Try.func5, Try.ntmps5
  go_wp2_with fail
  refine hmy.mono ?_
  rintro e w1 ⟨rfl, b1⟩
  have C1 : Hid (CBk w1 w.heap.size 38 #[.int .i64 L.a, .string L.h.prev, .string L.h.root, .int .i64 L.h.time, .int .i64 L.h.diff, .int .i64 L.h.nonce, .slice (some ⟨v.s.g, 0, none⟩) v.s.n v.s.c, .slice (some ⟨v.s.sg, 0, none⟩) v.s.sn v.s.sc, .slice (some ⟨v.g, 0, none⟩) v.n v.c]) := C0.out.call b1
  have L1 : Hid (Below w.heap.size w w1) := L0.out.trans (b1.mono L0.out.size)
  have c0 := C1.out.cell 0
  clear C0 L0 b1 hmy
  replace c0 : w1.cell? ⟨w.heap.size, 0, none⟩ = some (.int .i64 L.a) := c0
  by_cases h0 : m < 0
  · have HR : Hid (R = -1) := by show _ = _; rw [HV.out, if_neg (by omega)]
    clear HV HB hw1 hin
    go_wp2_with fail
    go_ret
    exact ⟨by rw [HR.out]; rfl, L1.out⟩
  by_cases h1 : 0 ≤ L.a ∧ L.a ≤ m - 1
  · have HR : Hid (R = m - 1 - L.a) := by show _ = _; rw [HV.out, if_pos (by omega)]
    have hw2 : IntKind.i64.wrap (m - 1 - L.a) = m - 1 - L.a := by rw [IntKind.wrap_i64]; omega
    rw [inB_yes h1] at hin
    clear HV HB h1
    go_wp2_with fail
    refine (hin _).mono ?_
    rintro e w2 ⟨rfl, rfl⟩
    go_wp2_with fail
    go_ret
    exact ⟨by rw [HR.out]; rfl, L1.out⟩
  · have HR : Hid (R = -1) := by show _ = _; rw [HV.out, if_neg (by omega)]
    rw [inB_no h1] at hin
    clear HV HB h1
    go_wp2_with fail
    refine (hin _).mono ?_
    rintro e w2 ⟨rfl, rfl⟩
    go_wp2_with fail
    go_ret
    exact ⟨by rw [HR.out]; rfl, L1.out⟩

set_option maxHeartbeats 1000000 in
set_option maxRecDepth 100000 in
theorem implPaidDeep (L : LPaid) (v : PaidV) (ps : List PeakV) (w : World) (h : AtP w v.s.g ps) (hn : v.s.n = ps.length) (hm : v.s.n ≤ 1048576) :
    Calls Try.prog 7 #[paidVal L v] w fun e w' => e = .returned (.int .i64 (deepV ps L.a)) ∧ Below w.heap.size w w' := by
  have L0 : Hid (Below w.heap.size w (w.alloc (.cells #[.int .i64 L.a, .string L.h.prev, .string L.h.root, .int .i64 L.h.time, .int .i64 L.h.diff, .int .i64 L.h.nonce, .slice (some ⟨v.s.g, 0, none⟩) v.s.n v.s.c, .slice (some ⟨v.s.sg, 0, none⟩) v.s.sn v.s.sc, .slice (some ⟨v.g, 0, none⟩) v.n v.c] 38))) := (Below.refl _ w).alloc (Nat.le_refl _) _
  have hop := implPaidOpen L v
  have HD : Hid (∀ w', Below w.heap.size w w' → Calls Try.prog 18 #[pheadVal L v] w' fun e w'' => e = .returned (.int .i64 (deepV ps L.a)) ∧ Below w'.heap.size w' w'') := fun w' hb => implDeep L v ps w' (h.below hb h.1) hn hm
  generalize deepV ps L.a = R at HD ⊢
  clear h hn hm
  unfold pheadVal at HD
  unfold paidVal at hop ⊢
  go_enter Try.func7, Try.ntmps7
  go_wp2_with fail
  refine (hop _).mono ?_
  rintro e w1 ⟨rfl, b1⟩
  have L1 : Hid (Below w.heap.size w w1) := L0.out.trans (b1.mono L0.out.size)
  have hfl := runHeadPart L v w1
  clear L0 b1 hop
  go_wp2_with fail
  refine (HD.out _ L1.out).mono ?_
  rintro e w2 ⟨rfl, b2⟩
  go_wp2_with fail
  go_ret
  exact ⟨rfl, L1.out.trans (b2.mono L1.out.size)⟩

theorem CopyPaid.atP {B : Nat} {L : LPaid} {v : PaidV} {w : World} (h : CopyPaid B L v w) : AtP w v.s.g L.r.pl := h.r.p.at 3 pEnc_len
set_option maxHeartbeats 8000000 in
set_option maxRecDepth 100000 in
theorem walk_FnExactPaidDeep (L : LPaid) (w : World) (h0 : IsPaid w L) :
    Calls Try.prog 3 #[lpaidVal L] w fun e w' => e = .returned (.bool true) ∧ Below w.heap.size w w' := by
  have HLN : Hid (LenPaid L) := h0.lens
  have HSZ : Hid (∀ w1, Below w.heap.size w w1 → Calls Try.prog 4 #[lpaidVal L, .int .i64 1048576] w1 fun e w' => Below w1.heap.size w1 w' ∧ (e = .returned (.int .i64 (-1)) ∨ ∃ r : Nat, e = .returned (.int .i64 (r : Int)) ∧ r ≤ 1048576 ∧ SmallPaid L)) := fun w1 hb => szPaid1 L w1 (h0.below hb)
  have HTO : Hid (SmallPaid L → ∀ w1, Below w.heap.size w w1 → Calls Try.prog 6 #[lpaidVal L] w1 fun e w' => ∃ v, e = .returned (paidVal L v) ∧ CopyPaid w1.heap.size L v w' ∧ Below w1.heap.size w1 w') := fun hs w1 hb => toPaid1 L w1 w h0 hb hs
  have HSP : Hid (SmallPaid L → ∀ (v : PaidV) (B : Nat) w1, CopyPaid B L v w1 → Calls Try.prog 5 #[paidVal L v] w1 fun e w' => e = .returned (.int .i64 (deepV L.r.pl L.a)) ∧ Below w1.heap.size w1 w') := fun hs v B w1 hc =>
    specPaidDeep L v L.r.pl w1 hc.atP (by rw [hc.r.pn, HLN.out.p]) (by rw [hc.r.pn]; exact hs.r.pn) (fun i hi => by have := hs.r.ps i (by rw [← HLN.out.p]; exact hi); unfold maxLen; omega)
  have HIM : Hid (SmallPaid L → ∀ (v : PaidV) (B : Nat) w1, CopyPaid B L v w1 → Calls Try.prog 7 #[paidVal L v] w1 fun e w' => e = .returned (.int .i64 (deepV L.r.pl L.a)) ∧ Below w1.heap.size w1 w') := fun hs v B w1 hc =>
    implPaidDeep L v L.r.pl w1 hc.atP (by rw [hc.r.pn, HLN.out.p]) (by rw [hc.r.pn]; exact hs.r.pn)
  have HEQ : Hid (SmallPaid L → ∀ (u v : PaidV) (B C : Nat) w1, CopyPaid B L u w1 → CopyPaid C L v w1 → Calls Try.prog 8 #[paidVal L u, paidVal L v] w1 fun e w' => e = .returned (.bool true) ∧ Below w1.heap.size w1 w') := fun hs u v B C w1 h1 h2 => eqPaid1 L u v B C w1 hs HLN.out h1 h2
  clear h0 HLN
  generalize deepV L.r.pl L.a = R at HSP HIM
  unfold lpaidVal at HSZ HTO ⊢
  unfold paidVal at HTO HSP HIM HEQ
  have C0 : Hid (CBk (w.alloc (.cells #[.int .i64 L.a, .string L.h.prev, .string L.h.root, .int .i64 L.h.time, .int .i64 L.h.diff, .int .i64 L.h.nonce, .slice L.r.pa L.r.pn L.r.pc, .slice L.r.sa L.r.sn L.r.sc, .slice L.da L.dn L.dc] 29)) w.heap.size 29 #[.int .i64 L.a, .string L.h.prev, .string L.h.root, .int .i64 L.h.time, .int .i64 L.h.diff, .int .i64 L.h.nonce, .slice L.r.pa L.r.pn L.r.pc, .slice L.r.sa L.r.sn L.r.sc, .slice L.da L.dn L.dc]) := CBk.new w _ _
  have L0 : Hid (Below w.heap.size w (w.alloc (.cells #[.int .i64 L.a, .string L.h.prev, .string L.h.root, .int .i64 L.h.time, .int .i64 L.h.diff, .int .i64 L.h.nonce, .slice L.r.pa L.r.pn L.r.pc, .slice L.r.sa L.r.sn L.r.sc, .slice L.da L.dn L.dc] 29))) := (Below.refl _ w).alloc (Nat.le_refl _) _
  go_enter Try.func3, Try.ntmps3
  go_wp2_with fail
  refine (HSZ.out _ L0.out).mono ?_
  rintro e w1 ⟨b1, rfl | ⟨r, rfl, hr, hsm⟩⟩
  · have L1 : Hid (Below w.heap.size w w1) := L0.out.trans (b1.mono L0.out.size)
    clear HTO HSP HIM HEQ
    go_wp2_with fail
    go_ret
    exact ⟨rfl, L1.out⟩
  have HTO : Hid _ := HTO.out hsm
  have HSP : Hid _ := HSP.out hsm
  have HIM : Hid _ := HIM.out hsm
  have HEQ : Hid _ := HEQ.out hsm
  have L1 : Hid (Below w.heap.size w w1) := L0.out.trans (b1.mono L0.out.size)
  have C1 : Hid (CBk w1 w.heap.size 29 #[.int .i64 L.a, .string L.h.prev, .string L.h.root, .int .i64 L.h.time, .int .i64 L.h.diff, .int .i64 L.h.nonce, .slice L.r.pa L.r.pn L.r.pc, .slice L.r.sa L.r.sn L.r.sc, .slice L.da L.dn L.dc]) := C0.out.call b1
  clear C0 L0 b1 HSZ hsm
  have hr0 : ¬ (r : Int) < 0 := by omega
  obtain ⟨c0, c1, c2, c3, c4, c5, c6, c7, c8⟩ := C1.out.nineC
  go_wp2_with fail
  refine (HTO.out _ L1.out).mono ?_
  rintro e w2 ⟨v2, rfl, c2', b2⟩
  have L2 : Hid (Below w.heap.size w w2) := L1.out.trans (b2.mono L1.out.size)
  have C2 : Hid (CBk w2 w.heap.size 29 #[.int .i64 L.a, .string L.h.prev, .string L.h.root, .int .i64 L.h.time, .int .i64 L.h.diff, .int .i64 L.h.nonce, .slice L.r.pa L.r.pn L.r.pc, .slice L.r.sa L.r.sn L.r.sc, .slice L.da L.dn L.dc]) := C1.out.call b2
  have hsp := HSP.out v2 _ w2 c2'
  clear c0 c1 c2 c3 c4 c5 c6 c7 c8 C1 b2 c2' L1 hr0
  go_wp2_with fail
  refine hsp.mono ?_
  rintro e w3 ⟨rfl, b3⟩
  have L3 : Hid (Below w.heap.size w w3) := L2.out.trans (b3.mono L2.out.size)
  have C3 : Hid (CBk w3 w.heap.size 29 #[.int .i64 L.a, .string L.h.prev, .string L.h.root, .int .i64 L.h.time, .int .i64 L.h.diff, .int .i64 L.h.nonce, .slice L.r.pa L.r.pn L.r.pc, .slice L.r.sa L.r.sn L.r.sc, .slice L.da L.dn L.dc]) := C2.out.call b3
  obtain ⟨c0, c1, c2, c3, c4, c5, c6, c7, c8⟩ := C3.out.nineC
  clear hsp b3 C2 L2
  go_wp2_with fail
  refine (HTO.out _ L3.out).mono ?_
  rintro e w4 ⟨v4, rfl, r4, b4⟩
  have L4 : Hid (Below w.heap.size w w4) := L3.out.trans (b4.mono L3.out.size)
  have C4 : Hid (CBk w4 w.heap.size 29 #[.int .i64 L.a, .string L.h.prev, .string L.h.root, .int .i64 L.h.time, .int .i64 L.h.diff, .int .i64 L.h.nonce, .slice L.r.pa L.r.pn L.r.pc, .slice L.r.sa L.r.sn L.r.sc, .slice L.da L.dn L.dc]) := C3.out.call b4
  have R4 : Hid (CopyPaid w3.heap.size L v4 w4) := r4
  clear c0 c1 c2 c3 c4 c5 c6 c7 c8 C3 b4 r4 L3
  have X4 : Hid (CBk (w4.alloc (.cells #[.int .i64 L.a, .string L.h.prev, .string L.h.root, .int .i64 L.h.time, .int .i64 L.h.diff, .int .i64 L.h.nonce, .slice (some ⟨v4.s.g, 0, none⟩) v4.s.n v4.s.c, .slice (some ⟨v4.s.sg, 0, none⟩) v4.s.sn v4.s.sc, .slice (some ⟨v4.g, 0, none⟩) v4.n v4.c] 38)) w4.heap.size 38 #[.int .i64 L.a, .string L.h.prev, .string L.h.root, .int .i64 L.h.time, .int .i64 L.h.diff, .int .i64 L.h.nonce, .slice (some ⟨v4.s.g, 0, none⟩) v4.s.n v4.s.c, .slice (some ⟨v4.s.sg, 0, none⟩) v4.s.sn v4.s.sc, .slice (some ⟨v4.g, 0, none⟩) v4.n v4.c]) := CBk.new w4 _ _
  have L5 : Hid (Below w.heap.size w (w4.alloc (.cells #[.int .i64 L.a, .string L.h.prev, .string L.h.root, .int .i64 L.h.time, .int .i64 L.h.diff, .int .i64 L.h.nonce, .slice (some ⟨v4.s.g, 0, none⟩) v4.s.n v4.s.c, .slice (some ⟨v4.s.sg, 0, none⟩) v4.s.sn v4.s.sc, .slice (some ⟨v4.g, 0, none⟩) v4.n v4.c] 38))) := L4.out.alloc L4.out.size _
  have C5 : Hid (CBk (w4.alloc (.cells #[.int .i64 L.a, .string L.h.prev, .string L.h.root, .int .i64 L.h.time, .int .i64 L.h.diff, .int .i64 L.h.nonce, .slice (some ⟨v4.s.g, 0, none⟩) v4.s.n v4.s.c, .slice (some ⟨v4.s.sg, 0, none⟩) v4.s.sn v4.s.sc, .slice (some ⟨v4.g, 0, none⟩) v4.n v4.c] 38)) w.heap.size 29 #[.int .i64 L.a, .string L.h.prev, .string L.h.root, .int .i64 L.h.time, .int .i64 L.h.diff, .int .i64 L.h.nonce, .slice L.r.pa L.r.pn L.r.pc, .slice L.r.sa L.r.sn L.r.sc, .slice L.da L.dn L.dc]) := C4.out.alloc _
  have R5 : Hid (CopyPaid w3.heap.size L v4 (w4.alloc (.cells #[.int .i64 L.a, .string L.h.prev, .string L.h.root, .int .i64 L.h.time, .int .i64 L.h.diff, .int .i64 L.h.nonce, .slice (some ⟨v4.s.g, 0, none⟩) v4.s.n v4.s.c, .slice (some ⟨v4.s.sg, 0, none⟩) v4.s.sn v4.s.sc, .slice (some ⟨v4.g, 0, none⟩) v4.n v4.c] 38))) := R4.out.below ((Below.refl _ w4).alloc (Nat.le_refl _) _)
  have him := HIM.out v4 _ _ R5.out
  clear HIM HSP C4 L4 R4
  go_wp2_with fail
  refine him.mono ?_
  rintro e w6 ⟨rfl, b6⟩
  have X6 : Hid (CBk w6 w4.heap.size 38 #[.int .i64 L.a, .string L.h.prev, .string L.h.root, .int .i64 L.h.time, .int .i64 L.h.diff, .int .i64 L.h.nonce, .slice (some ⟨v4.s.g, 0, none⟩) v4.s.n v4.s.c, .slice (some ⟨v4.s.sg, 0, none⟩) v4.s.sn v4.s.sc, .slice (some ⟨v4.g, 0, none⟩) v4.n v4.c]) := X4.out.call b6
  have L6 : Hid (Below w.heap.size w w6) := L5.out.trans (b6.mono L5.out.size)
  have C6 : Hid (CBk w6 w.heap.size 29 #[.int .i64 L.a, .string L.h.prev, .string L.h.root, .int .i64 L.h.time, .int .i64 L.h.diff, .int .i64 L.h.nonce, .slice L.r.pa L.r.pn L.r.pc, .slice L.r.sa L.r.sn L.r.sc, .slice L.da L.dn L.dc]) := C5.out.call b6
  have R6 : Hid (CopyPaid w3.heap.size L v4 w6) := R5.out.below b6
  clear X4 L5 C5 R5 b6 him
  obtain ⟨c0, c1, c2, c3, c4, c5, c6, c7, c8⟩ := C6.out.nineC
  obtain ⟨d0, d1, d2, d3, d4, d5, d6, d7, d8⟩ := X6.out.nineC
  have hRR : (R != R) = false := by simp
  go_wp2_with fail
  go_region_held3 (fun w' => (w'.cell? ⟨w4.heap.size, 0, none⟩ = some (.int .i64 L.a) ∧ w'.cell? ⟨w4.heap.size, 1, none⟩ = some (.string L.h.prev) ∧ w'.cell? ⟨w4.heap.size, 2, none⟩ = some (.string L.h.root) ∧ w'.cell? ⟨w4.heap.size, 3, none⟩ = some (.int .i64 L.h.time) ∧ w'.cell? ⟨w4.heap.size, 4, none⟩ = some (.int .i64 L.h.diff) ∧ w'.cell? ⟨w4.heap.size, 5, none⟩ = some (.int .i64 L.h.nonce) ∧ w'.cell? ⟨w4.heap.size, 6, none⟩ = some (.slice (some ⟨v4.s.g, 0, none⟩) v4.s.n v4.s.c) ∧ w'.cell? ⟨w4.heap.size, 7, none⟩ = some (.slice (some ⟨v4.s.sg, 0, none⟩) v4.s.sn v4.s.sc) ∧ w'.cell? ⟨w4.heap.size, 8, none⟩ = some (.slice (some ⟨v4.g, 0, none⟩) v4.n v4.c)) ∧ (w'.cell? ⟨w.heap.size, 0, none⟩ = some (.int .i64 L.a) ∧ w'.cell? ⟨w.heap.size, 1, none⟩ = some (.string L.h.prev) ∧ w'.cell? ⟨w.heap.size, 2, none⟩ = some (.string L.h.root) ∧ w'.cell? ⟨w.heap.size, 3, none⟩ = some (.int .i64 L.h.time) ∧ w'.cell? ⟨w.heap.size, 4, none⟩ = some (.int .i64 L.h.diff) ∧ w'.cell? ⟨w.heap.size, 5, none⟩ = some (.int .i64 L.h.nonce) ∧ w'.cell? ⟨w.heap.size, 6, none⟩ = some (.slice L.r.pa L.r.pn L.r.pc) ∧ w'.cell? ⟨w.heap.size, 7, none⟩ = some (.slice L.r.sa L.r.sn L.r.sc) ∧ w'.cell? ⟨w.heap.size, 8, none⟩ = some (.slice L.da L.dn L.dc)))
    (first | exact ⟨X6.out.drewP.nineC, C6.out.drewP.nineC⟩ | exact ⟨X7.out.nineC, C7.out.nineC⟩ | exact ⟨X8.out.nineC, C8.out.nineC⟩)
    (first
      | (go_at_call 6; refine (HTO.out _ L6.out.drew).mono ?_; rintro e w7 ⟨v7, rfl, r7, b7⟩; have L7 : Hid (Below w.heap.size w w7) := L6.out.drew.trans (b7.mono L6.out.size); have X7 : Hid (CBk w7 w4.heap.size 38 #[.int .i64 L.a, .string L.h.prev, .string L.h.root, .int .i64 L.h.time, .int .i64 L.h.diff, .int .i64 L.h.nonce, .slice (some ⟨v4.s.g, 0, none⟩) v4.s.n v4.s.c, .slice (some ⟨v4.s.sg, 0, none⟩) v4.s.sn v4.s.sc, .slice (some ⟨v4.g, 0, none⟩) v4.n v4.c]) := X6.out.drewP.call b7; have C7 : Hid (CBk w7 w.heap.size 29 #[.int .i64 L.a, .string L.h.prev, .string L.h.root, .int .i64 L.h.time, .int .i64 L.h.diff, .int .i64 L.h.nonce, .slice L.r.pa L.r.pn L.r.pc, .slice L.r.sa L.r.sn L.r.sc, .slice L.da L.dn L.dc]) := C6.out.drewP.call b7; have R7 : Hid (CopyPaid w3.heap.size L v4 w7) := (R6.out.below (Below.refl _ _).drew).below b7; have Q7 : Hid (CopyPaid w6.drew.heap.size L v7 w7) := r7)
      | (go_at_call 8; refine (HEQ.out v4 v7 _ _ _ R7.out Q7.out).mono ?_; rintro e w8 ⟨rfl, b8⟩; have L8 : Hid (Below w.heap.size w w8) := L7.out.trans (b8.mono L7.out.size); have X8 : Hid (CBk w8 w4.heap.size 38 #[.int .i64 L.a, .string L.h.prev, .string L.h.root, .int .i64 L.h.time, .int .i64 L.h.diff, .int .i64 L.h.nonce, .slice (some ⟨v4.s.g, 0, none⟩) v4.s.n v4.s.c, .slice (some ⟨v4.s.sg, 0, none⟩) v4.s.sn v4.s.sc, .slice (some ⟨v4.g, 0, none⟩) v4.n v4.c]) := X7.out.call b8; have C8 : Hid (CBk w8 w.heap.size 29 #[.int .i64 L.a, .string L.h.prev, .string L.h.root, .int .i64 L.h.time, .int .i64 L.h.diff, .int .i64 L.h.nonce, .slice L.r.pa L.r.pn L.r.pc, .slice L.r.sa L.r.sn L.r.sc, .slice L.da L.dn L.dc]) := C7.out.call b8))
  go_wp2_with fail
  go_ret
  exact ⟨rfl, L8.out⟩

end Go.Proofs.Ytjeldedjhlicmab
