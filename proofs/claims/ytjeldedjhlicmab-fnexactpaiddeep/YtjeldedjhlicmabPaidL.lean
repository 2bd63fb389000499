/-
  A proof that an item is there as the laws hand it in: opened, measured, copied, held against another.
-/
import Derived.Test.YtjeldedjhlicmabPrfL
import Derived.Test.YtjeldedjhlicmabHeadL
import Derived.Test.YtjeldedjhlicmabSideL
set_option linter.unusedVariables false
namespace Go.Proofs.Ytjeldedjhlicmab
open Go.ChangeShapes Go.WideShapes Go.ChangeAt Go.RowKit Go.Deep Go.Joins

set_option maxHeartbeats 1000000 in
set_option maxRecDepth 100000 in
theorem szSidesR (r0 : Nat) (hr0 : r0 ≤ 1048576) (a : Option Addr) (len cap : Nat) (ps : List SideV) (w : World) (h : IsSides w a len cap ps) :
    Calls Try.prog 11 #[.slice a len cap, .int .i64 (r0 : Int)] w fun e w' => Below w.heap.size w w' ∧ (e = .returned (.int .i64 (-1)) ∨ ∃ r : Nat, e = .returned (.int .i64 (r : Int)) ∧ r ≤ 1048576 ∧ len ≤ 1048576 ∧ ∀ i, i < len → smallSide (ps.getD i default)) := by
  have HP : Hid (IsSides w a len cap ps) := h
  have hlm : len ≤ maxLen := h.max
  unfold maxLen at hlm
  have hw : IntKind.i64.wrap ((r0 : Int) - (len : Int)) = (r0 : Int) - (len : Int) := by rw [IntKind.wrap_i64]; omega
  clear h
  by_cases hl : r0 < len
  · have hl' : (r0 : Int) - (len : Int) < 0 := by omega
    go_enter Try.func11, Try.ntmps11
    go_wp2_with fail
    go_ret
    exact ⟨Below.refl _ _, .inl rfl⟩
  · have hl' : ¬ (r0 : Int) - (len : Int) < 0 := by omega
    go_enter Try.func11, Try.ntmps11
    go_wp2_with fail
    clear hw hl'
    go_loopw [1, 5] (fun l i wr => ∃ (r k : Nat), k ≤ len ∧ r ≤ 1048576 ∧ i = .int .i64 (k : Int) ∧ l = .int .i64 (r : Int) ∧ Hid (Below w.heap.size w wr) ∧ Hid (∀ i, i < k → smallSide (ps.getD i default))) (fun _ i _ => len - (intOf i).toNat)
    case atStart => exact ⟨r0 - len, 0, by omega, by omega, rfl, by show Value.int .i64 _ = Value.int .i64 _; congr 1; omega, Below.refl _ _, fun i hi => by omega⟩
    case round =>
      obtain ⟨r, k, hk, hr, rfl, rfl, HB, HS⟩ := hrel
      by_cases hlt : k < len
      · obtain ⟨x, rfl, hp, hsz⟩ := HP.out.at enSide_len HB.out k hlt
        obtain ⟨c0, c1⟩ := cellsSide hp
        have lk : (k : Int) < (len : Int) := by omega
        have HK : Hid (k + 1 ≤ len) := hlt
        have HN : Hid (smallSide (ps.getD k default) → ∀ i, i < k + 1 → smallSide (ps.getD i default)) := by
          intro h1 i hi
          rcases Nat.lt_or_ge i k with h' | h'
          · exact HS.out i h'
          · obtain rfl : i = k := by omega
            exact h1
        clear hp
        generalize ps.getD k default = p at c0 c1 hsz HN
        go_wp2_with fail
        refine (szSide1 p r _ hr hsz).mono ?_
        rintro e w1 ⟨b1, rfl | ⟨q, rfl, hq, hps⟩⟩
        · go_wp2_with fail
          go_ret
          exact ⟨HB.out.trans (b1.mono HB.out.size), .inl rfl⟩
        · have HQ2 : Hid (∀ i, i < k + 1 → smallSide (ps.getD i default)) := HN.out hps
          clear HN hps
          have hq0 : ¬ (q : Int) < 0 := by omega
          go_wp2_with fail
          go_roundw
          case rel => exact ⟨q, k + 1, HK.out, by omega, by go_num, rfl, HB.out.trans (b1.mono HB.out.size), HQ2⟩
          case measure => have := HK.out; simp [intOf]; omega
      · go_wp2_with fail
        go_ret
        exact ⟨HB.out, .inr ⟨r, rfl, by omega, by omega, fun i hi => HS.out i (by omega)⟩⟩


theorem CBk.nineC {w : World} {g : Nat} {T : TypeId} {a b c d e f x y z : Value} (h : CBk w g T #[a, b, c, d, e, f, x, y, z]) : w.cell? ⟨g, 0, none⟩ = some a ∧ w.cell? ⟨g, 1, none⟩ = some b ∧ w.cell? ⟨g, 2, none⟩ = some c ∧ w.cell? ⟨g, 3, none⟩ = some d ∧ w.cell? ⟨g, 4, none⟩ = some e ∧ w.cell? ⟨g, 5, none⟩ = some f ∧ w.cell? ⟨g, 6, none⟩ = some x ∧ w.cell? ⟨g, 7, none⟩ = some y ∧ w.cell? ⟨g, 8, none⟩ = some z :=
  ⟨h.cell 0, h.cell 1, h.cell 2, h.cell 3, h.cell 4, h.cell 5, h.cell 6, h.cell 7, h.cell 8⟩
theorem CBk.nineF {w : World} {g : Nat} {T : TypeId} {cs : Array Value} (h : CBk w g T cs) : w.frozen? ⟨g, 0, none⟩ = false ∧ w.frozen? ⟨g, 1, none⟩ = false ∧ w.frozen? ⟨g, 2, none⟩ = false ∧ w.frozen? ⟨g, 3, none⟩ = false ∧ w.frozen? ⟨g, 4, none⟩ = false ∧ w.frozen? ⟨g, 5, none⟩ = false ∧ w.frozen? ⟨g, 6, none⟩ = false ∧ w.frozen? ⟨g, 7, none⟩ = false ∧ w.frozen? ⟨g, 8, none⟩ = false :=
  ⟨h.frozen 0, h.frozen 1, h.frozen 2, h.frozen 3, h.frozen 4, h.frozen 5, h.frozen 6, h.frozen 7, h.frozen 8⟩
/-- A proof that an item is there, of the laws. -/
structure LPaid where
  a : Int
  h : HeadV
  r : LPrf
  da : Option Addr
  dn : Nat
  dc : Nat
  dl : List SideV
def lpaidVal (L : LPaid) : Value := .agg #[.int .i64 L.a, .string L.h.prev, .string L.h.root, .int .i64 L.h.time, .int .i64 L.h.diff, .int .i64 L.h.nonce, .slice L.r.pa L.r.pn L.r.pc, .slice L.r.sa L.r.sn L.r.sc, .slice L.da L.dn L.dc]
structure IsPaid (w : World) (L : LPaid) : Prop where
  a : (Lit.int .i64 L.a).wf = true
  h : wfHead L.h
  r : IsPrf w L.r
  d : IsSides w L.da L.dn L.dc L.dl
theorem sides_below {w w' : World} {a : Option Addr} {len cap : Nat} {ps : List SideV} (h : IsSides w a len cap ps) (hb : Below w.heap.size w w') : IsSides w' a len cap ps := by
  have hat := fun i hi => h.at enSide_len hb i hi
  rcases h with h1 | ⟨x, hx, h1, h2, h3, h4, h5⟩
  · exact .inl h1
  · refine .inr ⟨x, hx, h1, h2, h3, fun i j hi hj => ?_, h5⟩
    obtain ⟨y, hy, hc, _⟩ := hat i hi
    rw [hx] at hy
    obtain rfl := Option.some.inj hy
    exact hc j hj
theorem IsPaid.below {w w' : World} {L : LPaid} (h : IsPaid w L) (hb : Below w.heap.size w w') : IsPaid w' L := ⟨h.a, h.h, h.r.below hb, sides_below h.d hb⟩
theorem cellsLPaid : Try.prog.cellsOf 29 = 9 := by kernel_rfl
theorem cellsLProof2 : Try.prog.cellsOf 26 = 2 := by kernel_rfl
theorem cellsLHead2 : Try.prog.cellsOf 23 = 5 := by kernel_rfl
theorem cellsInt2 : Try.prog.cellsOf 3 = 1 := by kernel_rfl
theorem cellsSides2 : Try.prog.cellsOf 27 = 1 := by kernel_rfl
theorem cellsPeaks2 : Try.prog.cellsOf 24 = 1 := by kernel_rfl
theorem nine_parts {cs : Array Value} {a b c d e f x y z : Value} (hl : cs.toList.length = 9) (h0 : (cs.toList.drop 0).take 1 = [a]) (h1 : (cs.toList.drop 1).take 5 = [b, c, d, e, f]) (h2 : (cs.toList.drop 6).take 2 = [x, y]) (h3 : (cs.toList.drop 8).take 1 = [z]) : cs = #[a, b, c, d, e, f, x, y, z] := by
  refine Array.ext' ?_
  match hx : cs.toList, hl with
  | [x0, x1, x2, x3, x4, x5, x6, x7, x8], _ =>
    rw [hx] at h0 h1 h2 h3
    simp at h0 h1 h2 h3
    obtain ⟨rfl, rfl, rfl, rfl, rfl⟩ := h1
    obtain ⟨rfl, rfl⟩ := h2
    subst h0 h3
    rfl
theorem one_of {l : List Value} (h : l.length = 1) : ∃ v, l = [v] := by
  match l, h with
  | [v], _ => exact ⟨v, rfl⟩
set_option maxRecDepth 100000 in
theorem open_paid {H : Type} {enc : TypeId × Value → H} {W : World} {base b0 : Nat} {held : Bool} {v : Value} {d : DataW H} {p : List MemPlace} (hv : Value.okWide Try.prog W .any b0 29 v) (h : DataW.Trod enc Try.prog W base (fun _ => true) held 29 v d p) :
    ∃ L : LPaid, v = lpaidVal L ∧ IsPaid W L := by
  obtain ⟨cs, rfl, hcs⟩ := okWide_struct Try.underlying29 hv
  obtain ⟨fuel, hf⟩ := h
  obtain ⟨xs, n, _, _, hl, hlen, hx⟩ := DataW.trod_struct Try.underlying29 hf
  match xs, hlen with
  | [y0, y1, y2, y3], _ =>
    have g0 := hx 0 _ rfl
    have g1 := hx 1 _ rfl
    have g2 := hx 2 _ rfl
    have g3 := hx 3 _ rfl
    replace hl : cs.toList.length = Try.prog.cellsOf 29 := hl
    rw [cellsLPaid] at hl
    obtain ⟨s0, e0, _, z0⟩ := DataW.trod_int Try.underlying3 g0
    replace e0 : (cs.toList.drop 0).take (Try.prog.cellsOf 3) = [_] := e0
    rw [cellsInt2] at e0
    replace g1 : DataW.trod enc Try.prog W base (fun _ => true) held n 23 ((cs.toList.drop 1).take (Try.prog.cellsOf 23)) = some y1 := g1
    rw [cellsLHead2] at g1
    have hl1 : ((cs.toList.drop 1).take 5).length = 5 := by rw [List.length_take, List.length_drop, hl]; decide
    obtain ⟨hv, e1, z1⟩ := invHead n _ y1 g1 hl1
    replace g2 : DataW.trod enc Try.prog W base (fun _ => true) held n 26 ((cs.toList.drop 6).take (Try.prog.cellsOf 26)) = some y2 := g2
    rw [cellsLProof2] at g2
    have hl2 : ((cs.toList.drop 6).take 2).length = 2 := by rw [List.length_take, List.length_drop, hl]; decide
    replace g3 : DataW.trod enc Try.prog W base (fun _ => true) held n 27 ((cs.toList.drop 8).take (Try.prog.cellsOf 27)) = some y3 := g3
    rw [cellsSides2] at g3
    obtain ⟨v8, e3⟩ := one_of (l := (cs.toList.drop 8).take 1) (by rw [List.length_take, List.length_drop, hl]; decide)
    rw [e3] at g3
    obtain ⟨a3, l3, k3, rfl⟩ := shape_slice2 Try.underlying27 g3
    obtain ⟨dl, hd⟩ := open_sides (d := y3.1) (p := y3.2) ⟨n, g3⟩
    generalize hq : (cs.toList.drop 6).take 2 = q at g2 hl2
    match q, hl2 with
    | [v0, v1], _ =>
      obtain ⟨ws, n2, _, _, _, hlen2, hx2⟩ := DataW.trod_struct Try.underlying26 g2
      match ws, hlen2 with
      | [w0, w1], _ =>
        have k0 := hx2 0 _ rfl
        have k1 := hx2 1 _ rfl
        replace k0 : DataW.trod enc Try.prog W base (fun _ => true) held n2 24 (([v0, v1].drop 0).take (Try.prog.cellsOf 24)) = some w0 := k0
        replace k1 : DataW.trod enc Try.prog W base (fun _ => true) held n2 24 (([v0, v1].drop 1).take (Try.prog.cellsOf 24)) = some w1 := k1
        rw [cellsPeaks2] at k0 k1
        replace k0 : DataW.trod enc Try.prog W base (fun _ => true) held n2 24 [v0] = some w0 := k0
        replace k1 : DataW.trod enc Try.prog W base (fun _ => true) held n2 24 [v1] = some w1 := k1
        obtain ⟨a0, l0, c0, rfl⟩ := shape_slice2 Try.underlying24 k0
        obtain ⟨a1, l1, c1, rfl⟩ := shape_slice2 Try.underlying24 k1
        obtain ⟨pl, hp⟩ := open_peaks (d := w0.1) (p := w0.2) ⟨n2, k0⟩
        obtain ⟨sl, hs⟩ := open_peaks (d := w1.1) (p := w1.2) ⟨n2, k1⟩
        refine ⟨⟨s0, hv, ⟨a0, l0, c0, pl, a1, l1, c1, sl⟩, a3, l3, k3, dl⟩, ?_, ⟨z0, z1, ⟨hp, hs⟩, hd⟩⟩
        rw [lpaidVal]
        congr 1
        exact nine_parts hl e0 e1 hq e3

structure SmallPaid (L : LPaid) : Prop where
  h : smallHead L.h
  r : SmallPrf L.r
  dn : L.dn ≤ 1048576
  ds : ∀ i, i < L.dn → smallSide (L.dl.getD i default)
set_option maxHeartbeats 2000000 in
set_option maxRecDepth 100000 in
theorem szPaid1 (L : LPaid) (w : World) (h : IsPaid w L) :
    Calls Try.prog 4 #[lpaidVal L, .int .i64 1048576] w fun e w' => Below w.heap.size w w' ∧ (e = .returned (.int .i64 (-1)) ∨ ∃ r : Nat, e = .returned (.int .i64 (r : Int)) ∧ r ≤ 1048576 ∧ SmallPaid L) := by
  have HQ : Hid (smallHead L.h → SmallPrf L.r → L.dn ≤ 1048576 → (∀ i, i < L.dn → smallSide (L.dl.getD i default)) → SmallPaid L) := fun h1 h2 h3 h4 => ⟨h1, h2, h3, h4⟩
  generalize SmallPaid L = Q at HQ ⊢
  have HI : Hid (∀ w', Below w.heap.size w w' → IsPaid w' L) := fun w' hb => h.below hb
  have hsh := szHead1 L.h 1048576
  have hwf := h.h
  have HSH := fun w1 => hsh w1 (Nat.le_refl _) hwf
  have HSH : Hid (∀ w1, Calls Try.prog 9 #[.agg #[.string L.h.prev, .string L.h.root, .int .i64 L.h.time, .int .i64 L.h.diff, .int .i64 L.h.nonce], .int .i64 1048576] w1 fun e w' => Below w1.heap.size w1 w' ∧ (e = .returned (.int .i64 (-1)) ∨ ∃ q : Nat, e = .returned (.int .i64 (q : Int)) ∧ q ≤ 1048576 ∧ smallHead L.h)) := HSH
  clear h hsh hwf
  have HPR : Hid (∀ (r0 : Nat) w1, r0 ≤ 1048576 → Below w.heap.size w w1 → Calls Try.prog 10 #[.agg #[.slice L.r.pa L.r.pn L.r.pc, .slice L.r.sa L.r.sn L.r.sc], .int .i64 (r0 : Int)] w1 fun e w' => Below w1.heap.size w1 w' ∧ (e = .returned (.int .i64 (-1)) ∨ ∃ r : Nat, e = .returned (.int .i64 (r : Int)) ∧ r ≤ 1048576 ∧ SmallPrf L.r)) := fun r0 w1 hr hb => szProof1 L.r r0 hr w1 (HI.out _ hb).r
  unfold lpaidVal
  have B0 : Hid (CBk (w.alloc (.cells #[.int .i64 L.a, .string L.h.prev, .string L.h.root, .int .i64 L.h.time, .int .i64 L.h.diff, .int .i64 L.h.nonce, .slice L.r.pa L.r.pn L.r.pc, .slice L.r.sa L.r.sn L.r.sc, .slice L.da L.dn L.dc] 29)) w.heap.size 29 #[.int .i64 L.a, .string L.h.prev, .string L.h.root, .int .i64 L.h.time, .int .i64 L.h.diff, .int .i64 L.h.nonce, .slice L.r.pa L.r.pn L.r.pc, .slice L.r.sa L.r.sn L.r.sc, .slice L.da L.dn L.dc]) := CBk.new w _ _
  have L0 : Hid (Below w.heap.size w (w.alloc (.cells #[.int .i64 L.a, .string L.h.prev, .string L.h.root, .int .i64 L.h.time, .int .i64 L.h.diff, .int .i64 L.h.nonce, .slice L.r.pa L.r.pn L.r.pc, .slice L.r.sa L.r.sn L.r.sc, .slice L.da L.dn L.dc] 29))) := (Below.refl _ w).alloc (Nat.le_refl _) _
  go_enter Try.func4, Try.ntmps4
  go_wp2_with fail
  refine (HSH.out _).mono ?_
  rintro e w1 ⟨b1, rfl | ⟨r, rfl, hr, hs⟩⟩
  · go_wp2_with fail
    go_ret
    exact ⟨L0.out.trans (b1.mono L0.out.size), .inl rfl⟩
  have L1 : Hid (Below w.heap.size w w1) := L0.out.trans (b1.mono L0.out.size)
  have B1 : Hid (CBk w1 w.heap.size 29 #[.int .i64 L.a, .string L.h.prev, .string L.h.root, .int .i64 L.h.time, .int .i64 L.h.diff, .int .i64 L.h.nonce, .slice L.r.pa L.r.pn L.r.pc, .slice L.r.sa L.r.sn L.r.sc, .slice L.da L.dn L.dc]) := B0.out.call b1
  obtain ⟨c0, c1, c2, c3, c4, c5, c6, c7, c8⟩ := B1.out.nineC
  have HS1 : Hid (smallHead L.h) := hs
  have hrn : ¬ (r : Int) < 0 := by omega
  clear B0 L0 b1 hs HSH
  go_wp2_with fail
  refine (HPR.out r _ hr L1.out).mono ?_
  rintro e w3 ⟨b3, rfl | ⟨r3, rfl, hr3, hs3⟩⟩
  · go_wp2_with fail
    go_ret
    exact ⟨L1.out.trans (b3.mono L1.out.size), .inl rfl⟩
  have L3 : Hid (Below w.heap.size w w3) := L1.out.trans (b3.mono L1.out.size)
  have B3 : Hid (CBk w3 w.heap.size 29 #[.int .i64 L.a, .string L.h.prev, .string L.h.root, .int .i64 L.h.time, .int .i64 L.h.diff, .int .i64 L.h.nonce, .slice L.r.pa L.r.pn L.r.pc, .slice L.r.sa L.r.sn L.r.sc, .slice L.da L.dn L.dc]) := B1.out.call b3
  have HS3 : Hid (SmallPrf L.r) := hs3
  have hr3n : ¬ (r3 : Int) < 0 := by omega
  clear c0 c1 c2 c3 c4 c5 c6 c7 c8 B1 L1 b3 hs3 HPR hrn hr
  obtain ⟨c0, c1, c2, c3, c4, c5, c6, c7, c8⟩ := B3.out.nineC
  go_wp2_with fail
  refine (szSidesR r3 hr3 L.da L.dn L.dc L.dl _ (HI.out _ L3.out).d).mono ?_
  rintro e w4 ⟨b4, rfl | ⟨r4, rfl, hr4, hn4, hs4⟩⟩
  · go_wp2_with fail
    go_ret
    exact ⟨L3.out.trans (b4.mono L3.out.size), .inl rfl⟩
  have HS4 : Hid (L.dn ≤ 1048576 ∧ ∀ i, i < L.dn → smallSide (L.dl.getD i default)) := ⟨hn4, hs4⟩
  have HR4 : Hid (r4 ≤ 1048576) := by show _ ≤ _; omega
  have hr40 : ¬ (r4 : Int) < 0 := by omega
  clear hs4 hn4 hr4
  go_wp2_with fail
  go_ret
  exact ⟨L3.out.trans (b4.mono L3.out.size), .inr ⟨r4, rfl, HR4.out, HQ.out HS1.out HS3.out HS4.out.1 HS4.out.2⟩⟩

/-- A proof that an item is there, in memory of its own. -/
structure PaidV where
  s : PrfV
  g : Nat
  n : Nat
  c : Nat
def paidVal (L : LPaid) (v : PaidV) : Value := .agg #[.int .i64 L.a, .string L.h.prev, .string L.h.root, .int .i64 L.h.time, .int .i64 L.h.diff, .int .i64 L.h.nonce, .slice (some ⟨v.s.g, 0, none⟩) v.s.n v.s.c, .slice (some ⟨v.s.sg, 0, none⟩) v.s.sn v.s.sc, .slice (some ⟨v.g, 0, none⟩) v.n v.c]
structure CopyPaid (B : Nat) (L : LPaid) (v : PaidV) (w : World) : Prop where
  r : CopyPrf B L.r v.s w
  d : RowSide w v.g L.dl
  dn : v.n = L.dn
  dc : v.c = v.n
  lo : v.s.sg < v.g
theorem CopyPaid.below {B : Nat} {L : LPaid} {v : PaidV} {w w' : World} (h : CopyPaid B L v w) (hb : Below w.heap.size w w') : CopyPaid B L v w' :=
  ⟨h.r.below hb, h.d.below hb h.d.lt, h.dn, h.dc, h.lo⟩
theorem rowSd_other {w : World} {g g' : Nat} {l : List SideV} (h : RowSide w g l) (hg : g' ≠ g) (j : Nat) (v : Value) : RowSide (w.setCell ⟨g', j, none⟩ v) g l := by
  unfold RowSide RowF at h ⊢; simp [World.setCell, Array.getElem?_modify, h, hg]
theorem copyPrf_other {B : Nat} {L : LPrf} {s : PrfV} {w : World} (h : CopyPrf B L s w) {g' : Nat} (hg : g' < B) (j : Nat) (v : Value) : CopyPrf B L s (w.setCell ⟨g', j, none⟩ v) := by
  have h1 := h.lo
  have h2 := h.up
  exact ⟨rowP_other h.p (by omega) j v, h.ps, h.pn, h.pc, rowP_other h.st (by omega) j v, h.ss, h.sn, h.sc, h.lo, h.up⟩
theorem copyPrf_lo {B C : Nat} {L : LPrf} {s : PrfV} {w : World} (h : CopyPrf B L s w) (hc : C ≤ B) : CopyPrf C L s w :=
  ⟨h.p, h.ps, h.pn, h.pc, h.st, h.ss, h.sn, h.sc, Nat.le_trans hc h.lo, h.up⟩
theorem copyPaid_other {B : Nat} {L : LPaid} {v : PaidV} {w : World} (h : CopyPaid B L v w) {g' : Nat} (hg : g' < B) (j : Nat) (x : Value) : CopyPaid B L v (w.setCell ⟨g', j, none⟩ x) := by
  have h1 := h.r.lo
  have h2 := h.r.up
  have h3 := h.lo
  exact ⟨copyPrf_other h.r hg j x, rowSd_other h.d (by omega) j x, h.dn, h.dc, h.lo⟩
theorem copyPaid_lo {B C : Nat} {L : LPaid} {v : PaidV} {w : World} (h : CopyPaid B L v w) (hc : C ≤ B) : CopyPaid C L v w := ⟨copyPrf_lo h.r hc, h.d, h.dn, h.dc, h.lo⟩

set_option maxHeartbeats 4000000 in
set_option maxRecDepth 100000 in
theorem toPaid1 (L : LPaid) (w w0 : World) (h0 : IsPaid w0 L) (hw : Below w0.heap.size w0 w) (hs : SmallPaid L) :
    Calls Try.prog 6 #[lpaidVal L] w fun e w' => ∃ v, e = .returned (paidVal L v) ∧ CopyPaid w.heap.size L v w' ∧ Below w.heap.size w w' := by
  have HH : Hid (∀ w', Calls Try.prog 14 #[.agg #[.string L.h.prev, .string L.h.root, .int .i64 L.h.time, .int .i64 L.h.diff, .int .i64 L.h.nonce]] w' fun e w'' => e = .returned (.agg #[.string L.h.prev, .string L.h.root, .int .i64 L.h.time, .int .i64 L.h.diff, .int .i64 L.h.nonce]) ∧ Below w'.heap.size w' w'') := fun w' => toHeadA L.h w'
  have HB : Hid (∀ w', Below w.heap.size w w' → Calls Try.prog 15 #[lprfVal L.r] w' fun e w'' => ∃ s, e = .returned (prfVal s) ∧ CopyPrf w'.heap.size L.r s w'' ∧ Below w'.heap.size w' w'') := fun w' hb => toProof1 L.r w' w0 h0.r (hw.trans (hb.mono hw.size)) hs.r
  have HT : Hid (∀ w', Below w.heap.size w w' → Calls Try.prog 16 #[.slice L.da L.dn L.dc] w' fun e w'' => e = .returned (.slice (some ⟨w'.heap.size, 0, none⟩) L.dn L.dn) ∧ RowSide w'' w'.heap.size L.dl ∧ Below w'.heap.size w' w'') := fun w' hb => toSides L.da L.dn L.dc L.dl w' w0 h0.d (hw.trans (hb.mono hw.size)) hs.dn
  have HQ : Hid (∀ (e : Ending) (w' : World) (v : PaidV), e = .returned (paidVal L v) → CopyPaid w.heap.size L v w' → Below w.heap.size w w' → ∃ v, e = .returned (paidVal L v) ∧ CopyPaid w.heap.size L v w' ∧ Below w.heap.size w w') := fun e w' v h1 h2 h3 => ⟨v, h1, h2, h3⟩
  clear h0 hw hs
  unfold lpaidVal
  unfold lprfVal prfVal at HB
  have A0 : Hid (CBk (((w.alloc (.cells #[.int .i64 L.a, .string L.h.prev, .string L.h.root, .int .i64 L.h.time, .int .i64 L.h.diff, .int .i64 L.h.nonce, .slice L.r.pa L.r.pn L.r.pc, .slice L.r.sa L.r.sn L.r.sc, .slice L.da L.dn L.dc] 29)).alloc (.cells #[.int .i64 0, .string ⟨#[]⟩, .string ⟨#[]⟩, .int .i64 0, .int .i64 0, .int .i64 0, .slice none 0 0, .slice none 0 0, .slice none 0 0] 38)).alloc (.cells #[.int .i64 L.a, .string ⟨#[]⟩, .string ⟨#[]⟩, .int .i64 0, .int .i64 0, .int .i64 0, .slice none 0 0, .slice none 0 0, .slice none 0 0] 38)) w.heap.size 29 #[.int .i64 L.a, .string L.h.prev, .string L.h.root, .int .i64 L.h.time, .int .i64 L.h.diff, .int .i64 L.h.nonce, .slice L.r.pa L.r.pn L.r.pc, .slice L.r.sa L.r.sn L.r.sc, .slice L.da L.dn L.dc]) := ((CBk.new w _ _).alloc _).alloc _
  have A1 : Hid (CBk (((w.alloc (.cells #[.int .i64 L.a, .string L.h.prev, .string L.h.root, .int .i64 L.h.time, .int .i64 L.h.diff, .int .i64 L.h.nonce, .slice L.r.pa L.r.pn L.r.pc, .slice L.r.sa L.r.sn L.r.sc, .slice L.da L.dn L.dc] 29)).alloc (.cells #[.int .i64 0, .string ⟨#[]⟩, .string ⟨#[]⟩, .int .i64 0, .int .i64 0, .int .i64 0, .slice none 0 0, .slice none 0 0, .slice none 0 0] 38)).alloc (.cells #[.int .i64 L.a, .string ⟨#[]⟩, .string ⟨#[]⟩, .int .i64 0, .int .i64 0, .int .i64 0, .slice none 0 0, .slice none 0 0, .slice none 0 0] 38)) (w.heap.size + 1) 38 #[.int .i64 0, .string ⟨#[]⟩, .string ⟨#[]⟩, .int .i64 0, .int .i64 0, .int .i64 0, .slice none 0 0, .slice none 0 0, .slice none 0 0]) := by
    have := (CBk.new (w.alloc (.cells #[.int .i64 L.a, .string L.h.prev, .string L.h.root, .int .i64 L.h.time, .int .i64 L.h.diff, .int .i64 L.h.nonce, .slice L.r.pa L.r.pn L.r.pc, .slice L.r.sa L.r.sn L.r.sc, .slice L.da L.dn L.dc] 29)) 38 #[.int .i64 0, .string ⟨#[]⟩, .string ⟨#[]⟩, .int .i64 0, .int .i64 0, .int .i64 0, .slice none 0 0, .slice none 0 0, .slice none 0 0]).alloc (.cells #[.int .i64 L.a, .string ⟨#[]⟩, .string ⟨#[]⟩, .int .i64 0, .int .i64 0, .int .i64 0, .slice none 0 0, .slice none 0 0, .slice none 0 0] 38)
    rwa [show (w.alloc (.cells #[.int .i64 L.a, .string L.h.prev, .string L.h.root, .int .i64 L.h.time, .int .i64 L.h.diff, .int .i64 L.h.nonce, .slice L.r.pa L.r.pn L.r.pc, .slice L.r.sa L.r.sn L.r.sc, .slice L.da L.dn L.dc] 29)).heap.size = w.heap.size + 1 from by simp] at this
  have A2 : Hid (CBk (((w.alloc (.cells #[.int .i64 L.a, .string L.h.prev, .string L.h.root, .int .i64 L.h.time, .int .i64 L.h.diff, .int .i64 L.h.nonce, .slice L.r.pa L.r.pn L.r.pc, .slice L.r.sa L.r.sn L.r.sc, .slice L.da L.dn L.dc] 29)).alloc (.cells #[.int .i64 0, .string ⟨#[]⟩, .string ⟨#[]⟩, .int .i64 0, .int .i64 0, .int .i64 0, .slice none 0 0, .slice none 0 0, .slice none 0 0] 38)).alloc (.cells #[.int .i64 L.a, .string ⟨#[]⟩, .string ⟨#[]⟩, .int .i64 0, .int .i64 0, .int .i64 0, .slice none 0 0, .slice none 0 0, .slice none 0 0] 38)) (w.heap.size + 1 + 1) 38 #[.int .i64 L.a, .string ⟨#[]⟩, .string ⟨#[]⟩, .int .i64 0, .int .i64 0, .int .i64 0, .slice none 0 0, .slice none 0 0, .slice none 0 0]) := by
    have := CBk.new ((w.alloc (.cells #[.int .i64 L.a, .string L.h.prev, .string L.h.root, .int .i64 L.h.time, .int .i64 L.h.diff, .int .i64 L.h.nonce, .slice L.r.pa L.r.pn L.r.pc, .slice L.r.sa L.r.sn L.r.sc, .slice L.da L.dn L.dc] 29)).alloc (.cells #[.int .i64 0, .string ⟨#[]⟩, .string ⟨#[]⟩, .int .i64 0, .int .i64 0, .int .i64 0, .slice none 0 0, .slice none 0 0, .slice none 0 0] 38)) 38 #[.int .i64 L.a, .string ⟨#[]⟩, .string ⟨#[]⟩, .int .i64 0, .int .i64 0, .int .i64 0, .slice none 0 0, .slice none 0 0, .slice none 0 0]
    rwa [show ((w.alloc (.cells #[.int .i64 L.a, .string L.h.prev, .string L.h.root, .int .i64 L.h.time, .int .i64 L.h.diff, .int .i64 L.h.nonce, .slice L.r.pa L.r.pn L.r.pc, .slice L.r.sa L.r.sn L.r.sc, .slice L.da L.dn L.dc] 29)).alloc (.cells #[.int .i64 0, .string ⟨#[]⟩, .string ⟨#[]⟩, .int .i64 0, .int .i64 0, .int .i64 0, .slice none 0 0, .slice none 0 0, .slice none 0 0] 38)).heap.size = w.heap.size + 1 + 1 from by simp] at this
  have L0 : Hid (Below w.heap.size w (((w.alloc (.cells #[.int .i64 L.a, .string L.h.prev, .string L.h.root, .int .i64 L.h.time, .int .i64 L.h.diff, .int .i64 L.h.nonce, .slice L.r.pa L.r.pn L.r.pc, .slice L.r.sa L.r.sn L.r.sc, .slice L.da L.dn L.dc] 29)).alloc (.cells #[.int .i64 0, .string ⟨#[]⟩, .string ⟨#[]⟩, .int .i64 0, .int .i64 0, .int .i64 0, .slice none 0 0, .slice none 0 0, .slice none 0 0] 38)).alloc (.cells #[.int .i64 L.a, .string ⟨#[]⟩, .string ⟨#[]⟩, .int .i64 0, .int .i64 0, .int .i64 0, .slice none 0 0, .slice none 0 0, .slice none 0 0] 38))) := (((Below.refl _ w).alloc (Nat.le_refl _) _).alloc (by simp) _).alloc (by simp; omega) _
  have HL3 : Hid (w.heap.size + 3 ≤ (((w.alloc (.cells #[.int .i64 L.a, .string L.h.prev, .string L.h.root, .int .i64 L.h.time, .int .i64 L.h.diff, .int .i64 L.h.nonce, .slice L.r.pa L.r.pn L.r.pc, .slice L.r.sa L.r.sn L.r.sc, .slice L.da L.dn L.dc] 29)).alloc (.cells #[.int .i64 0, .string ⟨#[]⟩, .string ⟨#[]⟩, .int .i64 0, .int .i64 0, .int .i64 0, .slice none 0 0, .slice none 0 0, .slice none 0 0] 38)).alloc (.cells #[.int .i64 L.a, .string ⟨#[]⟩, .string ⟨#[]⟩, .int .i64 0, .int .i64 0, .int .i64 0, .slice none 0 0, .slice none 0 0, .slice none 0 0] 38)).heap.size) := by show _ ≤ _; simp
  go_enter Try.func6, Try.ntmps6
  go_wp2_with fail
  generalize (((w.alloc (.cells #[.int .i64 L.a, .string L.h.prev, .string L.h.root, .int .i64 L.h.time, .int .i64 L.h.diff, .int .i64 L.h.nonce, .slice L.r.pa L.r.pn L.r.pc, .slice L.r.sa L.r.sn L.r.sc, .slice L.da L.dn L.dc] 29)).alloc (.cells #[.int .i64 0, .string ⟨#[]⟩, .string ⟨#[]⟩, .int .i64 0, .int .i64 0, .int .i64 0, .slice none 0 0, .slice none 0 0, .slice none 0 0] 38)).alloc (.cells #[.int .i64 L.a, .string ⟨#[]⟩, .string ⟨#[]⟩, .int .i64 0, .int .i64 0, .int .i64 0, .slice none 0 0, .slice none 0 0, .slice none 0 0] 38)) = W1 at A0 A1 A2 L0 HL3 ⊢
  refine (HH.out _).mono ?_
  rintro e w1 ⟨rfl, b1⟩
  obtain ⟨g0, hg0⟩ : ∃ g0, g0 = w.heap.size := ⟨_, rfl⟩
  have HLw : Hid (g0 = w.heap.size) := hg0
  have S1' : Hid (CBk w1 (g0 + 1 + 1) 38 #[.int .i64 L.a, .string ⟨#[]⟩, .string ⟨#[]⟩, .int .i64 0, .int .i64 0, .int .i64 0, .slice none 0 0, .slice none 0 0, .slice none 0 0]) := by rw [hg0]; exact A2.out.call b1
  have T1' : Hid (CBk w1 (g0 + 1) 38 #[.int .i64 0, .string ⟨#[]⟩, .string ⟨#[]⟩, .int .i64 0, .int .i64 0, .int .i64 0, .slice none 0 0, .slice none 0 0, .slice none 0 0]) := by rw [hg0]; exact A1.out.call b1
  have U1' : Hid (CBk w1 g0 29 #[.int .i64 L.a, .string L.h.prev, .string L.h.root, .int .i64 L.h.time, .int .i64 L.h.diff, .int .i64 L.h.nonce, .slice L.r.pa L.r.pn L.r.pc, .slice L.r.sa L.r.sn L.r.sc, .slice L.da L.dn L.dc]) := by rw [hg0]; exact A0.out.call b1
  have L1 : Hid (Below w.heap.size w w1) := L0.out.trans (b1.mono L0.out.size)
  have HZ : Hid (g0 + 3 ≤ w1.heap.size) := by show _ ≤ _; have := HL3.out; have := b1.size; omega
  rw [← hg0]
  clear A0 A1 A2 L0 HL3 b1 HH
  clear hg0
  clear W1
  obtain ⟨c0, c1, c2, c3, c4, c5, c6, c7, c8⟩ := U1'.out.nineC
  obtain ⟨d0, d1, d2, d3, d4, d5, d6, d7, d8⟩ := S1'.out.nineC
  obtain ⟨z0, z1, z2, z3, z4, z5, z6, z7, z8⟩ := S1'.out.nineF
  have S2 : Hid (CBk (((((w1.setCell ⟨g0 + 1 + 1, 1, none⟩ (.string L.h.prev)).setCell ⟨g0 + 1 + 1, 2, none⟩ (.string L.h.root)).setCell ⟨g0 + 1 + 1, 3, none⟩ (.int .i64 L.h.time)).setCell ⟨g0 + 1 + 1, 4, none⟩ (.int .i64 L.h.diff)).setCell ⟨g0 + 1 + 1, 5, none⟩ (.int .i64 L.h.nonce)) (g0 + 1 + 1) 38 #[.int .i64 L.a, .string L.h.prev, .string L.h.root, .int .i64 L.h.time, .int .i64 L.h.diff, .int .i64 L.h.nonce, .slice none 0 0, .slice none 0 0, .slice none 0 0]) := (((((S1'.out.set 1 _).set 2 _).set 3 _).set 4 _).set 5 _)
  have T2 : Hid (CBk (((((w1.setCell ⟨g0 + 1 + 1, 1, none⟩ (.string L.h.prev)).setCell ⟨g0 + 1 + 1, 2, none⟩ (.string L.h.root)).setCell ⟨g0 + 1 + 1, 3, none⟩ (.int .i64 L.h.time)).setCell ⟨g0 + 1 + 1, 4, none⟩ (.int .i64 L.h.diff)).setCell ⟨g0 + 1 + 1, 5, none⟩ (.int .i64 L.h.nonce)) (g0 + 1) 38 #[.int .i64 0, .string ⟨#[]⟩, .string ⟨#[]⟩, .int .i64 0, .int .i64 0, .int .i64 0, .slice none 0 0, .slice none 0 0, .slice none 0 0]) := (((((T1'.out.other (by omega) _).other (by omega) _).other (by omega) _).other (by omega) _).other (by omega) _)
  have U2 : Hid (CBk (((((w1.setCell ⟨g0 + 1 + 1, 1, none⟩ (.string L.h.prev)).setCell ⟨g0 + 1 + 1, 2, none⟩ (.string L.h.root)).setCell ⟨g0 + 1 + 1, 3, none⟩ (.int .i64 L.h.time)).setCell ⟨g0 + 1 + 1, 4, none⟩ (.int .i64 L.h.diff)).setCell ⟨g0 + 1 + 1, 5, none⟩ (.int .i64 L.h.nonce)) g0 29 #[.int .i64 L.a, .string L.h.prev, .string L.h.root, .int .i64 L.h.time, .int .i64 L.h.diff, .int .i64 L.h.nonce, .slice L.r.pa L.r.pn L.r.pc, .slice L.r.sa L.r.sn L.r.sc, .slice L.da L.dn L.dc]) := (((((U1'.out.other (by omega) _).other (by omega) _).other (by omega) _).other (by omega) _).other (by omega) _)
  have L2 : Hid (Below w.heap.size w (((((w1.setCell ⟨g0 + 1 + 1, 1, none⟩ (.string L.h.prev)).setCell ⟨g0 + 1 + 1, 2, none⟩ (.string L.h.root)).setCell ⟨g0 + 1 + 1, 3, none⟩ (.int .i64 L.h.time)).setCell ⟨g0 + 1 + 1, 4, none⟩ (.int .i64 L.h.diff)).setCell ⟨g0 + 1 + 1, 5, none⟩ (.int .i64 L.h.nonce))) := by
    have e4 := HLw.out
    exact (((((L1.out.setCell (p := ⟨g0 + 1 + 1, 1, none⟩) (by show w.heap.size ≤ g0 + 1 + 1; omega) _).setCell (p := ⟨g0 + 1 + 1, 2, none⟩) (by show w.heap.size ≤ g0 + 1 + 1; omega) _).setCell (p := ⟨g0 + 1 + 1, 3, none⟩) (by show w.heap.size ≤ g0 + 1 + 1; omega) _).setCell (p := ⟨g0 + 1 + 1, 4, none⟩) (by show w.heap.size ≤ g0 + 1 + 1; omega) _).setCell (p := ⟨g0 + 1 + 1, 5, none⟩) (by show w.heap.size ≤ g0 + 1 + 1; omega) _)
  have HZ2 : Hid (g0 + 3 ≤ (((((w1.setCell ⟨g0 + 1 + 1, 1, none⟩ (.string L.h.prev)).setCell ⟨g0 + 1 + 1, 2, none⟩ (.string L.h.root)).setCell ⟨g0 + 1 + 1, 3, none⟩ (.int .i64 L.h.time)).setCell ⟨g0 + 1 + 1, 4, none⟩ (.int .i64 L.h.diff)).setCell ⟨g0 + 1 + 1, 5, none⟩ (.int .i64 L.h.nonce)).heap.size) := by show _ ≤ _; have := HZ.out; simpa [World.setCell] using this
  clear S1' T1' U1' L1 HZ
  go_wp2_with fail
  generalize (((((w1.setCell ⟨g0 + 1 + 1, 1, none⟩ (.string L.h.prev)).setCell ⟨g0 + 1 + 1, 2, none⟩ (.string L.h.root)).setCell ⟨g0 + 1 + 1, 3, none⟩ (.int .i64 L.h.time)).setCell ⟨g0 + 1 + 1, 4, none⟩ (.int .i64 L.h.diff)).setCell ⟨g0 + 1 + 1, 5, none⟩ (.int .i64 L.h.nonce)) = W2 at S2 T2 U2 L2 HZ2 ⊢
  refine (HB.out _ L2.out).mono ?_
  rintro e w2 ⟨s, rfl, C2, b2⟩
  have S2' : Hid (CBk w2 (g0 + 1 + 1) 38 #[.int .i64 L.a, .string L.h.prev, .string L.h.root, .int .i64 L.h.time, .int .i64 L.h.diff, .int .i64 L.h.nonce, .slice none 0 0, .slice none 0 0, .slice none 0 0]) := S2.out.call b2
  have T2' : Hid (CBk w2 (g0 + 1) 38 #[.int .i64 0, .string ⟨#[]⟩, .string ⟨#[]⟩, .int .i64 0, .int .i64 0, .int .i64 0, .slice none 0 0, .slice none 0 0, .slice none 0 0]) := T2.out.call b2
  have U2' : Hid (CBk w2 g0 29 #[.int .i64 L.a, .string L.h.prev, .string L.h.root, .int .i64 L.h.time, .int .i64 L.h.diff, .int .i64 L.h.nonce, .slice L.r.pa L.r.pn L.r.pc, .slice L.r.sa L.r.sn L.r.sc, .slice L.da L.dn L.dc]) := U2.out.call b2
  have L2' : Hid (Below w.heap.size w w2) := L2.out.trans (b2.mono L2.out.size)
  have C2' : Hid (CopyPrf (g0 + 3) L.r s w2) := copyPrf_lo C2 HZ2.out
  clear S2 T2 U2 L2 HZ2 b2 C2 c0 c1 c2 c3 c4 c5 c6 c7 c8 d0 d1 d2 d3 d4 d5 d6 d7 d8 z0 z1 z2 z3 z4 z5 z6 z7 z8
  clear W2 w1
  obtain ⟨c0, c1, c2, c3, c4, c5, c6, c7, c8⟩ := U2'.out.nineC
  obtain ⟨d0, d1, d2, d3, d4, d5, d6, d7, d8⟩ := S2'.out.nineC
  obtain ⟨z0, z1, z2, z3, z4, z5, z6, z7, z8⟩ := S2'.out.nineF
  have S3 : Hid (CBk ((w2.setCell ⟨g0 + 1 + 1, 6, none⟩ (.slice (some ⟨s.g, 0, none⟩) s.n s.c)).setCell ⟨g0 + 1 + 1, 7, none⟩ (.slice (some ⟨s.sg, 0, none⟩) s.sn s.sc)) (g0 + 1 + 1) 38 #[.int .i64 L.a, .string L.h.prev, .string L.h.root, .int .i64 L.h.time, .int .i64 L.h.diff, .int .i64 L.h.nonce, .slice (some ⟨s.g, 0, none⟩) s.n s.c, .slice (some ⟨s.sg, 0, none⟩) s.sn s.sc, .slice none 0 0]) := ((S2'.out.set 6 _).set 7 _)
  have T3 : Hid (CBk ((w2.setCell ⟨g0 + 1 + 1, 6, none⟩ (.slice (some ⟨s.g, 0, none⟩) s.n s.c)).setCell ⟨g0 + 1 + 1, 7, none⟩ (.slice (some ⟨s.sg, 0, none⟩) s.sn s.sc)) (g0 + 1) 38 #[.int .i64 0, .string ⟨#[]⟩, .string ⟨#[]⟩, .int .i64 0, .int .i64 0, .int .i64 0, .slice none 0 0, .slice none 0 0, .slice none 0 0]) := ((T2'.out.other (by omega) _).other (by omega) _)
  have L3 : Hid (Below w.heap.size w ((w2.setCell ⟨g0 + 1 + 1, 6, none⟩ (.slice (some ⟨s.g, 0, none⟩) s.n s.c)).setCell ⟨g0 + 1 + 1, 7, none⟩ (.slice (some ⟨s.sg, 0, none⟩) s.sn s.sc))) := by
    have e4 := HLw.out
    exact ((L2'.out.setCell (p := ⟨g0 + 1 + 1, 6, none⟩) (by show w.heap.size ≤ g0 + 1 + 1; omega) _).setCell (p := ⟨g0 + 1 + 1, 7, none⟩) (by show w.heap.size ≤ g0 + 1 + 1; omega) _)
  have C3 : Hid (CopyPrf (g0 + 3) L.r s ((w2.setCell ⟨g0 + 1 + 1, 6, none⟩ (.slice (some ⟨s.g, 0, none⟩) s.n s.c)).setCell ⟨g0 + 1 + 1, 7, none⟩ (.slice (some ⟨s.sg, 0, none⟩) s.sn s.sc))) := copyPrf_other (copyPrf_other C2'.out (g' := g0 + 1 + 1) (by omega) 6 _) (g' := g0 + 1 + 1) (by omega) 7 _
  clear S2' T2' U2' L2' C2' HB
  go_wp2_with fail
  generalize ((w2.setCell ⟨g0 + 1 + 1, 6, none⟩ (.slice (some ⟨s.g, 0, none⟩) s.n s.c)).setCell ⟨g0 + 1 + 1, 7, none⟩ (.slice (some ⟨s.sg, 0, none⟩) s.sn s.sc)) = W3 at S3 T3 L3 C3 ⊢
  refine (HT.out _ L3.out).mono ?_
  rintro e w3 ⟨rfl, R3, b3⟩
  obtain ⟨g2, hg2⟩ : ∃ g2, g2 = W3.heap.size := ⟨_, rfl⟩
  have HG2 : Hid (s.sg < g2) := by show _ < _; rw [hg2]; exact C3.out.st.lt
  have R3' : Hid (RowSide w3 g2 L.dl) := by rw [hg2]; exact R3
  have S3' : Hid (CBk w3 (g0 + 1 + 1) 38 #[.int .i64 L.a, .string L.h.prev, .string L.h.root, .int .i64 L.h.time, .int .i64 L.h.diff, .int .i64 L.h.nonce, .slice (some ⟨s.g, 0, none⟩) s.n s.c, .slice (some ⟨s.sg, 0, none⟩) s.sn s.sc, .slice none 0 0]) := S3.out.call b3
  have T3' : Hid (CBk w3 (g0 + 1) 38 #[.int .i64 0, .string ⟨#[]⟩, .string ⟨#[]⟩, .int .i64 0, .int .i64 0, .int .i64 0, .slice none 0 0, .slice none 0 0, .slice none 0 0]) := T3.out.call b3
  have L3' : Hid (Below w.heap.size w w3) := L3.out.trans (b3.mono L3.out.size)
  have C3' : Hid (CopyPrf (g0 + 3) L.r s w3) := C3.out.below b3
  rw [← hg2]
  clear S3 T3 L3 C3 b3 R3 c0 c1 c2 c3 c4 c5 c6 c7 c8 d0 d1 d2 d3 d4 d5 d6 d7 d8 z0 z1 z2 z3 z4 z5 z6 z7 z8
  clear hg2
  clear W3 w2
  have C0 : Hid (CopyPaid (g0 + 3) L ⟨s, g2, L.dn, L.dn⟩ w3) := ⟨C3'.out, R3'.out, rfl, rfl, HG2.out⟩
  clear C3' R3' HG2
  obtain ⟨d0, d1, d2, d3, d4, d5, d6, d7, d8⟩ := S3'.out.nineC
  obtain ⟨z0, z1, z2, z3, z4, z5, z6, z7, z8⟩ := S3'.out.nineF
  obtain ⟨p0, p1, p2, p3, p4, p5, p6, p7, p8⟩ := T3'.out.nineC
  obtain ⟨y0, y1, y2, y3, y4, y5, y6, y7, y8⟩ := T3'.out.nineF
  have S4 : Hid (CBk (w3.setCell ⟨g0 + 1 + 1, 8, none⟩ (.slice (some ⟨g2, 0, none⟩) L.dn L.dn)) (g0 + 1 + 1) 38 #[.int .i64 L.a, .string L.h.prev, .string L.h.root, .int .i64 L.h.time, .int .i64 L.h.diff, .int .i64 L.h.nonce, .slice (some ⟨s.g, 0, none⟩) s.n s.c, .slice (some ⟨s.sg, 0, none⟩) s.sn s.sc, .slice (some ⟨g2, 0, none⟩) L.dn L.dn]) := (S3'.out.set 8 _)
  have T4 : Hid (CBk ((((((((((w3.setCell ⟨g0 + 1 + 1, 8, none⟩ (.slice (some ⟨g2, 0, none⟩) L.dn L.dn)).setCell ⟨g0 + 1, 0, none⟩ (.int .i64 L.a)).setCell ⟨g0 + 1, 1, none⟩ (.string L.h.prev)).setCell ⟨g0 + 1, 2, none⟩ (.string L.h.root)).setCell ⟨g0 + 1, 3, none⟩ (.int .i64 L.h.time)).setCell ⟨g0 + 1, 4, none⟩ (.int .i64 L.h.diff)).setCell ⟨g0 + 1, 5, none⟩ (.int .i64 L.h.nonce)).setCell ⟨g0 + 1, 6, none⟩ (.slice (some ⟨s.g, 0, none⟩) s.n s.c)).setCell ⟨g0 + 1, 7, none⟩ (.slice (some ⟨s.sg, 0, none⟩) s.sn s.sc)).setCell ⟨g0 + 1, 8, none⟩ (.slice (some ⟨g2, 0, none⟩) L.dn L.dn)) (g0 + 1) 38 #[.int .i64 L.a, .string L.h.prev, .string L.h.root, .int .i64 L.h.time, .int .i64 L.h.diff, .int .i64 L.h.nonce, .slice (some ⟨s.g, 0, none⟩) s.n s.c, .slice (some ⟨s.sg, 0, none⟩) s.sn s.sc, .slice (some ⟨g2, 0, none⟩) L.dn L.dn]) := ((((((((((T3'.out.other (by omega) _).set 0 _).set 1 _).set 2 _).set 3 _).set 4 _).set 5 _).set 6 _).set 7 _).set 8 _)
  have L4 : Hid (Below w.heap.size w ((((((((((w3.setCell ⟨g0 + 1 + 1, 8, none⟩ (.slice (some ⟨g2, 0, none⟩) L.dn L.dn)).setCell ⟨g0 + 1, 0, none⟩ (.int .i64 L.a)).setCell ⟨g0 + 1, 1, none⟩ (.string L.h.prev)).setCell ⟨g0 + 1, 2, none⟩ (.string L.h.root)).setCell ⟨g0 + 1, 3, none⟩ (.int .i64 L.h.time)).setCell ⟨g0 + 1, 4, none⟩ (.int .i64 L.h.diff)).setCell ⟨g0 + 1, 5, none⟩ (.int .i64 L.h.nonce)).setCell ⟨g0 + 1, 6, none⟩ (.slice (some ⟨s.g, 0, none⟩) s.n s.c)).setCell ⟨g0 + 1, 7, none⟩ (.slice (some ⟨s.sg, 0, none⟩) s.sn s.sc)).setCell ⟨g0 + 1, 8, none⟩ (.slice (some ⟨g2, 0, none⟩) L.dn L.dn))) := by
    have e4 := HLw.out
    exact ((((((((((L3'.out.setCell (p := ⟨g0 + 1 + 1, 8, none⟩) (by show w.heap.size ≤ g0 + 1 + 1; omega) _).setCell (p := ⟨g0 + 1, 0, none⟩) (by show w.heap.size ≤ g0 + 1; omega) _).setCell (p := ⟨g0 + 1, 1, none⟩) (by show w.heap.size ≤ g0 + 1; omega) _).setCell (p := ⟨g0 + 1, 2, none⟩) (by show w.heap.size ≤ g0 + 1; omega) _).setCell (p := ⟨g0 + 1, 3, none⟩) (by show w.heap.size ≤ g0 + 1; omega) _).setCell (p := ⟨g0 + 1, 4, none⟩) (by show w.heap.size ≤ g0 + 1; omega) _).setCell (p := ⟨g0 + 1, 5, none⟩) (by show w.heap.size ≤ g0 + 1; omega) _).setCell (p := ⟨g0 + 1, 6, none⟩) (by show w.heap.size ≤ g0 + 1; omega) _).setCell (p := ⟨g0 + 1, 7, none⟩) (by show w.heap.size ≤ g0 + 1; omega) _).setCell (p := ⟨g0 + 1, 8, none⟩) (by show w.heap.size ≤ g0 + 1; omega) _)
  have C4 : Hid (CopyPaid w.heap.size L ⟨s, g2, L.dn, L.dn⟩ ((((((((((w3.setCell ⟨g0 + 1 + 1, 8, none⟩ (.slice (some ⟨g2, 0, none⟩) L.dn L.dn)).setCell ⟨g0 + 1, 0, none⟩ (.int .i64 L.a)).setCell ⟨g0 + 1, 1, none⟩ (.string L.h.prev)).setCell ⟨g0 + 1, 2, none⟩ (.string L.h.root)).setCell ⟨g0 + 1, 3, none⟩ (.int .i64 L.h.time)).setCell ⟨g0 + 1, 4, none⟩ (.int .i64 L.h.diff)).setCell ⟨g0 + 1, 5, none⟩ (.int .i64 L.h.nonce)).setCell ⟨g0 + 1, 6, none⟩ (.slice (some ⟨s.g, 0, none⟩) s.n s.c)).setCell ⟨g0 + 1, 7, none⟩ (.slice (some ⟨s.sg, 0, none⟩) s.sn s.sc)).setCell ⟨g0 + 1, 8, none⟩ (.slice (some ⟨g2, 0, none⟩) L.dn L.dn))) := by
    have e4 := HLw.out
    exact copyPaid_lo (copyPaid_other (copyPaid_other (copyPaid_other (copyPaid_other (copyPaid_other (copyPaid_other (copyPaid_other (copyPaid_other (copyPaid_other (copyPaid_other C0.out (g' := g0 + 1 + 1) (by omega) 8 (.slice (some ⟨g2, 0, none⟩) L.dn L.dn)) (g' := g0 + 1) (by omega) 0 (.int .i64 L.a)) (g' := g0 + 1) (by omega) 1 (.string L.h.prev)) (g' := g0 + 1) (by omega) 2 (.string L.h.root)) (g' := g0 + 1) (by omega) 3 (.int .i64 L.h.time)) (g' := g0 + 1) (by omega) 4 (.int .i64 L.h.diff)) (g' := g0 + 1) (by omega) 5 (.int .i64 L.h.nonce)) (g' := g0 + 1) (by omega) 6 (.slice (some ⟨s.g, 0, none⟩) s.n s.c)) (g' := g0 + 1) (by omega) 7 (.slice (some ⟨s.sg, 0, none⟩) s.sn s.sc)) (g' := g0 + 1) (by omega) 8 (.slice (some ⟨g2, 0, none⟩) L.dn L.dn)) (by omega)
  obtain ⟨s0, s1, s2, s3, s4, s5, s6, s7, s8⟩ := S4.out.nineC
  clear S3' T3' L3' C0 HT
  go_wp2_with fail
  exact bodyPost_ret (results_cell_row (p := 2) rfl _ _ (g0 + 1) 38 #[.int .i64 L.a, .string L.h.prev, .string L.h.root, .int .i64 L.h.time, .int .i64 L.h.diff, .int .i64 L.h.nonce, .slice (some ⟨s.g, 0, none⟩) s.n s.c, .slice (some ⟨s.sg, 0, none⟩) s.sn s.sc, .slice (some ⟨g2, 0, none⟩) L.dn L.dn] (0, 0) _ rfl T4.out Try.underlying38 rfl (by kernel_rfl)) rfl (HQ.out _ _ _ rfl C4.out L4.out)

theorem CopyPaid.len {B : Nat} {L : LPaid} {v : PaidV} {w : World} (h : CopyPaid B L v w) : v.n = L.dn := h.dn
structure LenPaid (L : LPaid) : Prop where
  p : L.r.pl.length = L.r.pn
  s : L.r.sl.length = L.r.sn
  d : L.dl.length = L.dn
theorem IsPaid.lens {w : World} {L : LPaid} (h : IsPaid w L) : LenPaid L := ⟨h.r.p.len, h.r.s.len, h.d.len⟩
set_option maxHeartbeats 4000000 in
set_option maxRecDepth 100000 in
theorem eqPaid1 (L : LPaid) (u v : PaidV) (B C : Nat) (w : World) (hs : SmallPaid L) (hl : LenPaid L) (h1 : CopyPaid B L u w) (h2 : CopyPaid C L v w) :
    Calls Try.prog 8 #[paidVal L u, paidVal L v] w fun e w' => e = .returned (.bool true) ∧ Below w.heap.size w w' := by
  have e1 : v.s.n = u.s.n := by rw [h1.r.pn, h2.r.pn]
  have e2 : v.s.sn = u.s.sn := by rw [h1.r.sn, h2.r.sn]
  have e3 : v.n = u.n := by rw [h1.dn, h2.dn]
  have hq1 : Hid (∀ w', Calls Try.prog 19 #[.agg #[.string L.h.prev, .string L.h.root, .int .i64 L.h.time, .int .i64 L.h.diff, .int .i64 L.h.nonce], .agg #[.string L.h.prev, .string L.h.root, .int .i64 L.h.time, .int .i64 L.h.diff, .int .i64 L.h.nonce]] w' fun e w'' => e = .returned (.bool true) ∧ Below w'.heap.size w' w'') := fun w' => eqHeadA L.h w'
  have hq2 := fun (w' : World) (hb : Below w.heap.size w w') => eqProof1 L.r u.s v.s B C w' hs.r hl.p hl.s (h1.r.below hb) (h2.r.below hb)
  have hq3 := fun (w' : World) (hb : Below w.heap.size w w') => eqSides u.g v.g u.n u.c v.c L.dl w' ((h1.below hb).d.at 2 enSide_len) ((h2.below hb).d.at 2 enSide_len) (by rw [h1.dn, hl.d]) (by rw [h1.dn]; have := hs.dn; omega)
  unfold prfVal at hq2
  unfold paidVal
  rw [e1, e2] at hq2
  rw [e1, e2, e3]
  have hq2 : Hid _ := hq2
  have hq3 : Hid _ := hq3
  clear h1 h2 hs hl e1 e2 e3
  have C0 : Hid (CBk ((w.alloc (.cells #[.int .i64 L.a, .string L.h.prev, .string L.h.root, .int .i64 L.h.time, .int .i64 L.h.diff, .int .i64 L.h.nonce, .slice (some ⟨u.s.g, 0, none⟩) u.s.n u.s.c, .slice (some ⟨u.s.sg, 0, none⟩) u.s.sn u.s.sc, .slice (some ⟨u.g, 0, none⟩) u.n u.c] 38)).alloc (.cells #[.int .i64 L.a, .string L.h.prev, .string L.h.root, .int .i64 L.h.time, .int .i64 L.h.diff, .int .i64 L.h.nonce, .slice (some ⟨v.s.g, 0, none⟩) u.s.n v.s.c, .slice (some ⟨v.s.sg, 0, none⟩) u.s.sn v.s.sc, .slice (some ⟨v.g, 0, none⟩) u.n v.c] 38)) w.heap.size 38 #[.int .i64 L.a, .string L.h.prev, .string L.h.root, .int .i64 L.h.time, .int .i64 L.h.diff, .int .i64 L.h.nonce, .slice (some ⟨u.s.g, 0, none⟩) u.s.n u.s.c, .slice (some ⟨u.s.sg, 0, none⟩) u.s.sn u.s.sc, .slice (some ⟨u.g, 0, none⟩) u.n u.c]) := (CBk.new w _ _).alloc _
  have D0 : Hid (CBk ((w.alloc (.cells #[.int .i64 L.a, .string L.h.prev, .string L.h.root, .int .i64 L.h.time, .int .i64 L.h.diff, .int .i64 L.h.nonce, .slice (some ⟨u.s.g, 0, none⟩) u.s.n u.s.c, .slice (some ⟨u.s.sg, 0, none⟩) u.s.sn u.s.sc, .slice (some ⟨u.g, 0, none⟩) u.n u.c] 38)).alloc (.cells #[.int .i64 L.a, .string L.h.prev, .string L.h.root, .int .i64 L.h.time, .int .i64 L.h.diff, .int .i64 L.h.nonce, .slice (some ⟨v.s.g, 0, none⟩) u.s.n v.s.c, .slice (some ⟨v.s.sg, 0, none⟩) u.s.sn v.s.sc, .slice (some ⟨v.g, 0, none⟩) u.n v.c] 38)) (w.heap.size + 1) 38 #[.int .i64 L.a, .string L.h.prev, .string L.h.root, .int .i64 L.h.time, .int .i64 L.h.diff, .int .i64 L.h.nonce, .slice (some ⟨v.s.g, 0, none⟩) u.s.n v.s.c, .slice (some ⟨v.s.sg, 0, none⟩) u.s.sn v.s.sc, .slice (some ⟨v.g, 0, none⟩) u.n v.c]) := by
    have := CBk.new (w.alloc (.cells #[.int .i64 L.a, .string L.h.prev, .string L.h.root, .int .i64 L.h.time, .int .i64 L.h.diff, .int .i64 L.h.nonce, .slice (some ⟨u.s.g, 0, none⟩) u.s.n u.s.c, .slice (some ⟨u.s.sg, 0, none⟩) u.s.sn u.s.sc, .slice (some ⟨u.g, 0, none⟩) u.n u.c] 38)) 38 #[.int .i64 L.a, .string L.h.prev, .string L.h.root, .int .i64 L.h.time, .int .i64 L.h.diff, .int .i64 L.h.nonce, .slice (some ⟨v.s.g, 0, none⟩) u.s.n v.s.c, .slice (some ⟨v.s.sg, 0, none⟩) u.s.sn v.s.sc, .slice (some ⟨v.g, 0, none⟩) u.n v.c]
    rwa [show (w.alloc (.cells #[.int .i64 L.a, .string L.h.prev, .string L.h.root, .int .i64 L.h.time, .int .i64 L.h.diff, .int .i64 L.h.nonce, .slice (some ⟨u.s.g, 0, none⟩) u.s.n u.s.c, .slice (some ⟨u.s.sg, 0, none⟩) u.s.sn u.s.sc, .slice (some ⟨u.g, 0, none⟩) u.n u.c] 38)).heap.size = w.heap.size + 1 from by simp] at this
  have L0 : Hid (Below w.heap.size w ((w.alloc (.cells #[.int .i64 L.a, .string L.h.prev, .string L.h.root, .int .i64 L.h.time, .int .i64 L.h.diff, .int .i64 L.h.nonce, .slice (some ⟨u.s.g, 0, none⟩) u.s.n u.s.c, .slice (some ⟨u.s.sg, 0, none⟩) u.s.sn u.s.sc, .slice (some ⟨u.g, 0, none⟩) u.n u.c] 38)).alloc (.cells #[.int .i64 L.a, .string L.h.prev, .string L.h.root, .int .i64 L.h.time, .int .i64 L.h.diff, .int .i64 L.h.nonce, .slice (some ⟨v.s.g, 0, none⟩) u.s.n v.s.c, .slice (some ⟨v.s.sg, 0, none⟩) u.s.sn v.s.sc, .slice (some ⟨v.g, 0, none⟩) u.n v.c] 38))) := ((Below.refl _ w).alloc (Nat.le_refl _) _).alloc (by simp) _
  go_enter Try.func8, Try.ntmps8
  go_wp2_with fail
  refine (hq1.out _).mono ?_
  rintro e w1 ⟨rfl, b1⟩
  have C1 : Hid (CBk w1 w.heap.size 38 #[.int .i64 L.a, .string L.h.prev, .string L.h.root, .int .i64 L.h.time, .int .i64 L.h.diff, .int .i64 L.h.nonce, .slice (some ⟨u.s.g, 0, none⟩) u.s.n u.s.c, .slice (some ⟨u.s.sg, 0, none⟩) u.s.sn u.s.sc, .slice (some ⟨u.g, 0, none⟩) u.n u.c]) := C0.out.call b1
  have D1 : Hid (CBk w1 (w.heap.size + 1) 38 #[.int .i64 L.a, .string L.h.prev, .string L.h.root, .int .i64 L.h.time, .int .i64 L.h.diff, .int .i64 L.h.nonce, .slice (some ⟨v.s.g, 0, none⟩) u.s.n v.s.c, .slice (some ⟨v.s.sg, 0, none⟩) u.s.sn v.s.sc, .slice (some ⟨v.g, 0, none⟩) u.n v.c]) := D0.out.call b1
  have L1 : Hid (Below w.heap.size w w1) := L0.out.trans (b1.mono L0.out.size)
  obtain ⟨c0, c1, c2, c3, c4, c5, c6, c7, c8⟩ := C1.out.nineC
  obtain ⟨d0, d1, d2, d3, d4, d5, d6, d7, d8⟩ := D1.out.nineC
  clear C0 D0 L0 b1 hq1
  go_wp2_with fail
  refine (hq2.out _ L1.out).mono ?_
  rintro e w2 ⟨rfl, b2⟩
  have C2 : Hid (CBk w2 w.heap.size 38 #[.int .i64 L.a, .string L.h.prev, .string L.h.root, .int .i64 L.h.time, .int .i64 L.h.diff, .int .i64 L.h.nonce, .slice (some ⟨u.s.g, 0, none⟩) u.s.n u.s.c, .slice (some ⟨u.s.sg, 0, none⟩) u.s.sn u.s.sc, .slice (some ⟨u.g, 0, none⟩) u.n u.c]) := C1.out.call b2
  have D2 : Hid (CBk w2 (w.heap.size + 1) 38 #[.int .i64 L.a, .string L.h.prev, .string L.h.root, .int .i64 L.h.time, .int .i64 L.h.diff, .int .i64 L.h.nonce, .slice (some ⟨v.s.g, 0, none⟩) u.s.n v.s.c, .slice (some ⟨v.s.sg, 0, none⟩) u.s.sn v.s.sc, .slice (some ⟨v.g, 0, none⟩) u.n v.c]) := D1.out.call b2
  have L2 : Hid (Below w.heap.size w w2) := L1.out.trans (b2.mono L1.out.size)
  clear c0 c1 c2 c3 c4 c5 c6 c7 c8 d0 d1 d2 d3 d4 d5 d6 d7 d8 C1 D1 L1 b2 hq2
  obtain ⟨c0, c1, c2, c3, c4, c5, c6, c7, c8⟩ := C2.out.nineC
  obtain ⟨d0, d1, d2, d3, d4, d5, d6, d7, d8⟩ := D2.out.nineC
  go_wp2_with fail
  refine (hq3.out _ L2.out).mono ?_
  rintro e w3 ⟨rfl, b3⟩
  go_wp2_with fail
  go_ret
  exact ⟨rfl, L2.out.trans (b3.mono L2.out.size)⟩

end Go.Proofs.Ytjeldedjhlicmab
