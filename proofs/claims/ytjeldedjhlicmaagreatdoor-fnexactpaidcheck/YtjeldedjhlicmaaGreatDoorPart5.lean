/-
  Texts that the last part needs, joined.
-/
import Derived.Test.YtjeldedjhlicmaaGreatDoorPart1
import Derived.Test.YtjeldedjhlicmaaGreatDoorPart2
import Derived.Test.YtjeldedjhlicmaaGreatDoorPart3
import Derived.Test.YtjeldedjhlicmaaGreatDoorPart4
import Derived.Deep.RegionHeld3
import Derived.Lib.AppendIntMem
import Derived.WalkKit
import Derived.WalkSpells
import Derived.Test.YtjeldedjhlicmaaGreatDoorProg
import Derived.Below
import Derived.ArgAppend
import Derived.Laws.IdiomStrings
import Derived.Lib.Builder
import Derived.Lib.UnsafeStr
set_option linter.unusedVariables false
namespace Go.Proofs.YtjeldedjhlicmaaGreatDoor
open Go.ChangeShapes Go.WideShapes Go.ChangeAt Go.RowKit Go.Deep Go.Joins

set_option maxHeartbeats 1000000 in
set_option maxRecDepth 100000 in
theorem szSidesR (r0 : Nat) (hr0 : r0 ≤ 1048576) (a : Option Addr) (len cap : Nat) (ps : List SideV) (w : World) (h : IsSides w a len cap ps) :
    Calls Tryz.prog 11 #[.slice a len cap, .int .i64 (r0 : Int)] w fun e w' => Below w.heap.size w w' ∧ (e = .returned (.int .i64 (-1)) ∨ ∃ r : Nat, e = .returned (.int .i64 (r : Int)) ∧ r ≤ 1048576 ∧ len ≤ 1048576 ∧ ∀ i, i < len → smallSide (ps.getD i default)) := by
  have HP : Hid (IsSides w a len cap ps) := h
  have hlm : len ≤ maxLen := h.max
  unfold maxLen at hlm
  have hw : IntKind.i64.wrap ((r0 : Int) - (len : Int)) = (r0 : Int) - (len : Int) := by rw [IntKind.wrap_i64]; omega
  clear h
  by_cases hl : r0 < len
  · have hl' : (r0 : Int) - (len : Int) < 0 := by omega
    go_enter Tryz.func11, Tryz.ntmps11
    go_wp2_with fail
    go_ret
    exact ⟨Below.refl _ _, .inl rfl⟩
  · have hl' : ¬ (r0 : Int) - (len : Int) < 0 := by omega
    go_enter Tryz.func11, Tryz.ntmps11
    go_wp2_with fail
    clear hw hl'
    go_loopw [1, 5] (fun l i wr => ∃ (r k : Nat), k ≤ len ∧ r ≤ 1048576 ∧ i = .int .i64 (k : Int) ∧ l = .int .i64 (r : Int) ∧ Hid (Below w.heap.size w wr) ∧ Hid (∀ i, i < k → smallSide (ps.getD i default))) (fun _ i _ => len - (intOf i).toNat)
    case atStart => exact ⟨r0 - len, 0, by omega, by omega, rfl, by show Value.int .i64 _ = Value.int .i64 _; congr 1; omega, Below.refl _ _, fun i hi => by omega⟩
    case round =>
      obtain ⟨r, k, hk, hr, rfl, rfl, HB, HS⟩ := hrel
      by_cases hlt : k < len
      · obtain ⟨x, rfl, hp, hsz⟩ := HP.out.at enSide_len HB.out k hlt
        obtain ⟨c0, c1⟩ := cellsSide hp
        have lk : (k : Int) < (len : Int) := by omega
        have HK : Hid (k + 1 ≤ len) := hlt
        have HN : Hid (smallSide (ps.getD k default) → ∀ i, i < k + 1 → smallSide (ps.getD i default)) := by
          intro h1 i hi
          rcases Nat.lt_or_ge i k with h' | h'
          · exact HS.out i h'
          · obtain rfl : i = k := by omega
            exact h1
        clear hp
        generalize ps.getD k default = p at c0 c1 hsz HN
        go_wp2_with fail
        refine (szSide1 p r _ hr hsz).mono ?_
        rintro e w1 ⟨b1, rfl | ⟨q, rfl, hq, hps⟩⟩
        · go_wp2_with fail
          go_ret
          exact ⟨HB.out.trans (b1.mono HB.out.size), .inl rfl⟩
        · have HQ2 : Hid (∀ i, i < k + 1 → smallSide (ps.getD i default)) := HN.out hps
          clear HN hps
          have hq0 : ¬ (q : Int) < 0 := by omega
          go_wp2_with fail
          go_roundw
          case rel => exact ⟨q, k + 1, HK.out, by omega, by go_num, rfl, HB.out.trans (b1.mono HB.out.size), HQ2⟩
          case measure => have := HK.out; simp [intOf]; omega
      · go_wp2_with fail
        go_ret
        exact ⟨HB.out, .inr ⟨r, rfl, by omega, by omega, fun i hi => HS.out i (by omega)⟩⟩


theorem CBk.nineC {w : World} {g : Nat} {T : TypeId} {a b c d e f x y z : Value} (h : CBk w g T #[a, b, c, d, e, f, x, y, z]) : w.cell? ⟨g, 0, none⟩ = some a ∧ w.cell? ⟨g, 1, none⟩ = some b ∧ w.cell? ⟨g, 2, none⟩ = some c ∧ w.cell? ⟨g, 3, none⟩ = some d ∧ w.cell? ⟨g, 4, none⟩ = some e ∧ w.cell? ⟨g, 5, none⟩ = some f ∧ w.cell? ⟨g, 6, none⟩ = some x ∧ w.cell? ⟨g, 7, none⟩ = some y ∧ w.cell? ⟨g, 8, none⟩ = some z :=
  ⟨h.cell 0, h.cell 1, h.cell 2, h.cell 3, h.cell 4, h.cell 5, h.cell 6, h.cell 7, h.cell 8⟩
theorem CBk.nineF {w : World} {g : Nat} {T : TypeId} {cs : Array Value} (h : CBk w g T cs) : w.frozen? ⟨g, 0, none⟩ = false ∧ w.frozen? ⟨g, 1, none⟩ = false ∧ w.frozen? ⟨g, 2, none⟩ = false ∧ w.frozen? ⟨g, 3, none⟩ = false ∧ w.frozen? ⟨g, 4, none⟩ = false ∧ w.frozen? ⟨g, 5, none⟩ = false ∧ w.frozen? ⟨g, 6, none⟩ = false ∧ w.frozen? ⟨g, 7, none⟩ = false ∧ w.frozen? ⟨g, 8, none⟩ = false :=
  ⟨h.frozen 0, h.frozen 1, h.frozen 2, h.frozen 3, h.frozen 4, h.frozen 5, h.frozen 6, h.frozen 7, h.frozen 8⟩
/-- A proof that an item is there, of the laws. -/
structure LPaid where
  a : Int
  h : HeadV
  r : LPrf
  da : Option Addr
  dn : Nat
  dc : Nat
  dl : List SideV
def lpaidVal (L : LPaid) : Value := .agg #[.int .i64 L.a, .string L.h.prev, .string L.h.root, .int .i64 L.h.time, .int .i64 L.h.diff, .int .i64 L.h.nonce, .slice L.r.pa L.r.pn L.r.pc, .slice L.r.sa L.r.sn L.r.sc, .slice L.da L.dn L.dc]
structure IsPaid (w : World) (L : LPaid) : Prop where
  a : (Lit.int .i64 L.a).wf = true
  h : wfHead L.h
  r : IsPrf w L.r
  d : IsSides w L.da L.dn L.dc L.dl
theorem sides_below {w w' : World} {a : Option Addr} {len cap : Nat} {ps : List SideV} (h : IsSides w a len cap ps) (hb : Below w.heap.size w w') : IsSides w' a len cap ps := by
  have hat := fun i hi => h.at enSide_len hb i hi
  rcases h with h1 | ⟨x, hx, h1, h2, h3, h4, h5⟩
  · exact .inl h1
  · refine .inr ⟨x, hx, h1, h2, h3, fun i j hi hj => ?_, h5⟩
    obtain ⟨y, hy, hc, _⟩ := hat i hi
    rw [hx] at hy
    obtain rfl := Option.some.inj hy
    exact hc j hj
theorem IsPaid.below {w w' : World} {L : LPaid} (h : IsPaid w L) (hb : Below w.heap.size w w') : IsPaid w' L := ⟨h.a, h.h, h.r.below hb, sides_below h.d hb⟩
theorem cellsLPaid : Tryz.prog.cellsOf 29 = 9 := by kernel_rfl
theorem cellsLProof2 : Tryz.prog.cellsOf 26 = 2 := by kernel_rfl
theorem cellsLHead2 : Tryz.prog.cellsOf 23 = 5 := by kernel_rfl
theorem cellsInt2 : Tryz.prog.cellsOf 3 = 1 := by kernel_rfl
theorem cellsSides2 : Tryz.prog.cellsOf 27 = 1 := by kernel_rfl
theorem cellsPeaks2 : Tryz.prog.cellsOf 24 = 1 := by kernel_rfl
theorem nine_parts {cs : Array Value} {a b c d e f x y z : Value} (hl : cs.toList.length = 9) (h0 : (cs.toList.drop 0).take 1 = [a]) (h1 : (cs.toList.drop 1).take 5 = [b, c, d, e, f]) (h2 : (cs.toList.drop 6).take 2 = [x, y]) (h3 : (cs.toList.drop 8).take 1 = [z]) : cs = #[a, b, c, d, e, f, x, y, z] := by
  refine Array.ext' ?_
  match hx : cs.toList, hl with
  | [x0, x1, x2, x3, x4, x5, x6, x7, x8], _ =>
    rw [hx] at h0 h1 h2 h3
    simp at h0 h1 h2 h3
    obtain ⟨rfl, rfl, rfl, rfl, rfl⟩ := h1
    obtain ⟨rfl, rfl⟩ := h2
    subst h0 h3
    rfl
theorem one_of {l : List Value} (h : l.length = 1) : ∃ v, l = [v] := by
  match l, h with
  | [v], _ => exact ⟨v, rfl⟩
set_option maxRecDepth 100000 in
theorem open_paid {H : Type} {enc : TypeId × Value → H} {W : World} {base b0 : Nat} {held : Bool} {v : Value} {d : DataW H} {p : List MemPlace} (hv : Value.okWide Tryz.prog W .any b0 29 v) (h : DataW.Trod enc Tryz.prog W base (fun _ => true) held 29 v d p) :
    ∃ L : LPaid, v = lpaidVal L ∧ IsPaid W L := by
  obtain ⟨cs, rfl, hcs⟩ := okWide_struct Tryz.underlying29 hv
  obtain ⟨fuel, hf⟩ := h
  obtain ⟨xs, n, _, _, hl, hlen, hx⟩ := DataW.trod_struct Tryz.underlying29 hf
  match xs, hlen with
  | [y0, y1, y2, y3], _ =>
    have g0 := hx 0 _ rfl
    have g1 := hx 1 _ rfl
    have g2 := hx 2 _ rfl
    have g3 := hx 3 _ rfl
    replace hl : cs.toList.length = Tryz.prog.cellsOf 29 := hl
    rw [cellsLPaid] at hl
    obtain ⟨s0, e0, _, z0⟩ := DataW.trod_int Tryz.underlying3 g0
    replace e0 : (cs.toList.drop 0).take (Tryz.prog.cellsOf 3) = [_] := e0
    rw [cellsInt2] at e0
    replace g1 : DataW.trod enc Tryz.prog W base (fun _ => true) held n 23 ((cs.toList.drop 1).take (Tryz.prog.cellsOf 23)) = some y1 := g1
    rw [cellsLHead2] at g1
    have hl1 : ((cs.toList.drop 1).take 5).length = 5 := by rw [List.length_take, List.length_drop, hl]; decide
    obtain ⟨hv, e1, z1⟩ := invHead n _ y1 g1 hl1
    replace g2 : DataW.trod enc Tryz.prog W base (fun _ => true) held n 26 ((cs.toList.drop 6).take (Tryz.prog.cellsOf 26)) = some y2 := g2
    rw [cellsLProof2] at g2
    have hl2 : ((cs.toList.drop 6).take 2).length = 2 := by rw [List.length_take, List.length_drop, hl]; decide
    replace g3 : DataW.trod enc Tryz.prog W base (fun _ => true) held n 27 ((cs.toList.drop 8).take (Tryz.prog.cellsOf 27)) = some y3 := g3
    rw [cellsSides2] at g3
    obtain ⟨v8, e3⟩ := one_of (l := (cs.toList.drop 8).take 1) (by rw [List.length_take, List.length_drop, hl]; decide)
    rw [e3] at g3
    obtain ⟨a3, l3, k3, rfl⟩ := shape_slice2 Tryz.underlying27 g3
    obtain ⟨dl, hd⟩ := open_sides (d := y3.1) (p := y3.2) ⟨n, g3⟩
    generalize hq : (cs.toList.drop 6).take 2 = q at g2 hl2
    match q, hl2 with
    | [v0, v1], _ =>
      obtain ⟨ws, n2, _, _, _, hlen2, hx2⟩ := DataW.trod_struct Tryz.underlying26 g2
      match ws, hlen2 with
      | [w0, w1], _ =>
        have k0 := hx2 0 _ rfl
        have k1 := hx2 1 _ rfl
        replace k0 : DataW.trod enc Tryz.prog W base (fun _ => true) held n2 24 (([v0, v1].drop 0).take (Tryz.prog.cellsOf 24)) = some w0 := k0
        replace k1 : DataW.trod enc Tryz.prog W base (fun _ => true) held n2 24 (([v0, v1].drop 1).take (Tryz.prog.cellsOf 24)) = some w1 := k1
        rw [cellsPeaks2] at k0 k1
        replace k0 : DataW.trod enc Tryz.prog W base (fun _ => true) held n2 24 [v0] = some w0 := k0
        replace k1 : DataW.trod enc Tryz.prog W base (fun _ => true) held n2 24 [v1] = some w1 := k1
        obtain ⟨a0, l0, c0, rfl⟩ := shape_slice2 Tryz.underlying24 k0
        obtain ⟨a1, l1, c1, rfl⟩ := shape_slice2 Tryz.underlying24 k1
        obtain ⟨pl, hp⟩ := open_peaks (d := w0.1) (p := w0.2) ⟨n2, k0⟩
        obtain ⟨sl, hs⟩ := open_peaks (d := w1.1) (p := w1.2) ⟨n2, k1⟩
        refine ⟨⟨s0, hv, ⟨a0, l0, c0, pl, a1, l1, c1, sl⟩, a3, l3, k3, dl⟩, ?_, ⟨z0, z1, ⟨hp, hs⟩, hd⟩⟩
        rw [lpaidVal]
        congr 1
        exact nine_parts hl e0 e1 hq e3

structure SmallPaid (L : LPaid) : Prop where
  h : smallHead L.h
  r : SmallPrf L.r
  dn : L.dn ≤ 1048576
  ds : ∀ i, i < L.dn → smallSide (L.dl.getD i default)
set_option maxHeartbeats 2000000 in
set_option maxRecDepth 100000 in
theorem szPaid1 (L : LPaid) (w : World) (h : IsPaid w L) :
    Calls Tryz.prog 4 #[lpaidVal L, .int .i64 1048576] w fun e w' => Below w.heap.size w w' ∧ (e = .returned (.int .i64 (-1)) ∨ ∃ r : Nat, e = .returned (.int .i64 (r : Int)) ∧ r ≤ 1048576 ∧ SmallPaid L) := by
  have HQ : Hid (smallHead L.h → SmallPrf L.r → L.dn ≤ 1048576 → (∀ i, i < L.dn → smallSide (L.dl.getD i default)) → SmallPaid L) := fun h1 h2 h3 h4 => ⟨h1, h2, h3, h4⟩
  generalize SmallPaid L = Q at HQ ⊢
  have HI : Hid (∀ w', Below w.heap.size w w' → IsPaid w' L) := fun w' hb => h.below hb
  have hsh := szHead1 L.h 1048576
  have hwf := h.h
  have HSH := fun w1 => hsh w1 (Nat.le_refl _) hwf
  have HSH : Hid (∀ w1, Calls Tryz.prog 9 #[.agg #[.string L.h.prev, .string L.h.root, .int .i64 L.h.time, .int .i64 L.h.diff, .int .i64 L.h.nonce], .int .i64 1048576] w1 fun e w' => Below w1.heap.size w1 w' ∧ (e = .returned (.int .i64 (-1)) ∨ ∃ q : Nat, e = .returned (.int .i64 (q : Int)) ∧ q ≤ 1048576 ∧ smallHead L.h)) := HSH
  clear h hsh hwf
  have HPR : Hid (∀ (r0 : Nat) w1, r0 ≤ 1048576 → Below w.heap.size w w1 → Calls Tryz.prog 10 #[.agg #[.slice L.r.pa L.r.pn L.r.pc, .slice L.r.sa L.r.sn L.r.sc], .int .i64 (r0 : Int)] w1 fun e w' => Below w1.heap.size w1 w' ∧ (e = .returned (.int .i64 (-1)) ∨ ∃ r : Nat, e = .returned (.int .i64 (r : Int)) ∧ r ≤ 1048576 ∧ SmallPrf L.r)) := fun r0 w1 hr hb => szProof1 L.r r0 hr w1 (HI.out _ hb).r
  unfold lpaidVal
  have B0 : Hid (CBk (w.alloc (.cells #[.int .i64 L.a, .string L.h.prev, .string L.h.root, .int .i64 L.h.time, .int .i64 L.h.diff, .int .i64 L.h.nonce, .slice L.r.pa L.r.pn L.r.pc, .slice L.r.sa L.r.sn L.r.sc, .slice L.da L.dn L.dc] 29)) w.heap.size 29 #[.int .i64 L.a, .string L.h.prev, .string L.h.root, .int .i64 L.h.time, .int .i64 L.h.diff, .int .i64 L.h.nonce, .slice L.r.pa L.r.pn L.r.pc, .slice L.r.sa L.r.sn L.r.sc, .slice L.da L.dn L.dc]) := CBk.new w _ _
  have L0 : Hid (Below w.heap.size w (w.alloc (.cells #[.int .i64 L.a, .string L.h.prev, .string L.h.root, .int .i64 L.h.time, .int .i64 L.h.diff, .int .i64 L.h.nonce, .slice L.r.pa L.r.pn L.r.pc, .slice L.r.sa L.r.sn L.r.sc, .slice L.da L.dn L.dc] 29))) := (Below.refl _ w).alloc (Nat.le_refl _) _
  go_enter Tryz.func4, Tryz.ntmps4
  go_wp2_with fail
  refine (HSH.out _).mono ?_
  rintro e w1 ⟨b1, rfl | ⟨r, rfl, hr, hs⟩⟩
  · go_wp2_with fail
    go_ret
    exact ⟨L0.out.trans (b1.mono L0.out.size), .inl rfl⟩
  have L1 : Hid (Below w.heap.size w w1) := L0.out.trans (b1.mono L0.out.size)
  have B1 : Hid (CBk w1 w.heap.size 29 #[.int .i64 L.a, .string L.h.prev, .string L.h.root, .int .i64 L.h.time, .int .i64 L.h.diff, .int .i64 L.h.nonce, .slice L.r.pa L.r.pn L.r.pc, .slice L.r.sa L.r.sn L.r.sc, .slice L.da L.dn L.dc]) := B0.out.call b1
  obtain ⟨c0, c1, c2, c3, c4, c5, c6, c7, c8⟩ := B1.out.nineC
  have HS1 : Hid (smallHead L.h) := hs
  have hrn : ¬ (r : Int) < 0 := by omega
  clear B0 L0 b1 hs HSH
  go_wp2_with fail
  refine (HPR.out r _ hr L1.out).mono ?_
  rintro e w3 ⟨b3, rfl | ⟨r3, rfl, hr3, hs3⟩⟩
  · go_wp2_with fail
    go_ret
    exact ⟨L1.out.trans (b3.mono L1.out.size), .inl rfl⟩
  have L3 : Hid (Below w.heap.size w w3) := L1.out.trans (b3.mono L1.out.size)
  have B3 : Hid (CBk w3 w.heap.size 29 #[.int .i64 L.a, .string L.h.prev, .string L.h.root, .int .i64 L.h.time, .int .i64 L.h.diff, .int .i64 L.h.nonce, .slice L.r.pa L.r.pn L.r.pc, .slice L.r.sa L.r.sn L.r.sc, .slice L.da L.dn L.dc]) := B1.out.call b3
  have HS3 : Hid (SmallPrf L.r) := hs3
  have hr3n : ¬ (r3 : Int) < 0 := by omega
  clear c0 c1 c2 c3 c4 c5 c6 c7 c8 B1 L1 b3 hs3 HPR hrn hr
  obtain ⟨c0, c1, c2, c3, c4, c5, c6, c7, c8⟩ := B3.out.nineC
  go_wp2_with fail
  refine (szSidesR r3 hr3 L.da L.dn L.dc L.dl _ (HI.out _ L3.out).d).mono ?_
  rintro e w4 ⟨b4, rfl | ⟨r4, rfl, hr4, hn4, hs4⟩⟩
  · go_wp2_with fail
    go_ret
    exact ⟨L3.out.trans (b4.mono L3.out.size), .inl rfl⟩
  have HS4 : Hid (L.dn ≤ 1048576 ∧ ∀ i, i < L.dn → smallSide (L.dl.getD i default)) := ⟨hn4, hs4⟩
  have HR4 : Hid (r4 ≤ 1048576) := by show _ ≤ _; omega
  have hr40 : ¬ (r4 : Int) < 0 := by omega
  clear hs4 hn4 hr4
  go_wp2_with fail
  go_ret
  exact ⟨L3.out.trans (b4.mono L3.out.size), .inr ⟨r4, rfl, HR4.out, HQ.out HS1.out HS3.out HS4.out.1 HS4.out.2⟩⟩

/-- A proof that an item is there, in memory of its own. -/
structure PaidV where
  s : PrfV
  g : Nat
  n : Nat
  c : Nat
def paidVal (L : LPaid) (v : PaidV) : Value := .agg #[.int .i64 L.a, .string L.h.prev, .string L.h.root, .int .i64 L.h.time, .int .i64 L.h.diff, .int .i64 L.h.nonce, .slice (some ⟨v.s.g, 0, none⟩) v.s.n v.s.c, .slice (some ⟨v.s.sg, 0, none⟩) v.s.sn v.s.sc, .slice (some ⟨v.g, 0, none⟩) v.n v.c]
structure CopyPaid (B : Nat) (L : LPaid) (v : PaidV) (w : World) : Prop where
  r : CopyPrf B L.r v.s w
  d : RowSide w v.g L.dl
  dn : v.n = L.dn
  dc : v.c = v.n
  lo : v.s.sg < v.g
theorem CopyPaid.below {B : Nat} {L : LPaid} {v : PaidV} {w w' : World} (h : CopyPaid B L v w) (hb : Below w.heap.size w w') : CopyPaid B L v w' :=
  ⟨h.r.below hb, h.d.below hb h.d.lt, h.dn, h.dc, h.lo⟩
theorem rowSd_other {w : World} {g g' : Nat} {l : List SideV} (h : RowSide w g l) (hg : g' ≠ g) (j : Nat) (v : Value) : RowSide (w.setCell ⟨g', j, none⟩ v) g l := by
  unfold RowSide RowF at h ⊢; simp [World.setCell, Array.getElem?_modify, h, hg]
theorem copyPrf_other {B : Nat} {L : LPrf} {s : PrfV} {w : World} (h : CopyPrf B L s w) {g' : Nat} (hg : g' < B) (j : Nat) (v : Value) : CopyPrf B L s (w.setCell ⟨g', j, none⟩ v) := by
  have h1 := h.lo
  have h2 := h.up
  exact ⟨rowP_other h.p (by omega) j v, h.ps, h.pn, h.pc, rowP_other h.st (by omega) j v, h.ss, h.sn, h.sc, h.lo, h.up⟩
theorem copyPrf_lo {B C : Nat} {L : LPrf} {s : PrfV} {w : World} (h : CopyPrf B L s w) (hc : C ≤ B) : CopyPrf C L s w :=
  ⟨h.p, h.ps, h.pn, h.pc, h.st, h.ss, h.sn, h.sc, Nat.le_trans hc h.lo, h.up⟩
theorem copyPaid_other {B : Nat} {L : LPaid} {v : PaidV} {w : World} (h : CopyPaid B L v w) {g' : Nat} (hg : g' < B) (j : Nat) (x : Value) : CopyPaid B L v (w.setCell ⟨g', j, none⟩ x) := by
  have h1 := h.r.lo
  have h2 := h.r.up
  have h3 := h.lo
  exact ⟨copyPrf_other h.r hg j x, rowSd_other h.d (by omega) j x, h.dn, h.dc, h.lo⟩
theorem copyPaid_lo {B C : Nat} {L : LPaid} {v : PaidV} {w : World} (h : CopyPaid B L v w) (hc : C ≤ B) : CopyPaid C L v w := ⟨copyPrf_lo h.r hc, h.d, h.dn, h.dc, h.lo⟩

set_option maxHeartbeats 4000000 in
set_option maxRecDepth 100000 in
theorem toPaid1 (L : LPaid) (w w0 : World) (h0 : IsPaid w0 L) (hw : Below w0.heap.size w0 w) (hs : SmallPaid L) :
    Calls Tryz.prog 6 #[lpaidVal L] w fun e w' => ∃ v, e = .returned (paidVal L v) ∧ CopyPaid w.heap.size L v w' ∧ Below w.heap.size w w' := by
  have HH : Hid (∀ w', Calls Tryz.prog 17 #[.agg #[.string L.h.prev, .string L.h.root, .int .i64 L.h.time, .int .i64 L.h.diff, .int .i64 L.h.nonce]] w' fun e w'' => e = .returned (.agg #[.string L.h.prev, .string L.h.root, .int .i64 L.h.time, .int .i64 L.h.diff, .int .i64 L.h.nonce]) ∧ Below w'.heap.size w' w'') := fun w' => toHeadA L.h w'
  have HB : Hid (∀ w', Below w.heap.size w w' → Calls Tryz.prog 18 #[lprfVal L.r] w' fun e w'' => ∃ s, e = .returned (prfVal s) ∧ CopyPrf w'.heap.size L.r s w'' ∧ Below w'.heap.size w' w'') := fun w' hb => toProof1 L.r w' w0 h0.r (hw.trans (hb.mono hw.size)) hs.r
  have HT : Hid (∀ w', Below w.heap.size w w' → Calls Tryz.prog 19 #[.slice L.da L.dn L.dc] w' fun e w'' => e = .returned (.slice (some ⟨w'.heap.size, 0, none⟩) L.dn L.dn) ∧ RowSide w'' w'.heap.size L.dl ∧ Below w'.heap.size w' w'') := fun w' hb => toSides L.da L.dn L.dc L.dl w' w0 h0.d (hw.trans (hb.mono hw.size)) hs.dn
  have HQ : Hid (∀ (e : Ending) (w' : World) (v : PaidV), e = .returned (paidVal L v) → CopyPaid w.heap.size L v w' → Below w.heap.size w w' → ∃ v, e = .returned (paidVal L v) ∧ CopyPaid w.heap.size L v w' ∧ Below w.heap.size w w') := fun e w' v h1 h2 h3 => ⟨v, h1, h2, h3⟩
  clear h0 hw hs
  unfold lpaidVal
  unfold lprfVal prfVal at HB
  have A0 : Hid (CBk (((w.alloc (.cells #[.int .i64 L.a, .string L.h.prev, .string L.h.root, .int .i64 L.h.time, .int .i64 L.h.diff, .int .i64 L.h.nonce, .slice L.r.pa L.r.pn L.r.pc, .slice L.r.sa L.r.sn L.r.sc, .slice L.da L.dn L.dc] 29)).alloc (.cells #[.int .i64 0, .string ⟨#[]⟩, .string ⟨#[]⟩, .int .i64 0, .int .i64 0, .int .i64 0, .slice none 0 0, .slice none 0 0, .slice none 0 0] 38)).alloc (.cells #[.int .i64 L.a, .string ⟨#[]⟩, .string ⟨#[]⟩, .int .i64 0, .int .i64 0, .int .i64 0, .slice none 0 0, .slice none 0 0, .slice none 0 0] 38)) w.heap.size 29 #[.int .i64 L.a, .string L.h.prev, .string L.h.root, .int .i64 L.h.time, .int .i64 L.h.diff, .int .i64 L.h.nonce, .slice L.r.pa L.r.pn L.r.pc, .slice L.r.sa L.r.sn L.r.sc, .slice L.da L.dn L.dc]) := ((CBk.new w _ _).alloc _).alloc _
  have A1 : Hid (CBk (((w.alloc (.cells #[.int .i64 L.a, .string L.h.prev, .string L.h.root, .int .i64 L.h.time, .int .i64 L.h.diff, .int .i64 L.h.nonce, .slice L.r.pa L.r.pn L.r.pc, .slice L.r.sa L.r.sn L.r.sc, .slice L.da L.dn L.dc] 29)).alloc (.cells #[.int .i64 0, .string ⟨#[]⟩, .string ⟨#[]⟩, .int .i64 0, .int .i64 0, .int .i64 0, .slice none 0 0, .slice none 0 0, .slice none 0 0] 38)).alloc (.cells #[.int .i64 L.a, .string ⟨#[]⟩, .string ⟨#[]⟩, .int .i64 0, .int .i64 0, .int .i64 0, .slice none 0 0, .slice none 0 0, .slice none 0 0] 38)) (w.heap.size + 1) 38 #[.int .i64 0, .string ⟨#[]⟩, .string ⟨#[]⟩, .int .i64 0, .int .i64 0, .int .i64 0, .slice none 0 0, .slice none 0 0, .slice none 0 0]) := by
    have := (CBk.new (w.alloc (.cells #[.int .i64 L.a, .string L.h.prev, .string L.h.root, .int .i64 L.h.time, .int .i64 L.h.diff, .int .i64 L.h.nonce, .slice L.r.pa L.r.pn L.r.pc, .slice L.r.sa L.r.sn L.r.sc, .slice L.da L.dn L.dc] 29)) 38 #[.int .i64 0, .string ⟨#[]⟩, .string ⟨#[]⟩, .int .i64 0, .int .i64 0, .int .i64 0, .slice none 0 0, .slice none 0 0, .slice none 0 0]).alloc (.cells #[.int .i64 L.a, .string ⟨#[]⟩, .string ⟨#[]⟩, .int .i64 0, .int .i64 0, .int .i64 0, .slice none 0 0, .slice none 0 0, .slice none 0 0] 38)
    rwa [show (w.alloc (.cells #[.int .i64 L.a, .string L.h.prev, .string L.h.root, .int .i64 L.h.time, .int .i64 L.h.diff, .int .i64 L.h.nonce, .slice L.r.pa L.r.pn L.r.pc, .slice L.r.sa L.r.sn L.r.sc, .slice L.da L.dn L.dc] 29)).heap.size = w.heap.size + 1 from by simp] at this
  have A2 : Hid (CBk (((w.alloc (.cells #[.int .i64 L.a, .string L.h.prev, .string L.h.root, .int .i64 L.h.time, .int .i64 L.h.diff, .int .i64 L.h.nonce, .slice L.r.pa L.r.pn L.r.pc, .slice L.r.sa L.r.sn L.r.sc, .slice L.da L.dn L.dc] 29)).alloc (.cells #[.int .i64 0, .string ⟨#[]⟩, .string ⟨#[]⟩, .int .i64 0, .int .i64 0, .int .i64 0, .slice none 0 0, .slice none 0 0, .slice none 0 0] 38)).alloc (.cells #[.int .i64 L.a, .string ⟨#[]⟩, .string ⟨#[]⟩, .int .i64 0, .int .i64 0, .int .i64 0, .slice none 0 0, .slice none 0 0, .slice none 0 0] 38)) (w.heap.size + 1 + 1) 38 #[.int .i64 L.a, .string ⟨#[]⟩, .string ⟨#[]⟩, .int .i64 0, .int .i64 0, .int .i64 0, .slice none 0 0, .slice none 0 0, .slice none 0 0]) := by
    have := CBk.new ((w.alloc (.cells #[.int .i64 L.a, .string L.h.prev, .string L.h.root, .int .i64 L.h.time, .int .i64 L.h.diff, .int .i64 L.h.nonce, .slice L.r.pa L.r.pn L.r.pc, .slice L.r.sa L.r.sn L.r.sc, .slice L.da L.dn L.dc] 29)).alloc (.cells #[.int .i64 0, .string ⟨#[]⟩, .string ⟨#[]⟩, .int .i64 0, .int .i64 0, .int .i64 0, .slice none 0 0, .slice none 0 0, .slice none 0 0] 38)) 38 #[.int .i64 L.a, .string ⟨#[]⟩, .string ⟨#[]⟩, .int .i64 0, .int .i64 0, .int .i64 0, .slice none 0 0, .slice none 0 0, .slice none 0 0]
    rwa [show ((w.alloc (.cells #[.int .i64 L.a, .string L.h.prev, .string L.h.root, .int .i64 L.h.time, .int .i64 L.h.diff, .int .i64 L.h.nonce, .slice L.r.pa L.r.pn L.r.pc, .slice L.r.sa L.r.sn L.r.sc, .slice L.da L.dn L.dc] 29)).alloc (.cells #[.int .i64 0, .string ⟨#[]⟩, .string ⟨#[]⟩, .int .i64 0, .int .i64 0, .int .i64 0, .slice none 0 0, .slice none 0 0, .slice none 0 0] 38)).heap.size = w.heap.size + 1 + 1 from by simp] at this
  have L0 : Hid (Below w.heap.size w (((w.alloc (.cells #[.int .i64 L.a, .string L.h.prev, .string L.h.root, .int .i64 L.h.time, .int .i64 L.h.diff, .int .i64 L.h.nonce, .slice L.r.pa L.r.pn L.r.pc, .slice L.r.sa L.r.sn L.r.sc, .slice L.da L.dn L.dc] 29)).alloc (.cells #[.int .i64 0, .string ⟨#[]⟩, .string ⟨#[]⟩, .int .i64 0, .int .i64 0, .int .i64 0, .slice none 0 0, .slice none 0 0, .slice none 0 0] 38)).alloc (.cells #[.int .i64 L.a, .string ⟨#[]⟩, .string ⟨#[]⟩, .int .i64 0, .int .i64 0, .int .i64 0, .slice none 0 0, .slice none 0 0, .slice none 0 0] 38))) := (((Below.refl _ w).alloc (Nat.le_refl _) _).alloc (by simp) _).alloc (by simp; omega) _
  have HL3 : Hid (w.heap.size + 3 ≤ (((w.alloc (.cells #[.int .i64 L.a, .string L.h.prev, .string L.h.root, .int .i64 L.h.time, .int .i64 L.h.diff, .int .i64 L.h.nonce, .slice L.r.pa L.r.pn L.r.pc, .slice L.r.sa L.r.sn L.r.sc, .slice L.da L.dn L.dc] 29)).alloc (.cells #[.int .i64 0, .string ⟨#[]⟩, .string ⟨#[]⟩, .int .i64 0, .int .i64 0, .int .i64 0, .slice none 0 0, .slice none 0 0, .slice none 0 0] 38)).alloc (.cells #[.int .i64 L.a, .string ⟨#[]⟩, .string ⟨#[]⟩, .int .i64 0, .int .i64 0, .int .i64 0, .slice none 0 0, .slice none 0 0, .slice none 0 0] 38)).heap.size) := by show _ ≤ _; simp
  go_enter Tryz.func6, Tryz.ntmps6
  go_wp2_with fail
  generalize (((w.alloc (.cells #[.int .i64 L.a, .string L.h.prev, .string L.h.root, .int .i64 L.h.time, .int .i64 L.h.diff, .int .i64 L.h.nonce, .slice L.r.pa L.r.pn L.r.pc, .slice L.r.sa L.r.sn L.r.sc, .slice L.da L.dn L.dc] 29)).alloc (.cells #[.int .i64 0, .string ⟨#[]⟩, .string ⟨#[]⟩, .int .i64 0, .int .i64 0, .int .i64 0, .slice none 0 0, .slice none 0 0, .slice none 0 0] 38)).alloc (.cells #[.int .i64 L.a, .string ⟨#[]⟩, .string ⟨#[]⟩, .int .i64 0, .int .i64 0, .int .i64 0, .slice none 0 0, .slice none 0 0, .slice none 0 0] 38)) = W1 at A0 A1 A2 L0 HL3 ⊢
  refine (HH.out _).mono ?_
  rintro e w1 ⟨rfl, b1⟩
  obtain ⟨g0, hg0⟩ : ∃ g0, g0 = w.heap.size := ⟨_, rfl⟩
  have HLw : Hid (g0 = w.heap.size) := hg0
  have S1' : Hid (CBk w1 (g0 + 1 + 1) 38 #[.int .i64 L.a, .string ⟨#[]⟩, .string ⟨#[]⟩, .int .i64 0, .int .i64 0, .int .i64 0, .slice none 0 0, .slice none 0 0, .slice none 0 0]) := by rw [hg0]; exact A2.out.call b1
  have T1' : Hid (CBk w1 (g0 + 1) 38 #[.int .i64 0, .string ⟨#[]⟩, .string ⟨#[]⟩, .int .i64 0, .int .i64 0, .int .i64 0, .slice none 0 0, .slice none 0 0, .slice none 0 0]) := by rw [hg0]; exact A1.out.call b1
  have U1' : Hid (CBk w1 g0 29 #[.int .i64 L.a, .string L.h.prev, .string L.h.root, .int .i64 L.h.time, .int .i64 L.h.diff, .int .i64 L.h.nonce, .slice L.r.pa L.r.pn L.r.pc, .slice L.r.sa L.r.sn L.r.sc, .slice L.da L.dn L.dc]) := by rw [hg0]; exact A0.out.call b1
  have L1 : Hid (Below w.heap.size w w1) := L0.out.trans (b1.mono L0.out.size)
  have HZ : Hid (g0 + 3 ≤ w1.heap.size) := by show _ ≤ _; have := HL3.out; have := b1.size; omega
  rw [← hg0]
  clear A0 A1 A2 L0 HL3 b1 HH
  clear hg0
  clear W1
  obtain ⟨c0, c1, c2, c3, c4, c5, c6, c7, c8⟩ := U1'.out.nineC
  obtain ⟨d0, d1, d2, d3, d4, d5, d6, d7, d8⟩ := S1'.out.nineC
  obtain ⟨z0, z1, z2, z3, z4, z5, z6, z7, z8⟩ := S1'.out.nineF
  have S2 : Hid (CBk (((((w1.setCell ⟨g0 + 1 + 1, 1, none⟩ (.string L.h.prev)).setCell ⟨g0 + 1 + 1, 2, none⟩ (.string L.h.root)).setCell ⟨g0 + 1 + 1, 3, none⟩ (.int .i64 L.h.time)).setCell ⟨g0 + 1 + 1, 4, none⟩ (.int .i64 L.h.diff)).setCell ⟨g0 + 1 + 1, 5, none⟩ (.int .i64 L.h.nonce)) (g0 + 1 + 1) 38 #[.int .i64 L.a, .string L.h.prev, .string L.h.root, .int .i64 L.h.time, .int .i64 L.h.diff, .int .i64 L.h.nonce, .slice none 0 0, .slice none 0 0, .slice none 0 0]) := (((((S1'.out.set 1 _).set 2 _).set 3 _).set 4 _).set 5 _)
  have T2 : Hid (CBk (((((w1.setCell ⟨g0 + 1 + 1, 1, none⟩ (.string L.h.prev)).setCell ⟨g0 + 1 + 1, 2, none⟩ (.string L.h.root)).setCell ⟨g0 + 1 + 1, 3, none⟩ (.int .i64 L.h.time)).setCell ⟨g0 + 1 + 1, 4, none⟩ (.int .i64 L.h.diff)).setCell ⟨g0 + 1 + 1, 5, none⟩ (.int .i64 L.h.nonce)) (g0 + 1) 38 #[.int .i64 0, .string ⟨#[]⟩, .string ⟨#[]⟩, .int .i64 0, .int .i64 0, .int .i64 0, .slice none 0 0, .slice none 0 0, .slice none 0 0]) := (((((T1'.out.other (by omega) _).other (by omega) _).other (by omega) _).other (by omega) _).other (by omega) _)
  have U2 : Hid (CBk (((((w1.setCell ⟨g0 + 1 + 1, 1, none⟩ (.string L.h.prev)).setCell ⟨g0 + 1 + 1, 2, none⟩ (.string L.h.root)).setCell ⟨g0 + 1 + 1, 3, none⟩ (.int .i64 L.h.time)).setCell ⟨g0 + 1 + 1, 4, none⟩ (.int .i64 L.h.diff)).setCell ⟨g0 + 1 + 1, 5, none⟩ (.int .i64 L.h.nonce)) g0 29 #[.int .i64 L.a, .string L.h.prev, .string L.h.root, .int .i64 L.h.time, .int .i64 L.h.diff, .int .i64 L.h.nonce, .slice L.r.pa L.r.pn L.r.pc, .slice L.r.sa L.r.sn L.r.sc, .slice L.da L.dn L.dc]) := (((((U1'.out.other (by omega) _).other (by omega) _).other (by omega) _).other (by omega) _).other (by omega) _)
  have L2 : Hid (Below w.heap.size w (((((w1.setCell ⟨g0 + 1 + 1, 1, none⟩ (.string L.h.prev)).setCell ⟨g0 + 1 + 1, 2, none⟩ (.string L.h.root)).setCell ⟨g0 + 1 + 1, 3, none⟩ (.int .i64 L.h.time)).setCell ⟨g0 + 1 + 1, 4, none⟩ (.int .i64 L.h.diff)).setCell ⟨g0 + 1 + 1, 5, none⟩ (.int .i64 L.h.nonce))) := by
    have e4 := HLw.out
    exact (((((L1.out.setCell (p := ⟨g0 + 1 + 1, 1, none⟩) (by show w.heap.size ≤ g0 + 1 + 1; omega) _).setCell (p := ⟨g0 + 1 + 1, 2, none⟩) (by show w.heap.size ≤ g0 + 1 + 1; omega) _).setCell (p := ⟨g0 + 1 + 1, 3, none⟩) (by show w.heap.size ≤ g0 + 1 + 1; omega) _).setCell (p := ⟨g0 + 1 + 1, 4, none⟩) (by show w.heap.size ≤ g0 + 1 + 1; omega) _).setCell (p := ⟨g0 + 1 + 1, 5, none⟩) (by show w.heap.size ≤ g0 + 1 + 1; omega) _)
  have HZ2 : Hid (g0 + 3 ≤ (((((w1.setCell ⟨g0 + 1 + 1, 1, none⟩ (.string L.h.prev)).setCell ⟨g0 + 1 + 1, 2, none⟩ (.string L.h.root)).setCell ⟨g0 + 1 + 1, 3, none⟩ (.int .i64 L.h.time)).setCell ⟨g0 + 1 + 1, 4, none⟩ (.int .i64 L.h.diff)).setCell ⟨g0 + 1 + 1, 5, none⟩ (.int .i64 L.h.nonce)).heap.size) := by show _ ≤ _; have := HZ.out; simpa [World.setCell] using this
  clear S1' T1' U1' L1 HZ
  go_wp2_with fail
  generalize (((((w1.setCell ⟨g0 + 1 + 1, 1, none⟩ (.string L.h.prev)).setCell ⟨g0 + 1 + 1, 2, none⟩ (.string L.h.root)).setCell ⟨g0 + 1 + 1, 3, none⟩ (.int .i64 L.h.time)).setCell ⟨g0 + 1 + 1, 4, none⟩ (.int .i64 L.h.diff)).setCell ⟨g0 + 1 + 1, 5, none⟩ (.int .i64 L.h.nonce)) = W2 at S2 T2 U2 L2 HZ2 ⊢
  refine (HB.out _ L2.out).mono ?_
  rintro e w2 ⟨s, rfl, C2, b2⟩
  have S2' : Hid (CBk w2 (g0 + 1 + 1) 38 #[.int .i64 L.a, .string L.h.prev, .string L.h.root, .int .i64 L.h.time, .int .i64 L.h.diff, .int .i64 L.h.nonce, .slice none 0 0, .slice none 0 0, .slice none 0 0]) := S2.out.call b2
  have T2' : Hid (CBk w2 (g0 + 1) 38 #[.int .i64 0, .string ⟨#[]⟩, .string ⟨#[]⟩, .int .i64 0, .int .i64 0, .int .i64 0, .slice none 0 0, .slice none 0 0, .slice none 0 0]) := T2.out.call b2
  have U2' : Hid (CBk w2 g0 29 #[.int .i64 L.a, .string L.h.prev, .string L.h.root, .int .i64 L.h.time, .int .i64 L.h.diff, .int .i64 L.h.nonce, .slice L.r.pa L.r.pn L.r.pc, .slice L.r.sa L.r.sn L.r.sc, .slice L.da L.dn L.dc]) := U2.out.call b2
  have L2' : Hid (Below w.heap.size w w2) := L2.out.trans (b2.mono L2.out.size)
  have C2' : Hid (CopyPrf (g0 + 3) L.r s w2) := copyPrf_lo C2 HZ2.out
  clear S2 T2 U2 L2 HZ2 b2 C2 c0 c1 c2 c3 c4 c5 c6 c7 c8 d0 d1 d2 d3 d4 d5 d6 d7 d8 z0 z1 z2 z3 z4 z5 z6 z7 z8
  clear W2 w1
  obtain ⟨c0, c1, c2, c3, c4, c5, c6, c7, c8⟩ := U2'.out.nineC
  obtain ⟨d0, d1, d2, d3, d4, d5, d6, d7, d8⟩ := S2'.out.nineC
  obtain ⟨z0, z1, z2, z3, z4, z5, z6, z7, z8⟩ := S2'.out.nineF
  have S3 : Hid (CBk ((w2.setCell ⟨g0 + 1 + 1, 6, none⟩ (.slice (some ⟨s.g, 0, none⟩) s.n s.c)).setCell ⟨g0 + 1 + 1, 7, none⟩ (.slice (some ⟨s.sg, 0, none⟩) s.sn s.sc)) (g0 + 1 + 1) 38 #[.int .i64 L.a, .string L.h.prev, .string L.h.root, .int .i64 L.h.time, .int .i64 L.h.diff, .int .i64 L.h.nonce, .slice (some ⟨s.g, 0, none⟩) s.n s.c, .slice (some ⟨s.sg, 0, none⟩) s.sn s.sc, .slice none 0 0]) := ((S2'.out.set 6 _).set 7 _)
  have T3 : Hid (CBk ((w2.setCell ⟨g0 + 1 + 1, 6, none⟩ (.slice (some ⟨s.g, 0, none⟩) s.n s.c)).setCell ⟨g0 + 1 + 1, 7, none⟩ (.slice (some ⟨s.sg, 0, none⟩) s.sn s.sc)) (g0 + 1) 38 #[.int .i64 0, .string ⟨#[]⟩, .string ⟨#[]⟩, .int .i64 0, .int .i64 0, .int .i64 0, .slice none 0 0, .slice none 0 0, .slice none 0 0]) := ((T2'.out.other (by omega) _).other (by omega) _)
  have L3 : Hid (Below w.heap.size w ((w2.setCell ⟨g0 + 1 + 1, 6, none⟩ (.slice (some ⟨s.g, 0, none⟩) s.n s.c)).setCell ⟨g0 + 1 + 1, 7, none⟩ (.slice (some ⟨s.sg, 0, none⟩) s.sn s.sc))) := by
    have e4 := HLw.out
    exact ((L2'.out.setCell (p := ⟨g0 + 1 + 1, 6, none⟩) (by show w.heap.size ≤ g0 + 1 + 1; omega) _).setCell (p := ⟨g0 + 1 + 1, 7, none⟩) (by show w.heap.size ≤ g0 + 1 + 1; omega) _)
  have C3 : Hid (CopyPrf (g0 + 3) L.r s ((w2.setCell ⟨g0 + 1 + 1, 6, none⟩ (.slice (some ⟨s.g, 0, none⟩) s.n s.c)).setCell ⟨g0 + 1 + 1, 7, none⟩ (.slice (some ⟨s.sg, 0, none⟩) s.sn s.sc))) := copyPrf_other (copyPrf_other C2'.out (g' := g0 + 1 + 1) (by omega) 6 _) (g' := g0 + 1 + 1) (by omega) 7 _
  clear S2' T2' U2' L2' C2' HB
  go_wp2_with fail
  generalize ((w2.setCell ⟨g0 + 1 + 1, 6, none⟩ (.slice (some ⟨s.g, 0, none⟩) s.n s.c)).setCell ⟨g0 + 1 + 1, 7, none⟩ (.slice (some ⟨s.sg, 0, none⟩) s.sn s.sc)) = W3 at S3 T3 L3 C3 ⊢
  refine (HT.out _ L3.out).mono ?_
  rintro e w3 ⟨rfl, R3, b3⟩
  obtain ⟨g2, hg2⟩ : ∃ g2, g2 = W3.heap.size := ⟨_, rfl⟩
  have HG2 : Hid (s.sg < g2) := by show _ < _; rw [hg2]; exact C3.out.st.lt
  have R3' : Hid (RowSide w3 g2 L.dl) := by rw [hg2]; exact R3
  have S3' : Hid (CBk w3 (g0 + 1 + 1) 38 #[.int .i64 L.a, .string L.h.prev, .string L.h.root, .int .i64 L.h.time, .int .i64 L.h.diff, .int .i64 L.h.nonce, .slice (some ⟨s.g, 0, none⟩) s.n s.c, .slice (some ⟨s.sg, 0, none⟩) s.sn s.sc, .slice none 0 0]) := S3.out.call b3
  have T3' : Hid (CBk w3 (g0 + 1) 38 #[.int .i64 0, .string ⟨#[]⟩, .string ⟨#[]⟩, .int .i64 0, .int .i64 0, .int .i64 0, .slice none 0 0, .slice none 0 0, .slice none 0 0]) := T3.out.call b3
  have L3' : Hid (Below w.heap.size w w3) := L3.out.trans (b3.mono L3.out.size)
  have C3' : Hid (CopyPrf (g0 + 3) L.r s w3) := C3.out.below b3
  rw [← hg2]
  clear S3 T3 L3 C3 b3 R3 c0 c1 c2 c3 c4 c5 c6 c7 c8 d0 d1 d2 d3 d4 d5 d6 d7 d8 z0 z1 z2 z3 z4 z5 z6 z7 z8
  clear hg2
  clear W3 w2
  have C0 : Hid (CopyPaid (g0 + 3) L ⟨s, g2, L.dn, L.dn⟩ w3) := ⟨C3'.out, R3'.out, rfl, rfl, HG2.out⟩
  clear C3' R3' HG2
  obtain ⟨d0, d1, d2, d3, d4, d5, d6, d7, d8⟩ := S3'.out.nineC
  obtain ⟨z0, z1, z2, z3, z4, z5, z6, z7, z8⟩ := S3'.out.nineF
  obtain ⟨p0, p1, p2, p3, p4, p5, p6, p7, p8⟩ := T3'.out.nineC
  obtain ⟨y0, y1, y2, y3, y4, y5, y6, y7, y8⟩ := T3'.out.nineF
  have S4 : Hid (CBk (w3.setCell ⟨g0 + 1 + 1, 8, none⟩ (.slice (some ⟨g2, 0, none⟩) L.dn L.dn)) (g0 + 1 + 1) 38 #[.int .i64 L.a, .string L.h.prev, .string L.h.root, .int .i64 L.h.time, .int .i64 L.h.diff, .int .i64 L.h.nonce, .slice (some ⟨s.g, 0, none⟩) s.n s.c, .slice (some ⟨s.sg, 0, none⟩) s.sn s.sc, .slice (some ⟨g2, 0, none⟩) L.dn L.dn]) := (S3'.out.set 8 _)
  have T4 : Hid (CBk ((((((((((w3.setCell ⟨g0 + 1 + 1, 8, none⟩ (.slice (some ⟨g2, 0, none⟩) L.dn L.dn)).setCell ⟨g0 + 1, 0, none⟩ (.int .i64 L.a)).setCell ⟨g0 + 1, 1, none⟩ (.string L.h.prev)).setCell ⟨g0 + 1, 2, none⟩ (.string L.h.root)).setCell ⟨g0 + 1, 3, none⟩ (.int .i64 L.h.time)).setCell ⟨g0 + 1, 4, none⟩ (.int .i64 L.h.diff)).setCell ⟨g0 + 1, 5, none⟩ (.int .i64 L.h.nonce)).setCell ⟨g0 + 1, 6, none⟩ (.slice (some ⟨s.g, 0, none⟩) s.n s.c)).setCell ⟨g0 + 1, 7, none⟩ (.slice (some ⟨s.sg, 0, none⟩) s.sn s.sc)).setCell ⟨g0 + 1, 8, none⟩ (.slice (some ⟨g2, 0, none⟩) L.dn L.dn)) (g0 + 1) 38 #[.int .i64 L.a, .string L.h.prev, .string L.h.root, .int .i64 L.h.time, .int .i64 L.h.diff, .int .i64 L.h.nonce, .slice (some ⟨s.g, 0, none⟩) s.n s.c, .slice (some ⟨s.sg, 0, none⟩) s.sn s.sc, .slice (some ⟨g2, 0, none⟩) L.dn L.dn]) := ((((((((((T3'.out.other (by omega) _).set 0 _).set 1 _).set 2 _).set 3 _).set 4 _).set 5 _).set 6 _).set 7 _).set 8 _)
  have L4 : Hid (Below w.heap.size w ((((((((((w3.setCell ⟨g0 + 1 + 1, 8, none⟩ (.slice (some ⟨g2, 0, none⟩) L.dn L.dn)).setCell ⟨g0 + 1, 0, none⟩ (.int .i64 L.a)).setCell ⟨g0 + 1, 1, none⟩ (.string L.h.prev)).setCell ⟨g0 + 1, 2, none⟩ (.string L.h.root)).setCell ⟨g0 + 1, 3, none⟩ (.int .i64 L.h.time)).setCell ⟨g0 + 1, 4, none⟩ (.int .i64 L.h.diff)).setCell ⟨g0 + 1, 5, none⟩ (.int .i64 L.h.nonce)).setCell ⟨g0 + 1, 6, none⟩ (.slice (some ⟨s.g, 0, none⟩) s.n s.c)).setCell ⟨g0 + 1, 7, none⟩ (.slice (some ⟨s.sg, 0, none⟩) s.sn s.sc)).setCell ⟨g0 + 1, 8, none⟩ (.slice (some ⟨g2, 0, none⟩) L.dn L.dn))) := by
    have e4 := HLw.out
    exact ((((((((((L3'.out.setCell (p := ⟨g0 + 1 + 1, 8, none⟩) (by show w.heap.size ≤ g0 + 1 + 1; omega) _).setCell (p := ⟨g0 + 1, 0, none⟩) (by show w.heap.size ≤ g0 + 1; omega) _).setCell (p := ⟨g0 + 1, 1, none⟩) (by show w.heap.size ≤ g0 + 1; omega) _).setCell (p := ⟨g0 + 1, 2, none⟩) (by show w.heap.size ≤ g0 + 1; omega) _).setCell (p := ⟨g0 + 1, 3, none⟩) (by show w.heap.size ≤ g0 + 1; omega) _).setCell (p := ⟨g0 + 1, 4, none⟩) (by show w.heap.size ≤ g0 + 1; omega) _).setCell (p := ⟨g0 + 1, 5, none⟩) (by show w.heap.size ≤ g0 + 1; omega) _).setCell (p := ⟨g0 + 1, 6, none⟩) (by show w.heap.size ≤ g0 + 1; omega) _).setCell (p := ⟨g0 + 1, 7, none⟩) (by show w.heap.size ≤ g0 + 1; omega) _).setCell (p := ⟨g0 + 1, 8, none⟩) (by show w.heap.size ≤ g0 + 1; omega) _)
  have C4 : Hid (CopyPaid w.heap.size L ⟨s, g2, L.dn, L.dn⟩ ((((((((((w3.setCell ⟨g0 + 1 + 1, 8, none⟩ (.slice (some ⟨g2, 0, none⟩) L.dn L.dn)).setCell ⟨g0 + 1, 0, none⟩ (.int .i64 L.a)).setCell ⟨g0 + 1, 1, none⟩ (.string L.h.prev)).setCell ⟨g0 + 1, 2, none⟩ (.string L.h.root)).setCell ⟨g0 + 1, 3, none⟩ (.int .i64 L.h.time)).setCell ⟨g0 + 1, 4, none⟩ (.int .i64 L.h.diff)).setCell ⟨g0 + 1, 5, none⟩ (.int .i64 L.h.nonce)).setCell ⟨g0 + 1, 6, none⟩ (.slice (some ⟨s.g, 0, none⟩) s.n s.c)).setCell ⟨g0 + 1, 7, none⟩ (.slice (some ⟨s.sg, 0, none⟩) s.sn s.sc)).setCell ⟨g0 + 1, 8, none⟩ (.slice (some ⟨g2, 0, none⟩) L.dn L.dn))) := by
    have e4 := HLw.out
    exact copyPaid_lo (copyPaid_other (copyPaid_other (copyPaid_other (copyPaid_other (copyPaid_other (copyPaid_other (copyPaid_other (copyPaid_other (copyPaid_other (copyPaid_other C0.out (g' := g0 + 1 + 1) (by omega) 8 (.slice (some ⟨g2, 0, none⟩) L.dn L.dn)) (g' := g0 + 1) (by omega) 0 (.int .i64 L.a)) (g' := g0 + 1) (by omega) 1 (.string L.h.prev)) (g' := g0 + 1) (by omega) 2 (.string L.h.root)) (g' := g0 + 1) (by omega) 3 (.int .i64 L.h.time)) (g' := g0 + 1) (by omega) 4 (.int .i64 L.h.diff)) (g' := g0 + 1) (by omega) 5 (.int .i64 L.h.nonce)) (g' := g0 + 1) (by omega) 6 (.slice (some ⟨s.g, 0, none⟩) s.n s.c)) (g' := g0 + 1) (by omega) 7 (.slice (some ⟨s.sg, 0, none⟩) s.sn s.sc)) (g' := g0 + 1) (by omega) 8 (.slice (some ⟨g2, 0, none⟩) L.dn L.dn)) (by omega)
  obtain ⟨s0, s1, s2, s3, s4, s5, s6, s7, s8⟩ := S4.out.nineC
  clear S3' T3' L3' C0 HT
  go_wp2_with fail
  exact bodyPost_ret (results_cell_row (p := 2) rfl _ _ (g0 + 1) 38 #[.int .i64 L.a, .string L.h.prev, .string L.h.root, .int .i64 L.h.time, .int .i64 L.h.diff, .int .i64 L.h.nonce, .slice (some ⟨s.g, 0, none⟩) s.n s.c, .slice (some ⟨s.sg, 0, none⟩) s.sn s.sc, .slice (some ⟨g2, 0, none⟩) L.dn L.dn] (0, 0) _ rfl T4.out Tryz.underlying38 rfl (by kernel_rfl)) rfl (HQ.out _ _ _ rfl C4.out L4.out)

theorem CopyPaid.len {B : Nat} {L : LPaid} {v : PaidV} {w : World} (h : CopyPaid B L v w) : v.n = L.dn := h.dn
structure LenPaid (L : LPaid) : Prop where
  p : L.r.pl.length = L.r.pn
  s : L.r.sl.length = L.r.sn
  d : L.dl.length = L.dn
theorem IsPaid.lens {w : World} {L : LPaid} (h : IsPaid w L) : LenPaid L := ⟨h.r.p.len, h.r.s.len, h.d.len⟩
set_option maxHeartbeats 4000000 in
set_option maxRecDepth 100000 in
theorem eqPaid1 (L : LPaid) (u v : PaidV) (B C : Nat) (w : World) (hs : SmallPaid L) (hl : LenPaid L) (h1 : CopyPaid B L u w) (h2 : CopyPaid C L v w) :
    Calls Tryz.prog 8 #[paidVal L u, paidVal L v] w fun e w' => e = .returned (.bool true) ∧ Below w.heap.size w w' := by
  have e1 : v.s.n = u.s.n := by rw [h1.r.pn, h2.r.pn]
  have e2 : v.s.sn = u.s.sn := by rw [h1.r.sn, h2.r.sn]
  have e3 : v.n = u.n := by rw [h1.dn, h2.dn]
  have hq1 : Hid (∀ w', Calls Tryz.prog 22 #[.agg #[.string L.h.prev, .string L.h.root, .int .i64 L.h.time, .int .i64 L.h.diff, .int .i64 L.h.nonce], .agg #[.string L.h.prev, .string L.h.root, .int .i64 L.h.time, .int .i64 L.h.diff, .int .i64 L.h.nonce]] w' fun e w'' => e = .returned (.bool true) ∧ Below w'.heap.size w' w'') := fun w' => eqHeadA L.h w'
  have hq2 := fun (w' : World) (hb : Below w.heap.size w w') => eqProof1 L.r u.s v.s B C w' hs.r hl.p hl.s (h1.r.below hb) (h2.r.below hb)
  have hq3 := fun (w' : World) (hb : Below w.heap.size w w') => eqSides u.g v.g u.n u.c v.c L.dl w' ((h1.below hb).d.at 2 enSide_len) ((h2.below hb).d.at 2 enSide_len) (by rw [h1.dn, hl.d]) (by rw [h1.dn]; have := hs.dn; omega)
  unfold prfVal at hq2
  unfold paidVal
  rw [e1, e2] at hq2
  rw [e1, e2, e3]
  have hq2 : Hid _ := hq2
  have hq3 : Hid _ := hq3
  clear h1 h2 hs hl e1 e2 e3
  have C0 : Hid (CBk ((w.alloc (.cells #[.int .i64 L.a, .string L.h.prev, .string L.h.root, .int .i64 L.h.time, .int .i64 L.h.diff, .int .i64 L.h.nonce, .slice (some ⟨u.s.g, 0, none⟩) u.s.n u.s.c, .slice (some ⟨u.s.sg, 0, none⟩) u.s.sn u.s.sc, .slice (some ⟨u.g, 0, none⟩) u.n u.c] 38)).alloc (.cells #[.int .i64 L.a, .string L.h.prev, .string L.h.root, .int .i64 L.h.time, .int .i64 L.h.diff, .int .i64 L.h.nonce, .slice (some ⟨v.s.g, 0, none⟩) u.s.n v.s.c, .slice (some ⟨v.s.sg, 0, none⟩) u.s.sn v.s.sc, .slice (some ⟨v.g, 0, none⟩) u.n v.c] 38)) w.heap.size 38 #[.int .i64 L.a, .string L.h.prev, .string L.h.root, .int .i64 L.h.time, .int .i64 L.h.diff, .int .i64 L.h.nonce, .slice (some ⟨u.s.g, 0, none⟩) u.s.n u.s.c, .slice (some ⟨u.s.sg, 0, none⟩) u.s.sn u.s.sc, .slice (some ⟨u.g, 0, none⟩) u.n u.c]) := (CBk.new w _ _).alloc _
  have D0 : Hid (CBk ((w.alloc (.cells #[.int .i64 L.a, .string L.h.prev, .string L.h.root, .int .i64 L.h.time, .int .i64 L.h.diff, .int .i64 L.h.nonce, .slice (some ⟨u.s.g, 0, none⟩) u.s.n u.s.c, .slice (some ⟨u.s.sg, 0, none⟩) u.s.sn u.s.sc, .slice (some ⟨u.g, 0, none⟩) u.n u.c] 38)).alloc (.cells #[.int .i64 L.a, .string L.h.prev, .string L.h.root, .int .i64 L.h.time, .int .i64 L.h.diff, .int .i64 L.h.nonce, .slice (some ⟨v.s.g, 0, none⟩) u.s.n v.s.c, .slice (some ⟨v.s.sg, 0, none⟩) u.s.sn v.s.sc, .slice (some ⟨v.g, 0, none⟩) u.n v.c] 38)) (w.heap.size + 1) 38 #[.int .i64 L.a, .string L.h.prev, .string L.h.root, .int .i64 L.h.time, .int .i64 L.h.diff, .int .i64 L.h.nonce, .slice (some ⟨v.s.g, 0, none⟩) u.s.n v.s.c, .slice (some ⟨v.s.sg, 0, none⟩) u.s.sn v.s.sc, .slice (some ⟨v.g, 0, none⟩) u.n v.c]) := by
    have := CBk.new (w.alloc (.cells #[.int .i64 L.a, .string L.h.prev, .string L.h.root, .int .i64 L.h.time, .int .i64 L.h.diff, .int .i64 L.h.nonce, .slice (some ⟨u.s.g, 0, none⟩) u.s.n u.s.c, .slice (some ⟨u.s.sg, 0, none⟩) u.s.sn u.s.sc, .slice (some ⟨u.g, 0, none⟩) u.n u.c] 38)) 38 #[.int .i64 L.a, .string L.h.prev, .string L.h.root, .int .i64 L.h.time, .int .i64 L.h.diff, .int .i64 L.h.nonce, .slice (some ⟨v.s.g, 0, none⟩) u.s.n v.s.c, .slice (some ⟨v.s.sg, 0, none⟩) u.s.sn v.s.sc, .slice (some ⟨v.g, 0, none⟩) u.n v.c]
    rwa [show (w.alloc (.cells #[.int .i64 L.a, .string L.h.prev, .string L.h.root, .int .i64 L.h.time, .int .i64 L.h.diff, .int .i64 L.h.nonce, .slice (some ⟨u.s.g, 0, none⟩) u.s.n u.s.c, .slice (some ⟨u.s.sg, 0, none⟩) u.s.sn u.s.sc, .slice (some ⟨u.g, 0, none⟩) u.n u.c] 38)).heap.size = w.heap.size + 1 from by simp] at this
  have L0 : Hid (Below w.heap.size w ((w.alloc (.cells #[.int .i64 L.a, .string L.h.prev, .string L.h.root, .int .i64 L.h.time, .int .i64 L.h.diff, .int .i64 L.h.nonce, .slice (some ⟨u.s.g, 0, none⟩) u.s.n u.s.c, .slice (some ⟨u.s.sg, 0, none⟩) u.s.sn u.s.sc, .slice (some ⟨u.g, 0, none⟩) u.n u.c] 38)).alloc (.cells #[.int .i64 L.a, .string L.h.prev, .string L.h.root, .int .i64 L.h.time, .int .i64 L.h.diff, .int .i64 L.h.nonce, .slice (some ⟨v.s.g, 0, none⟩) u.s.n v.s.c, .slice (some ⟨v.s.sg, 0, none⟩) u.s.sn v.s.sc, .slice (some ⟨v.g, 0, none⟩) u.n v.c] 38))) := ((Below.refl _ w).alloc (Nat.le_refl _) _).alloc (by simp) _
  go_enter Tryz.func8, Tryz.ntmps8
  go_wp2_with fail
  refine (hq1.out _).mono ?_
  rintro e w1 ⟨rfl, b1⟩
  have C1 : Hid (CBk w1 w.heap.size 38 #[.int .i64 L.a, .string L.h.prev, .string L.h.root, .int .i64 L.h.time, .int .i64 L.h.diff, .int .i64 L.h.nonce, .slice (some ⟨u.s.g, 0, none⟩) u.s.n u.s.c, .slice (some ⟨u.s.sg, 0, none⟩) u.s.sn u.s.sc, .slice (some ⟨u.g, 0, none⟩) u.n u.c]) := C0.out.call b1
  have D1 : Hid (CBk w1 (w.heap.size + 1) 38 #[.int .i64 L.a, .string L.h.prev, .string L.h.root, .int .i64 L.h.time, .int .i64 L.h.diff, .int .i64 L.h.nonce, .slice (some ⟨v.s.g, 0, none⟩) u.s.n v.s.c, .slice (some ⟨v.s.sg, 0, none⟩) u.s.sn v.s.sc, .slice (some ⟨v.g, 0, none⟩) u.n v.c]) := D0.out.call b1
  have L1 : Hid (Below w.heap.size w w1) := L0.out.trans (b1.mono L0.out.size)
  obtain ⟨c0, c1, c2, c3, c4, c5, c6, c7, c8⟩ := C1.out.nineC
  obtain ⟨d0, d1, d2, d3, d4, d5, d6, d7, d8⟩ := D1.out.nineC
  clear C0 D0 L0 b1 hq1
  go_wp2_with fail
  refine (hq2.out _ L1.out).mono ?_
  rintro e w2 ⟨rfl, b2⟩
  have C2 : Hid (CBk w2 w.heap.size 38 #[.int .i64 L.a, .string L.h.prev, .string L.h.root, .int .i64 L.h.time, .int .i64 L.h.diff, .int .i64 L.h.nonce, .slice (some ⟨u.s.g, 0, none⟩) u.s.n u.s.c, .slice (some ⟨u.s.sg, 0, none⟩) u.s.sn u.s.sc, .slice (some ⟨u.g, 0, none⟩) u.n u.c]) := C1.out.call b2
  have D2 : Hid (CBk w2 (w.heap.size + 1) 38 #[.int .i64 L.a, .string L.h.prev, .string L.h.root, .int .i64 L.h.time, .int .i64 L.h.diff, .int .i64 L.h.nonce, .slice (some ⟨v.s.g, 0, none⟩) u.s.n v.s.c, .slice (some ⟨v.s.sg, 0, none⟩) u.s.sn v.s.sc, .slice (some ⟨v.g, 0, none⟩) u.n v.c]) := D1.out.call b2
  have L2 : Hid (Below w.heap.size w w2) := L1.out.trans (b2.mono L1.out.size)
  clear c0 c1 c2 c3 c4 c5 c6 c7 c8 d0 d1 d2 d3 d4 d5 d6 d7 d8 C1 D1 L1 b2 hq2
  obtain ⟨c0, c1, c2, c3, c4, c5, c6, c7, c8⟩ := C2.out.nineC
  obtain ⟨d0, d1, d2, d3, d4, d5, d6, d7, d8⟩ := D2.out.nineC
  go_wp2_with fail
  refine (hq3.out _ L2.out).mono ?_
  rintro e w3 ⟨rfl, b3⟩
  go_wp2_with fail
  go_ret
  exact ⟨rfl, L2.out.trans (b3.mono L2.out.size)⟩

end Go.Proofs.YtjeldedjhlicmaaGreatDoor

set_option linter.unusedVariables false
namespace Go.Proofs.YtjeldedjhlicmaaGreatDoor
open Go.RowKit Go.Deep

theorem CBk.drewP {w : World} {g : Nat} {T : TypeId} {cs : Array Value} (h : CBk w g T cs) : CBk w.drew g T cs := h
def pheadVal (L : LPaid) (v : PaidV) : Value := .agg #[.int .i64 L.a, .string L.h.prev, .string L.h.root, .int .i64 L.h.time, .int .i64 L.h.diff, .int .i64 L.h.nonce, .slice (some ⟨v.s.g, 0, none⟩) v.s.n v.s.c, .slice (some ⟨v.s.sg, 0, none⟩) v.s.sn v.s.sc]
theorem at_new2 (w : World) (o1 o2 : Obj) : ((w.alloc o1).alloc o2).heap[w.heap.size + 1]? = some o2 := by
  have := heap_alloc_new (w.alloc o1) o2
  rwa [show (w.alloc o1).heap.size = w.heap.size + 1 from by simp] at this
set_option maxRecDepth 100000 in
theorem runHeadPart (L : LPaid) (v : PaidV) (w : World) : (Instr.field 55 (.agg #[.int .i64 L.a, .string L.h.prev, .string L.h.root, .int .i64 L.h.time, .int .i64 L.h.diff, .int .i64 L.h.nonce, .slice (some ⟨v.s.g, 0, none⟩) v.s.n v.s.c, .slice (some ⟨v.s.sg, 0, none⟩) v.s.sn v.s.sc, .slice (some ⟨v.g, 0, none⟩) v.n v.c]) 0).run Tryz.prog w = .ok (.agg #[.int .i64 L.a, .string L.h.prev, .string L.h.root, .int .i64 L.h.time, .int .i64 L.h.diff, .int .i64 L.h.nonce, .slice (some ⟨v.s.g, 0, none⟩) v.s.n v.s.c, .slice (some ⟨v.s.sg, 0, none⟩) v.s.sn v.s.sc]) w := by kernel_rfl
set_option maxHeartbeats 1000000 in
set_option maxRecDepth 100000 in
theorem implPaidOpen (L : LPaid) (v : PaidV) (w : World) :
    Calls Tryz.prog 20 #[paidVal L v] w fun e w' => e = .returned (paidVal L v) ∧ Below w.heap.size w w' := by
  unfold paidVal
  go_enter Tryz.func20, Tryz.ntmps20
  go_wp2_with fail
  exact bodyPost_ret (results_cell_row (p := 2) rfl _ _ (w.heap.size + 1) 55 #[.int .i64 L.a, .string L.h.prev, .string L.h.root, .int .i64 L.h.time, .int .i64 L.h.diff, .int .i64 L.h.nonce, .slice (some ⟨v.s.g, 0, none⟩) v.s.n v.s.c, .slice (some ⟨v.s.sg, 0, none⟩) v.s.sn v.s.sc, .slice (some ⟨v.g, 0, none⟩) v.n v.c] (0, 0) _ rfl (at_new2 _ _ _) Tryz.underlying55 rfl (by kernel_rfl)) rfl ⟨rfl, ((Below.refl _ w).alloc (Nat.le_refl _) _).alloc (by simp) _⟩

end Go.Proofs.YtjeldedjhlicmaaGreatDoor

set_option linter.unusedVariables false
namespace Go.Proofs.YtjeldedjhlicmaaGreatDoor
open Go.RowKit Go.Deep

def wrkTo (ps : List PeakV) : Nat → Int
  | 0 => 0
  | k + 1 => wrkTo ps k + (ps.getD k default).work
def rangeMany (ps : List PeakV) : Int × Int := if rangeOkB ps = true then (cntTo ps ps.length, wrkTo ps ps.length) else (-1, -1)
theorem many_no {ps : List PeakV} (h : rangeOkB ps = false) : rangeMany ps = (-1, -1) := by rw [rangeMany, h]; rfl
theorem many_yes {ps : List PeakV} (h : rangeOkB ps = true) : rangeMany ps = (cntTo ps ps.length, wrkTo ps ps.length) := by rw [rangeMany, if_pos h]
theorem rangeOk_at {ps : List PeakV} (h : rangeOkB ps = true) (i : Nat) (hi : i < ps.length) : 1 ≤ (ps.getD i default).count ∧ (ps.getD i default).count ≤ 20 ∧ (ps.getD i default).count ≤ (ps.getD i default).work ∧ (ps.getD i default).work ≤ (ps.getD i default).count * 8 := by
  rw [rangeOkB, Bool.and_eq_true, List.all_eq_true] at h
  have := h.1 i (List.mem_range.2 hi)
  rw [stepOk, Bool.and_eq_true] at this
  exact peakOk_in this.1

set_option maxHeartbeats 1000000 in
set_option maxRecDepth 100000 in
theorem specL5Many (g n cap : Nat) (ps : List PeakV) (w : World) (h : AtP w g ps) (hn : n = ps.length) (hm : n ≤ 1048576) (hr : rangeOkB ps = true) :
    Calls Tryz.prog 49 #[.slice (some ⟨g, 0, none⟩) n cap] w fun e w' => e = .returned (.tuple #[.int .i64 (cntTo ps n), .int .i64 (wrkTo ps n)]) ∧ Below w.heap.size w w' := by
  have HA : Hid (AtP w g ps) := h
  have HN : Hid (n = ps.length) := hn
  have HR : Hid (∀ i, i < ps.length → 1 ≤ (ps.getD i default).count ∧ (ps.getD i default).count ≤ 20 ∧ (ps.getD i default).count ≤ (ps.getD i default).work ∧ (ps.getD i default).work ≤ (ps.getD i default).count * 8) := fun i hi => rangeOk_at hr i hi
  clear h hn hr
  go_enter Tryz.func49, Tryz.ntmps49
  go_wp2_with fail
  go_loopw [4, 5, 6] (fun m v i wr => ∃ (k : Nat) (x y : Int), k ≤ n ∧ i = .int .i64 (k : Int) ∧ m = .int .i64 x ∧ v = .int .i64 y ∧ 0 ≤ x ∧ x ≤ 20 * (k : Int) ∧ 0 ≤ y ∧ y ≤ 160 * (k : Int) ∧ Hid (x = cntTo ps k) ∧ Hid (y = wrkTo ps k) ∧ Hid (Below w.heap.size w wr)) (fun _ _ i _ => n - (intOf i).toNat)
  case atStart => exact ⟨0, 0, 0, by omega, rfl, rfl, rfl, by omega, by omega, by omega, by omega, rfl, rfl, Below.refl _ _⟩
  case round =>
    obtain ⟨k, x, y, hk, rfl, rfl, rfl, hx0, hx1, hy0, hy1, HX, HY, HB⟩ := hrel
    by_cases hlt : k < n
    · have hkl : k < ps.length := by rw [← HN.out]; exact hlt
      have HAr : Hid (AtP wr g ps) := HA.out.below HB.out HA.out.1
      have c0 := AtP.c0 HAr.out k hkl
      have c1 := AtP.c1 HAr.out k hkl
      have c2 := AtP.c2 HAr.out k hkl
      have lk : (k : Int) < (n : Int) := by omega
      have HK : Hid (k + 1 ≤ n) := hlt
      obtain ⟨p1, p2, p3, p4⟩ := HR.out k hkl
      have HC : Hid (x + (ps.getD k default).count = cntTo ps (k + 1)) := by show _ = _; rw [cntTo, ← HX.out]
      have HD : Hid (y + (ps.getD k default).work = wrkTo ps (k + 1)) := by show _ = _; rw [wrkTo, ← HY.out]
      generalize ps.getD k default = p at c0 c1 c2 p1 p2 p3 p4 HC HD
      have wx : IntKind.i64.wrap (x + p.count) = x + p.count := by rw [IntKind.wrap_i64]; omega
      have wy : IntKind.i64.wrap (y + p.work) = y + p.work := by rw [IntKind.wrap_i64]; omega
      clear hkl HX HY
      go_wp2_with fail
      go_roundw
      case rel => exact ⟨k + 1, x + p.count, y + p.work, HK.out, by go_num, rfl, rfl, by omega, by omega, by omega, by omega, HC, HD, HB.out⟩
      case measure => have := HK.out; simp [intOf]; omega
    · obtain rfl : k = n := by omega
      go_wp2_with fail
      go_ret2
      exact ⟨by rw [← HX.out, ← HY.out]; rfl, HB.out⟩

end Go.Proofs.YtjeldedjhlicmaaGreatDoor

set_option linter.unusedVariables false
namespace Go.Proofs.YtjeldedjhlicmaaGreatDoor
open Go.RowKit

theorem sum_size {s : ByteArray} (h : isSum s.data.toList = true) : s.size = 16 := by simpa using isSum_len h
/-- The five cells of a head. -/
def HAt (w : World) (g : Nat) (p r : ByteArray) (t d n : Int) : Prop := w.cell? ⟨g, 0, none⟩ = some (.string p) ∧ w.cell? ⟨g, 1, none⟩ = some (.string r) ∧ w.cell? ⟨g, 2, none⟩ = some (.int .i64 t) ∧ w.cell? ⟨g, 3, none⟩ = some (.int .i64 d) ∧ w.cell? ⟨g, 4, none⟩ = some (.int .i64 n)
theorem HAt.below {w w' : World} {g B : Nat} {p r : ByteArray} {t d n : Int} (h : HAt w g p r t d n) (hb : Below B w w') (hg : g < B) : HAt w' g p r t d n :=
  ⟨(hb.cell (p := ⟨g, 0, none⟩) hg).trans h.1, (hb.cell (p := ⟨g, 1, none⟩) hg).trans h.2.1, (hb.cell (p := ⟨g, 2, none⟩) hg).trans h.2.2.1, (hb.cell (p := ⟨g, 3, none⟩) hg).trans h.2.2.2.1, (hb.cell (p := ⟨g, 4, none⟩) hg).trans h.2.2.2.2⟩
theorem HAt.drew {w : World} {g : Nat} {p r : ByteArray} {t d n : Int} (h : HAt w g p r t d n) : HAt w.drew g p r t d n := h
theorem HAt.new (w : World) (T : TypeId) (p r : ByteArray) (t d n : Int) : HAt (w.alloc (.cells #[.string p, .string r, .int .i64 t, .int .i64 d, .int .i64 n] T)) w.heap.size p r t d n := by
  have hh := heap_alloc_new w (.cells #[.string p, .string r, .int .i64 t, .int .i64 d, .int .i64 n] T)
  refine ⟨?_, ?_, ?_, ?_, ?_⟩ <;> (rw [Lib.cell_of_heap hh]; rfl)

set_option maxHeartbeats 2000000 in
set_option maxRecDepth 100000 in
theorem specL3Put (h : HeadV) (w : World) (hok : headOkB h = true) :
    Calls Tryz.prog 42 #[.agg #[.string h.prev, .string h.root, .int .i64 h.time, .int .i64 h.diff, .int .i64 h.nonce]] w fun e w' => e = .returned (.string ⟨(headT h).toArray⟩) ∧ Below w.heap.size w w' := by
  obtain ⟨h1, h2, h3, h4, h5⟩ := headOk_in hok
  have HEQ : Hid (h.prev ++ ⟨#[32]⟩ ++ h.root ++ ⟨#[32]⟩ ++ ⟨(Lib.decDigits h.time.toNat).toArray⟩ ++ ⟨#[32]⟩ ++ ⟨(Lib.decDigits h.diff.toNat).toArray⟩ ++ ⟨#[32]⟩ ++ ⟨(Lib.decDigits h.nonce.toNat).toArray⟩ = (⟨(headT h).toArray⟩ : ByteArray)) := by
    show _ = _
    apply ByteArray.ext
    simp [headT, joinTo, headL]
  generalize (⟨(headT h).toArray⟩ : ByteArray) = T at HEQ
  obtain ⟨p, r, t, d, n⟩ := h
  dsimp only at h1 h2 h3 h4 h5 HEQ ⊢
  obtain ⟨tn, rfl⟩ : ∃ x : Nat, t = (x : Int) := ⟨t.toNat, by omega⟩
  obtain ⟨dn, rfl⟩ : ∃ x : Nat, d = (x : Int) := ⟨d.toNat, by omega⟩
  obtain ⟨nn, rfl⟩ : ∃ x : Nat, n = (x : Int) := ⟨n.toNat, by omega⟩
  simp only [Int.toNat_natCast] at HEQ
  have hps := sum_size h1
  have hrs := sum_size h2
  have ht := fun w' => specDec tn w' (by omega)
  have hd := fun w' => specDec dn w' (by omega)
  have hn := fun w' => specDec nn w' (by omega)
  have htl : (Lib.decDigits tn).length ≤ 19 := decLen (by omega)
  have hdl : (Lib.decDigits dn).length ≤ 19 := decLen (by omega)
  have hnl : (Lib.decDigits nn).length ≤ 19 := decLen (by omega)
  generalize Lib.decDigits tn = dt at ht htl HEQ
  generalize Lib.decDigits dn = dd at hd hdl HEQ
  generalize Lib.decDigits nn = dnn at hn hnl HEQ
  have H0 := HAt.new w 32 p r (tn : Int) (dn : Int) (nn : Int)
  have B0 : Below w.heap.size w (w.alloc (.cells #[.string p, .string r, .int .i64 (tn : Int), .int .i64 (dn : Int), .int .i64 (nn : Int)] 32)) := (Below.refl _ w).alloc (Nat.le_refl _) _
  have L0 : w.heap.size < (w.alloc (.cells #[.string p, .string r, .int .i64 (tn : Int), .int .i64 (dn : Int), .int .i64 (nn : Int)] 32)).heap.size := by simp
  have q1 : ¬ 9223372036854775807 < 34 + dt.length := by omega
  have q2 : ¬ 9223372036854775807 < 34 + dt.length + 1 := by omega
  have q3 : ¬ 9223372036854775807 < 34 + dt.length + 1 + dd.length := by omega
  have q4 : ¬ 9223372036854775807 < 34 + dt.length + 1 + dd.length + 1 := by omega
  have q5 : ¬ 9223372036854775807 < 34 + dt.length + 1 + dd.length + 1 + dnn.length := by omega
  clear hok h1 h2
  go_enter Tryz.func42, Tryz.ntmps42
  go_wp2_with fail
  go_region_held3 (fun w' => w'.cell? ⟨w.heap.size, 0, none⟩ = some (.string p) ∧ w'.cell? ⟨w.heap.size, 1, none⟩ = some (.string r) ∧ w'.cell? ⟨w.heap.size, 2, none⟩ = some (.int .i64 (tn : Int)) ∧ w'.cell? ⟨w.heap.size, 3, none⟩ = some (.int .i64 (dn : Int)) ∧ w'.cell? ⟨w.heap.size, 4, none⟩ = some (.int .i64 (nn : Int)))
    (first | exact H3 | exact H2 | exact H1 | exact H0 | go_keep)
    (first
      | (go_at_call_of 61 (Value.int IntKind.i64 (tn : Int)); refine (ht _).mono ?_; rintro e w1 ⟨rfl, b1⟩; have H1 : HAt w1 w.heap.size p r (tn : Int) (dn : Int) (nn : Int) := H0.drew.below b1 L0; have B1 : Below w.heap.size w w1 := B0.drew.trans (b1.mono B0.size); have L1 : w.heap.size < w1.heap.size := Nat.lt_of_lt_of_le L0 b1.size)
      | (go_at_call_of 61 (Value.int IntKind.i64 (dn : Int)); refine (hd _).mono ?_; rintro e w2 ⟨rfl, b2⟩; have H2 : HAt w2 w.heap.size p r (tn : Int) (dn : Int) (nn : Int) := H1.below b2 L1; have B2 : Below w.heap.size w w2 := B1.trans (b2.mono B1.size); have L2 : w.heap.size < w2.heap.size := Nat.lt_of_lt_of_le L1 b2.size)
      | (go_at_call_of 61 (Value.int IntKind.i64 (nn : Int)); refine (hn _).mono ?_; rintro e w3 ⟨rfl, b3⟩; have H3 : HAt w3 w.heap.size p r (tn : Int) (dn : Int) (nn : Int) := H2.below b3 L2; have B3 : Below w.heap.size w w3 := B2.trans (b3.mono B2.size)))
  go_wp2_with fail
  go_ret
  refine ⟨?_, B3⟩
  rw [← HEQ.out]
  rfl

theorem itoa_nat (k : Nat) : Lib.itoa (k : Int) = Lib.decDigits k := by
  rw [Lib.itoa, if_neg (by omega)]
  rfl
theorem implItoa (k : Nat) (w : World) (hk : k ≤ 1000000000) (hP : TabP w) :
    Calls Tryz.prog 97 #[.int .i64 (k : Int)] w fun e w' => e = .returned (.string ⟨(Lib.decDigits k).toArray⟩) ∧ Below w.heap.size w w' := by
  refine (Tryz.strconv_Itoa (k : Int) (by omega) (by omega) w hP).mono ?_
  rintro e w' ⟨rfl, hw⟩
  rw [itoa_nat]
  refine ⟨rfl, ?_⟩
  obtain ⟨a, os, rfl⟩ := hw
  exact Lib.below_grow w.heap.size w (Nat.le_refl _) a os

/-- A head at block g of w', which came from w. -/
def HSt (w w' : World) (g : Nat) (p r : ByteArray) (t d n : Int) : Prop := HAt w' g p r t d n ∧ Below w.heap.size w w' ∧ g < w'.heap.size
theorem HSt.drew {w w' : World} {g : Nat} {p r : ByteArray} {t d n : Int} (h : HSt w w' g p r t d n) : HSt w w'.drew g p r t d n := ⟨h.1, h.2.1.drew, h.2.2⟩
theorem HSt.call {w w' w'' : World} {g : Nat} {p r : ByteArray} {t d n : Int} (h : HSt w w' g p r t d n) (hb : Below w'.heap.size w' w'') : HSt w w'' g p r t d n :=
  ⟨h.1.below hb h.2.2, h.2.1.trans (hb.mono h.2.1.size), Nat.lt_of_lt_of_le h.2.2 hb.size⟩
theorem HSt.alloc {w w' : World} {g : Nat} {p r : ByteArray} {t d n : Int} (h : HSt w w' g p r t d n) (o : Obj) : HSt w (w'.alloc o) g p r t d n :=
  h.call ((Below.refl _ w').alloc (Nat.le_refl _) o)
theorem HSt.new (w : World) (T : TypeId) (p r : ByteArray) (t d n : Int) : HSt w (w.alloc (.cells #[.string p, .string r, .int .i64 t, .int .i64 d, .int .i64 n] T)) w.heap.size p r t d n :=
  ⟨HAt.new w T p r t d n, (Below.refl _ w).alloc (Nat.le_refl _) _, by simp⟩
theorem HSt.out {w w' : World} {g : Nat} {p r : ByteArray} {t d n : Int} (h : HSt w w' g p r t d n) : w'.cell? ⟨g, 0, none⟩ = some (.string p) ∧ w'.cell? ⟨g, 1, none⟩ = some (.string r) ∧ w'.cell? ⟨g, 2, none⟩ = some (.int .i64 t) ∧ w'.cell? ⟨g, 3, none⟩ = some (.int .i64 d) ∧ w'.cell? ⟨g, 4, none⟩ = some (.int .i64 n) := h.1
theorem HSt.ne {w w' : World} {g : Nat} {p r : ByteArray} {t d n : Int} (h : HSt w w' g p r t d n) : ¬ g = w'.heap.size := by have := h.2.2; omega
theorem HSt.en {w w' : World} {g : Nat} {p r : ByteArray} {t d n : Int} (h : HSt w w' g p r t d n) : ¬ w'.heap.size = g := by have := h.2.2; omega
/-- Five empty texts in a block. -/
def FiveE (w : World) (b : Nat) : Prop := w.heap[b]? = some (.cells #[.string ⟨#[]⟩, .string ⟨#[]⟩, .string ⟨#[]⟩, .string ⟨#[]⟩, .string ⟨#[]⟩] 126 (0, 0))
theorem FiveE.call {w w' : World} {b : Nat} (h : FiveE w b) (hb : Below w.heap.size w w') : FiveE w' b := by
  unfold FiveE at h ⊢
  rw [hb.block b ?_]
  · exact h
  · rcases Nat.lt_or_ge b w.heap.size with h' | h'
    · exact h'
    · simp [Array.getElem?_eq_none h'] at h
theorem FiveE.drew {w : World} {b : Nat} (h : FiveE w b) : FiveE w.drew b := h
theorem FiveE.new (w : World) : FiveE (w.alloc (.cells #[.string ⟨#[]⟩, .string ⟨#[]⟩, .string ⟨#[]⟩, .string ⟨#[]⟩, .string ⟨#[]⟩] 126)) w.heap.size := heap_alloc_new w _

theorem FiveE.facts {w : World} {b : Nat} (h : FiveE w b) : w.cell? ⟨b, 0, none⟩ = some (.string ⟨#[]⟩) ∧ w.cell? ⟨b, 1, none⟩ = some (.string ⟨#[]⟩) ∧ w.cell? ⟨b, 2, none⟩ = some (.string ⟨#[]⟩) ∧ w.cell? ⟨b, 3, none⟩ = some (.string ⟨#[]⟩) ∧ w.cell? ⟨b, 4, none⟩ = some (.string ⟨#[]⟩) ∧ w.frozen? ⟨b, 0, none⟩ = false ∧ w.frozen? ⟨b, 1, none⟩ = false ∧ w.frozen? ⟨b, 2, none⟩ = false ∧ w.frozen? ⟨b, 3, none⟩ = false ∧ w.frozen? ⟨b, 4, none⟩ = false := by
  refine ⟨?_, ?_, ?_, ?_, ?_, Lib.frozen_of_heap h 0, Lib.frozen_of_heap h 1, Lib.frozen_of_heap h 2, Lib.frozen_of_heap h 3, Lib.frozen_of_heap h 4⟩ <;> (rw [Lib.cell_of_heap h]; rfl)

theorem thenAt {K : Act → World → Prop} {Q : Exit → Act → World → Prop} {e : Exit} {a : Act} {W : World} {A : World → Prop} (hA : A W) (h : ∀ W', A W' → Exit.then K Q e a W') : Exit.then K Q e a W := h W hA
theorem five_cells {w : World} {b : Nat} {T : TypeId} {x0 x1 x2 x3 x4 : ByteArray} (h : w.heap[b]? = some (.cells #[.string x0, .string x1, .string x2, .string x3, .string x4] T (0, 0))) : AtS w b [x0, x1, x2, x3, x4] := by
  refine ⟨?_, ?_⟩
  · rcases Nat.lt_or_ge b w.heap.size with h' | h'
    · exact h'
    · simp [Array.getElem?_eq_none h'] at h
  · intro i hi
    rw [Lib.cell_of_heap h]
    match i, hi with
    | 0, _ => rfl
    | 1, _ => rfl
    | 2, _ => rfl
    | 3, _ => rfl
    | 4, _ => rfl
theorem five_new (w : World) (T : TypeId) (x0 x1 x2 x3 x4 : ByteArray) : AtS (w.alloc (.cells #[.string x0, .string x1, .string x2, .string x3, .string x4] T)) w.heap.size [x0, x1, x2, x3, x4] := five_cells (heap_alloc_new w _)
theorem five_put {w : World} {b : Nat} (h : FiveE w b) (x0 x1 x2 x3 x4 : ByteArray) : AtS (((((w.setCell ⟨b, 0, none⟩ (.string x0)).setCell ⟨b, 1, none⟩ (.string x1)).setCell ⟨b, 2, none⟩ (.string x2)).setCell ⟨b, 3, none⟩ (.string x3)).setCell ⟨b, 4, none⟩ (.string x4)) b [x0, x1, x2, x3, x4] := by
  refine five_cells (T := 126) ?_
  unfold FiveE at h
  simp [World.setCell, Array.getElem?_modify, h]
theorem five_below {w0 w : World} {b : Nat} (h : Below w0.heap.size w0 w) (hb : w0.heap.size ≤ b) (x0 x1 x2 x3 x4 : ByteArray) : Below w0.heap.size w0 (((((w.setCell ⟨b, 0, none⟩ (.string x0)).setCell ⟨b, 1, none⟩ (.string x1)).setCell ⟨b, 2, none⟩ (.string x2)).setCell ⟨b, 3, none⟩ (.string x3)).setCell ⟨b, 4, none⟩ (.string x4)) :=
  ((((h.setCell (p := ⟨b, 0, none⟩) hb _).setCell (p := ⟨b, 1, none⟩) hb _).setCell (p := ⟨b, 2, none⟩) hb _).setCell (p := ⟨b, 3, none⟩) hb _).setCell (p := ⟨b, 4, none⟩) hb _
theorem five_size {hl : List ByteArray} {p r : ByteArray} {dt dd dn : List UInt8} (hl5 : hl = [p, r, ⟨dt.toArray⟩, ⟨dd.toArray⟩, ⟨dn.toArray⟩]) (h0 : p.size ≤ 1000) (h1 : r.size ≤ 1000) (h2 : dt.length ≤ 1000) (h3 : dd.length ≤ 1000) (h4 : dn.length ≤ 1000) : ∀ i, i < hl.length → (hl.getD i ByteArray.empty).size ≤ 1000 := by
  subst hl5
  intro i hi
  match i, hi with
  | 0, _ => exact h0
  | 1, _ => exact h1
  | 2, _ => exact h2
  | 3, _ => exact h3
  | 4, _ => exact h4

set_option maxHeartbeats 4000000 in
set_option maxRecDepth 100000 in
theorem implHeadPut (h : HeadV) (w : World) (hP : TabP w) :
    Calls Tryz.prog 81 #[.agg #[.string h.prev, .string h.root, .int .i64 h.time, .int .i64 h.diff, .int .i64 h.nonce]] w fun e w' => e = .returned (.string ⟨(headPut h).toArray⟩) ∧ Below w.heap.size w w' := by
  have hck := implHeadOk h
  cases hok : headOkB h with
  | false =>
    have e : headPut h = [] := by rw [headPut, hok]; rfl
    rw [e]
    simp only [hok] at hck
    go_enter Tryz.func81, Tryz.ntmps81
    go_wp2_with (go_at_call 69; refine (hck _).mono ?_; rintro e w1 ⟨rfl, b1⟩)
    go_ret
    exact ⟨rfl, ((Below.refl _ w).alloc (Nat.le_refl _) _).trans (b1.mono (by simp))⟩
  | true =>
    have e : headPut h = headT h := by rw [headPut, if_pos hok]
    rw [e]
    clear e
    simp only [hok] at hck
    obtain ⟨h1, h2, h3, h4, h5⟩ := headOk_in hok
    have HT : Hid (headT h = joinTo (headL h) [32] 4) := rfl
    have HL : Hid (headL h = [h.prev, h.root, ⟨(Lib.decDigits h.time.toNat).toArray⟩, ⟨(Lib.decDigits h.diff.toNat).toArray⟩, ⟨(Lib.decDigits h.nonce.toNat).toArray⟩]) := rfl
    generalize headL h = hl at HL HT
    generalize headT h = tx at HT
    obtain ⟨p, r, t, d, n⟩ := h
    dsimp only at h1 h2 h3 h4 h5 HL hck ⊢
    obtain ⟨tn, rfl⟩ : ∃ x : Nat, t = (x : Int) := ⟨t.toNat, by omega⟩
    obtain ⟨dn, rfl⟩ : ∃ x : Nat, d = (x : Int) := ⟨d.toNat, by omega⟩
    obtain ⟨nn, rfl⟩ : ∃ x : Nat, n = (x : Int) := ⟨n.toNat, by omega⟩
    simp only [Int.toNat_natCast] at HL
    have hps := sum_size h1
    have hrs := sum_size h2
    have ht := fun w' h' => implItoa tn w' (by omega) h'
    have hd := fun w' h' => implItoa dn w' (by omega) h'
    have hn := fun w' h' => implItoa nn w' (by omega) h'
    have htl : (Lib.decDigits tn).length ≤ 19 := decLen (by omega)
    have hdl : (Lib.decDigits dn).length ≤ 19 := decLen (by omega)
    have hnl : (Lib.decDigits nn).length ≤ 19 := decLen (by omega)
    generalize Lib.decDigits tn = dt at ht htl HL
    generalize Lib.decDigits dn = dd at hd hdl HL
    generalize Lib.decDigits nn = dnn at hn hnl HL
    have S00 : HSt w _ w.heap.size p r (tn : Int) (dn : Int) (nn : Int) := HSt.new w 32 p r (tn : Int) (dn : Int) (nn : Int)
    have HP : Hid (∀ w', Below w.heap.size w w' → TabP w') := fun w' hb => TabP.below hP hb (Nat.le_refl _)
    clear hok h1 h2 hP
    go_enter Tryz.func81, Tryz.ntmps81
    go_wp2_with (go_at_call 69; refine (hck _).mono ?_; rintro e w0 ⟨rfl, b0⟩)
    have S0 : HSt w w0 w.heap.size p r (tn : Int) (dn : Int) (nn : Int) := S00.call b0
    clear S00 b0 hck
    have n0 := HSt.ne S0
    have m0 := HSt.en S0
    go_region_held3 (fun w' => w'.cell? ⟨w.heap.size, 0, none⟩ = some (.string p) ∧ w'.cell? ⟨w.heap.size, 1, none⟩ = some (.string r) ∧ w'.cell? ⟨w.heap.size, 2, none⟩ = some (.int .i64 (tn : Int)) ∧ w'.cell? ⟨w.heap.size, 3, none⟩ = some (.int .i64 (dn : Int)) ∧ w'.cell? ⟨w.heap.size, 4, none⟩ = some (.int .i64 (nn : Int)))
      (first | (with_reducible first | exact S3.out | exact (S3.alloc _).out | exact S2.out | exact (S2.alloc _).out | exact S1.out | exact (S1.alloc _).out | exact S0.out | exact S0.drew.out | exact (S0.alloc _).drew.out) | go_keep)
      (first
        | (go_at_call_of 97 (Value.int IntKind.i64 (tn : Int)); refine (ht _ (HP.out _ (by first | exact S0.drew.2.1 | exact (S0.alloc _).drew.2.1))).mono ?_; rintro e w1 ⟨rfl, b1⟩; have S1 : HSt w w1 w.heap.size p r (tn : Int) (dn : Int) (nn : Int) := (by first | exact S0.drew.call b1 | exact (S0.alloc _).drew.call b1); have n1 := HSt.ne S1; have m1 := HSt.en S1; try have F1 := (FiveE.new w0).drew.call b1)
        | (go_at_call_of 97 (Value.int IntKind.i64 (dn : Int)); refine (hd _ (HP.out _ (by first | exact S1.2.1 | exact (S1.alloc _).2.1))).mono ?_; rintro e w2 ⟨rfl, b2⟩; have S2 : HSt w w2 w.heap.size p r (tn : Int) (dn : Int) (nn : Int) := (by first | exact S1.call b2 | exact (S1.alloc _).call b2); have n2 := HSt.ne S2; have m2 := HSt.en S2; (first | have F2 := F1.call b2 | have F2 := (FiveE.new w1).call b2 | skip))
        | (go_at_call_of 97 (Value.int IntKind.i64 (nn : Int)); refine (hn _ (HP.out _ (by first | exact S2.2.1 | exact (S2.alloc _).2.1))).mono ?_; rintro e w3 ⟨rfl, b3⟩; have S3 : HSt w w3 w.heap.size p r (tn : Int) (dn : Int) (nn : Int) := (by first | exact S2.call b3 | exact (S2.alloc _).call b3); (first | have F3 := F2.call b3 | have F3 := (FiveE.new w2).call b3 | skip); (first | obtain ⟨c0, c1, c2, c3, c4, z0, z1, z2, z3, z4⟩ := F3.facts | skip)))
    · refine thenAt (A := fun W' => AtS W' (w3.heap.size) hl ∧ Below w.heap.size w W') ⟨(by rw [HL.out]; exact five_new w3 _ p r _ _ _), (by exact (S3.alloc _).2.1)⟩ ?_
      rintro W ⟨HA, HB⟩
      have HZ : ∀ i, i < hl.length → (hl.getD i ByteArray.empty).size ≤ 1000 := five_size HL.out (by omega) (by omega) (by omega) (by omega) (by omega)
      have hlen : hl.length = 5 := by rw [HL.out]; rfl
      generalize w3.heap.size = b at HA ⊢
      clear S0 S1 S2 S3 b1 b2 b3 ht hd hn HP HL
      go_wp2_with fail
      refine (joinW b hl W HA hlen HZ).mono ?_
      rintro e w5 ⟨rfl, b5⟩
      go_wp2_with fail
      go_ret
      exact ⟨by rw [HT.out]; rfl, HB.trans (b5.mono HB.size)⟩
    · refine thenAt (A := fun W' => AtS W' (w2.heap.size) hl ∧ Below w.heap.size w W') ⟨(by rw [HL.out]; exact five_put F3 p r _ _ _), (by exact five_below S3.2.1 S2.2.1.size p r _ _ _)⟩ ?_
      rintro W ⟨HA, HB⟩
      have HZ : ∀ i, i < hl.length → (hl.getD i ByteArray.empty).size ≤ 1000 := five_size HL.out (by omega) (by omega) (by omega) (by omega) (by omega)
      have hlen : hl.length = 5 := by rw [HL.out]; rfl
      generalize w2.heap.size = b at HA ⊢
      clear S0 S1 S2 S3 b1 b2 b3 ht hd hn HP HL
      go_wp2_with fail
      refine (joinW b hl W HA hlen HZ).mono ?_
      rintro e w5 ⟨rfl, b5⟩
      go_wp2_with fail
      go_ret
      exact ⟨by rw [HT.out]; rfl, HB.trans (b5.mono HB.size)⟩
    · refine thenAt (A := fun W' => AtS W' (w1.heap.size) hl ∧ Below w.heap.size w W') ⟨(by rw [HL.out]; exact five_put F3 p r _ _ _), (by exact five_below S3.2.1 S1.2.1.size p r _ _ _)⟩ ?_
      rintro W ⟨HA, HB⟩
      have HZ : ∀ i, i < hl.length → (hl.getD i ByteArray.empty).size ≤ 1000 := five_size HL.out (by omega) (by omega) (by omega) (by omega) (by omega)
      have hlen : hl.length = 5 := by rw [HL.out]; rfl
      generalize w1.heap.size = b at HA ⊢
      clear S0 S1 S2 S3 b1 b2 b3 ht hd hn HP HL
      go_wp2_with fail
      refine (joinW b hl W HA hlen HZ).mono ?_
      rintro e w5 ⟨rfl, b5⟩
      go_wp2_with fail
      go_ret
      exact ⟨by rw [HT.out]; rfl, HB.trans (b5.mono HB.size)⟩
    · refine thenAt (A := fun W' => AtS W' (w0.heap.size) hl ∧ Below w.heap.size w W') ⟨(by rw [HL.out]; exact five_put F3 p r _ _ _), (by exact five_below S3.2.1 S0.2.1.size p r _ _ _)⟩ ?_
      rintro W ⟨HA, HB⟩
      have HZ : ∀ i, i < hl.length → (hl.getD i ByteArray.empty).size ≤ 1000 := five_size HL.out (by omega) (by omega) (by omega) (by omega) (by omega)
      have hlen : hl.length = 5 := by rw [HL.out]; rfl
      generalize w0.heap.size = b at HA ⊢
      clear S0 S1 S2 S3 b1 b2 b3 ht hd hn HP HL
      go_wp2_with fail
      refine (joinW b hl W HA hlen HZ).mono ?_
      rintro e w5 ⟨rfl, b5⟩
      go_wp2_with fail
      go_ret
      exact ⟨by rw [HT.out]; rfl, HB.trans (b5.mono HB.size)⟩

end Go.Proofs.YtjeldedjhlicmaaGreatDoor

namespace Go.Proofs.YtjeldedjhlicmaaGreatDoor
open Go.RowKit

def itemC (b : UInt8) : Bool := decide (48 ≤ b.toNat ∧ b.toNat ≤ 57 ∨ 97 ≤ b.toNat ∧ b.toNat ≤ 122)
def isItem (l : List UInt8) : Bool := decide (1 ≤ l.length ∧ l.length ≤ 8) && l.all itemC
theorem isItem_no {s : ByteArray} (k : Nat) (hk : k < s.size) (h : itemC s[k] = false) : isItem s.data.toList = false := by
  have hm : s[k] ∈ s.data.toList := by
    have : s[k] = s.data[k]'hk := rfl
    rw [this]; simp
  have ha : s.data.toList.all itemC = false := by
    rw [← Bool.not_eq_true, List.all_eq_true]
    intro hh
    have := hh _ hm
    rw [h] at this
    cases this
  simp [isItem, ha]
theorem isItem_len_no {s : ByteArray} (h : ¬ (1 ≤ s.size ∧ s.size ≤ 8)) : isItem s.data.toList = false := by
  have : decide (1 ≤ s.data.toList.length ∧ s.data.toList.length ≤ 8) = false := decide_eq_false (by simpa using h)
  simp only [isItem, this, Bool.false_and]
theorem isItem_yes {s : ByteArray} (hl : 1 ≤ s.size ∧ s.size ≤ 8) (h : ∀ k (hk : k < s.size), itemC s[k] = true) : isItem s.data.toList = true := by
  have h1 : decide (1 ≤ s.data.toList.length ∧ s.data.toList.length ≤ 8) = true := decide_eq_true (by simpa using hl)
  simp only [isItem, h1, Bool.true_and, List.all_eq_true]
  intro x hx
  obtain ⟨i, hi, rfl⟩ := List.getElem_of_mem hx
  have := h i (by simpa using hi)
  rw [Array.getElem_toList]
  exact this
theorem isItem_size {s : ByteArray} (h : isItem s.data.toList = true) : 1 ≤ s.size ∧ s.size ≤ 8 := by
  simp only [isItem, Bool.and_eq_true] at h
  simpa using of_decide_eq_true h.1

end Go.Proofs.YtjeldedjhlicmaaGreatDoor

namespace Go.Proofs.YtjeldedjhlicmaaGreatDoor
open Go.RowKit

theorem figs_hexF : ∀ d : Fin 16, hexB (figs.getD d.val 0) = true := by decide +kernel
theorem figs_hex (d : Nat) (h : d < 16) : hexB (figs.getD d 0) = true := figs_hexF ⟨d, h⟩
theorem hexOf_hex (x : Nat) : (hexOf x).all hexB = true := by
  simp only [hexOf, List.all_map, List.all_eq_true, Function.comp]
  intro i _
  exact figs_hex _ (Nat.mod_lt _ (by decide))
theorem isSum_sumB (t : List UInt8) : isSum (sumB t) = true := by
  simp only [isSum, sumB, List.all_append, hexOf_hex]
  simp [hexOf]
/-- The first half of a text's sum, as a number of 31 bits. -/
def headOf (t : List UInt8) : Nat := hexN ((sumB t).take 8) / 2
theorem headOf_lt (t : List UInt8) : headOf t < 2147483648 := by
  have h1 : ((sumB t).take 8).all hexB = true := by
    have := isSum_sumB t
    simp only [isSum, Bool.and_eq_true, List.all_eq_true] at this ⊢
    intro x hx
    exact this.2 x (List.mem_of_mem_take hx)
  have h2 := hexN_le _ h1
  have h3 : ((sumB t).take 8).length = 8 := by simp [sumB, hexOf]
  rw [h3] at h2
  unfold headOf
  omega
theorem sumHead_sumB (t : List UInt8) : sumHead (sumB t) = (headOf t : Int) := by
  simp [sumHead, isSum_sumB, headOf]
def filterTo (k it : List UInt8) (below : Int) : Int :=
  if (isSum k && isItem it && decide (1 ≤ below ∧ below ≤ 60000)) = true then (headOf (k ++ 32 :: it) : Int) * below / 2147483648 else -1
theorem filterTo_yes {k it : List UInt8} {below : Int} (h1 : isSum k = true) (h2 : isItem it = true) (h3 : 1 ≤ below ∧ below ≤ 60000) : filterTo k it below = (headOf (k ++ 32 :: it) : Int) * below / 2147483648 := by
  simp [filterTo, h1, h2, h3.1, h3.2]
theorem filterTo_no1 {k it : List UInt8} {below : Int} (h1 : isSum k = false) : filterTo k it below = -1 := by
  simp [filterTo, h1]
theorem filterTo_no2 {k it : List UInt8} {below : Int} (h1 : isItem it = false) : filterTo k it below = -1 := by
  simp [filterTo, h1]
theorem filterTo_no3 {k it : List UInt8} {below : Int} (h1 : ¬ (1 ≤ below ∧ below ≤ 60000)) : filterTo k it below = -1 := by
  have : decide (1 ≤ below ∧ below ≤ 60000) = false := decide_eq_false h1
  simp only [filterTo, this, Bool.and_false]
  rfl
theorem place_lt (h : Nat) (b : Int) (hh : h < 2147483648) (hb : 1 ≤ b ∧ b ≤ 60000) : 0 ≤ (h : Int) * b ∧ (h : Int) * b < 2147483648 * 60000 ∧ 0 ≤ (h : Int) * b / 2147483648 ∧ (h : Int) * b / 2147483648 < b := by
  have h1 : (0 : Int) ≤ (h : Int) * b := Int.mul_nonneg (by omega) (by omega)
  have h2 : (h : Int) * b < 2147483648 * b := Int.mul_lt_mul_of_pos_right (by omega) (by omega)
  refine ⟨h1, by omega, by omega, ?_⟩
  omega

theorem keyItem_bytes (k it : ByteArray) : (k ++ (⟨#[32]⟩ : ByteArray) ++ it).data.toList = k.data.toList ++ 32 :: it.data.toList := by
  simp

end Go.Proofs.YtjeldedjhlicmaaGreatDoor

set_option linter.unusedVariables false
namespace Go.Proofs.YtjeldedjhlicmaaGreatDoor
open Go.RowKit

theorem turn32_eq (x j : Nat) (hx : x < 4294967296) (hj : j ≤ 31) : bits .or .u32 ((x : Int) / 2 ^ j) ((x : Int) * 2 ^ (32 - j) % 4294967296) = ((rotr x j : Nat) : Int) := by
  have e1 : (x : Int) * 2 ^ (32 - j) % 4294967296 = ((x * 2 ^ (32 - j) % 4294967296 : Nat) : Int) := by simp
  have e2 : (x : Int) / 2 ^ j = ((x / 2 ^ j : Nat) : Int) := by simp
  rw [e1, e2, or32 _ _ (Nat.lt_of_le_of_lt (Nat.div_le_self _ _) hx) (Nat.mod_lt _ (by decide))]
  rfl

set_option maxHeartbeats 400000 in
set_option maxRecDepth 100000 in
theorem turnI (x : Nat) (k : Int) (w : World) (hx : x < 4294967296) (hk : 1 ≤ k) (hk' : k ≤ 31) :
    Calls Tryz.prog 113 #[.int .u32 x, .int .u64 k] w fun e w' => e = .returned (.int .u32 (rotr x k.toNat : Nat)) ∧ w = w' := by
  obtain ⟨j, rfl⟩ := Int.eq_ofNat_of_zero_le (show 0 ≤ k by omega)
  go_enter Tryz.func113, Tryz.ntmps113
  go_wp2
  go_ret
  rw [Int.toNat_natCast, ← turn32_eq x j hx (by omega)]
  exact ⟨rfl, rfl⟩

theorem x332 (p q r v : Nat) (hp : p < 4294967296) (hq : q < 4294967296) (hr : r < 4294967296) (hv : v = p ^^^ q ^^^ r) : bits .xor .u32 (bits .xor .u32 (p : Int) (q : Int)) (r : Int) = (v : Int) := by
  rw [xor32 _ _ hp hq, xor32 _ _ (xor_lt hp hq) hr, hv]

set_option maxHeartbeats 400000 in
set_option maxRecDepth 100000 in
theorem firstI (x : Nat) (w : World) (hx : x < 4294967296) :
    Calls Tryz.prog 105 #[.int .u32 x] w fun e w' => e = .returned (.int .u32 (big0 x : Nat)) ∧ w = w' := by
  have r := x332 (rotr x 2) (rotr x 13) (rotr x 22) (big0 x) (rotr_lt _ _ hx) (rotr_lt _ _ hx) (rotr_lt _ _ hx) rfl
  go_enter Tryz.func105, Tryz.ntmps105
  go_wp2_with (go_at_call 113; refine (turnI _ _ _ hx (by omega) (by omega)).mono ?_; rintro e w1 ⟨rfl, rfl⟩)
  go_ret
  exact ⟨rfl, rfl⟩

set_option maxHeartbeats 400000 in
set_option maxRecDepth 100000 in
theorem fifthI (x : Nat) (w : World) (hx : x < 4294967296) :
    Calls Tryz.prog 103 #[.int .u32 x] w fun e w' => e = .returned (.int .u32 (big1 x : Nat)) ∧ w = w' := by
  have r := x332 (rotr x 6) (rotr x 11) (rotr x 25) (big1 x) (rotr_lt _ _ hx) (rotr_lt _ _ hx) (rotr_lt _ _ hx) rfl
  go_enter Tryz.func103, Tryz.ntmps103
  go_wp2_with (go_at_call 113; refine (turnI _ _ _ hx (by omega) (by omega)).mono ?_; rintro e w1 ⟨rfl, rfl⟩)
  go_ret
  exact ⟨rfl, rfl⟩

set_option maxHeartbeats 400000 in
set_option maxRecDepth 100000 in
theorem nearI (x : Nat) (w : World) (hx : x < 4294967296) :
    Calls Tryz.prog 107 #[.int .u32 x] w fun e w' => e = .returned (.int .u32 (sig0 x : Nat)) ∧ w = w' := by
  have r := x332 (rotr x 7) (rotr x 18) (x / 8) (sig0 x) (rotr_lt _ _ hx) (rotr_lt _ _ hx) (by omega) rfl
  rw [show ((x / 8 : Nat) : Int) = (x : Int) / 8 from by simp] at r
  go_enter Tryz.func107, Tryz.ntmps107
  go_wp2_with (go_at_call 113; refine (turnI _ _ _ hx (by omega) (by omega)).mono ?_; rintro e w1 ⟨rfl, rfl⟩)
  go_ret
  exact ⟨rfl, rfl⟩

set_option maxHeartbeats 400000 in
set_option maxRecDepth 100000 in
theorem farI (x : Nat) (w : World) (hx : x < 4294967296) :
    Calls Tryz.prog 108 #[.int .u32 x] w fun e w' => e = .returned (.int .u32 (sig1 x : Nat)) ∧ w = w' := by
  have r := x332 (rotr x 17) (rotr x 19) (x / 1024) (sig1 x) (rotr_lt _ _ hx) (rotr_lt _ _ hx) (by omega) rfl
  rw [show ((x / 1024 : Nat) : Int) = (x : Int) / 1024 from by simp] at r
  go_enter Tryz.func108, Tryz.ntmps108
  go_wp2_with (go_at_call 113; refine (turnI _ _ _ hx (by omega) (by omega)).mono ?_; rintro e w1 ⟨rfl, rfl⟩)
  go_ret
  exact ⟨rfl, rfl⟩

set_option maxHeartbeats 400000 in
set_option maxRecDepth 100000 in
theorem chooseI (e f g : Nat) (w : World) (he : e < 4294967296) (hf : f < 4294967296) (hg : g < 4294967296) :
    Calls Tryz.prog 104 #[.int .u32 e, .int .u32 f, .int .u32 g] w fun r w' => r = .returned (.int .u32 (chs e f g : Nat)) ∧ w = w' := by
  have h1 : bits .xor .u32 IntKind.u32.max (e : Int) = ((4294967295 ^^^ e : Nat) : Int) := by
    have hm : IntKind.u32.max = ((4294967295 : Nat) : Int) := by decide
    rw [hm]
    exact xor32 4294967295 e (by decide) he
  have h2 : 4294967295 ^^^ e < 4294967296 := xor_lt (by decide) he
  have r : bits .xor .u32 (bits .and .u32 (e : Int) (f : Int)) (bits .and .u32 (bits .xor .u32 IntKind.u32.max (e : Int)) (g : Int)) = ((chs e f g : Nat) : Int) := by
    rw [h1, and32 _ _ he hf, and32 _ _ h2 hg, xor32 _ _ (and_lt hf) (and_lt hg)]
    rfl
  clear h1 h2
  go_enter Tryz.func104, Tryz.ntmps104
  go_wp2
  go_ret
  exact ⟨rfl, rfl⟩

set_option maxHeartbeats 400000 in
set_option maxRecDepth 100000 in
theorem mostI (a b c : Nat) (w : World) (ha : a < 4294967296) (hb : b < 4294967296) (hc : c < 4294967296) :
    Calls Tryz.prog 106 #[.int .u32 a, .int .u32 b, .int .u32 c] w fun r w' => r = .returned (.int .u32 (maj a b c : Nat)) ∧ w = w' := by
  have r : bits .xor .u32 (bits .xor .u32 (bits .and .u32 (a : Int) (b : Int)) (bits .and .u32 (a : Int) (c : Int))) (bits .and .u32 (b : Int) (c : Int)) = ((maj a b c : Nat) : Int) := by
    rw [and32 _ _ ha hb, and32 _ _ ha hc, and32 _ _ hb hc]
    exact x332 _ _ _ _ (and_lt hb) (and_lt hc) (and_lt hc) rfl
  go_enter Tryz.func106, Tryz.ntmps106
  go_wp2
  go_ret
  exact ⟨rfl, rfl⟩

end Go.Proofs.YtjeldedjhlicmaaGreatDoor

namespace Go.Proofs.YtjeldedjhlicmaaGreatDoor
open Go.RowKit

/-- A row of bytes of the call's own: none of its places is frozen. -/
def ByteRow (e : TypeId) (base : Nat) (w : World) (v : Value) (l : List UInt8) : Prop :=
  ∃ g cap cur fz, v = .slice (some ⟨g, 0, none⟩) l.length cap ∧ base ≤ g ∧ w.heap[g]? = some (.cells cur e fz) ∧ (fz = (0, 0) ∨ cap ≤ fz.1) ∧ l.length ≤ cap ∧ cap ≤ maxLen ∧ cur.size = cap ∧ cur.toList.take l.length = Lib.byteCells l

theorem ByteRow.cells {e : TypeId} {base : Nat} {w : World} {g n cap : Nat} {l : List UInt8} (h : ByteRow e base w (.slice (some ⟨g, 0, none⟩) n cap) l) (j : Nat) (hj : j < l.length) : w.cell? ⟨g, j, none⟩ = some (.int .u8 (l[j].toNat : Int)) := by
  obtain ⟨g', cap', cur, fz, hv, _, hb, _, _, _, hs, ht⟩ := h
  simp only [Value.slice.injEq, Option.some.injEq, Addr.mk.injEq, and_true] at hv
  obtain ⟨rfl, _, rfl⟩ := hv
  rw [Lib.cell_of_heap hb]
  have : cur.toList[j]? = (Lib.byteCells l)[j]? := by rw [← ht, List.getElem?_take]; simp [hj]
  rw [← Array.getElem?_toList, this]
  simp [Lib.byteCells, List.getElem?_eq_getElem hj]

theorem ByteRow.frozen {e : TypeId} {base : Nat} {w : World} {g n cap : Nat} {l : List UInt8} (h : ByteRow e base w (.slice (some ⟨g, 0, none⟩) n cap) l) (j : Nat) (hj : j < cap) : w.frozen? ⟨g, j, none⟩ = false ∧ (w.cell? ⟨g, j, none⟩).isSome = true := by
  obtain ⟨g', cap', cur, fz, hv, _, hb, hfz, _, _, hs, _⟩ := h
  simp only [Value.slice.injEq, Option.some.injEq, Addr.mk.injEq, and_true] at hv
  obtain ⟨rfl, _, rfl⟩ := hv
  refine ⟨?_, ?_⟩
  · unfold World.frozen?
    rw [hb]
    rcases hfz with rfl | hfz
    · simp
    · obtain ⟨lo, hi⟩ := fz
      simp only [Bool.and_eq_false_iff, decide_eq_false_iff_not]
      left
      simp at hfz
      omega
  · rw [Lib.cell_of_heap hb]
    simp
    omega

theorem ByteRow.keep {e : TypeId} {base B : Nat} {w w' : World} {v : Value} {l : List UInt8} (h : ByteRow e base w v l) (hb : Below B w w') (hlt : ∀ g n cap, v = .slice (some ⟨g, 0, none⟩) n cap → g < B) : ByteRow e base w' v l := by
  obtain ⟨g, cap, cur, fz, hv, h1, h2, h3⟩ := h
  exact ⟨g, cap, cur, fz, hv, h1, by rw [hb.block g (hlt _ _ _ hv)]; exact h2, h3⟩
theorem ByteRow.lt {e : TypeId} {base : Nat} {w : World} {g n cap : Nat} {l : List UInt8} (h : ByteRow e base w (.slice (some ⟨g, 0, none⟩) n cap) l) : base ≤ g ∧ g < w.heap.size := by
  obtain ⟨g', cap', cur, fz, hv, h1, hb, _⟩ := h
  simp only [Value.slice.injEq, Option.some.injEq, Addr.mk.injEq, and_true] at hv
  obtain ⟨rfl, _, rfl⟩ := hv
  refine ⟨h1, ?_⟩
  rcases Nat.lt_or_ge g w.heap.size with h' | h'
  · exact h'
  · simp [Array.getElem?_eq_none h'] at hb

/-- 'append(bs, b)' of one byte. -/
theorem wp_appB {P : Program} {w : World} {ops : Array Oper} {rest : List Oper} {o : Oper} {a : Act} {Q : Exit → Act → World → Prop} (hgd : o.guard = none) (s x : Operand) (t : TypeId)
    (ho : o.op = .call { callee := .builtin .append, args := #[s, x], argTypes := #[t, t] })
    (base : Nat) (e : TypeId) (i : TypeInfo) (ht : P.underlying t = some (.slice e)) (hi : P.info? e = some i) (hz : i.zero = some (.int .u8 0)) (hsize : i.size = 1) (hby : i.bytes = 1)
    (g n cap : Nat) (l : List UInt8) (hn : n = l.length) (hs : a.eval s = .slice (some ⟨g, 0, none⟩) n cap) (hrow : ByteRow e base w (.slice (some ⟨g, 0, none⟩) n cap) l)
    (b : UInt8) (c : Int) (hc : c = (b.toNat : Int)) (hx : a.eval x = .slice (some ⟨w.heap.size, 0, none⟩) 1 1)
    (h63 : n + 1 ≤ 140737488355328) (hbase : base ≤ w.heap.size)
    (h : ∀ g' cap' w', ByteRow e base w' (.slice (some ⟨g', 0, none⟩) (n + 1) cap') (l ++ [b]) → Below base w w' →
      wpList P ops Q rest (a.put o.dst (.slice (some ⟨g', 0, none⟩) (n + 1) cap')) w') :
    wpList P ops Q (o :: rest) a (w.alloc (.cells #[.int .u8 c] e)) := by
  subst hc
  subst hn
  have hlt := hrow.lt
  have hk : (w.alloc (.cells #[.int .u8 (b.toNat : Int)] e)).heap[g]? = w.heap[g]? := Below.heap_alloc _ _ _ hlt.2
  have hrow' : ByteRow e base (w.alloc (.cells #[.int .u8 (b.toNat : Int)] e)) (.slice (some ⟨g, 0, none⟩) l.length cap) l :=
    hrow.keep ((Below.refl w.heap.size w).alloc (Nat.le_refl _) _) (fun g' n' c' hv => by simp only [Value.slice.injEq, Option.some.injEq, Addr.mk.injEq, and_true] at hv; rw [← hv.1]; exact hlt.2)
  refine wpList_append_arg _ hgd s x t ho e i (.int .u8 0) 1 1 ht hi hz hsize hby rfl (by decide) g 0 l.length cap (Lib.byteCells l) hs (by rw [Lib.byteCells_length]; omega) ?_ ⟨w.heap.size, 0, none⟩ 1 1 [.int .u8 (b.toNat : Int)] hx rfl (cell_one_new _ _ _) ?_ ?_ (by unfold maxLen; omega) (by omega) ?_ ?_
  · intro j u hu
    have hj : j < l.length := by have := (List.getElem?_eq_some_iff.1 hu).1; rwa [Lib.byteCells_length] at this
    rw [Nat.zero_add, hrow'.cells j hj]
    simpa [Lib.byteCells, List.getElem?_eq_getElem hj] using hu
  · intro u hu
    simp at hu
    subst hu
    rfl
  · intro hroom j hj
    obtain rfl : j = 0 := by simpa using hj
    have := hrow'.frozen l.length (by omega)
    refine ⟨?_, ?_⟩
    · simpa using this.2
    · simpa using this.1
  · intro hroom
    have hset : (w.alloc (.cells #[.int .u8 (b.toNat : Int)] e)).setCells g (0 + l.length * 1) [.int .u8 (b.toNat : Int)] = (w.alloc (.cells #[.int .u8 (b.toNat : Int)] e)).setCell ⟨g, l.length, none⟩ (.int .u8 (b.toNat : Int)) := by
      simp [World.setCells]
    rw [hset]
    refine h g cap _ ?_ (((Below.refl base w).alloc hbase _).setCell (p := ⟨g, l.length, none⟩) hlt.1 _)
    obtain ⟨g', cap', cur, fz, hv, h1, hb, hfz, hle, hm, hsz, htk⟩ := hrow'
    simp only [Value.slice.injEq, Option.some.injEq, Addr.mk.injEq, and_true] at hv
    obtain ⟨rfl, _, rfl⟩ := hv
    refine ⟨g, cap, cur.setIfInBounds l.length (.int .u8 (b.toNat : Int)), fz, by simp, h1, ?_, hfz, by simp; omega, hm, by simp [hsz], ?_⟩
    · simp only [World.setCell, Array.getElem?_modify, hb]
      simp
    · rw [Lib.byteCells_append, List.length_append]
      show List.take (l.length + 1) _ = _
      rw [Array.toList_setIfInBounds]
      have hlc : l.length < cur.toList.length := by simp; omega
      rw [List.take_succ_eq_append_getElem (by simpa using hlc)]
      rw [List.take_set_of_le (Nat.le_refl _), htk]
      simp [Lib.byteCells]
  · intro hgrow v' w' hown hg
    obtain ⟨g', cap', cur, rfl, h1, hb, hle, hm, hsz, htk⟩ : ∃ g' cap' cur, v' = .slice (some ⟨g', 0, none⟩) (l.length + 1) cap' ∧ (w.alloc (.cells #[.int .u8 (b.toNat : Int)] e)).heap.size ≤ g' ∧ w'.heap[g']? = some (.cells cur e (0, 0)) ∧ l.length + 1 ≤ cap' ∧ cap' ≤ maxLen ∧ cur.size = cap' * 1 ∧ cur.toList.take ((l.length + 1) * 1) = Lib.byteCells l ++ [.int .u8 (b.toNat : Int)] := by
      rcases hown.2 with ⟨_, h0⟩ | ⟨g', cap', cur, hv, r⟩
      · omega
      · exact ⟨g', cap', cur, hv, r⟩
    refine h g' cap' w' ⟨g', cap', cur, (0, 0), by simp, by simp at h1; omega, hb, Or.inl rfl, by simp; omega, hm, by omega, ?_⟩ (((Below.refl base w).alloc hbase _).grown hg (by simp; omega) (fun k hk => by simp at hk))
    rw [Lib.byteCells_append, List.length_append]
    simpa [Lib.byteCells] using htk

end Go.Proofs.YtjeldedjhlicmaaGreatDoor

set_option linter.unusedVariables false
namespace Go.Proofs.YtjeldedjhlicmaaGreatDoor
open Go.RowKit

def lenB (n : Nat) : List UInt8 := (List.range 8).map fun j => UInt8.ofNat (n / 2 ^ (8 * (7 - j)) % 256)
def padZ (n : Nat) : Nat := padLen n - n - 9
def padB (t : List UInt8) : List UInt8 := t ++ 128 :: List.replicate (padZ t.length) 0 ++ lenB (t.length * 8)
theorem lenB_take (n j : Nat) (h : j < 8) : (lenB n).take (j + 1) = (lenB n).take j ++ [UInt8.ofNat (n / 2 ^ (8 * (7 - j)) % 256)] := by
  have hl : j < (lenB n).length := by simp [lenB]; omega
  rw [List.take_succ_eq_append_getElem hl]
  simp [lenB]
theorem len_digit (n j : Nat) (hn : n < 18446744073709551616) (hj : j < 8) : n * 256 ^ j % 18446744073709551616 / 72057594037927936 = n / 2 ^ (8 * (7 - j)) % 256 := by
  match j, hj with
  | 0, _ => simp; omega
  | 1, _ => simp; omega
  | 2, _ => simp; omega
  | 3, _ => simp; omega
  | 4, _ => simp; omega
  | 5, _ => simp; omega
  | 6, _ => simp; omega
  | 7, _ => simp; omega
theorem padB_length (t : List UInt8) : (padB t).length = padLen t.length := by
  simp [padB, lenB, padZ, padLen]
  omega

theorem infoU8i : (Tryz.prog.info? 5).map (fun i => (i.zero, i.size, i.bytes)) = some (some (.int .u8 0), 1, 1) := by kernel_rfl

theorem byteRow_of_text (e : TypeId) (w : World) (s : ByteArray) (hs : s.size ≤ 1073741824) :
    ByteRow e w.heap.size (w.drew.alloc (.cells (bytesRow s (grownCap w s.size 0 e)) e ((bytesRow s (grownCap w s.size 0 e)).size, (bytesRow s (grownCap w s.size 0 e)).size + 1))) (.slice (some ⟨w.heap.size, 0, none⟩) s.size (grownCap w s.size 0 e)) s.data.toList := by
  have hge := grownCap_ge w s.size 0 e
  have hcm := grownCap_le_maxLen w s.size 0 e (by unfold maxLen; omega)
  have hsz : (bytesRow s (grownCap w s.size 0 e)).size = grownCap w s.size 0 e := by
    simp [bytesRow]
    have : s.data.size = s.size := rfl
    omega
  refine ⟨w.heap.size, _, _, _, by simp, Nat.le_refl _, heap_alloc_new w.drew _, Or.inr (by rw [hsz]; exact Nat.le_refl _), by simpa using hge, hcm, hsz, ?_⟩
  simp [bytesRow, Lib.byteCells]

def lenOf : Value → Nat
  | .slice _ n _ => n
  | _ => 0

set_option maxHeartbeats 1000000 in
set_option maxRecDepth 100000 in
theorem paddedI (s : ByteArray) (w : World) (hs : s.size ≤ 1073741824) :
    Calls Tryz.prog 92 #[.string s] w fun e w' => ∃ g cap, e = .returned (.slice (some ⟨g, 0, none⟩) (padLen s.size) cap) ∧ ByteRow 5 w.heap.size w' (.slice (some ⟨g, 0, none⟩) (padLen s.size) cap) (padB s.data.toList) ∧ Below w.heap.size w w' := by
  obtain ⟨i0, hi, hz0, hz1, hz2⟩ := info_parts infoU8i
  have hcv := run_bytes_of_string (P := Tryz.prog) w 9 102 5 s Tryz.underlying9 Tryz.underlying102 Tryz.underlying5
  have hrow0 := byteRow_of_text 5 w s hs
  have hb0 : Below w.heap.size w (w.drew.alloc (.cells (bytesRow s (grownCap w s.size 0 5)) 5 ((bytesRow s (grownCap w s.size 0 5)).size, (bytesRow s (grownCap w s.size 0 5)).size + 1))) := (Below.drew (Below.refl _ w)).alloc (Nat.le_refl _) _
  generalize (w.drew.alloc (.cells (bytesRow s (grownCap w s.size 0 5)) 5 ((bytesRow s (grownCap w s.size 0 5)).size, (bytesRow s (grownCap w s.size 0 5)).size + 1))) = w1 at hcv hrow0 hb0
  generalize grownCap w s.size 0 5 = cap0 at hcv hrow0
  have hsz0 := hb0.size
  have hlen0 : s.size = s.data.toList.length := by simp
  have HL0 : Hid (s.size = s.data.toList.length) := hlen0
  clear hlen0
  go_enter Tryz.func92, Tryz.ntmps92
  go_wp2_with (at_builtin; refine wp_appB rfl _ _ 102 rfl w.heap.size 5 i0 Tryz.underlying102 hi hz0 hz1 hz2 w.heap.size s.size cap0 s.data.toList HL0.out rfl hrow0 128 128 rfl rfl (by omega) hsz0 ?_)
  intro g1 cap1 w2 hrow1 hb1
  clear hcv hrow0
  have hb2 := hb0.trans hb1
  have HZ : Hid (padLen s.size = s.size + 9 + padZ s.size ∧ padLen s.size % 64 = 0 ∧ padZ s.size ≤ 63) := by
    show _ ∧ _ ∧ _
    unfold padZ padLen
    omega
  have HPB : Hid (padB s.data.toList = s.data.toList ++ 128 :: List.replicate (padZ s.size) 0 ++ lenB (s.size * 8)) := by
    show _ = _
    rw [padB, ← HL0.out]
  obtain ⟨t, ht⟩ : ∃ t, t = s.data.toList := ⟨_, rfl⟩
  obtain ⟨L, hL⟩ : ∃ L, L = padLen s.size := ⟨_, rfl⟩
  rw [← ht] at hrow1 HL0 HPB
  rw [← hL] at HZ
  generalize padZ s.size = Z at HZ HPB
  have HTT : Hid (t = s.data.toList) := ht
  have HLL : Hid (L = padLen s.size) := hL
  clear ht hL
  go_wp2
  go_loopw [3] (fun v wr => ∃ k n g cap : Nat, k ≤ Z ∧ Hid (n = s.size + 1 + k) ∧ n ≤ 1073741900 ∧ v = .slice (some ⟨g, 0, none⟩) n cap ∧ ByteRow 5 w.heap.size wr (.slice (some ⟨g, 0, none⟩) n cap) (t ++ 128 :: List.replicate k 0) ∧ Below w.heap.size w wr) (fun v _ => L - lenOf v)
  case atStart => exact ⟨0, s.size + 1, g1, cap1, by omega, rfl, by omega, rfl, hrow1, hb2⟩
  case round =>
    clear hrow1 hb1 hb2
    obtain ⟨k, n, g, cap, hk, hn, hn2, rfl, hrow, hbw⟩ := hrel
    have hsz := hbw.size
    have hln : n = (t ++ 128 :: List.replicate k 0).length := by rw [hn.out]; simp; rw [← HL0.out]; omega
    by_cases hlt : k < Z
    · have hne : (((n : Int) % 64) != 56) = true := by
        have h1 := HZ.out; have h2 := hn.out
        rw [bne_iff_ne]
        omega
      have HLN : Hid (n = (t ++ 128 :: List.replicate k 0).length) := hln
      clear hln
      go_wp2_with (at_builtin; refine wp_appB rfl _ _ 102 rfl w.heap.size 5 i0 Tryz.underlying102 hi hz0 hz1 hz2 g n cap (t ++ 128 :: List.replicate k 0) HLN.out rfl hrow 0 0 rfl rfl (by omega) hsz ?_)
      intro g2 cap2 w3 hrow3 hb3
      have hrow4 : ByteRow 5 w.heap.size w3 (.slice (some ⟨g2, 0, none⟩) (n + 1) cap2) (t ++ 128 :: List.replicate (k + 1) 0) := by
        rw [List.replicate_succ']
        simpa using hrow3
      clear hrow3
      go_wp2
      go_roundw
      case rel => exact ⟨k + 1, n + 1, g2, cap2, by omega, by show n + 1 = _; have := hn.out; omega, by have := hn.out; have := HZ.out; omega, rfl, hrow4, hbw.trans hb3⟩
      case measure => show L - (n + 1) < L - n; have := hn.out; have := HZ.out; omega
    · have hkz : k = Z := by omega
      have hne : (((n : Int) % 64) != 56) = false := by
        have h1 := HZ.out; have h2 := hn.out
        rw [bne_eq_false_iff_eq]
        omega
      have HN : Hid (n + 8 = L) := by show _ = _; have := HZ.out; have := hn.out; omega
      have HLN : Hid (n = (t ++ 128 :: List.replicate k 0).length) := hln
      have HKZ : Hid (k = Z) := hkz
      obtain ⟨w0, rfl⟩ : ∃ w0 : World, w0 = wr := ⟨_, rfl⟩
      obtain ⟨T, hT⟩ : ∃ T, T = t ++ 128 :: List.replicate k 0 := ⟨_, rfl⟩
      rw [← hT] at hrow HLN
      have HT : Hid (T = t ++ 128 :: List.replicate k 0) := hT
      clear hln hkz hT hk hlt hn
      go_wp2
      go_loopw [3, 4, 20] (fun v m i wr => ∃ j y g cap : Nat, j ≤ 8 ∧ i = .int .i64 j ∧ m = .int .u64 y ∧ Hid (y = s.size * 8 * 256 ^ j % 18446744073709551616) ∧ v = .slice (some ⟨g, 0, none⟩) (n + j) cap ∧ ByteRow 5 w.heap.size wr (.slice (some ⟨g, 0, none⟩) (n + j) cap) (T ++ (lenB (s.size * 8)).take j) ∧ Below w.heap.size w wr) (fun _ _ i _ => 8 - (intOf i).toNat)
      case atStart => exact ⟨0, s.size * 8, g, cap, by omega, rfl, by go_num, by show _ = _; simp; omega, rfl, by simpa using hrow, hbw⟩
      case round =>
        clear hrow hbw hsz
        obtain ⟨j, y, g2, cap2, hj, rfl, rfl, hy, rfl, hrow, hbw⟩ := hrel
        have hsz := hbw.size
        have hyl : y < 18446744073709551616 := by rw [hy.out]; exact Nat.mod_lt _ (by decide)
        by_cases hjlt : j < 8
        · obtain ⟨d, hd⟩ : ∃ d : Nat, d = y / 72057594037927936 := ⟨_, rfl⟩
          have rd : (y : Int) / 72057594037927936 = (d : Int) := by rw [hd]; simp
          have hd256 : d < 256 := by rw [hd]; omega
          have HD : Hid (UInt8.ofNat d = UInt8.ofNat (s.size * 8 / 2 ^ (8 * (7 - j)) % 256)) := by
            show _ = _
            rw [hd, hy.out, len_digit _ _ (by omega) hjlt]
          have HDN : Hid ((d : Int) = ((UInt8.ofNat d).toNat : Int)) := by show _ = _; simp; omega
          have HY : Hid (y * 256 % 18446744073709551616 = s.size * 8 * 256 ^ (j + 1) % 18446744073709551616) := by
            show _ = _
            rw [hy.out, Nat.pow_succ, ← Nat.mul_assoc, Nat.mod_mul_mod]
          have HLJ : Hid (n + j = (T ++ (lenB (s.size * 8)).take j).length) := by
            show _ = _
            rw [List.length_append, ← HLN.out]
            simp [lenB]
            omega
          clear hd
          go_wp2_with (at_builtin; refine wp_appB rfl _ _ 102 rfl w.heap.size 5 i0 Tryz.underlying102 hi hz0 hz1 hz2 g2 (n + j) cap2 (T ++ (lenB (s.size * 8)).take j) HLJ.out rfl hrow (UInt8.ofNat d) (d : Int) HDN.out rfl (by omega) hsz ?_)
          intro g3 cap3 w3 hrow3 hb3
          have hrow4 : ByteRow 5 w.heap.size w3 (.slice (some ⟨g3, 0, none⟩) (n + j + 1) cap3) (T ++ (lenB (s.size * 8)).take (j + 1)) := by
            rw [lenB_take _ _ hjlt, ← HD.out]
            first | exact hrow3 | (rw [← List.append_assoc]; exact hrow3)
          clear hrow3
          go_wp2
          go_roundw
          case rel => exact ⟨j + 1, y * 256 % 18446744073709551616, g3, cap3, by omega, by go_num, by go_num, HY, rfl, hrow4, hbw.trans hb3⟩
          case measure => simp [intOf]; omega
        · have hfin : ByteRow 5 w.heap.size wr (.slice (some ⟨g2, 0, none⟩) L cap2) (t ++ 128 :: List.replicate Z 0 ++ lenB (s.size * 8)) := by
            have hj8 : j = 8 := by omega
            rw [List.take_of_length_le (by simp [lenB]; omega), HT.out, HKZ.out] at hrow
            have hnl : n + j = L := by have := HN.out; omega
            rw [← hnl]
            exact hrow
          have HL8 : Hid (n + j = L) := by show _ = _; have := HN.out; omega
          clear hrow
          go_wp2
          go_ret
          rw [← HTT.out, ← HLL.out, HPB.out]
          exact ⟨g2, cap2, by rw [← HL8.out]; rfl, hfin, hbw⟩

end Go.Proofs.YtjeldedjhlicmaaGreatDoor

