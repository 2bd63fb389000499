/-
  A proof of a range as the laws hand it in: opened, measured, copied, held against another.
-/
import Derived.Test.YtjeldedjhlicmabRangeL
import Derived.Test.YtjeldedjhlicmabBlockW
import Derived.Lib.SmallJoins
set_option linter.unusedVariables false
namespace Go.Proofs.Ytjeldedjhlicmab
open Go.ChangeShapes Go.WideShapes Go.ChangeAt Go.RowKit Go.Deep Go.Joins

set_option maxHeartbeats 1000000 in
set_option maxRecDepth 100000 in
theorem szPeaksR (r0 : Nat) (hr0 : r0 ≤ 1048576) (a : Option Addr) (len cap : Nat) (ps : List PeakV) (w : World) (h : IsPeaks w a len cap ps) :
    Calls Try.prog 22 #[.slice a len cap, .int .i64 (r0 : Int)] w fun e w' => Below w.heap.size w w' ∧ (e = .returned (.int .i64 (-1)) ∨ ∃ r : Nat, e = .returned (.int .i64 (r : Int)) ∧ r ≤ 1048576 ∧ len ≤ 1048576 ∧ ∀ i, i < len → (ps.getD i default).sum.size ≤ 1048576) := by
  have HP : Hid (IsPeaks w a len cap ps) := h
  have hlm : len ≤ maxLen := by
    rcases h with ⟨_, h1, _⟩ | ⟨x, _, h1, h2, _⟩ <;> omega
  unfold maxLen at hlm
  have hw : IntKind.i64.wrap ((r0 : Int) - (len : Int)) = (r0 : Int) - (len : Int) := by rw [IntKind.wrap_i64]; omega
  clear h
  by_cases hl : r0 < len
  · have hl' : (r0 : Int) - (len : Int) < 0 := by omega
    go_enter Try.func22, Try.ntmps22
    go_wp2_with fail
    go_ret
    exact ⟨Below.refl _ _, .inl rfl⟩
  · have hl' : ¬ (r0 : Int) - (len : Int) < 0 := by omega
    go_enter Try.func22, Try.ntmps22
    go_wp2_with fail
    clear hw hl'
    go_loopw [1, 5] (fun l i wr => ∃ (r k : Nat), k ≤ len ∧ r ≤ 1048576 ∧ i = .int .i64 (k : Int) ∧ l = .int .i64 (r : Int) ∧ Hid (Below w.heap.size w wr) ∧ Hid (∀ i, i < k → (ps.getD i default).sum.size ≤ 1048576)) (fun _ i _ => len - (intOf i).toNat)
    case atStart => exact ⟨r0 - len, 0, by omega, by omega, rfl, by show Value.int .i64 _ = Value.int .i64 _; congr 1; omega, Below.refl _ _, fun i hi => by omega⟩
    case round =>
      obtain ⟨r, k, hk, hr, rfl, rfl, HB, HS⟩ := hrel
      by_cases hlt : k < len
      · obtain ⟨x, rfl, hp⟩ := HP.out.at HB.out k hlt
        obtain ⟨c0, c1, c2⟩ := hp
        have lk : (k : Int) < (len : Int) := by omega
        have HK : Hid (k + 1 ≤ len) := hlt
        have hsz : (ps.getD k default).sum.size ≤ maxLen := HP.out.size k hlt
        have HN : Hid ((ps.getD k default).sum.size ≤ 1048576 → ∀ i, i < k + 1 → (ps.getD i default).sum.size ≤ 1048576) := by
          intro h1 i hi
          rcases Nat.lt_or_ge i k with h' | h'
          · exact HS.out i h'
          · obtain rfl : i = k := by omega
            exact h1
        generalize ps.getD k default = p at c0 c1 c2 hsz HN
        go_wp2_with fail
        refine (szPeak1 p r _ hr hsz).mono ?_
        rintro e w1 ⟨b1, rfl | ⟨q, rfl, hq, hps⟩⟩
        · go_wp2_with fail
          go_ret
          exact ⟨HB.out.trans (b1.mono HB.out.size), .inl rfl⟩
        · have HQ := HN.out hps
          have HQ2 : Hid (∀ i, i < k + 1 → (ps.getD i default).sum.size ≤ 1048576) := HQ
          clear HQ HN
          have hq0 : ¬ (q : Int) < 0 := by omega
          go_wp2_with fail
          go_roundw
          case rel => exact ⟨q, k + 1, HK.out, by omega, by go_num, rfl, HB.out.trans (b1.mono HB.out.size), HQ2⟩
          case measure => have := HK.out; simp [intOf]; omega
      · go_wp2_with fail
        go_ret
        exact ⟨HB.out, .inr ⟨r, rfl, by omega, by omega, fun i hi => HS.out i (by omega)⟩⟩

theorem CBk.two {w : World} {g : Nat} {T : TypeId} {a b : Value} (h : CBk w g T #[a, b]) : w.cell? ⟨g, 0, none⟩ = some a ∧ w.cell? ⟨g, 1, none⟩ = some b ∧ w.frozen? ⟨g, 0, none⟩ = false ∧ w.frozen? ⟨g, 1, none⟩ = false :=
  ⟨h.cell 0, h.cell 1, h.frozen 0, h.frozen 1⟩
theorem CBk.out2 {w : World} {g : Nat} {T : TypeId} {a b : Value} (h : CBk w g T #[a, b]) : w.cell? ⟨g, 0, none⟩ = some a ∧ w.cell? ⟨g, 1, none⟩ = some b := ⟨h.cell 0, h.cell 1⟩
/-- A proof of the laws. -/
structure LPrf where
  pa : Option Addr
  pn : Nat
  pc : Nat
  pl : List PeakV
  sa : Option Addr
  sn : Nat
  sc : Nat
  sl : List PeakV
def lprfVal (L : LPrf) : Value := .agg #[.slice L.pa L.pn L.pc, .slice L.sa L.sn L.sc]
structure IsPrf (w : World) (L : LPrf) : Prop where
  p : IsPeaks w L.pa L.pn L.pc L.pl
  s : IsPeaks w L.sa L.sn L.sc L.sl
theorem peaks_below {w w' : World} {a : Option Addr} {len cap : Nat} {ps : List PeakV} (h : IsPeaks w a len cap ps) (hb : Below w.heap.size w w') : IsPeaks w' a len cap ps := by
  have hat := fun i hi => h.at hb i hi
  rcases h with h1 | ⟨x, hx, h1, h2, h3, h4, h5⟩
  · exact .inl h1
  · refine .inr ⟨x, hx, h1, h2, h3, fun i hi => ?_, h5⟩
    obtain ⟨y, hy, hc⟩ := hat i hi
    rw [hx] at hy
    obtain rfl := Option.some.inj hy
    exact hc
theorem IsPrf.below {w w' : World} {L : LPrf} (h : IsPrf w L) (hb : Below w.heap.size w w') : IsPrf w' L := ⟨peaks_below h.p hb, peaks_below h.s hb⟩
theorem shape_slice2 {P : Program} {H : Type} {enc : TypeId × Value → H} {W : World} {base : Nat} {sp : Nat → Bool} {held : Bool} {n : Nat} {t e : TypeId} {v : Value} {y : DataW H × List MemPlace} (ht : P.underlying t = some (.slice e)) (h : DataW.trod enc P W base sp held n t [v] = some y) : ∃ a len cap, v = .slice a len cap := by
  rcases open_slice ht h with ⟨hcs, _⟩ | ⟨x, l, c, m, n, D, Pl, hcs, _⟩
  · simp at hcs
    exact ⟨_, _, _, hcs⟩
  · simp at hcs
    exact ⟨_, _, _, hcs⟩
theorem cellsLProof : Try.prog.cellsOf 26 = 2 := by kernel_rfl
set_option maxRecDepth 100000 in
theorem open_proof {H : Type} {enc : TypeId × Value → H} {W : World} {base b0 : Nat} {held : Bool} {v : Value} {d : DataW H} {p : List MemPlace} (hv : Value.okWide Try.prog W .any b0 26 v) (h : DataW.Trod enc Try.prog W base (fun _ => true) held 26 v d p) :
    ∃ L : LPrf, v = lprfVal L ∧ IsPrf W L := by
  obtain ⟨c0, c1, y0, y1, n, rfl, _, _, h0, h1⟩ := open_agg2 Try.underlying26 (by kernel_rfl) cellsLProof hv h
  replace h0 : DataW.trod enc Try.prog W base (fun _ => true) held n 24 [c0] = some y0 := h0
  replace h1 : DataW.trod enc Try.prog W base (fun _ => true) held n 24 [c1] = some y1 := h1
  obtain ⟨a0, l0, k0, rfl⟩ := shape_slice2 Try.underlying24 h0
  obtain ⟨a1, l1, k1, rfl⟩ := shape_slice2 Try.underlying24 h1
  obtain ⟨pl, hp⟩ := open_peaks (d := y0.1) (p := y0.2) ⟨n, h0⟩
  obtain ⟨sl, hs⟩ := open_peaks (d := y1.1) (p := y1.2) ⟨n, h1⟩
  exact ⟨⟨a0, l0, k0, pl, a1, l1, k1, sl⟩, rfl, ⟨hp, hs⟩⟩

structure SmallPrf (L : LPrf) : Prop where
  pn : L.pn ≤ 1048576
  ps : ∀ i, i < L.pn → (L.pl.getD i default).sum.size ≤ 1048576
  sn : L.sn ≤ 1048576
  ss : ∀ i, i < L.sn → (L.sl.getD i default).sum.size ≤ 1048576
set_option maxHeartbeats 1000000 in
set_option maxRecDepth 100000 in
theorem szProof1 (L : LPrf) (r0 : Nat) (hr0 : r0 ≤ 1048576) (w : World) (h : IsPrf w L) :
    Calls Try.prog 10 #[lprfVal L, .int .i64 (r0 : Int)] w fun e w' => Below w.heap.size w w' ∧ (e = .returned (.int .i64 (-1)) ∨ ∃ r : Nat, e = .returned (.int .i64 (r : Int)) ∧ r ≤ 1048576 ∧ SmallPrf L) := by
  have HQ : Hid (L.pn ≤ 1048576 → (∀ i, i < L.pn → (L.pl.getD i default).sum.size ≤ 1048576) → L.sn ≤ 1048576 → (∀ i, i < L.sn → (L.sl.getD i default).sum.size ≤ 1048576) → SmallPrf L) := fun h1 h2 h3 h4 => ⟨h1, h2, h3, h4⟩
  generalize SmallPrf L = Q at HQ ⊢
  have HI : Hid (∀ w', Below w.heap.size w w' → IsPrf w' L) := fun w' hb => h.below hb
  clear h
  unfold lprfVal
  have B0 : Hid (CBk (w.alloc (.cells #[.slice L.pa L.pn L.pc, .slice L.sa L.sn L.sc] 26)) w.heap.size 26 #[.slice L.pa L.pn L.pc, .slice L.sa L.sn L.sc]) := CBk.new w _ _
  have L0 : Hid (Below w.heap.size w (w.alloc (.cells #[.slice L.pa L.pn L.pc, .slice L.sa L.sn L.sc] 26))) := (Below.refl _ w).alloc (Nat.le_refl _) _
  go_enter Try.func10, Try.ntmps10
  go_wp2_with fail
  refine (szPeaksR r0 hr0 L.pa L.pn L.pc L.pl _ (HI.out _ L0.out).p).mono ?_
  rintro e w1 ⟨b1, rfl | ⟨r, rfl, hr, hn, hs⟩⟩
  · go_wp2_with fail
    go_ret
    exact ⟨L0.out.trans (b1.mono L0.out.size), .inl rfl⟩
  have L1 : Hid (Below w.heap.size w w1) := L0.out.trans (b1.mono L0.out.size)
  have B1 : Hid (CBk w1 w.heap.size 26 #[.slice L.pa L.pn L.pc, .slice L.sa L.sn L.sc]) := B0.out.call b1
  obtain ⟨c0, c1, _⟩ := B1.out.two
  have HS1 : Hid (L.pn ≤ 1048576 ∧ ∀ i, i < L.pn → (L.pl.getD i default).sum.size ≤ 1048576) := ⟨hn, hs⟩
  have hrn : ¬ (r : Int) < 0 := by omega
  clear B0 L0 b1 hs hn
  go_wp2_with fail
  refine (szPeaksR r hr L.sa L.sn L.sc L.sl _ (HI.out _ L1.out).s).mono ?_
  rintro e w3 ⟨b3, rfl | ⟨r3, rfl, hr3, hn3, hs3⟩⟩
  · go_wp2_with fail
    go_ret
    exact ⟨L1.out.trans (b3.mono L1.out.size), .inl rfl⟩
  have HS3 : Hid (L.sn ≤ 1048576 ∧ ∀ i, i < L.sn → (L.sl.getD i default).sum.size ≤ 1048576) := ⟨hn3, hs3⟩
  have HR3 : Hid (r3 ≤ 1048576) := by show _ ≤ _; omega
  have hr30 : ¬ (r3 : Int) < 0 := by omega
  clear hs3 hn3 hr3
  go_wp2_with fail
  go_ret
  exact ⟨L1.out.trans (b3.mono L1.out.size), .inr ⟨r3, rfl, HR3.out, HQ.out HS1.out.1 HS1.out.2 HS3.out.1 HS3.out.2⟩⟩

/-- A proof in memory of its own. -/
structure PrfV where
  g : Nat
  n : Nat
  c : Nat
  ps : List PeakV
  sg : Nat
  sn : Nat
  sc : Nat
  ss : List PeakV
def prfVal (s : PrfV) : Value := .agg #[.slice (some ⟨s.g, 0, none⟩) s.n s.c, .slice (some ⟨s.sg, 0, none⟩) s.sn s.sc]
structure CopyPrf (B : Nat) (L : LPrf) (v : PrfV) (w : World) : Prop where
  p : RowP w v.g L.pl
  ps : v.ps = L.pl
  pn : v.n = L.pn
  pc : v.c = v.n
  st : RowP w v.sg L.sl
  ss : v.ss = L.sl
  sn : v.sn = L.sn
  sc : v.sc = v.sn
  lo : B ≤ v.g
  up : v.g < v.sg
theorem CopyPrf.below {B : Nat} {L : LPrf} {s : PrfV} {w w' : World} (h : CopyPrf B L s w) (hb : Below w.heap.size w w') : CopyPrf B L s w' :=
  ⟨h.p.below hb h.p.lt, h.ps, h.pn, h.pc, h.st.below hb h.st.lt, h.ss, h.sn, h.sc, h.lo, h.up⟩
theorem rowP_other {w : World} {g g' : Nat} {l : List PeakV} (h : RowP w g l) (hg : g' ≠ g) (j : Nat) (v : Value) : RowP (w.setCell ⟨g', j, none⟩ v) g l := by
  unfold RowP RowF at h ⊢; simp [World.setCell, Array.getElem?_modify, h, hg]

set_option maxHeartbeats 2000000 in
set_option maxRecDepth 100000 in
theorem toProof1 (L : LPrf) (w w0 : World) (h0 : IsPrf w0 L) (hw : Below w0.heap.size w0 w) (hs : SmallPrf L) :
    Calls Try.prog 15 #[lprfVal L] w fun e w' => ∃ s, e = .returned (prfVal s) ∧ CopyPrf w.heap.size L s w' ∧ Below w.heap.size w w' := by
  have HB : Hid (∀ w', Below w.heap.size w w' → Calls Try.prog 26 #[.slice L.pa L.pn L.pc] w' fun e w'' => e = .returned (.slice (some ⟨w'.heap.size, 0, none⟩) L.pn L.pn) ∧ RowP w'' w'.heap.size L.pl ∧ Below w'.heap.size w' w'') := fun w' hb => toPeaks L.pa L.pn L.pc L.pl w' w0 h0.p (hw.trans (hb.mono hw.size)) hs.pn
  have HT : Hid (∀ w', Below w.heap.size w w' → Calls Try.prog 26 #[.slice L.sa L.sn L.sc] w' fun e w'' => e = .returned (.slice (some ⟨w'.heap.size, 0, none⟩) L.sn L.sn) ∧ RowP w'' w'.heap.size L.sl ∧ Below w'.heap.size w' w'') := fun w' hb => toPeaks L.sa L.sn L.sc L.sl w' w0 h0.s (hw.trans (hb.mono hw.size)) hs.sn
  have HQ : Hid (∀ (e : Ending) (w' : World) (s : PrfV), e = .returned (prfVal s) → CopyPrf w.heap.size L s w' → Below w.heap.size w w' → ∃ s, e = .returned (prfVal s) ∧ CopyPrf w.heap.size L s w' ∧ Below w.heap.size w w') := fun e w' s h1 h2 h3 => ⟨s, h1, h2, h3⟩
  clear h0 hw hs
  unfold lprfVal
  have A0 : Hid (CBk (((w.alloc (.cells #[.slice L.pa L.pn L.pc, .slice L.sa L.sn L.sc] 26)).alloc (.cells #[.slice none 0 0, .slice none 0 0] 35)).alloc (.cells #[.slice none 0 0, .slice none 0 0] 35)) w.heap.size 26 #[.slice L.pa L.pn L.pc, .slice L.sa L.sn L.sc]) := ((CBk.new w _ _).alloc _).alloc _
  have A1 : Hid (CBk (((w.alloc (.cells #[.slice L.pa L.pn L.pc, .slice L.sa L.sn L.sc] 26)).alloc (.cells #[.slice none 0 0, .slice none 0 0] 35)).alloc (.cells #[.slice none 0 0, .slice none 0 0] 35)) (w.heap.size + 1) 35 #[.slice none 0 0, .slice none 0 0]) := by
    have := (CBk.new (w.alloc (.cells #[.slice L.pa L.pn L.pc, .slice L.sa L.sn L.sc] 26)) 35 #[.slice none 0 0, .slice none 0 0]).alloc (.cells #[.slice none 0 0, .slice none 0 0] 35)
    rwa [show (w.alloc (.cells #[.slice L.pa L.pn L.pc, .slice L.sa L.sn L.sc] 26)).heap.size = w.heap.size + 1 from by simp] at this
  have A2 : Hid (CBk (((w.alloc (.cells #[.slice L.pa L.pn L.pc, .slice L.sa L.sn L.sc] 26)).alloc (.cells #[.slice none 0 0, .slice none 0 0] 35)).alloc (.cells #[.slice none 0 0, .slice none 0 0] 35)) (w.heap.size + 1 + 1) 35 #[.slice none 0 0, .slice none 0 0]) := by
    have := CBk.new ((w.alloc (.cells #[.slice L.pa L.pn L.pc, .slice L.sa L.sn L.sc] 26)).alloc (.cells #[.slice none 0 0, .slice none 0 0] 35)) 35 #[.slice none 0 0, .slice none 0 0]
    rwa [show ((w.alloc (.cells #[.slice L.pa L.pn L.pc, .slice L.sa L.sn L.sc] 26)).alloc (.cells #[.slice none 0 0, .slice none 0 0] 35)).heap.size = w.heap.size + 1 + 1 from by simp] at this
  have L0 : Hid (Below w.heap.size w (((w.alloc (.cells #[.slice L.pa L.pn L.pc, .slice L.sa L.sn L.sc] 26)).alloc (.cells #[.slice none 0 0, .slice none 0 0] 35)).alloc (.cells #[.slice none 0 0, .slice none 0 0] 35))) := (((Below.refl _ w).alloc (Nat.le_refl _) _).alloc (by simp) _).alloc (by simp; omega) _
  have HL3 : Hid (w.heap.size + 3 ≤ (((w.alloc (.cells #[.slice L.pa L.pn L.pc, .slice L.sa L.sn L.sc] 26)).alloc (.cells #[.slice none 0 0, .slice none 0 0] 35)).alloc (.cells #[.slice none 0 0, .slice none 0 0] 35)).heap.size) := by show _ ≤ _; simp
  go_enter Try.func15, Try.ntmps15
  go_wp2_with fail
  generalize (((w.alloc (.cells #[.slice L.pa L.pn L.pc, .slice L.sa L.sn L.sc] 26)).alloc (.cells #[.slice none 0 0, .slice none 0 0] 35)).alloc (.cells #[.slice none 0 0, .slice none 0 0] 35)) = W0 at A0 A1 A2 L0 HL3 ⊢
  refine (HB.out _ L0.out).mono ?_
  rintro e w1 ⟨rfl, C1, b1⟩
  obtain ⟨g0, hg0⟩ : ∃ g0, g0 = w.heap.size := ⟨_, rfl⟩
  obtain ⟨g1, hg1⟩ : ∃ g1, g1 = W0.heap.size := ⟨_, rfl⟩
  have HG1 : Hid (g0 + 3 ≤ g1) := by show _ ≤ _; have := HL3.out; omega
  have A01 : Hid (CBk w1 g0 26 #[.slice L.pa L.pn L.pc, .slice L.sa L.sn L.sc]) := by rw [hg0]; exact A0.out.call b1
  have A11 : Hid (CBk w1 (g0 + 1) 35 #[.slice none 0 0, .slice none 0 0]) := by rw [hg0]; exact A1.out.call b1
  have A21 : Hid (CBk w1 (g0 + 1 + 1) 35 #[.slice none 0 0, .slice none 0 0]) := by rw [hg0]; exact A2.out.call b1
  have L1 : Hid (Below w.heap.size w w1) := L0.out.trans (b1.mono L0.out.size)
  have HLw : Hid (g0 = w.heap.size) := hg0
  have C1' : Hid (RowP w1 g1 L.pl) := by rw [hg1]; exact C1
  rw [← hg0, ← hg1]
  clear A0 A1 A2 L0 b1 C1 HL3
  clear hg1
  clear hg0
  clear W0
  obtain ⟨c0, c1, _⟩ := A01.out.two
  obtain ⟨d0, d1, z0, z1⟩ := A21.out.two
  have S1 : Hid (CBk (w1.setCell ⟨g0 + 1 + 1, 0, none⟩ (.slice (some ⟨g1, 0, none⟩) L.pn L.pn)) (g0 + 1 + 1) 35 #[.slice (some ⟨g1, 0, none⟩) L.pn L.pn, .slice none 0 0]) := A21.out.set 0 _
  have T1 : Hid (CBk (w1.setCell ⟨g0 + 1 + 1, 0, none⟩ (.slice (some ⟨g1, 0, none⟩) L.pn L.pn)) (g0 + 1) 35 #[.slice none 0 0, .slice none 0 0]) := A11.out.other (by omega) _
  have U1 : Hid (CBk (w1.setCell ⟨g0 + 1 + 1, 0, none⟩ (.slice (some ⟨g1, 0, none⟩) L.pn L.pn)) g0 26 #[.slice L.pa L.pn L.pc, .slice L.sa L.sn L.sc]) := A01.out.other (by omega) _
  have C2 : Hid (RowP (w1.setCell ⟨g0 + 1 + 1, 0, none⟩ (.slice (some ⟨g1, 0, none⟩) L.pn L.pn)) g1 L.pl) := rowP_other C1'.out (by have := HG1.out; omega) _ _
  have LB1 : Hid (Below w.heap.size w (w1.setCell ⟨g0 + 1 + 1, 0, none⟩ (.slice (some ⟨g1, 0, none⟩) L.pn L.pn))) := L1.out.setCell (p := ⟨g0 + 1 + 1, 0, none⟩) (by show w.heap.size ≤ g0 + 1 + 1; have := HLw.out; omega) _
  have HZ1 : Hid ((w1.setCell ⟨g0 + 1 + 1, 0, none⟩ (.slice (some ⟨g1, 0, none⟩) L.pn L.pn)).heap.size = w1.heap.size ∧ g1 < w1.heap.size) := ⟨by simp [World.setCell], C1'.out.lt⟩
  clear A01 A11 A21 L1 C1'
  go_wp2_with fail
  generalize w1.setCell ⟨g0 + 1 + 1, 0, none⟩ (.slice (some ⟨g1, 0, none⟩) L.pn L.pn) = W1 at S1 T1 U1 C2 LB1 HZ1 ⊢
  refine (HT.out _ LB1.out).mono ?_
  rintro e w2 ⟨rfl, R2, b2⟩
  obtain ⟨g2, hg2⟩ : ∃ g2, g2 = W1.heap.size := ⟨_, rfl⟩
  have HG2 : Hid (g1 < g2) := by show _ < _; have := HZ1.out; omega
  have A12 : Hid (CBk w2 (g0 + 1) 35 #[.slice none 0 0, .slice none 0 0]) := T1.out.call b2
  have A22 : Hid (CBk w2 (g0 + 1 + 1) 35 #[.slice (some ⟨g1, 0, none⟩) L.pn L.pn, .slice none 0 0]) := S1.out.call b2
  have L2 : Hid (Below w.heap.size w w2) := LB1.out.trans (b2.mono LB1.out.size)
  have C2' : Hid (RowP w2 g1 L.pl) := C2.out.below b2 C2.out.lt
  have R2' : Hid (RowP w2 g2 L.sl) := by rw [hg2]; exact R2
  rw [← hg2]
  clear S1 T1 U1 C2 LB1 HZ1 b2 R2
  clear hg2
  clear c0 c1 d0 d1 z0 z1
  clear W1
  obtain ⟨d0, d1, z0, z1⟩ := A22.out.two
  obtain ⟨p0, p1, y0, y1⟩ := A12.out.two
  have S3 : Hid (CBk (w2.setCell ⟨g0 + 1 + 1, 1, none⟩ (.slice (some ⟨g2, 0, none⟩) L.sn L.sn)) (g0 + 1 + 1) 35 #[.slice (some ⟨g1, 0, none⟩) L.pn L.pn, .slice (some ⟨g2, 0, none⟩) L.sn L.sn]) := A22.out.set 1 _
  have T3 : Hid (CBk (((w2.setCell ⟨g0 + 1 + 1, 1, none⟩ (.slice (some ⟨g2, 0, none⟩) L.sn L.sn)).setCell ⟨g0 + 1, 0, none⟩ (.slice (some ⟨g1, 0, none⟩) L.pn L.pn)).setCell ⟨g0 + 1, 1, none⟩ (.slice (some ⟨g2, 0, none⟩) L.sn L.sn)) (g0 + 1) 35 #[.slice (some ⟨g1, 0, none⟩) L.pn L.pn, .slice (some ⟨g2, 0, none⟩) L.sn L.sn]) := ((A12.out.other (by omega) _).set 0 _).set 1 _
  have HF : Hid (CopyPrf w.heap.size L ⟨g1, L.pn, L.pn, L.pl, g2, L.sn, L.sn, L.sl⟩ (((w2.setCell ⟨g0 + 1 + 1, 1, none⟩ (.slice (some ⟨g2, 0, none⟩) L.sn L.sn)).setCell ⟨g0 + 1, 0, none⟩ (.slice (some ⟨g1, 0, none⟩) L.pn L.pn)).setCell ⟨g0 + 1, 1, none⟩ (.slice (some ⟨g2, 0, none⟩) L.sn L.sn))) := by
    have e1 := HG1.out
    have e2 := HG2.out
    have e4 := HLw.out
    exact ⟨rowP_other (rowP_other (rowP_other C2'.out (by omega) _ _) (by omega) _ _) (by omega) _ _, rfl, rfl, rfl, rowP_other (rowP_other (rowP_other R2'.out (by omega) _ _) (by omega) _ _) (by omega) _ _, rfl, rfl, rfl, by show w.heap.size ≤ g1; omega, e2⟩
  have LF : Hid (Below w.heap.size w (((w2.setCell ⟨g0 + 1 + 1, 1, none⟩ (.slice (some ⟨g2, 0, none⟩) L.sn L.sn)).setCell ⟨g0 + 1, 0, none⟩ (.slice (some ⟨g1, 0, none⟩) L.pn L.pn)).setCell ⟨g0 + 1, 1, none⟩ (.slice (some ⟨g2, 0, none⟩) L.sn L.sn))) := by
    have e4 := HLw.out
    exact ((L2.out.setCell (p := ⟨g0 + 1 + 1, 1, none⟩) (by show w.heap.size ≤ g0 + 1 + 1; omega) _).setCell (p := ⟨g0 + 1, 0, none⟩) (by show w.heap.size ≤ g0 + 1; omega) _).setCell (p := ⟨g0 + 1, 1, none⟩) (by show w.heap.size ≤ g0 + 1; omega) _
  obtain ⟨s0, s1, _⟩ := S3.out.two
  clear A12 A22 L2 C2' R2'
  go_wp2_with fail
  exact bodyPost_ret (results_cell_row (p := 2) rfl _ _ (g0 + 1) 35 #[.slice (some ⟨g1, 0, none⟩) L.pn L.pn, .slice (some ⟨g2, 0, none⟩) L.sn L.sn] (0, 0) _ rfl T3.out Try.underlying35 rfl (by kernel_rfl)) rfl (HQ.out _ _ _ rfl HF.out LF.out)

set_option maxHeartbeats 2000000 in
set_option maxRecDepth 100000 in
theorem eqProof1 (L : LPrf) (s t : PrfV) (B C : Nat) (w : World) (hs : SmallPrf L) (hp : L.pl.length = L.pn) (hq : L.sl.length = L.sn) (h1 : CopyPrf B L s w) (h2 : CopyPrf C L t w) :
    Calls Try.prog 20 #[prfVal s, prfVal t] w fun e w' => e = .returned (.bool true) ∧ Below w.heap.size w w' := by
  have e1 : t.n = s.n := by rw [h1.pn, h2.pn]
  have e2 : t.sn = s.sn := by rw [h1.sn, h2.sn]
  have hq1 := fun (w' : World) (hb : Below w.heap.size w w') => eqPeaks s.g t.g s.n s.c t.c L.pl w' ((h1.below hb).p.at 3 pEnc_len) ((h2.below hb).p.at 3 pEnc_len) (by rw [h1.pn, hp]) (by rw [h1.pn]; have := hs.pn; omega)
  have hq2 := fun (w' : World) (hb : Below w.heap.size w w') => eqPeaks s.sg t.sg s.sn s.sc t.sc L.sl w' ((h1.below hb).st.at 3 pEnc_len) ((h2.below hb).st.at 3 pEnc_len) (by rw [h1.sn, hq]) (by rw [h1.sn]; have := hs.sn; omega)
  unfold prfVal
  rw [e1, e2]
  clear h1 h2 hs e1 e2 hp hq
  have C0 : Hid (CBk ((w.alloc (.cells #[.slice (some ⟨s.g, 0, none⟩) s.n s.c, .slice (some ⟨s.sg, 0, none⟩) s.sn s.sc] 35)).alloc (.cells #[.slice (some ⟨t.g, 0, none⟩) s.n t.c, .slice (some ⟨t.sg, 0, none⟩) s.sn t.sc] 35)) w.heap.size 35 #[.slice (some ⟨s.g, 0, none⟩) s.n s.c, .slice (some ⟨s.sg, 0, none⟩) s.sn s.sc]) := (CBk.new w _ _).alloc _
  have D0 : Hid (CBk ((w.alloc (.cells #[.slice (some ⟨s.g, 0, none⟩) s.n s.c, .slice (some ⟨s.sg, 0, none⟩) s.sn s.sc] 35)).alloc (.cells #[.slice (some ⟨t.g, 0, none⟩) s.n t.c, .slice (some ⟨t.sg, 0, none⟩) s.sn t.sc] 35)) (w.heap.size + 1) 35 #[.slice (some ⟨t.g, 0, none⟩) s.n t.c, .slice (some ⟨t.sg, 0, none⟩) s.sn t.sc]) := by
    have := CBk.new (w.alloc (.cells #[.slice (some ⟨s.g, 0, none⟩) s.n s.c, .slice (some ⟨s.sg, 0, none⟩) s.sn s.sc] 35)) 35 #[.slice (some ⟨t.g, 0, none⟩) s.n t.c, .slice (some ⟨t.sg, 0, none⟩) s.sn t.sc]
    rwa [show (w.alloc (.cells #[.slice (some ⟨s.g, 0, none⟩) s.n s.c, .slice (some ⟨s.sg, 0, none⟩) s.sn s.sc] 35)).heap.size = w.heap.size + 1 from by simp] at this
  have L0 : Hid (Below w.heap.size w ((w.alloc (.cells #[.slice (some ⟨s.g, 0, none⟩) s.n s.c, .slice (some ⟨s.sg, 0, none⟩) s.sn s.sc] 35)).alloc (.cells #[.slice (some ⟨t.g, 0, none⟩) s.n t.c, .slice (some ⟨t.sg, 0, none⟩) s.sn t.sc] 35))) := ((Below.refl _ w).alloc (Nat.le_refl _) _).alloc (by simp) _
  go_enter Try.func20, Try.ntmps20
  go_wp2_with fail
  refine (hq1 _ L0.out).mono ?_
  rintro e w1 ⟨rfl, b1⟩
  have C1 : Hid (CBk w1 w.heap.size 35 #[.slice (some ⟨s.g, 0, none⟩) s.n s.c, .slice (some ⟨s.sg, 0, none⟩) s.sn s.sc]) := C0.out.call b1
  have D1 : Hid (CBk w1 (w.heap.size + 1) 35 #[.slice (some ⟨t.g, 0, none⟩) s.n t.c, .slice (some ⟨t.sg, 0, none⟩) s.sn t.sc]) := D0.out.call b1
  have L1 : Hid (Below w.heap.size w w1) := L0.out.trans (b1.mono L0.out.size)
  obtain ⟨c0, c1, _⟩ := C1.out.two
  obtain ⟨d0, d1, _⟩ := D1.out.two
  clear C0 D0 L0 b1 hq1
  go_wp2_with fail
  refine (hq2 _ L1.out).mono ?_
  rintro e w2 ⟨rfl, b2⟩
  go_wp2_with fail
  go_ret
  exact ⟨rfl, L1.out.trans (b2.mono L1.out.size)⟩

end Go.Proofs.Ytjeldedjhlicmab
