/-
  Texts that the last part needs, joined.
-/
import Derived.Test.YtphgjhakghblgaaGreatDoorPart1
import Derived.Test.YtphgjhakghblgaaGreatDoorPart2
import Derived.Test.YtphgjhakghblgaaGreatDoorPart3
import Derived.Test.YtphgjhakghblgaaGreatDoorPart4
import Derived.Test.YtphgjhakghblgaaGreatDoorPart5
import Derived.Test.YtphgjhakghblgaaGreatDoorPart6
import Derived.Test.YtphgjhakghblgaaGreatDoorPart7
import Derived.Test.YtphgjhakghblgaaGreatDoorPart8
import Derived.Test.YtphgjhakghblgaaGreatDoorPart9
import Derived.Test.YtphgjhakghblgaaGreatDoorPart10
import Derived.Test.YtphgjhakghblgaaGreatDoorPart11
import Derived.Lib.SmallJoins
import Derived.Test.YtphgjhakghblgaaGreatDoorProg
import Derived.WalkKit
import Derived.OwnWalk
import Derived.Maps.AppendAt
import Derived.BigQuiet
import Derived.Lib.Strings
import Derived.WalkSpells
set_option linter.unusedVariables false
namespace Go.Proofs.YtphgjhakghblgaaGreatDoor
open Go.ChangeShapes Go.WideShapes Go.ChangeAt Go.RowKit Go.Deep Go.Joins

theorem CBk.three {w : World} {g : Nat} {T : TypeId} {a b c : Value} (h : CBk w g T #[a, b, c]) : w.cell? ⟨g, 0, none⟩ = some a ∧ w.cell? ⟨g, 1, none⟩ = some b ∧ w.cell? ⟨g, 2, none⟩ = some c ∧ w.frozen? ⟨g, 0, none⟩ = false ∧ w.frozen? ⟨g, 1, none⟩ = false ∧ w.frozen? ⟨g, 2, none⟩ = false :=
  ⟨h.cell 0, h.cell 1, h.cell 2, h.frozen 0, h.frozen 1, h.frozen 2⟩
/-- A server of the laws. -/
structure LSrv where
  ba : Option Addr
  bn : Nat
  bc : Nat
  bl : List LBlk
  ta : Option Addr
  tn : Nat
  tc : Nat
  tz : List Int
  ca : Option Addr
  cn : Nat
  cc : Nat
  cl : List CachedV
def lsrvVal (s : LSrv) : Value := .agg #[.slice s.ba s.bn s.bc, .slice s.ta s.tn s.tc, .slice s.ca s.cn s.cc]
structure IsSrv (w : World) (s : LSrv) : Prop where
  b : IsBlks w s.ba s.bn s.bc s.bl
  t : IsRow .i64 w s.ta s.tn s.tc s.tz
  c : IsCacheds w s.ca s.cn s.cc s.cl
theorem flat_below {α : Type} [Inhabited α] {en : α → List Value} {wf wf' : α → Prop} {k : Nat} (hk : ∀ a, (en a).length = k) {w w' : World} {a : Option Addr} {len cap : Nat} {l : List α} (h : IsFlat en wf k w a len cap l) (hb : Below w.heap.size w w') (hw : ∀ x, wf x → wf' x) : IsFlat en wf' k w' a len cap l := by
  have hat := fun i hi => h.at hk hb i hi
  rcases h with h1 | ⟨x, hx, h1, h2, h3, h4, h5⟩
  · exact .inl h1
  · refine .inr ⟨x, hx, h1, h2, h3, fun i j hi hj => ?_, fun i hi => hw _ (h5 i hi)⟩
    obtain ⟨y, hy, hc, _⟩ := hat i hi
    rw [hx] at hy
    obtain rfl := Option.some.inj hy
    exact hc j hj
theorem isRow_below {k : IntKind} {w w' : World} {a : Option Addr} {len cap : Nat} {zs : List Int} (h : IsRow k w a len cap zs) (hb : Below w.heap.size w w') : IsRow k w' a len cap zs := by
  rcases h with h1 | ⟨x, hx, h1, h2, h3, h4, h5⟩
  · exact .inl h1
  · refine .inr ⟨x, hx, h1, h2, h3, fun i hi => ?_, h5⟩
    have := h4 i hi
    rw [← this]
    exact hb.cell (cell_lt this)
theorem IsSrv.below {w w' : World} {s : LSrv} (h : IsSrv w s) (hb : Below w.heap.size w w') : IsSrv w' s :=
  ⟨flat_below enL_len h.b hb (fun x hx => ⟨hx.1, texts_below hx.2 hb⟩), isRow_below h.t hb, flat_below enCached_len h.c hb (fun _ h => h)⟩
theorem row_len {k : IntKind} {w : World} {a : Option Addr} {len cap : Nat} {zs : List Int} (h : IsRow k w a len cap zs) : (zs.take len).length = len ∧ len ≤ maxLen := by
  rcases h with ⟨_, h1, _, h2⟩ | ⟨x, _, h1, h2, h3, _⟩
  · rw [h1, h2]; exact ⟨rfl, Nat.zero_le _⟩
  · rw [List.length_take]; omega

theorem shape_slice {P : Program} {H : Type} {enc : TypeId × Value → H} {W : World} {base : Nat} {sp : Nat → Bool} {held : Bool} {n : Nat} {t e : TypeId} {v : Value} {y : DataW H × List MemPlace} (ht : P.underlying t = some (.slice e)) (h : DataW.trod enc P W base sp held n t [v] = some y) : ∃ a len cap, v = .slice a len cap := by
  rcases open_slice ht h with ⟨hcs, _⟩ | ⟨x, l, c, m, n, D, Pl, hcs, _⟩
  · simp at hcs
    exact ⟨_, _, _, hcs⟩
  · simp at hcs
    exact ⟨_, _, _, hcs⟩
theorem cellsLServer : Tryz.prog.cellsOf 26 = 3 := by kernel_rfl
theorem open_ints1 {H : Type} {enc : TypeId × Value → H} {W : World} {base : Nat} {held : Bool} {a : Option Addr} {len cap : Nat} {d : DataW H} {p : List MemPlace} (h : DataW.Trod enc Tryz.prog W base (fun _ => true) held 23 (.slice a len cap) d p) : ∃ zs, IsRow .i64 W a len cap zs := by
  obtain ⟨fuel, hf⟩ := h
  rcases open_ints Tryz.underlying23 Tryz.underlying3 (by kernel_rfl) hf with ⟨hcs, _⟩ | ⟨x, l, c, zs, hcs, _, hl, hm, hz, _, hcell, hwz⟩
  · simp [Value.cells] at hcs
    obtain ⟨rfl, rfl, rfl⟩ := hcs
    exact ⟨[], .inl ⟨rfl, rfl, rfl, rfl⟩⟩
  · simp [Value.cells] at hcs
    obtain ⟨rfl, rfl, rfl⟩ := hcs
    exact ⟨zs, .inr ⟨_, rfl, hl, hm, by simpa using hz, hcell, hwz⟩⟩
set_option maxRecDepth 100000 in
theorem srv_parts {H : Type} {enc : TypeId × Value → H} {W : World} {base : Nat} {held : Bool} {n : Nat} {v0 v1 v2 : Value} {y0 y1 y2 : DataW H × List MemPlace} (h0 : DataW.trod enc Tryz.prog W base (fun _ => true) held n 22 [v0] = some y0) (h1 : DataW.trod enc Tryz.prog W base (fun _ => true) held n 23 [v1] = some y1) (h2 : DataW.trod enc Tryz.prog W base (fun _ => true) held n 24 [v2] = some y2) :
    ∃ s : LSrv, v0 = .slice s.ba s.bn s.bc ∧ v1 = .slice s.ta s.tn s.tc ∧ v2 = .slice s.ca s.cn s.cc ∧ IsSrv W s := by
  obtain ⟨a0, l0, c0, rfl⟩ := shape_slice Tryz.underlying22 h0
  obtain ⟨a1, l1, c1, rfl⟩ := shape_slice Tryz.underlying23 h1
  obtain ⟨a2, l2, c2, rfl⟩ := shape_slice Tryz.underlying24 h2
  obtain ⟨bl, hb⟩ := open_blocks (d := y0.1) (p := y0.2) ⟨n, h0⟩
  obtain ⟨tz, ht⟩ := open_ints1 (d := y1.1) (p := y1.2) ⟨n, h1⟩
  obtain ⟨cl, hc⟩ := open_cacheds (d := y2.1) (p := y2.2) ⟨n, h2⟩
  exact ⟨⟨a0, l0, c0, bl, a1, l1, c1, tz, a2, l2, c2, cl⟩, rfl, rfl, rfl, ⟨hb, ht, hc⟩⟩
set_option maxRecDepth 100000 in
theorem open_server {H : Type} {enc : TypeId × Value → H} {W : World} {base b0 : Nat} {held : Bool} {v : Value} {d : DataW H} {p : List MemPlace} (hv : Value.okWide Tryz.prog W .any b0 26 v) (h : DataW.Trod enc Tryz.prog W base (fun _ => true) held 26 v d p) :
    ∃ s : LSrv, v = lsrvVal s ∧ IsSrv W s := by
  obtain ⟨c0, c1, c2, y0, y1, y2, n, rfl, _, _, h0, h1, h2⟩ := open_agg3 Tryz.underlying26 (by kernel_rfl) cellsLServer hv h
  obtain ⟨s, rfl, rfl, rfl, hs⟩ := srv_parts h0 h1 h2
  exact ⟨s, rfl, hs⟩

structure SmallSrv (s : LSrv) : Prop where
  bn : s.bn ≤ 1048576
  bs : ∀ i, i < s.bn → smallL (s.bl.getD i default)
  tn : s.tn ≤ 1048576
  cn : s.cn ≤ 1048576
  cs : ∀ i, i < s.cn → smallCached (s.cl.getD i default)
set_option maxHeartbeats 1000000 in
set_option maxRecDepth 100000 in
theorem szInts (r0 : Nat) (hr0 : r0 ≤ 1048576) (a : Option Addr) (len cap : Nat) (w : World) (hm : len ≤ maxLen) :
    Calls Tryz.prog 16 #[.slice a len cap, .int .i64 (r0 : Int)] w fun e w' => w = w' ∧ (e = .returned (.int .i64 (-1)) ∨ ∃ r : Nat, e = .returned (.int .i64 (r : Int)) ∧ r ≤ 1048576 ∧ len ≤ 1048576) := by
  unfold maxLen at hm
  have hw : IntKind.i64.wrap ((r0 : Int) - (len : Int)) = (r0 : Int) - (len : Int) := by rw [IntKind.wrap_i64]; omega
  by_cases hl : r0 < len
  · have hl' : (r0 : Int) - (len : Int) < 0 := by omega
    go_enter Tryz.func16, Tryz.ntmps16
    go_wp2
    go_ret
    exact ⟨rfl, .inl rfl⟩
  · have hl' : ¬ (r0 : Int) - (len : Int) < 0 := by omega
    go_enter Tryz.func16, Tryz.ntmps16
    go_wp2
    go_ret
    refine ⟨rfl, .inr ⟨r0 - len, ?_, by omega, by omega⟩⟩
    show Ending.returned (Value.int IntKind.i64 ((r0 : Int) - (len : Int))) = _
    congr 2
    omega

set_option maxHeartbeats 1000000 in
set_option maxRecDepth 100000 in
theorem szServer1 (s : LSrv) (w : World) (h : IsSrv w s) :
    Calls Tryz.prog 5 #[lsrvVal s, .int .i64 1048576] w fun e w' => Below w.heap.size w w' ∧ (e = .returned (.int .i64 (-1)) ∨ ∃ r : Nat, e = .returned (.int .i64 (r : Int)) ∧ r ≤ 1048576 ∧ SmallSrv s) := by
  have HQ : Hid (∀ r : Nat, r ≤ 1048576 → s.bn ≤ 1048576 → (∀ i, i < s.bn → smallL (s.bl.getD i default)) → s.tn ≤ 1048576 → s.cn ≤ 1048576 → (∀ i, i < s.cn → smallCached (s.cl.getD i default)) → SmallSrv s) := fun r _ h1 h2 h3 h4 h5 => ⟨h1, h2, h3, h4, h5⟩
  generalize SmallSrv s = Q at HQ ⊢
  obtain ⟨ba, bn, bc, bl, ta, tn, tc, tz, ca, cn, cc, cl⟩ := s
  unfold lsrvVal
  have HI : Hid (∀ w', Below w.heap.size w w' → IsBlks w' ba bn bc bl ∧ IsRow .i64 w' ta tn tc tz ∧ IsCacheds w' ca cn cc cl) := fun w' hb => ⟨(h.below hb).b, (h.below hb).t, (h.below hb).c⟩
  have HTM : Hid (tn ≤ maxLen) := (row_len h.t).2
  dsimp only at HQ ⊢
  clear h
  have B0 : Hid (CBk (w.alloc (.cells #[.slice ba bn bc, .slice ta tn tc, .slice ca cn cc] 26)) w.heap.size 26 #[.slice ba bn bc, .slice ta tn tc, .slice ca cn cc]) := CBk.new w _ _
  have L0 : Hid (Below w.heap.size w (w.alloc (.cells #[.slice ba bn bc, .slice ta tn tc, .slice ca cn cc] 26))) := (Below.refl _ w).alloc (Nat.le_refl _) _
  go_enter Tryz.func5, Tryz.ntmps5
  go_wp2_with fail
  refine (szBlks 1048576 (Nat.le_refl _) ba bn bc bl _ (HI.out _ L0.out).1).mono ?_
  rintro e w1 ⟨b1, rfl | ⟨r, rfl, hr, hn, hs⟩⟩
  · go_wp2_with fail
    go_ret
    exact ⟨L0.out.trans (b1.mono L0.out.size), .inl rfl⟩
  have L1 : Hid (Below w.heap.size w w1) := L0.out.trans (b1.mono L0.out.size)
  have B1 : Hid (CBk w1 w.heap.size 26 #[.slice ba bn bc, .slice ta tn tc, .slice ca cn cc]) := B0.out.call b1
  obtain ⟨c0, c1, c2, _⟩ := B1.out.three
  have HS1 : Hid (bn ≤ 1048576 ∧ ∀ i, i < bn → smallL (bl.getD i default)) := ⟨hn, hs⟩
  have hr0 : ¬ (r : Int) < 0 := by omega
  clear B0 L0 b1 hs hn
  go_wp2_with fail
  refine (szInts r hr ta tn tc _ HTM.out).mono ?_
  rintro e w2 ⟨rfl, rfl | ⟨r2, rfl, hr2, hn2⟩⟩
  · go_wp2_with fail
    go_ret
    exact ⟨L1.out, .inl rfl⟩
  have HS2 : Hid (tn ≤ 1048576) := hn2
  have hr20 : ¬ (r2 : Int) < 0 := by omega
  clear hn2 hr0 hr
  go_wp2_with fail
  refine (szCacheds r2 hr2 ca cn cc cl _ (HI.out _ L1.out).2.2).mono ?_
  rintro e w3 ⟨b3, rfl | ⟨r3, rfl, hr3, hn3, hs3⟩⟩
  · go_wp2_with fail
    go_ret
    exact ⟨L1.out.trans (b3.mono L1.out.size), .inl rfl⟩
  have HS3 : Hid (cn ≤ 1048576 ∧ ∀ i, i < cn → smallCached (cl.getD i default)) := ⟨hn3, hs3⟩
  have HR3 : Hid (r3 ≤ 1048576) := by show _ ≤ _; omega
  have hr30 : ¬ (r3 : Int) < 0 := by omega
  clear hs3 hn3 hr3
  go_wp2_with fail
  go_ret
  exact ⟨L1.out.trans (b3.mono L1.out.size), .inr ⟨r3, rfl, HR3.out, HQ.out r3 HR3.out HS1.out.1 HS1.out.2 HS2.out HS3.out.1 HS3.out.2⟩⟩

/-- A server in memory of its own. -/
structure SrvV where
  g : Nat
  n : Nat
  bc : Nat
  bs : List BlkV
  tg : Nat
  tn : Nat
  tc : Nat
  ts : List Int
  cg : Nat
  cn : Nat
  cc : Nat
  cs : List CachedV
def srvVal (s : SrvV) : Value := .agg #[.slice (some ⟨s.g, 0, none⟩) s.n s.bc, .slice (some ⟨s.tg, 0, none⟩) s.tn s.tc, .slice (some ⟨s.cg, 0, none⟩) s.cn s.cc]
/-- A copy of a server: in memory of its own, from block B on. -/
structure CopySrv (B : Nat) (L : LSrv) (s : SrvV) (w : World) : Prop where
  b : CopyB B s.g s.n L.bl s.bs w
  bn : s.n = L.bn
  bc : s.bc = s.n
  t : RowI w s.tg (L.tz.take L.tn)
  tl : s.tn = L.tn
  tc : s.tc = s.tn
  ts : s.ts = L.tz.take L.tn
  c : RowCached w s.cg L.cl
  cn : s.cn = L.cn
  cc : s.cc = s.cn
  cs : s.cs = L.cl
  up1 : s.g < s.tg
  up2 : s.tg < s.cg
theorem CopySrv.below {B : Nat} {L : LSrv} {s : SrvV} {w w' : World} (h : CopySrv B L s w) (hb : Below w.heap.size w w') : CopySrv B L s w' :=
  ⟨h.b.below hb, h.bn, h.bc, h.t.below hb h.t.lt, h.tl, h.tc, h.ts, h.c.below hb h.c.lt, h.cn, h.cc, h.cs, h.up1, h.up2⟩

theorem rowI_other {w : World} {g g' : Nat} {l : List Int} (h : RowI w g l) (hg : g' ≠ g) (j : Nat) (v : Value) : RowI (w.setCell ⟨g', j, none⟩ v) g l := by
  unfold RowI at h ⊢; simp [World.setCell, Array.getElem?_modify, h, hg]
theorem rowF_other {α : Type} [Inhabited α] {en : α → List Value} {T : TypeId} {w : World} {g g' : Nat} {l : List α} (h : RowF en T w g l) (hg : g' ≠ g) (j : Nat) (v : Value) : RowF en T (w.setCell ⟨g', j, none⟩ v) g l := by
  unfold RowF at h ⊢; simp [World.setCell, Array.getElem?_modify, h, hg]
theorem CopyB.other {B g n : Nat} {ls : List LBlk} {cs : List BlkV} {w : World} (h : CopyB B g n ls cs w) {g' : Nat} (h1 : g' < g) (j : Nat) (v : Value) : CopyB B g n ls cs (w.setCell ⟨g', j, none⟩ v) :=
  ⟨rowF_other h.row (by omega) j v, h.len, h.pts, fun c hc => ⟨rowS_other (h.items c hc).1 (by have := (h.items c hc).2.2.2; omega) j v, (h.items c hc).2⟩, h.lo⟩

set_option maxHeartbeats 2000000 in
set_option maxRecDepth 100000 in
theorem toServer1 (L : LSrv) (w w0 : World) (h0 : IsSrv w0 L) (hw : Below w0.heap.size w0 w) (hs : SmallSrv L) :
    Calls Tryz.prog 7 #[lsrvVal L] w fun e w' => ∃ s, e = .returned (srvVal s) ∧ CopySrv w.heap.size L s w' ∧ Below w.heap.size w w' := by
  have HB : Hid (∀ w', Below w.heap.size w w' → Calls Tryz.prog 19 #[.slice L.ba L.bn L.bc] w' fun e w'' => ∃ cs, e = .returned (.slice (some ⟨w'.heap.size, 0, none⟩) L.bn L.bn) ∧ CopyB w'.heap.size w'.heap.size L.bn L.bl cs w'' ∧ Below w'.heap.size w' w'') := fun w' hb => toBlks L.ba L.bn L.bc L.bl w' w0 h0.b (hw.trans (hb.mono hw.size)) hs.bn hs.bs
  have HT : Hid (∀ w', Below w.heap.size w w' → Calls Tryz.prog 20 #[.slice L.ta L.tn L.tc] w' fun e w'' => e = .returned (.slice (some ⟨w'.heap.size, 0, none⟩) L.tn L.tn) ∧ RowI w'' w'.heap.size (L.tz.take L.tn) ∧ Below w'.heap.size w' w'') := fun w' hb => toInts L.ta L.tn L.tc L.tz w' w0 h0.t (hw.trans (hb.mono hw.size)) hs.tn
  have HC : Hid (∀ w', Below w.heap.size w w' → Calls Tryz.prog 21 #[.slice L.ca L.cn L.cc] w' fun e w'' => e = .returned (.slice (some ⟨w'.heap.size, 0, none⟩) L.cn L.cn) ∧ RowCached w'' w'.heap.size L.cl ∧ Below w'.heap.size w' w'') := fun w' hb => toCacheds L.ca L.cn L.cc L.cl w' w0 h0.c (hw.trans (hb.mono hw.size)) hs.cn
  have HQ : Hid (∀ (e : Ending) (w' : World) (s : SrvV), e = .returned (srvVal s) → CopySrv w.heap.size L s w' → Below w.heap.size w w' → ∃ s, e = .returned (srvVal s) ∧ CopySrv w.heap.size L s w' ∧ Below w.heap.size w w') := fun e w' s h1 h2 h3 => ⟨s, h1, h2, h3⟩
  clear h0 hw hs
  unfold lsrvVal
  have A0 : Hid (CBk (((w.alloc (.cells #[.slice L.ba L.bn L.bc, .slice L.ta L.tn L.tc, .slice L.ca L.cn L.cc] 26)).alloc (.cells #[.slice none 0 0, .slice none 0 0, .slice none 0 0] 32)).alloc (.cells #[.slice none 0 0, .slice none 0 0, .slice none 0 0] 32)) w.heap.size 26 #[.slice L.ba L.bn L.bc, .slice L.ta L.tn L.tc, .slice L.ca L.cn L.cc]) := ((CBk.new w _ _).alloc _).alloc _
  have A1 : Hid (CBk (((w.alloc (.cells #[.slice L.ba L.bn L.bc, .slice L.ta L.tn L.tc, .slice L.ca L.cn L.cc] 26)).alloc (.cells #[.slice none 0 0, .slice none 0 0, .slice none 0 0] 32)).alloc (.cells #[.slice none 0 0, .slice none 0 0, .slice none 0 0] 32)) (w.heap.size + 1) 32 #[.slice none 0 0, .slice none 0 0, .slice none 0 0]) := by
    have := (CBk.new (w.alloc (.cells #[.slice L.ba L.bn L.bc, .slice L.ta L.tn L.tc, .slice L.ca L.cn L.cc] 26)) 32 #[.slice none 0 0, .slice none 0 0, .slice none 0 0]).alloc (.cells #[.slice none 0 0, .slice none 0 0, .slice none 0 0] 32)
    rwa [show (w.alloc (.cells #[.slice L.ba L.bn L.bc, .slice L.ta L.tn L.tc, .slice L.ca L.cn L.cc] 26)).heap.size = w.heap.size + 1 from by simp] at this
  have A2 : Hid (CBk (((w.alloc (.cells #[.slice L.ba L.bn L.bc, .slice L.ta L.tn L.tc, .slice L.ca L.cn L.cc] 26)).alloc (.cells #[.slice none 0 0, .slice none 0 0, .slice none 0 0] 32)).alloc (.cells #[.slice none 0 0, .slice none 0 0, .slice none 0 0] 32)) (w.heap.size + 1 + 1) 32 #[.slice none 0 0, .slice none 0 0, .slice none 0 0]) := by
    have := CBk.new ((w.alloc (.cells #[.slice L.ba L.bn L.bc, .slice L.ta L.tn L.tc, .slice L.ca L.cn L.cc] 26)).alloc (.cells #[.slice none 0 0, .slice none 0 0, .slice none 0 0] 32)) 32 #[.slice none 0 0, .slice none 0 0, .slice none 0 0]
    rwa [show ((w.alloc (.cells #[.slice L.ba L.bn L.bc, .slice L.ta L.tn L.tc, .slice L.ca L.cn L.cc] 26)).alloc (.cells #[.slice none 0 0, .slice none 0 0, .slice none 0 0] 32)).heap.size = w.heap.size + 1 + 1 from by simp] at this
  have L0 : Hid (Below w.heap.size w (((w.alloc (.cells #[.slice L.ba L.bn L.bc, .slice L.ta L.tn L.tc, .slice L.ca L.cn L.cc] 26)).alloc (.cells #[.slice none 0 0, .slice none 0 0, .slice none 0 0] 32)).alloc (.cells #[.slice none 0 0, .slice none 0 0, .slice none 0 0] 32))) := (((Below.refl _ w).alloc (Nat.le_refl _) _).alloc (by simp) _).alloc (by simp; omega) _
  have HL3 : Hid (w.heap.size + 3 ≤ (((w.alloc (.cells #[.slice L.ba L.bn L.bc, .slice L.ta L.tn L.tc, .slice L.ca L.cn L.cc] 26)).alloc (.cells #[.slice none 0 0, .slice none 0 0, .slice none 0 0] 32)).alloc (.cells #[.slice none 0 0, .slice none 0 0, .slice none 0 0] 32)).heap.size) := by show _ ≤ _; simp
  go_enter Tryz.func7, Tryz.ntmps7
  go_wp2_with fail
  generalize (((w.alloc (.cells #[.slice L.ba L.bn L.bc, .slice L.ta L.tn L.tc, .slice L.ca L.cn L.cc] 26)).alloc (.cells #[.slice none 0 0, .slice none 0 0, .slice none 0 0] 32)).alloc (.cells #[.slice none 0 0, .slice none 0 0, .slice none 0 0] 32)) = W0 at A0 A1 A2 L0 HL3 ⊢
  refine (HB.out _ L0.out).mono ?_
  rintro e w1 ⟨bs, rfl, C1, b1⟩
  obtain ⟨g0, hg0⟩ : ∃ g0, g0 = w.heap.size := ⟨_, rfl⟩
  obtain ⟨g1, hg1⟩ : ∃ g1, g1 = W0.heap.size := ⟨_, rfl⟩
  have HG1 : Hid (g0 + 3 ≤ g1) := by show _ ≤ _; have := HL3.out; omega
  have A01 : Hid (CBk w1 g0 26 #[.slice L.ba L.bn L.bc, .slice L.ta L.tn L.tc, .slice L.ca L.cn L.cc]) := by rw [hg0]; exact A0.out.call b1
  have A11 : Hid (CBk w1 (g0 + 1) 32 #[.slice none 0 0, .slice none 0 0, .slice none 0 0]) := by rw [hg0]; exact A1.out.call b1
  have A21 : Hid (CBk w1 (g0 + 1 + 1) 32 #[.slice none 0 0, .slice none 0 0, .slice none 0 0]) := by rw [hg0]; exact A2.out.call b1
  have L1 : Hid (Below w.heap.size w w1) := L0.out.trans (b1.mono L0.out.size)
  have HLw : Hid (g0 = w.heap.size) := hg0
  have C1' : Hid (CopyB g1 g1 L.bn L.bl bs w1) := by rw [hg1]; exact C1
  rw [← hg0, ← hg1]
  clear A0 A1 A2 L0 b1 C1 HL3
  clear hg1
  clear hg0
  clear W0
  obtain ⟨c0, c1, c2, _⟩ := A01.out.three
  obtain ⟨d0, d1, d2, z0, z1, z2⟩ := A21.out.three
  have S1 : Hid (CBk (w1.setCell ⟨g0 + 1 + 1, 0, none⟩ (.slice (some ⟨g1, 0, none⟩) L.bn L.bn)) (g0 + 1 + 1) 32 #[.slice (some ⟨g1, 0, none⟩) L.bn L.bn, .slice none 0 0, .slice none 0 0]) := A21.out.set 0 _
  have T1 : Hid (CBk (w1.setCell ⟨g0 + 1 + 1, 0, none⟩ (.slice (some ⟨g1, 0, none⟩) L.bn L.bn)) (g0 + 1) 32 #[.slice none 0 0, .slice none 0 0, .slice none 0 0]) := A11.out.other (by omega) _
  have U1 : Hid (CBk (w1.setCell ⟨g0 + 1 + 1, 0, none⟩ (.slice (some ⟨g1, 0, none⟩) L.bn L.bn)) g0 26 #[.slice L.ba L.bn L.bc, .slice L.ta L.tn L.tc, .slice L.ca L.cn L.cc]) := A01.out.other (by omega) _
  have C2 : Hid (CopyB g1 g1 L.bn L.bl bs (w1.setCell ⟨g0 + 1 + 1, 0, none⟩ (.slice (some ⟨g1, 0, none⟩) L.bn L.bn))) := C1'.out.other (by have := HG1.out; omega) _ _
  have LB1 : Hid (Below w.heap.size w (w1.setCell ⟨g0 + 1 + 1, 0, none⟩ (.slice (some ⟨g1, 0, none⟩) L.bn L.bn))) := L1.out.setCell (p := ⟨g0 + 1 + 1, 0, none⟩) (by show w.heap.size ≤ g0 + 1 + 1; have := HLw.out; omega) _
  have HZ1 : Hid ((w1.setCell ⟨g0 + 1 + 1, 0, none⟩ (.slice (some ⟨g1, 0, none⟩) L.bn L.bn)).heap.size = w1.heap.size ∧ g1 < w1.heap.size) := ⟨by simp [World.setCell], C1'.out.row.lt⟩
  clear A01 A11 A21 L1 C1'
  go_wp2_with fail
  generalize w1.setCell ⟨g0 + 1 + 1, 0, none⟩ (.slice (some ⟨g1, 0, none⟩) L.bn L.bn) = W1 at S1 T1 U1 C2 LB1 HZ1 ⊢
  refine (HT.out _ LB1.out).mono ?_
  rintro e w2 ⟨rfl, R2, b2⟩
  obtain ⟨g2, hg2⟩ : ∃ g2, g2 = W1.heap.size := ⟨_, rfl⟩
  have HG2 : Hid (g1 < g2) := by show _ < _; have := HZ1.out; omega
  have A02 : Hid (CBk w2 g0 26 #[.slice L.ba L.bn L.bc, .slice L.ta L.tn L.tc, .slice L.ca L.cn L.cc]) := U1.out.call b2
  have A12 : Hid (CBk w2 (g0 + 1) 32 #[.slice none 0 0, .slice none 0 0, .slice none 0 0]) := T1.out.call b2
  have A22 : Hid (CBk w2 (g0 + 1 + 1) 32 #[.slice (some ⟨g1, 0, none⟩) L.bn L.bn, .slice none 0 0, .slice none 0 0]) := S1.out.call b2
  have L2 : Hid (Below w.heap.size w w2) := LB1.out.trans (b2.mono LB1.out.size)
  have C2' : Hid (CopyB g1 g1 L.bn L.bl bs w2) := C2.out.below b2
  have R2' : Hid (RowI w2 g2 (L.tz.take L.tn)) := by rw [hg2]; exact R2
  rw [← hg2]
  clear S1 T1 U1 C2 LB1 HZ1 b2 R2
  clear hg2
  clear c0 c1 c2 d0 d1 d2 z0 z1 z2
  clear W1
  obtain ⟨c0, c1, c2, _⟩ := A02.out.three
  obtain ⟨d0, d1, d2, z0, z1, z2⟩ := A22.out.three
  have S1 : Hid (CBk (w2.setCell ⟨g0 + 1 + 1, 1, none⟩ (.slice (some ⟨g2, 0, none⟩) L.tn L.tn)) (g0 + 1 + 1) 32 #[.slice (some ⟨g1, 0, none⟩) L.bn L.bn, .slice (some ⟨g2, 0, none⟩) L.tn L.tn, .slice none 0 0]) := A22.out.set 1 _
  have T1 : Hid (CBk (w2.setCell ⟨g0 + 1 + 1, 1, none⟩ (.slice (some ⟨g2, 0, none⟩) L.tn L.tn)) (g0 + 1) 32 #[.slice none 0 0, .slice none 0 0, .slice none 0 0]) := A12.out.other (by omega) _
  have U1 : Hid (CBk (w2.setCell ⟨g0 + 1 + 1, 1, none⟩ (.slice (some ⟨g2, 0, none⟩) L.tn L.tn)) g0 26 #[.slice L.ba L.bn L.bc, .slice L.ta L.tn L.tc, .slice L.ca L.cn L.cc]) := A02.out.other (by omega) _
  have C2 : Hid (CopyB g1 g1 L.bn L.bl bs (w2.setCell ⟨g0 + 1 + 1, 1, none⟩ (.slice (some ⟨g2, 0, none⟩) L.tn L.tn))) := C2'.out.other (by have := HG1.out; omega) _ _
  have R3 : Hid (RowI (w2.setCell ⟨g0 + 1 + 1, 1, none⟩ (.slice (some ⟨g2, 0, none⟩) L.tn L.tn)) g2 (L.tz.take L.tn)) := rowI_other R2'.out (by have := HG1.out; have := HG2.out; omega) _ _
  have LB1 : Hid (Below w.heap.size w (w2.setCell ⟨g0 + 1 + 1, 1, none⟩ (.slice (some ⟨g2, 0, none⟩) L.tn L.tn))) := L2.out.setCell (p := ⟨g0 + 1 + 1, 1, none⟩) (by show w.heap.size ≤ g0 + 1 + 1; have := HLw.out; omega) _
  have HZ1 : Hid ((w2.setCell ⟨g0 + 1 + 1, 1, none⟩ (.slice (some ⟨g2, 0, none⟩) L.tn L.tn)).heap.size = w2.heap.size ∧ g2 < w2.heap.size) := ⟨by simp [World.setCell], R2'.out.lt⟩
  clear A02 A12 A22 L2 C2' R2'
  go_wp2_with fail
  generalize w2.setCell ⟨g0 + 1 + 1, 1, none⟩ (.slice (some ⟨g2, 0, none⟩) L.tn L.tn) = W2 at S1 T1 U1 C2 R3 LB1 HZ1 ⊢
  refine (HC.out _ LB1.out).mono ?_
  rintro e w3 ⟨rfl, R4, b3⟩
  obtain ⟨g3, hg3⟩ : ∃ g3, g3 = W2.heap.size := ⟨_, rfl⟩
  have HG3 : Hid (g2 < g3) := by show _ < _; have := HZ1.out; omega
  have A13 : Hid (CBk w3 (g0 + 1) 32 #[.slice none 0 0, .slice none 0 0, .slice none 0 0]) := T1.out.call b3
  have A23 : Hid (CBk w3 (g0 + 1 + 1) 32 #[.slice (some ⟨g1, 0, none⟩) L.bn L.bn, .slice (some ⟨g2, 0, none⟩) L.tn L.tn, .slice none 0 0]) := S1.out.call b3
  have L3 : Hid (Below w.heap.size w w3) := LB1.out.trans (b3.mono LB1.out.size)
  have C3 : Hid (CopyB g1 g1 L.bn L.bl bs w3) := C2.out.below b3
  have R5 : Hid (RowI w3 g2 (L.tz.take L.tn)) := R3.out.below b3 R3.out.lt
  have R6 : Hid (RowCached w3 g3 L.cl) := by rw [hg3]; exact R4
  rw [← hg3]
  clear S1 T1 U1 C2 LB1 HZ1 b3 R3 R4
  clear hg3
  clear c0 c1 c2 d0 d1 d2 z0 z1 z2
  clear W2
  obtain ⟨d0, d1, d2, z0, z1, z2⟩ := A23.out.three
  obtain ⟨p0, p1, p2, y0, y1, y2⟩ := A13.out.three
  have S3 : Hid (CBk (w3.setCell ⟨g0 + 1 + 1, 2, none⟩ (.slice (some ⟨g3, 0, none⟩) L.cn L.cn)) (g0 + 1 + 1) 32 #[.slice (some ⟨g1, 0, none⟩) L.bn L.bn, .slice (some ⟨g2, 0, none⟩) L.tn L.tn, .slice (some ⟨g3, 0, none⟩) L.cn L.cn]) := A23.out.set 2 _
  have T3 : Hid (CBk ((((w3.setCell ⟨g0 + 1 + 1, 2, none⟩ (.slice (some ⟨g3, 0, none⟩) L.cn L.cn)).setCell ⟨g0 + 1, 0, none⟩ (.slice (some ⟨g1, 0, none⟩) L.bn L.bn)).setCell ⟨g0 + 1, 1, none⟩ (.slice (some ⟨g2, 0, none⟩) L.tn L.tn)).setCell ⟨g0 + 1, 2, none⟩ (.slice (some ⟨g3, 0, none⟩) L.cn L.cn)) (g0 + 1) 32 #[.slice (some ⟨g1, 0, none⟩) L.bn L.bn, .slice (some ⟨g2, 0, none⟩) L.tn L.tn, .slice (some ⟨g3, 0, none⟩) L.cn L.cn]) := (((A13.out.other (by omega) _).set 0 _).set 1 _).set 2 _
  have HF : Hid (CopySrv w.heap.size L ⟨g1, L.bn, L.bn, bs, g2, L.tn, L.tn, L.tz.take L.tn, g3, L.cn, L.cn, L.cl⟩ ((((w3.setCell ⟨g0 + 1 + 1, 2, none⟩ (.slice (some ⟨g3, 0, none⟩) L.cn L.cn)).setCell ⟨g0 + 1, 0, none⟩ (.slice (some ⟨g1, 0, none⟩) L.bn L.bn)).setCell ⟨g0 + 1, 1, none⟩ (.slice (some ⟨g2, 0, none⟩) L.tn L.tn)).setCell ⟨g0 + 1, 2, none⟩ (.slice (some ⟨g3, 0, none⟩) L.cn L.cn))) := by
    have e1 := HG1.out
    have e2 := HG2.out
    have e3 := HG3.out
    have e4 := HLw.out
    have cb := (((C3.out.other (g' := g0 + 1 + 1) (by omega) 2 (.slice (some ⟨g3, 0, none⟩) L.cn L.cn)).other (g' := g0 + 1) (by omega) 0 (.slice (some ⟨g1, 0, none⟩) L.bn L.bn)).other (g' := g0 + 1) (by omega) 1 (.slice (some ⟨g2, 0, none⟩) L.tn L.tn)).other (g' := g0 + 1) (by omega) 2 (.slice (some ⟨g3, 0, none⟩) L.cn L.cn)
    refine ⟨⟨cb.row, cb.len, cb.pts, cb.items, by show w.heap.size ≤ g1; omega⟩, rfl, rfl, ?_, rfl, rfl, rfl, ?_, rfl, rfl, rfl, e2, e3⟩
    · exact rowI_other (rowI_other (rowI_other (rowI_other R5.out (by omega) _ _) (by omega) _ _) (by omega) _ _) (by omega) _ _
    · exact rowF_other (rowF_other (rowF_other (rowF_other R6.out (by omega) _ _) (by omega) _ _) (by omega) _ _) (by omega) _ _
  have LF : Hid (Below w.heap.size w ((((w3.setCell ⟨g0 + 1 + 1, 2, none⟩ (.slice (some ⟨g3, 0, none⟩) L.cn L.cn)).setCell ⟨g0 + 1, 0, none⟩ (.slice (some ⟨g1, 0, none⟩) L.bn L.bn)).setCell ⟨g0 + 1, 1, none⟩ (.slice (some ⟨g2, 0, none⟩) L.tn L.tn)).setCell ⟨g0 + 1, 2, none⟩ (.slice (some ⟨g3, 0, none⟩) L.cn L.cn))) := by
    have e4 := HLw.out
    exact (((L3.out.setCell (p := ⟨g0 + 1 + 1, 2, none⟩) (by show w.heap.size ≤ g0 + 1 + 1; omega) _).setCell (p := ⟨g0 + 1, 0, none⟩) (by show w.heap.size ≤ g0 + 1; omega) _).setCell (p := ⟨g0 + 1, 1, none⟩) (by show w.heap.size ≤ g0 + 1; omega) _).setCell (p := ⟨g0 + 1, 2, none⟩) (by show w.heap.size ≤ g0 + 1; omega) _
  obtain ⟨s0, s1, s2, _⟩ := S3.out.three
  clear A13 A23 L3 C3 R5 R6
  go_wp2_with fail
  exact bodyPost_ret (results_cell_row (p := 2) rfl _ _ (g0 + 1) 32 #[.slice (some ⟨g1, 0, none⟩) L.bn L.bn, .slice (some ⟨g2, 0, none⟩) L.tn L.tn, .slice (some ⟨g3, 0, none⟩) L.cn L.cn] (0, 0) _ rfl T3.out Tryz.underlying32 rfl (by kernel_rfl)) rfl (HQ.out _ _ _ rfl HF.out LF.out)

end Go.Proofs.YtphgjhakghblgaaGreatDoor

set_option linter.unusedVariables false
namespace Go.Proofs.YtphgjhakghblgaaGreatDoor
open Go.RowKit Go.Deep

/-- A server in memory. -/
structure SrvAt (s : SrvV) (w : World) : Prop where
  b : Blks s.g s.n s.bc s.bs w
  t : At w s.tg s.ts
  tl : s.tn = s.ts.length
  c : AtCached w s.cg s.cs
  cl : s.cn = s.cs.length
  cm : s.cn ≤ 1048576
  cc : s.cn ≤ s.cc
theorem SrvAt.below {s : SrvV} {w w' : World} (h : SrvAt s w) (hb : Below w.heap.size w w') : SrvAt s w' :=
  ⟨h.b.below hb, ⟨Nat.lt_of_lt_of_le h.t.1 hb.size, fun i hi => (hb.cell h.t.1).trans (h.t.2 i hi)⟩, h.tl, h.c.below hb h.c.1, h.cl, h.cm, h.cc⟩
def srvR (s : SrvV) : Bool := srvOk (ptsOf s.bs) s.ts s.cs

set_option maxHeartbeats 4000000 in
set_option maxRecDepth 100000 in
theorem implServerOk (s : SrvV) (w : World) (h : SrvAt s w) (hK : RowG w shaK) (hP : TabP w) (hE : ErrT w) :
    Calls Tryz.prog 8 #[srvVal s] w fun e w' => e = .returned (.bool (srvR s)) ∧ Below w.heap.size w w' := by
  have HS : Hid (SrvAt s w) := h
  have HK : Hid (RowG w shaK) := hK
  have HP : Hid (TabP w) := hP
  have HE : Hid (ErrT w) := hE
  have H1 : Hid (tokOk s.ts = false → srvR s = false) := fun h => srv_tok h
  have H2 : Hid (okP (ptsOf s.bs) = false → srvR s = false) := fun h => srv_okP h
  have H3 : Hid (tokOk s.ts = true → okP (ptsOf s.bs) = true → srvR s = cacheOk (ptsOf s.bs) s.cs) := fun h1 h2 => by rw [srvR, srvOk, h1, h2]; rfl
  generalize srvR s = R at H1 H2 H3 ⊢
  have htk := fun (w' : World) (hb : Below w.heap.size w w') => implTokensOk s.tg s.tn s.tc s.ts w' (h.below hb).t h.tl
  have hch := fun (w' : World) (hb : Below w.heap.size w w') => implChainOk s.g s.n s.bc s.bs w' (h.below hb).b (HK.out.below hb HK.out.lt) (TabP.below HP.out hb (Nat.le_refl _)) (HE.out.below hb HE.out.lt)
  have hca := fun (w' : World) (hb : Below w.heap.size w w') => implCacheOk s.cg s.cn s.cc s.cs s.g s.n s.bc s.bs w' (h.below hb).c h.cl h.cm h.cc (h.below hb).b (HK.out.below hb HK.out.lt) (TabP.below HP.out hb (Nat.le_refl _))
  clear h hK hP hE
  unfold srvVal
  have C0 : Hid (CBk (w.alloc (.cells #[.slice (some ⟨s.g, 0, none⟩) s.n s.bc, .slice (some ⟨s.tg, 0, none⟩) s.tn s.tc, .slice (some ⟨s.cg, 0, none⟩) s.cn s.cc] 32)) w.heap.size 32 #[.slice (some ⟨s.g, 0, none⟩) s.n s.bc, .slice (some ⟨s.tg, 0, none⟩) s.tn s.tc, .slice (some ⟨s.cg, 0, none⟩) s.cn s.cc]) := CBk.new w _ _
  have L0 : Hid (Below w.heap.size w (w.alloc (.cells #[.slice (some ⟨s.g, 0, none⟩) s.n s.bc, .slice (some ⟨s.tg, 0, none⟩) s.tn s.tc, .slice (some ⟨s.cg, 0, none⟩) s.cn s.cc] 32))) := (Below.refl _ w).alloc (Nat.le_refl _) _
  go_enter Tryz.func8, Tryz.ntmps8
  go_wp2_with fail
  have ht0 := htk _ L0.out
  cases ht : tokOk s.ts with
  | false =>
    have HV : Hid (R = false) := H1.out ht
    rw [ht] at ht0
    clear htk hch hca H1 H2 H3 ht
    refine ht0.mono ?_
    rintro e w1 ⟨rfl, rfl⟩
    go_wp2_with fail
    go_ret
    exact ⟨by rw [HV.out]; rfl, L0.out⟩
  | true =>
    rw [ht] at ht0
    have H3 := H3.out ht
    clear htk H1 ht
    refine ht0.mono ?_
    rintro e w1 ⟨rfl, rfl⟩
    clear ht0
    obtain ⟨c0, c1, c2, _⟩ := C0.out.three
    have hc0 := hch _ L0.out
    clear hch
    cases hp : okP (ptsOf s.bs) with
    | false =>
      have HV : Hid (R = false) := H2.out hp
      rw [hp] at hc0
      clear hca H2 H3 hp
      go_wp2_with fail
      refine hc0.mono ?_
      rintro e w1 ⟨rfl, b1⟩
      go_wp2_with fail
      go_ret
      exact ⟨by rw [HV.out]; rfl, L0.out.trans (b1.mono L0.out.size)⟩
    | true =>
      rw [hp] at hc0
      have HV : Hid (R = cacheOk (ptsOf s.bs) s.cs) := H3 hp
      clear H2 H3 hp
      generalize cacheOk (ptsOf s.bs) s.cs = C at hca HV
      go_wp2_with fail
      refine hc0.mono ?_
      rintro e w1 ⟨rfl, b1⟩
      have C1 : Hid (CBk w1 w.heap.size 32 #[.slice (some ⟨s.g, 0, none⟩) s.n s.bc, .slice (some ⟨s.tg, 0, none⟩) s.tn s.tc, .slice (some ⟨s.cg, 0, none⟩) s.cn s.cc]) := C0.out.call b1
      have L1 : Hid (Below w.heap.size w w1) := L0.out.trans (b1.mono L0.out.size)
      clear C0 L0 b1 hc0 c0 c1 c2
      obtain ⟨c0, c1, c2, _⟩ := C1.out.three
      have hc0 := hca _ L1.out
      clear hca
      go_wp2_with fail
      refine hc0.mono ?_
      rintro e w2 ⟨rfl, b2⟩
      go_wp2_with fail
      go_ret
      exact ⟨by rw [HV.out]; rfl, L1.out.trans (b2.mono L1.out.size)⟩

end Go.Proofs.YtphgjhakghblgaaGreatDoor

set_option linter.unusedVariables false
namespace Go.Proofs.YtphgjhakghblgaaGreatDoor
open Go.RowKit

/-- The text whose sum a mark is. -/
def markT (p f : List UInt8) : List UInt8 := [109, 97, 114, 107, 32] ++ p ++ [32] ++ sumB f
def markOf (p f : List UInt8) : List UInt8 := if isSum p = true ∧ f.length ≤ 600 then sumB (markT p f) else []
theorem sumB_len (t : List UInt8) : (sumB t).length = 16 := by simp [sumB, hexOf]

end Go.Proofs.YtphgjhakghblgaaGreatDoor

set_option linter.unusedVariables false
namespace Go.Proofs.YtphgjhakghblgaaGreatDoor
open Go.RowKit

def bitAt (o : List UInt8) (p : Nat) : Int := if p < 8 * o.length then (((o.getD (p / 8) 0).toNat / 2 ^ (7 - p % 8) % 2 : Nat) : Int) else -1
theorem byteBits_at (c : UInt8) (p : Nat) (hp : p < 8) : (byteBits c).getD p 0 = c.toNat / 2 ^ (7 - p) % 2 := by
  match p, hp with
  | 0, _ | 1, _ | 2, _ | 3, _ | 4, _ | 5, _ | 6, _ => rfl
  | 7, _ => simp [byteBits]
theorem unpack_at (o : List UInt8) : ∀ p, p < 8 * o.length → (unpack o).getD p 0 = (o.getD (p / 8) 0).toNat / 2 ^ (7 - p % 8) % 2 := by
  induction o with
  | nil => intro p hp; simp at hp
  | cons c r ih =>
    intro p hp
    have hu : unpack (c :: r) = byteBits c ++ unpack r := rfl
    have hl : (byteBits c).length = 8 := rfl
    rw [hu]
    rcases Nat.lt_or_ge p 8 with h | h
    · have e : p / 8 = 0 := by omega
      rw [List.getD_eq_getElem?_getD, List.getElem?_append_left (by omega), ← List.getD_eq_getElem?_getD, byteBits_at c p h, e, show p % 8 = p from by omega]
      rfl
    · have e : p / 8 = (p - 8) / 8 + 1 := by omega
      have hp' : p - 8 < 8 * r.length := by simp at hp; omega
      rw [List.getD_eq_getElem?_getD, List.getElem?_append_right (by omega), hl, ← List.getD_eq_getElem?_getD, ih (p - 8) hp', e, show (p - 8) % 8 = p % 8 from by omega]
      rfl
theorem bitAt_in {o : List UInt8} {p : Nat} (hp : p < 8 * o.length) : bitAt o p = (((unpack o).getD p 0 : Nat) : Int) := by
  rw [bitAt, if_pos hp, unpack_at o p hp]
theorem bitAt_out {o : List UInt8} {p : Nat} (hp : ¬ p < 8 * o.length) : bitAt o p = -1 := by rw [bitAt, if_neg hp]
theorem bitAt_range (o : List UInt8) (p : Nat) : -1 ≤ bitAt o p ∧ bitAt o p ≤ 1 := by
  unfold bitAt
  split <;> omega

end Go.Proofs.YtphgjhakghblgaaGreatDoor

set_option linter.unusedVariables false
namespace Go.Proofs.YtphgjhakghblgaaGreatDoor
open Go.Shelf Go.RowKit

/-- A list that is written just so. -/
def Writes (k many : Nat) (o : List UInt8) (l : List Nat) : Prop := l.length = many ∧ (∀ x ∈ l, x ≤ 60000) ∧ riceB k l = o
theorem writes_one {k many : Nat} {o : List UInt8} {l : List Nat} (h : Writes k many o l) : readT k many (unpack o) (0, false, 0) [] = l := by
  rw [← h.2.2, ← h.1]
  exact readT_rice k l
/-- The place at which the j-th number begins. -/
def placeOf (k : Nat) (l : List Nat) (j : Nat) : Nat := (bitsOf k (l.take j)).length
theorem placeOf_zero (k : Nat) (l : List Nat) : placeOf k l 0 = 0 := by simp [placeOf, bitsOf]
theorem placeOf_succ (k : Nat) (l : List Nat) (j : Nat) (hj : j < l.length) : placeOf k l (j + 1) = placeOf k l j + (numB k (l.getD j 0)).length := by
  have : l.take (j + 1) = l.take j ++ [l.getD j 0] := by
    rw [List.take_add_one, List.getElem?_eq_getElem hj]
    simp [List.getElem?_eq_getElem hj]
  rw [placeOf, this, bitsOf_snoc, List.length_append]
  rfl
theorem num_at {k many : Nat} {o : List UInt8} {l : List Nat} (h : Writes k many o l) (j : Nat) (hj : j < many) (q : Nat) (hq : q < (numB k (l.getD j 0)).length) :
    placeOf k l j + q < 8 * o.length ∧ bitAt o (placeOf k l j + q) = (((numB k (l.getD j 0)).getD q 0 : Nat) : Int) := by
  obtain ⟨z, _, hu⟩ := unpack_rice k l
  rw [h.2.2] at hu
  have hjl : j < l.length := by rw [h.1]; exact hj
  have hsplit : bitsOf k l = bitsOf k (l.take j) ++ (numB k (l.getD j 0) ++ bitsOf k (l.drop (j + 1))) := by
    have e : l = l.take j ++ (l.getD j 0 :: l.drop (j + 1)) := by
      have e2 : l.getD j 0 = l[j] := by rw [List.getD_eq_getElem?_getD, List.getElem?_eq_getElem hjl]; rfl
      rw [e2, ← List.drop_eq_getElem_cons hjl, List.take_append_drop]
    conv => lhs; rw [e]
    simp [bitsOf]
  have hul : (unpack o).length = 8 * o.length := unpack_length o
  rw [hsplit] at hu
  have hlen : placeOf k l j + q < (unpack o).length := by
    rw [hu]
    simp only [List.length_append, placeOf]
    omega
  refine ⟨by omega, ?_⟩
  rw [bitAt_in (by omega), hu]
  congr 1
  rw [List.append_assoc, List.getD_eq_getElem?_getD, List.getElem?_append_right (by simp only [placeOf]; omega)]
  rw [show placeOf k l j + q - (bitsOf k (l.take j)).length = q from by simp only [placeOf]; omega]
  rw [List.append_assoc, List.getElem?_append_left hq, ← List.getD_eq_getElem?_getD]
theorem numB_one (k x q : Nat) (h : q < x / 2 ^ k) : (numB k x).getD q 0 = 1 := by
  rw [numB, List.getD_eq_getElem?_getD, List.getElem?_append_left (by simpa using h)]
  simp [h]
theorem numB_nought (k x : Nat) : (numB k x).getD (x / 2 ^ k) 0 = 0 := by
  rw [numB, List.getD_eq_getElem?_getD, List.getElem?_append_right (by simp)]
  simp
theorem lowB_at (x : Nat) : ∀ (k i : Nat), i < k → (lowB x k).getD i 0 = x / 2 ^ (k - 1 - i) % 2 := by
  intro k
  induction k with
  | zero => intro i hi; omega
  | succ k ih =>
    intro i hi
    cases i with
    | zero => rfl
    | succ i =>
      have := ih i (by omega)
      rw [show lowB x (k + 1) = (x / 2 ^ k % 2) :: lowB x k from rfl]
      rw [List.getD_cons_succ, this, show k + 1 - 1 - (i + 1) = k - 1 - i from by omega]
theorem numB_low (k x i : Nat) (h : i < k) : (numB k x).getD (x / 2 ^ k + 1 + i) 0 = x / 2 ^ (k - 1 - i) % 2 := by
  rw [numB, List.getD_eq_getElem?_getD, List.getElem?_append_right (by simp; omega)]
  rw [show x / 2 ^ k + 1 + i - (List.replicate (x / 2 ^ k) 1).length = i + 1 from by simp; omega]
  rw [List.getElem?_cons_succ, ← List.getD_eq_getElem?_getD, lowB_at x k i h]
/-- So many ones from a place on, then none: the number's first part. -/
theorem ones_end {k many : Nat} {o : List UInt8} {l : List Nat} (h : Writes k many o l) (j : Nat) (hj : j < many) (n : Nat) (h1 : ∀ q, q < n → bitAt o (placeOf k l j + q) = 1) (h2 : bitAt o (placeOf k l j + n) ≠ 1) : n = l.getD j 0 / 2 ^ k := by
  have hl := numB_length k (l.getD j 0)
  rcases Nat.lt_trichotomy n (l.getD j 0 / 2 ^ k) with hh | hh | hh
  · have := (num_at h j hj n (by omega)).2
    rw [numB_one k _ n hh] at this
    exact absurd this h2
  · exact hh
  · have a := (num_at h j hj (l.getD j 0 / 2 ^ k) (by omega)).2
    rw [numB_nought, h1 _ hh] at a
    simp at a
theorem low_step {k many : Nat} {o : List UInt8} {l : List Nat} (h : Writes k many o l) (j : Nat) (hj : j < many) (i : Nat) (hi : i < k) (v : Int) (hv : v = ((l.getD j 0 / 2 ^ (k - i) : Nat) : Int)) :
    v * 2 + bitAt o (placeOf k l j + l.getD j 0 / 2 ^ k + 1 + i) = ((l.getD j 0 / 2 ^ (k - (i + 1)) : Nat) : Int) := by
  have hl := numB_length k (l.getD j 0)
  have a := (num_at h j hj (l.getD j 0 / 2 ^ k + 1 + i) (by omega)).2
  rw [numB_low k _ i hi] at a
  rw [show placeOf k l j + l.getD j 0 / 2 ^ k + 1 + i = placeOf k l j + (l.getD j 0 / 2 ^ k + 1 + i) from by omega, a, hv]
  have e : l.getD j 0 / 2 ^ (k - i) = l.getD j 0 / 2 ^ (k - (i + 1)) / 2 := by
    rw [show k - i = k - (i + 1) + 1 from by omega, Nat.pow_succ, Nat.div_div_eq_div_mul]
  rw [e, show k - 1 - i = k - (i + 1) from by omega]
  omega

end Go.Proofs.YtphgjhakghblgaaGreatDoor

namespace Go.Proofs.YtphgjhakghblgaaGreatDoor
open Go.RowKit

def getOk (o : List UInt8) (many k : Int) : Bool := decide (0 ≤ many ∧ many ≤ 40) && decide (0 ≤ k ∧ k ≤ 8) && decide (o.length ≤ 600)
def readAll (o : List UInt8) (many k : Int) : List Nat := readT k.toNat many.toNat (unpack o) (0, false, 0) []
open Classical in
/-- The list that is written just so, if there is one. -/
noncomputable def riceGet (o : List UInt8) (many k : Int) : Option (List Nat) :=
  if getOk o many k = true ∧ Writes k.toNat many.toNat o (readAll o many k) then some (readAll o many k) else none
theorem riceGet_bad {o : List UInt8} {many k : Int} (h : getOk o many k = false) : riceGet o many k = none := by
  rw [riceGet, if_neg (fun hh => by rw [h] at hh; cases hh.1)]
theorem riceGet_yes {o : List UInt8} {many k : Int} {l : List Nat} (h : getOk o many k = true) (hw : Writes k.toNat many.toNat o l) : riceGet o many k = some l := by
  have e : readAll o many k = l := writes_one hw
  rw [riceGet, e, if_pos ⟨h, hw⟩]
theorem riceGet_no {o : List UInt8} {many k : Int} (h : ∀ l, ¬ Writes k.toNat many.toNat o l) : riceGet o many k = none := by
  rw [riceGet, if_neg (fun hh => h _ hh.2)]
theorem riceGet_some {o : List UInt8} {many k : Int} {l : List Nat} (h : riceGet o many k = some l) : getOk o many k = true ∧ Writes k.toNat many.toNat o l := by
  unfold riceGet at h
  split at h
  · rename_i hh
    obtain rfl : readAll o many k = l := by simpa using h
    exact hh
  · cases h

end Go.Proofs.YtphgjhakghblgaaGreatDoor

namespace Go.Proofs.YtphgjhakghblgaaGreatDoor
open Go.RowKit

/-- Each the sum of all up to it. -/
def sumsF : Nat → List Nat → List Nat
  | _, [] => []
  | a, x :: r => (a + x) :: sumsF (a + x) r
def total (a : Nat) (l : List Nat) : Nat := l.foldl (· + ·) a
theorem total_cons (a x : Nat) (l : List Nat) : total a (x :: l) = total (a + x) l := rfl
theorem total_snoc (a x : Nat) (l : List Nat) : total a (l ++ [x]) = total a l + x := by simp [total]
theorem sumsF_length (l : List Nat) : ∀ a, (sumsF a l).length = l.length := by
  induction l with
  | nil => intro a; rfl
  | cons x r ih => intro a; simp [sumsF, ih]
theorem sumsF_snoc (l : List Nat) (x : Nat) : ∀ a, sumsF a (l ++ [x]) = sumsF a l ++ [total a l + x] := by
  induction l with
  | nil => intro a; rfl
  | cons y r ih => intro a; simp [sumsF, ih, total_cons]
theorem le_total (l : List Nat) : ∀ a, a ≤ total a l := by
  induction l with
  | nil => intro a; exact Nat.le_refl _
  | cons x r ih => intro a; rw [total_cons]; have := ih (a + x); omega
theorem sumsF_le (l : List Nat) : ∀ a, ∀ p ∈ sumsF a l, a ≤ p ∧ p ≤ total a l := by
  induction l with
  | nil => intro a p hp; cases hp
  | cons x r ih =>
    intro a p hp
    rw [total_cons]
    rcases List.mem_cons.1 hp with rfl | hp
    · exact ⟨by omega, le_total r _⟩
    · have := ih (a + x) p hp
      exact ⟨by omega, this.2⟩
theorem sumsF_last (l : List Nat) (h : l ≠ []) : ∀ a, total a l ∈ sumsF a l := by
  induction l with
  | nil => exact absurd rfl h
  | cons x r ih =>
    intro a
    cases r with
    | nil => simp [sumsF, total]
    | cons y t => exact List.mem_cons_of_mem _ (ih (by simp) (a + x))
theorem total_bound (l : List Nat) (h : ∀ x ∈ l, x ≤ 60000) : ∀ a, total a l ≤ a + 60000 * l.length := by
  induction l with
  | nil => intro a; exact Nat.le_refl _
  | cons x r ih =>
    intro a
    have h1 := ih (fun y hy => h y (by simp [hy])) (a + x)
    have h2 := h x (by simp)
    rw [total_cons, List.length_cons]
    omega

/-- Where the items fall, if all are below. -/
def placesOf (many : Nat) (gaps : List Nat) : Option (List Nat) := if total 0 gaps < many * 37 ∨ gaps = [] then some (sumsF 0 gaps) else none
noncomputable def filterGet (o : List UInt8) : Option (List Nat) :=
  if (varGet o).2 = 0 ∨ 600 < o.length then none
  else match riceGet (o.drop (varGet o).2) ((varGet o).1 : Int) 5 with
    | none => none
    | some gaps => placesOf (varGet o).1 gaps
theorem filterGet_bad {o : List UInt8} (h : (varGet o).2 = 0 ∨ 600 < o.length) : filterGet o = none := by rw [filterGet, if_pos h]
theorem filterGet_none {o : List UInt8} (h : riceGet (o.drop (varGet o).2) ((varGet o).1 : Int) 5 = none) : filterGet o = none := by
  unfold filterGet
  split
  · rfl
  · rw [h]
theorem filterGet_some {o : List UInt8} {gaps : List Nat} (h0 : ¬ ((varGet o).2 = 0 ∨ 600 < o.length)) (h : riceGet (o.drop (varGet o).2) ((varGet o).1 : Int) 5 = some gaps) : filterGet o = placesOf (varGet o).1 gaps := by
  rw [filterGet, if_neg h0, h]

theorem vg_size (f : Nat) : ∀ (l r : List UInt8), (vg f l r).2 ≤ l.length + r.length ∧ (vg f l r).2 ≤ l.length + f ∧ (vg f l r).1 ≤ 2147483647 := by
  induction f with
  | zero => intro l r; simp [vg]
  | succ f ih =>
    intro l r
    cases r with
    | nil => simp [vg]
    | cons b r =>
      rw [vg]
      split
      · have := ih (l ++ [b]) r
        simp at this ⊢
        omega
      · split
        · rename_i hb hv
          refine ⟨by simp, by simp, ?_⟩
          show vNum (l ++ [b]) ≤ 2147483647
          unfold varPut at hv
          split at hv
          · rename_i h
            omega
          · simp at hv
        · simp
theorem varGet_size (o : List UInt8) : (varGet o).2 ≤ o.length ∧ (varGet o).2 ≤ 5 ∧ (varGet o).1 ≤ 2147483647 := by
  have := vg_size 5 [] o
  simpa [varGet] using this

end Go.Proofs.YtphgjhakghblgaaGreatDoor

set_option linter.unusedVariables false
namespace Go.Proofs.YtphgjhakghblgaaGreatDoor
open Go.RowKit

def stepT (k : Nat) (s : (Nat × Bool × Nat) × List Nat) (b : Nat) : (Nat × Bool × Nat) × List Nat := ((takeM k s.1 b).1, s.2 ++ (takeM k s.1 b).2.toList)
def runT (k : Nat) (bs : List Bit) : (Nat × Bool × Nat) × List Nat := bs.foldl (fun s b => stepT k s b.1) ((0, false, 0), [])
theorem runT_snoc (k : Nat) (bs : List Bit) (b : Bit) : runT k (bs ++ [b]) = stepT k (runT k bs) b.1 := by simp [runT]
/-- What a number that is read in part can be. -/
def okT (k q : Nat) (st : Nat × Bool × Nat) : Prop := (st.2.1 = false ∧ st.1 ≤ q ∧ st.2.2 = 0) ∨ (st.2.1 = true ∧ 1 ≤ st.2.2 ∧ st.2.2 ≤ k ∧ st.1 < (q + 1) * 2 ^ (k - st.2.2))
theorem okT_step {k q b : Nat} {st : Nat × Bool × Nat} (h : okT k q st) (hb : b ≤ 1) : okT k (q + 1) (takeM k st b).1 := by
  obtain ⟨n, r, left⟩ := st
  rcases h with ⟨h1, h2, h3⟩ | ⟨h1, h2, h3, h4⟩
  · obtain rfl : r = false := h1
    have h2' : n ≤ q := h2
    have h3' : left = 0 := h3
    by_cases hb1 : b = 1
    · have e : (takeM k (n, false, left) b).1 = (n + 1, false, left) := by simp [takeM, hb1]
      rw [e]
      exact .inl ⟨rfl, by show n + 1 ≤ q + 1; omega, h3⟩
    · by_cases hk : 0 < k
      · have e : (takeM k (n, false, left) b).1 = (n, true, k) := by simp [takeM, hb1, hk]
        rw [e]
        exact .inr ⟨rfl, by show 1 ≤ k; omega, Nat.le_refl _, by show n < (q + 1 + 1) * 2 ^ (k - k); rw [Nat.sub_self]; omega⟩
      · have e : (takeM k (n, false, left) b).1 = (0, false, 0) := by simp [takeM, hb1, hk]
        rw [e]
        exact .inl ⟨rfl, Nat.zero_le _, rfl⟩
  · obtain rfl : r = true := h1
    have h3' : left ≤ k := h3
    have h4' : n < (q + 1) * 2 ^ (k - left) := h4
    by_cases hl : 1 < left
    · have e : (takeM k (n, true, left) b).1 = (n * 2 + b, true, left - 1) := by simp [takeM, hl]
      rw [e]
      refine .inr ⟨rfl, by show 1 ≤ left - 1; omega, by show left - 1 ≤ k; omega, ?_⟩
      show n * 2 + b < (q + 1 + 1) * 2 ^ (k - (left - 1))
      rw [show k - (left - 1) = k - left + 1 from by omega, Nat.pow_succ, ← Nat.mul_assoc, Nat.add_mul (q + 1) 1]
      omega
    · have e : (takeM k (n, true, left) b).1 = (0, false, 0) := by simp [takeM, hl]
      rw [e]
      exact .inl ⟨rfl, Nat.zero_le _, rfl⟩
theorem okT_small {k q : Nat} {st : Nat × Bool × Nat} (h : okT k q st) (hk : k ≤ 8) (hq : q ≤ 4800) : st.1 < 1000000000000 ∧ st.2.2 ≤ 8 ∧ (st.2.1 = true → 1 ≤ st.2.2) := by
  rcases h with ⟨h1, h2, h3⟩ | ⟨h1, h2, h3, h4⟩
  · exact ⟨by omega, by omega, fun e => by rw [h1] at e; cases e⟩
  · have hp : 2 ^ (k - st.2.2) ≤ 2 ^ 8 := Nat.pow_le_pow_right (by omega) (by omega)
    have hm : (q + 1) * 2 ^ (k - st.2.2) ≤ 4801 * 2 ^ 8 := Nat.mul_le_mul (by omega) hp
    exact ⟨by omega, by omega, fun _ => h2⟩
/-- Reading goes on behind these bits. -/
def OpenT (k many : Nat) (bs : List Bit) : Prop := (∀ rest, readT k many (bs.map (fun b => b.1) ++ rest) (0, false, 0) [] = readT k many rest (runT k bs).1 (runT k bs).2) ∧ (runT k bs).2.length ≤ many ∧ okT k bs.length (runT k bs).1
theorem openT_nil (k many : Nat) : OpenT k many [] := ⟨fun _ => rfl, Nat.zero_le _, .inl ⟨rfl, Nat.le_refl _, rfl⟩⟩
theorem openT_snoc {k many : Nat} {bs : List Bit} (h : OpenT k many bs) (hne : (runT k bs).2.length ≠ many) (b : Bit) : OpenT k many (bs ++ [b]) := by
  refine ⟨fun rest => ?_, ?_, ?_⟩
  · rw [List.map_append, List.append_assoc, h.1, List.map_cons, List.map_nil, List.cons_append, List.nil_append, readT, if_neg hne, runT_snoc]
    rfl
  · rw [runT_snoc]
    have h2 := h.2.1
    simp only [stepT, List.length_append]
    have : (takeM k (runT k bs).1 b.1).2.toList.length ≤ 1 := by cases (takeM k (runT k bs).1 b.1).2 <;> simp
    omega
  · rw [runT_snoc, List.length_append]
    exact okT_step h.2.2 b.2
theorem openT_full {k many : Nat} {bs : List Bit} (h : OpenT k many bs) (he : (runT k bs).2.length = many) (rest : List Nat) : readT k many (bs.map (fun b => b.1) ++ rest) (0, false, 0) [] = (runT k bs).2 := by
  rw [h.1]
  cases rest with
  | nil => rfl
  | cons b r => rw [readT, if_pos he]
theorem openT_end {k many : Nat} {bs : List Bit} (h : OpenT k many bs) : readT k many (bs.map (fun b => b.1)) (0, false, 0) [] = (runT k bs).2 := by
  have := h.1 []
  rw [List.append_nil] at this
  rw [this]
  rfl

theorem unpack_map (o : List UInt8) : unpack o = (List.range (8 * o.length)).map fun q => (o.getD (q / 8) 0).toNat / 2 ^ (7 - q % 8) % 2 := by
  induction o with
  | nil => rfl
  | cons c r ih =>
    have e : unpack (c :: r) = byteBits c ++ unpack r := rfl
    rw [e, ih, List.length_cons, show 8 * (r.length + 1) = 8 + 8 * r.length from by omega, List.range_add, List.map_append, List.map_map]
    congr 1
    · simp [byteBits, List.range, List.range.loop]
    · apply List.map_congr_left
      intro q _
      show _ = ((c :: r).getD ((8 + q) / 8) 0).toNat / 2 ^ (7 - (8 + q) % 8) % 2
      rw [show (8 + q) / 8 = q / 8 + 1 from by omega, show (8 + q) % 8 = q % 8 from by omega]
      simp
theorem unpack_bits (s : ByteArray) : unpack s.data.toList = (bitsTo s (8 * s.size)).map (fun b => b.1) := by
  rw [unpack_map, bitsTo, List.map_map]
  have : s.data.toList.length = s.size := by simp
  rw [this]
  rfl
theorem bitsTo_split (s : ByteArray) (q : Nat) (h : q ≤ 8 * s.size) : ∃ rest, unpack s.data.toList = (bitsTo s q).map (fun b => b.1) ++ rest := by
  refine ⟨((List.range (8 * s.size - q)).map (fun i => bitOf s (q + i))).map (fun b => b.1), ?_⟩
  have e : bitsTo s (8 * s.size) = bitsTo s q ++ (List.range (8 * s.size - q)).map (fun i => bitOf s (q + i)) := by
    rw [bitsTo, show 8 * s.size = q + (8 * s.size - q) from by omega, List.range_add, List.map_append, List.map_map, show q + (8 * s.size - q) - q = 8 * s.size - q from by omega]
    rfl
  rw [unpack_bits, e, List.map_append]

end Go.Proofs.YtphgjhakghblgaaGreatDoor

set_option linter.unusedVariables false
namespace Go.Proofs.YtphgjhakghblgaaGreatDoor
open Go.Shelf Go.RowKit

/-- What has been read: so many numbers, and for every list that is written just so: its first ones, and its next place. -/
def ReadTo (k many : Nat) (o : List UInt8) (out : List Nat) (p : Nat) : Prop :=
  (∀ x ∈ out, x ≤ 60000) ∧ ∀ l, Writes k many o l → l.take out.length = out ∧ placeOf k l out.length = p
def OutRow (B : Nat) (v : Value) (out : List Nat) (w : World) : Prop := (∃ g cap, v = .slice (some ⟨g, 0, none⟩) out.length cap) ∧ w.ownsRow B 3 1 v out.length (intCells out)

def sliceLen : Value → Nat
  | .slice _ n _ => n
  | _ => 0
theorem newRow (w : World) : OutRow w.heap.size (.slice (some ⟨w.heap.size, 0, none⟩) 0 0) [] (w.alloc (.cells #[] 3)) :=
  ⟨⟨_, _, rfl⟩, rfl, .inr ⟨_, _, #[], rfl, Nat.le_refl _, heap_alloc_new w _, Nat.le_refl _, by unfold maxLen; omega, rfl, rfl⟩⟩
theorem readTo_start (k many : Nat) (o : List UInt8) : ReadTo k many o [] 0 :=
  ⟨by simp, fun l _ => ⟨by simp, by simp [placeOf_zero]⟩⟩
theorem bitAt_nonneg {o : List UInt8} {p : Nat} (h : p < 8 * o.length) : 0 ≤ bitAt o p := by rw [bitAt_in h]; omega
theorem readTo_none {k many : Nat} {o : List UInt8} {out : List Nat} {p m : Nat} {v : Int} (h : ReadTo k many o out p) (hj : out.length < many) (hv : ∀ l, Writes k many o l → v = ((l.getD out.length 0 : Nat) : Int) ∧ m = placeOf k l (out.length + 1)) (hbad : 8 * o.length < m ∨ 60000 < v) : ∀ l, ¬ Writes k many o l := by
  intro l hl
  obtain ⟨h1, h2⟩ := hv l hl
  have hjl : out.length < l.length := by rw [hl.1]; exact hj
  rcases hbad with hb | hb
  · have hn := numB_length k (l.getD out.length 0)
    have hpos : 0 < (numB k (l.getD out.length 0)).length := by rw [hn]; exact Nat.add_pos_left (Nat.succ_pos _) _
    have h3 := (num_at hl out.length hj ((numB k (l.getD out.length 0)).length - 1) (Nat.sub_lt hpos Nat.one_pos)).1
    rw [placeOf_succ k l out.length hjl] at h2
    generalize (numB k (l.getD out.length 0)).length = N at *
    omega
  · have h3 : l.getD out.length 0 ≤ 60000 := by
      refine hl.2.1 _ ?_
      simp [List.getElem?_eq_getElem hjl]
    omega
theorem readTo_next {k many : Nat} {o : List UInt8} {out : List Nat} {p m vn : Nat} (h : ReadTo k many o out p) (hj : out.length < many) (hv : ∀ l, Writes k many o l → (vn : Int) = ((l.getD out.length 0 : Nat) : Int) ∧ m = placeOf k l (out.length + 1)) (hs : vn ≤ 60000) : ReadTo k many o (out ++ [vn]) m := by
  refine ⟨?_, ?_⟩
  · intro x hx
    rcases List.mem_append.1 hx with hx | hx
    · exact h.1 x hx
    · simp at hx; omega
  · intro l hl
    obtain ⟨h1, h2⟩ := hv l hl
    have hjl : out.length < l.length := by rw [hl.1]; exact hj
    refine ⟨?_, by rw [List.length_append]; exact h2.symm⟩
    rw [List.length_append, List.length_singleton, List.take_add_one, (h.2 l hl).1, List.getElem?_eq_getElem hjl]
    have e : l.getD out.length 0 = l[out.length] := by rw [List.getD_eq_getElem?_getD, List.getElem?_eq_getElem hjl]; rfl
    rw [e] at h1
    have : vn = l[out.length] := by omega
    simp [this]

end Go.Proofs.YtphgjhakghblgaaGreatDoor

set_option linter.unusedVariables false
namespace Go.Proofs.YtphgjhakghblgaaGreatDoor
open Go.Shelf Go.RowKit

/-- What comes back: nothing, or a row of the call's own that holds the numbers. -/
def GotRow (B : Nat) (v : Value) (w : World) : Option (List Nat) → Prop
  | none => v = .slice none 0 0
  | some l => OutRow B v l w
theorem toNat_map (l : List Nat) : (l.map fun n : Nat => (n : Int)).map Int.toNat = l := by
  rw [List.map_map]
  conv => rhs; rw [← List.map_id l]
  apply List.map_congr_left
  intro x _
  simp
theorem outRow_at {B : Nat} {g n cap : Nat} {l : List Nat} {w : World} (h : OutRow B (.slice (some ⟨g, 0, none⟩) n cap) l w) : At w g (l.map fun n : Nat => (n : Int)) := by
  obtain ⟨⟨g', cap', hv⟩, hrow⟩ := h
  simp only [Value.slice.injEq, Option.some.injEq, Addr.mk.injEq, and_true] at hv
  obtain ⟨rfl, rfl, rfl⟩ := hv
  obtain ⟨cur, hc, hlt⟩ := ownsRow_type hrow g rfl
  refine ⟨hlt, fun i hi => ?_⟩
  have hil : i < l.length := by simpa using hi
  rw [intCell_at hrow i hil]
  simp [List.getElem?_eq_getElem hil]

end Go.Proofs.YtphgjhakghblgaaGreatDoor

set_option linter.unusedVariables false
namespace Go.Proofs.YtphgjhakghblgaaGreatDoor
open Go.RowKit

theorem ownsRow_mono {B C : Nat} {e : TypeId} {v : Value} {n : Nat} {xs : List Value} {w : World} (h : w.ownsRow C e 1 v n xs) (hB : B ≤ C) : w.ownsRow B e 1 v n xs := by
  refine ⟨h.1, ?_⟩
  rcases h.2 with h2 | ⟨g, cap, cur, hv, h2, h3⟩
  · exact .inl h2
  · exact .inr ⟨g, cap, cur, hv, by omega, h3⟩

theorem OutRow.keep {B g n cap C : Nat} {l : List Nat} {w w' : World} (h : OutRow B (.slice (some ⟨g, 0, none⟩) n cap) l w) (hb : Below C w w') (hg : g < C) : OutRow B (.slice (some ⟨g, 0, none⟩) n cap) l w' :=
  ⟨h.1, ownsRow_keep h.2 (fun g' hg' => by obtain rfl : g = g' := by simpa [Value.ownBlock] using hg'
                                           exact hb.block g hg)⟩
theorem OutRow.lt {B g n cap : Nat} {l : List Nat} {w : World} (h : OutRow B (.slice (some ⟨g, 0, none⟩) n cap) l w) : B ≤ g ∧ g < w.heap.size := by
  obtain ⟨⟨g', cap', hv⟩, hrow⟩ := h
  simp only [Value.slice.injEq, Option.some.injEq, Addr.mk.injEq, and_true] at hv
  obtain ⟨rfl, rfl, rfl⟩ := hv
  obtain ⟨cur, hc, hlt⟩ := ownsRow_type hrow g rfl
  refine ⟨?_, hlt⟩
  rcases hrow.2 with ⟨h2, _⟩ | ⟨g', cap', cur, hv, h2, _⟩
  · cases h2
  · simp only [Value.slice.injEq, Option.some.injEq, Addr.mk.injEq, and_true] at hv
    rw [hv.1]
    exact h2

end Go.Proofs.YtphgjhakghblgaaGreatDoor

set_option linter.unusedVariables false
namespace Go.Proofs.YtphgjhakghblgaaGreatDoor
open Go.RowKit Go.Shelf
attribute [local go_sem] Oper.semAt_some

theorem ownFrom_cells {β : Type} (B b : Nat) (f : β → Array Value) (t : TypeId) : OwnFrom B (fun s W => W.heap[b]? = some (.cells (f s) t (0, 0))) := by
  intro s X Y row hs hg hr
  refine (hg.block b (Array.getElem?_eq_some_iff.1 hs).1 (fun e => ?_)).trans hs
  obtain ⟨_, o, ho, hc⟩ := hr b e.symm
  rw [hs] at ho
  cases ho
  cases hc
/-- Another block than the row and the box lies as it lay, behind the append and the store. -/
theorem append_other {W w1 : World} {n₀ B b : Nat} {t e : TypeId} {c : Array Value} {fz : Nat × Nat} {v v' : Value} {k : Nat} {xs : List Value} {tmp : Obj}
    (h : W.heap[b]? = some (.cells c t fz)) (hte : t ≠ e) (hrow : W.ownsRow n₀ e 1 v k xs) (hgrow : (W.alloc tmp).grownBy w1 v.ownBlock) (hB : b ≠ B) : (w1.setCell ⟨B, 0, none⟩ v').heap[b]? = W.heap[b]? := by
  have hlt : b < W.heap.size := (Array.getElem?_eq_some_iff.1 h).1
  rw [Below.heap_setCell _ _ _ b (fun e => hB (by rw [e]))]
  rw [hgrow.block b (by simp; omega) ?_]
  · exact Below.heap_alloc _ _ _ hlt
  · rcases hrow.2 with ⟨rfl, _⟩ | ⟨g, cap, cur, rfl, _, hgb, _⟩
    · simp [Value.ownBlock]
    · intro e'
      obtain rfl : b = g := by simpa [Value.ownBlock] using e'
      rw [h] at hgb
      simp at hgb
      exact hte hgb.2.1
theorem Only.keepsOthers {b : Nat} {w w' : World} {c : Array Value} {t : TypeId} {fz : Nat × Nat} (h : Only b w w') (hb : w.heap[b]? = some (.cells c t fz)) : KeepsOthers w w' :=
  ⟨by rw [h.size]; exact Nat.le_refl _, fun k o hk ho => by
    rw [h.block k (fun e => ?_)]
    · exact hk
    · subst e
      rw [hb] at hk
      cases hk
      cases ho⟩

/-- Between two rounds: the list in its box, how many are wanted, the reader; in blocks from h on. -/
def NumL (h kn mn : Nat) (pre : List Bit) (W : World) : Prop := ∃ v, Boxed W (h + 1 + 1) 23 v ∧ W.ownsRow (h + 1) 3 1 v (runT kn pre).2.length (intCells (runT kn pre).2) ∧ (∃ g cap, v = .slice (some ⟨g, 0, none⟩) (runT kn pre).2.length cap)
theorem numL_own (h kn mn B : Nat) : OwnFrom B (NumL h kn mn) := Own.from (holdsRow_own (h + 1) (h + 1 + 1) 23 3 1 (fun pre => (runT kn pre).2.length) (fun pre => intCells (runT kn pre).2) (fun pre v => ∃ g cap, v = .slice (some ⟨g, 0, none⟩) (runT kn pre).2.length cap)) B
theorem Only.row {b : Nat} {w w' : World} {c : Array Value} {t e : TypeId} {fz : Nat × Nat} {n k : Nat} {v : Value} {xs : List Value} (h : Only b w w') (hb : w.heap[b]? = some (.cells c t fz)) (hte : t ≠ e) (hr : w.ownsRow n e 1 v k xs) : w'.ownsRow n e 1 v k xs := by
  refine ownsRow_keep hr (fun g hg => h.block g (fun e' => ?_))
  subst e'
  obtain ⟨cur, hc, _⟩ := ownsRow_type hr g hg
  rw [hb] at hc
  simp at hc
  exact hte hc.2.1

theorem madeCells_size0 (n : Nat) : (madeCells #[.int .i64 0] n).size = n := by rw [madeCells_zero]; simp [zerosN]
theorem alloc_new {w : World} {n : Nat} (o : Obj) (h : w.heap.size = n) : (w.alloc o).heap[n]? = some o := by subst h; exact World.alloc_heap_new w o
end Go.Proofs.YtphgjhakghblgaaGreatDoor

set_option linter.unusedVariables false
namespace Go.Proofs.YtphgjhakghblgaaGreatDoor
open Go.Shelf Go.RowKit

theorem put_writes {kn mn : Nat} {o : List UInt8} {out : List Nat} (hk : kn ≤ 8) (hm : mn ≤ 40) (hl : out.length = mn) (hr : readT kn mn (unpack o) (0, false, 0) [] = out) :
    ricePut (out.map fun n : Nat => (n : Int)) (kn : Int) = o ↔ Writes kn mn o out := by
  constructor
  · intro h
    cases hk2 : riceOkB (out.map fun n : Nat => (n : Int)) (kn : Int) with
    | true =>
      rw [ricePut_yes hk2, toNat_map, Int.toNat_natCast] at h
      refine ⟨hl, ?_, h⟩
      intro x hx
      obtain ⟨i, hi, rfl⟩ := List.mem_iff_getElem.1 hx
      have := riceOk_at hk2 i (by simpa using hi)
      rw [List.getD_eq_getElem?_getD, List.getElem?_map, List.getElem?_eq_getElem hi] at this
      simp at this
      omega
    | false =>
      rw [ricePut_no hk2] at h
      subst h
      have e : out = [] := by rw [← hr]; rfl
      subst e
      rw [riceOk_yes (by simp) (by omega) (by simp)] at hk2
      cases hk2
  · rintro ⟨h1, h2, h3⟩
    rw [ricePut_yes (riceOk_yes (by simp; omega) (by omega) ?_), toNat_map, Int.toNat_natCast]
    · exact h3
    · intro i hi
      have hil : i < out.length := by simpa using hi
      have := h2 (out[i]) (List.getElem_mem hil)
      rw [List.getD_eq_getElem?_getD, List.getElem?_map, List.getElem?_eq_getElem hil]
      simp
      omega

end Go.Proofs.YtphgjhakghblgaaGreatDoor

set_option linter.unusedVariables false
namespace Go.Proofs.YtphgjhakghblgaaGreatDoor
open Go.RowKit

end Go.Proofs.YtphgjhakghblgaaGreatDoor

namespace Go.Proofs.YtphgjhakghblgaaGreatDoor
open Go.RowKit

theorem take_sums (l : List Nat) (i : Nat) (h : i < l.length) : sumsF 0 (l.take (i + 1)) = sumsF 0 (l.take i) ++ [total 0 (l.take i) + l.getD i 0] ∧ total 0 (l.take (i + 1)) = total 0 (l.take i) + l.getD i 0 := by
  have e : l.take (i + 1) = l.take i ++ [l.getD i 0] := by
    rw [List.take_add_one, List.getElem?_eq_getElem h, List.getD_eq_getElem?_getD, List.getElem?_eq_getElem h]
    rfl
  rw [e, sumsF_snoc, total_snoc]
  exact ⟨rfl, rfl⟩
theorem total_take_le (l : List Nat) (i : Nat) : total 0 (l.take i) ≤ total 0 l := by
  have e : total 0 l = total (total 0 (l.take i)) (l.drop i) := by
    rw [total, total, total, ← List.foldl_append, List.take_append_drop]
  rw [e]
  exact le_total _ _

end Go.Proofs.YtphgjhakghblgaaGreatDoor

set_option linter.unusedVariables false
namespace Go.Proofs.YtphgjhakghblgaaGreatDoor
open Go.Shelf Go.RowKit

end Go.Proofs.YtphgjhakghblgaaGreatDoor

set_option linter.unusedVariables false
namespace Go.Proofs.YtphgjhakghblgaaGreatDoor
open Go.RowKit

end Go.Proofs.YtphgjhakghblgaaGreatDoor

set_option linter.unusedVariables false
namespace Go.Proofs.YtphgjhakghblgaaGreatDoor
open Go.Shelf Go.RowKit

/-- How many a filter tells, if it is one. -/
noncomputable def manyOf2 (o : List UInt8) : Nat := if (filterGet o).isSome then (varGet o).1 else 0

end Go.Proofs.YtphgjhakghblgaaGreatDoor

set_option linter.unusedVariables false
namespace Go.Proofs.YtphgjhakghblgaaGreatDoor
open Go.RowKit

noncomputable def filterHas (s k it : List UInt8) : Bool :=
  match filterGet s with
  | none => false
  | some l => decide (l ≠ []) && isSum k && isItem it && l.any fun p => decide ((p : Int) = filterTo k it ((l.length : Int) * 37))
theorem filterHas_none {s k it : List UInt8} (h : filterGet s = none) : filterHas s k it = false := by rw [filterHas, h]
theorem filterHas_nil {s k it : List UInt8} (h : filterGet s = some []) : filterHas s k it = false := by rw [filterHas, h]; simp
theorem filterHas_no1 {s k it : List UInt8} (h : isSum k = false) : filterHas s k it = false := by
  rw [filterHas]
  split
  · rfl
  · simp [h]
theorem filterHas_no2 {s k it : List UInt8} (h : isItem it = false) : filterHas s k it = false := by
  rw [filterHas]
  split
  · rfl
  · simp [h]
theorem filterHas_yes {s k it : List UInt8} {l : List Nat} (h : filterGet s = some l) (hl : l ≠ []) (h1 : isSum k = true) (h2 : isItem it = true) : filterHas s k it = l.any fun p => decide ((p : Int) = filterTo k it ((l.length : Int) * 37)) := by
  rw [filterHas, h]
  simp [h1, h2, hl]
theorem any_yes (l : List Nat) (z : Int) (k : Nat) (hk : k < l.length) (h : ((l.getD k 0 : Nat) : Int) = z) : (l.any fun p => decide ((p : Int) = z)) = true := by
  rw [List.any_eq_true]
  refine ⟨l.getD k 0, ?_, by simpa using h⟩
  simp [List.getElem?_eq_getElem hk]
theorem any_no (l : List Nat) (z : Int) (h : ∀ j, j < l.length → ((l.getD j 0 : Nat) : Int) ≠ z) : (l.any fun p => decide ((p : Int) = z)) = false := by
  rw [List.any_eq_false]
  intro x hx
  obtain ⟨i, hi, rfl⟩ := List.mem_iff_getElem.1 hx
  have := h i hi
  rw [List.getD_eq_getElem?_getD, List.getElem?_eq_getElem hi] at this
  simpa using this
theorem filterGet_len2 {o : List UInt8} {l : List Nat} (h : filterGet o = some l) : l.length ≤ 40 ∧ l.length = (varGet o).1 := by
  unfold filterGet at h
  split at h
  · cases h
  · split at h
    · cases h
    · rename_i gaps hr
      unfold placesOf at h
      split at h
      · have e : sumsF 0 gaps = l := by simpa using h
        rw [← e, sumsF_length]
        have := riceGet_some hr
        have h2 := this.1
        simp only [getOk, Bool.and_eq_true, decide_eq_true_eq] at h2
        have h3 := this.2.1
        omega
      · cases h
theorem manyOf2_some {o : List UInt8} {l : List Nat} (h : filterGet o = some l) : manyOf2 o = l.length := by
  rw [manyOf2, h, (filterGet_len2 h).2]
  rfl

end Go.Proofs.YtphgjhakghblgaaGreatDoor

namespace Go.Proofs.YtphgjhakghblgaaGreatDoor
open Go.RowKit

theorem vg_run (l : List UInt8) : ∀ (f : Nat) (pre : List UInt8) (b : UInt8) (r : List UInt8), (∀ c ∈ l, 128 ≤ c.toNat) → b.toNat < 128 → l.length < f →
    vg f pre (l ++ b :: r) = if varPut (vNum (pre ++ l ++ [b])) = pre ++ l ++ [b] then (vNum (pre ++ l ++ [b]), (pre ++ l).length + 1) else (0, 0) := by
  induction l with
  | nil =>
    intro f pre b r _ hb hf
    obtain ⟨g, rfl⟩ : ∃ g, f = g + 1 := ⟨f - 1, by simp at hf; omega⟩
    simp only [List.nil_append, vg, List.append_nil]
    rw [if_neg (by omega)]
  | cons c t ih =>
    intro f pre b r hl hb hf
    obtain ⟨g, rfl⟩ : ∃ g, f = g + 1 := ⟨f - 1, by simp at hf; omega⟩
    simp only [List.cons_append, vg]
    rw [if_pos (hl c (by simp)), ih g (pre ++ [c]) b r (fun x hx => hl x (by simp [hx])) hb (by simp at hf; omega)]
    simp

theorem varB_shape (f : Nat) : ∀ n, n < 128 ^ (f + 1) → ∃ l b, varB f n = l ++ [b] ∧ vEnds l b ∧ vNum (l ++ [b]) = n ∧ l.length ≤ f := by
  induction f with
  | zero =>
    intro n hn
    have hn' : n < 128 := by simpa using hn
    refine ⟨[], UInt8.ofNat n, by simp [varB], ⟨by simp, by simp; omega⟩, ?_, by simp⟩
    simp [vNum]
    omega
  | succ f ih =>
    intro n hn
    by_cases h : n < 128
    · refine ⟨[], UInt8.ofNat n, by simp [varB, h], ⟨by simp, by simp; omega⟩, ?_, by simp⟩
      simp [vNum]
      omega
    · have hp : 128 ^ (f + 1 + 1) = 128 ^ (f + 1) * 128 := Nat.pow_succ ..
      obtain ⟨l, b, h1, h2, h3, h4⟩ := ih (n / 128) (by omega)
      refine ⟨UInt8.ofNat (128 + n % 128) :: l, b, by rw [varB_step f n h, h1]; simp, ⟨?_, h2.2⟩, ?_, by simp; omega⟩
      · intro c hc
        rcases List.mem_cons.1 hc with rfl | hc
        · simp
          omega
        · exact h2.1 c hc
      · simp only [List.cons_append, vNum, h3]
        simp
        omega

theorem varGet_put (n : Nat) (hn : n ≤ 2147483647) (r : List UInt8) : varGet (varPut n ++ r) = (n, (varPut n).length) ∧ 1 ≤ (varPut n).length ∧ (varPut n).length ≤ 5 := by
  have hv : varPut n = varB 4 n := by unfold varPut; rw [if_pos (by omega)]; simp
  obtain ⟨l, b, h1, h2, h3, h4⟩ := varB_shape 4 n (by omega)
  have hl := varB_length 4 n
  refine ⟨?_, by rw [hv]; exact hl.1, by rw [hv]; omega⟩
  rw [hv, h1, varGet]
  have := vg_run l 5 [] b r h2.1 h2.2 (by omega)
  simp only [List.append_assoc, List.cons_append, List.nil_append] at this ⊢
  rw [this, if_pos (by rw [h3, hv, h1]), h3]
  simp

/-- What is read as a number is written just so. -/
theorem vg_got : ∀ (f : Nat) (l s : List UInt8), (vg f l s).2 = 0 ∨ (varPut (vg f l s).1 = (l ++ s).take (vg f l s).2 ∧ (vg f l s).2 ≤ (l ++ s).length) := by
  intro f
  induction f with
  | zero => intro l s; left; rfl
  | succ f ih =>
    intro l s
    cases s with
    | nil => left; rfl
    | cons b r =>
      simp only [vg]
      by_cases hb : 128 ≤ b.toNat
      · rw [if_pos hb]
        have := ih (l ++ [b]) r
        simpa using this
      · rw [if_neg hb]
        by_cases hp : varPut (vNum (l ++ [b])) = l ++ [b]
        · rw [if_pos hp]
          right
          refine ⟨?_, by simp⟩
          show varPut (vNum (l ++ [b]) : Nat) = _
          rw [hp]
          simp [List.take_append, List.take_of_length_le]
        · rw [if_neg hp]
          left
          rfl

theorem varGet_got (s : List UInt8) : (varGet s).2 = 0 ∨ (varPut (varGet s).1 = s.take (varGet s).2 ∧ (varGet s).2 ≤ s.length) := by
  have := vg_got 5 [] s
  simpa [varGet] using this

end Go.Proofs.YtphgjhakghblgaaGreatDoor

set_option linter.unusedVariables false
namespace Go.Proofs.YtphgjhakghblgaaGreatDoor
open Go.RowKit

theorem setL_same {a b : List ByteArray} (h : ∀ x, x ∈ a ↔ x ∈ b) : setL a = setL b := by
  refine (List.map_inj_right (f := fun s : ByteArray => s.data.toList) (fun _ _ hh => data_inj hh)).1 ?_
  refine strict_eq (List.pairwise_map.2 (setL_pair a)) (List.pairwise_map.2 (setL_pair b)) fun x => ?_
  rw [List.mem_map, List.mem_map]
  constructor
  · rintro ⟨s, hs, e⟩; exact ⟨s, (setL_mem b s).2 ((h s).1 ((setL_mem a s).1 hs)), e⟩
  · rintro ⟨s, hs, e⟩; exact ⟨s, (setL_mem a s).2 ((h s).2 ((setL_mem b s).1 hs)), e⟩
theorem filterOf_same {k : List UInt8} {a b : List ByteArray} (h : ∀ x, x ∈ a ↔ x ∈ b) (ha : a.length ≤ 40) (hb : b.length ≤ 40) : filterOf k a = filterOf k b := by
  have h1 : itemsOkB a = itemsOkB b := by
    rw [itemsOkB, itemsOkB, decide_eq_true ha, decide_eq_true hb, Bool.true_and, Bool.true_and, Bool.eq_iff_iff, List.all_eq_true, List.all_eq_true]
    exact ⟨fun hh x hx => hh x ((h x).2 hx), fun hh x hx => hh x ((h x).1 hx)⟩
  have h2 : filterB k a = filterB k b := by rw [filterB, filterB, gapsL, gapsL, placesL, placesL, setL_same h]
  rw [filterOf, filterOf, h1, h2]
theorem sums_gaps : ∀ (l : List Int) (a : Int), 0 ≤ a → Asc a l → sumsF a.toNat ((gapsZ a l).map Int.toNat) = l.map Int.toNat ∧ total a.toNat ((gapsZ a l).map Int.toNat) = (lastZ a l).toNat
  | [], a, _, _ => ⟨rfl, rfl⟩
  | x :: r, a, ha, h => by
    have h1 := h.1
    have ih := sums_gaps r x (by omega) h.2
    have e : a.toNat + (x - a).toNat = x.toNat := by omega
    simp only [gapsZ, List.map_cons, sumsF, total_cons, lastZ, e]
    rw [ih.1, ih.2]
    exact ⟨rfl, rfl⟩
theorem lastZ_mem : ∀ (l : List Int) (a : Int), l ≠ [] → lastZ a l ∈ l
  | [], a, h => absurd rfl h
  | [x], a, _ => by simp [lastZ]
  | x :: y :: r, a, _ => List.mem_cons_of_mem _ (lastZ_mem (y :: r) x (by simp))
theorem bits_le : ∀ (l : List Nat) (a : Nat), (bitsOf 5 l).length + a / 32 ≤ total a l / 32 + 6 * l.length
  | [], a => by simp [bitsOf, total]
  | x :: r, a => by
    have ih := bits_le r (a + x)
    have e : (bitsOf 5 (x :: r)).length = (x / 32 + 1 + 5) + (bitsOf 5 r).length := by
      have : bitsOf 5 (x :: r) = numB 5 x ++ bitsOf 5 r := by simp [bitsOf]
      rw [this, List.length_append, numB_length]
    rw [e, total_cons, List.length_cons]
    have : x / 32 + a / 32 ≤ (a + x) / 32 := by omega
    omega
theorem rice_short (l : List Nat) : (riceB 5 l).length ≤ (bitsOf 5 l).length + 8 := by
  have h1 := runB_len ([], []) (bitsOf 5 l)
  unfold riceB fillB
  generalize runB ([], []) (bitsOf 5 l) = s at h1
  have h2 := runB_len s (List.replicate (if s.2 = [] then 0 else 8 - s.2.length) 0)
  rw [List.length_replicate] at h2
  have h3 : (if s.2 = [] then 0 else 8 - s.2.length) ≤ 8 := by split <;> omega
  simp only [List.length_nil] at h1
  omega
theorem places_lt {k : List UInt8} {ss : List ByteArray} (h1 : isSum k = true) (h2 : itemsOkB ss = true) : ∀ z ∈ placesL k ss, 0 ≤ z ∧ z < ((setL ss).length : Int) * 37 := by
  intro z hz
  obtain ⟨it, hit, rfl⟩ := List.mem_map.1 hz
  have hi := set_items h2 it hit
  have hn : 1 ≤ (setL ss).length := by
    cases hs : setL ss with
    | nil => rw [hs] at hit; cases hit
    | cons a r => simp
  have hn4 : (setL ss).length ≤ 40 := Nat.le_trans (setL_length ss) (itemsOk_len h2)
  have hb : 1 ≤ ((setL ss).length : Int) * 37 ∧ ((setL ss).length : Int) * 37 ≤ 60000 := by omega
  rw [filterTo_yes h1 hi hb]
  have := place_lt (headOf (k ++ 32 :: it.data.toList)) (((setL ss).length : Int) * 37) (headOf_lt _) hb
  omega
theorem filterGet_of {k : List UInt8} {ss : List ByteArray} (h1 : isSum k = true) (h2 : itemsOkB ss = true) : filterGet (filterB k ss) = some ((sortL (placesL k ss)).map Int.toNat) := by
  have hn4 : (setL ss).length ≤ 40 := Nat.le_trans (setL_length ss) (itemsOk_len h2)
  have hp := places_lt h1 h2
  have hasc := asc_sort (placesL k ss) (fun x hx => (hp x hx).1)
  have hsl : (sortL (placesL k ss)).length = (setL ss).length := by rw [sortL_length, placesL, List.length_map]
  have hso : ∀ z ∈ sortL (placesL k ss), 0 ≤ z ∧ z < ((setL ss).length : Int) * 37 := fun z hz => hp z ((sortL_mem _ z).1 hz)
  have hgo := gaps_ok h1 h2
  have hgl : filterB k ss = varB 4 (setL ss).length ++ riceB 5 ((gapsZ 0 (sortL (placesL k ss))).map Int.toNat) := rfl
  have hge : gapsL k ss = gapsZ 0 (sortL (placesL k ss)) := rfl
  rw [hge] at hgo
  rw [hgl]
  generalize sortL (placesL k ss) = so at hasc hsl hso hgo
  generalize (setL ss).length = n at hn4 hsl hso
  have hsg := sums_gaps so 0 (by omega) hasc
  have hgl2 : ((gapsZ 0 so).map Int.toNat).length = n := by rw [List.length_map, gapsZ_length, hsl]
  have hle : ∀ x ∈ (gapsZ 0 so).map Int.toNat, x ≤ 60000 := by
    intro x hx
    obtain ⟨z, hz, rfl⟩ := List.mem_map.1 hx
    obtain ⟨i, hi, rfl⟩ := List.mem_iff_getElem.1 hz
    have := hgo.2 i hi
    rw [List.getD_eq_getElem?_getD, List.getElem?_eq_getElem hi] at this
    simp at this
    omega
  have htot : total 0 ((gapsZ 0 so).map Int.toNat) < n * 37 ∨ (gapsZ 0 so).map Int.toNat = [] := by
    by_cases he : so = []
    · right; rw [he]; rfl
    · left
      have e := hsg.2
      simp only [Int.toNat_zero] at e
      rw [e]
      have := hso _ (lastZ_mem so 0 he)
      omega
  have htle : total 0 ((gapsZ 0 so).map Int.toNat) ≤ 1480 := by
    rcases htot with h | h
    · omega
    · rw [h]; simp [total]
  have hsum : sumsF 0 ((gapsZ 0 so).map Int.toNat) = so.map Int.toNat := by
    have e := hsg.1
    simpa using e
  generalize (gapsZ 0 so).map Int.toNat = gs at hgl2 hle htot htle hsum
  have hv : varB 4 n = varPut (n : Int) := by rw [varPut, if_pos (by omega)]; simp
  have hg := varGet_put n (by omega) (riceB 5 gs)
  have hb := bits_le gs 0
  have hr := rice_short gs
  rw [hv]
  have h0 : ¬ ((varGet (varPut (n : Int) ++ riceB 5 gs)).2 = 0 ∨ 600 < (varPut (n : Int) ++ riceB 5 gs).length) := by
    rw [hg.1, List.length_append]
    omega
  rw [filterGet_some (gaps := gs) h0 ?_, hg.1, placesOf, if_pos htot, hsum]
  rw [hg.1]
  dsimp only
  rw [List.drop_left]
  refine riceGet_yes ?_ ⟨by rw [hgl2]; simp, hle, rfl⟩
  have e1 : decide ((0 : Int) ≤ (n : Int) ∧ (n : Int) ≤ 40) = true := decide_eq_true (by omega)
  have e3 : decide ((riceB 5 gs).length ≤ 600) = true := decide_eq_true (by omega)
  simp only [getOk, e1, e3]
  decide
theorem filterHas_of {k : List UInt8} {ss : List ByteArray} (h1 : isSum k = true) (h2 : itemsOkB ss = true) (it : ByteArray) (hit : it ∈ ss) : filterHas (filterB k ss) k it.data.toList = true := by
  have hset := (setL_mem ss it).2 hit
  have hp := places_lt h1 h2
  have hmem : filterTo k it.data.toList (((setL ss).length : Int) * 37) ∈ sortL (placesL k ss) := (sortL_mem _ _).2 (List.mem_map.2 ⟨it, hset, rfl⟩)
  have hsl : (sortL (placesL k ss)).length = (setL ss).length := by rw [sortL_length, placesL, List.length_map]
  have h0 := hp _ ((sortL_mem _ _).1 hmem)
  rw [filterHas_yes (filterGet_of h1 h2) (fun e => by
    have e2 := List.map_eq_nil_iff.1 e
    rw [e2] at hmem
    cases hmem) h1 (set_items h2 it hset), List.length_map, hsl, List.any_eq_true]
  refine ⟨_, List.mem_map.2 ⟨_, hmem, rfl⟩, decide_eq_true ?_⟩
  omega

end Go.Proofs.YtphgjhakghblgaaGreatDoor

set_option linter.unusedVariables false
namespace Go.Proofs.YtphgjhakghblgaaGreatDoor
open Go.RowKit Go.Deep

def mrkB (ps : List (HeadV × List ByteArray)) : Nat → List UInt8
  | 0 => zeros16.data.toList
  | k + 1 => markOf (mrkB ps k) (blockFilter (ps.getD k default).1 (ps.getD k default).2)
def mrkA (ps : List (HeadV × List ByteArray)) (k : Nat) : ByteArray := ⟨(mrkB ps k).toArray⟩
def marksV (ps : List (HeadV × List ByteArray)) (k : Nat) : List ByteArray := (List.range k).map fun i => mrkA ps (i + 1)
theorem marksV_len (ps : List (HeadV × List ByteArray)) (k : Nat) : (marksV ps k).length = k := by simp [marksV]
theorem marksV_succ (ps : List (HeadV × List ByteArray)) (k : Nat) : marksV ps (k + 1) = marksV ps k ++ [mrkA ps (k + 1)] := by simp [marksV, List.range_succ]
theorem filter_len {k : List UInt8} {ss : List ByteArray} (h1 : isSum k = true) (h2 : itemsOkB ss = true) : (filterB k ss).length ≤ 600 := by
  rcases Nat.lt_or_ge 600 (filterB k ss).length with h | h
  · have := filterGet_of h1 h2
    rw [filterGet_bad (.inr h)] at this
    cases this
  · exact h
theorem pts_getD {bs : List BlkV} {k : Nat} (hk : k < bs.length) : (ptsOf bs).getD k default = ((bs.getD k default).h, (bs.getD k default).ss) := by
  simp [ptsOf, hk]
theorem okP_block {bs : List BlkV} (h : okP (ptsOf bs) = true) {k : Nat} (hk : k < bs.length) : blockOkB (bs.getD k default).h (bs.getD k default).ss = true := by
  simp only [okP, allOk, Bool.and_eq_true, List.all_eq_true] at h
  exact h.2 _ (List.mem_map.2 ⟨_, blk_mem hk, rfl⟩)
/-- The filter of a block of a chain. -/
theorem okP_filter {bs : List BlkV} (h : okP (ptsOf bs) = true) {k : Nat} (hk : k < bs.length) : blockFilter (bs.getD k default).h (bs.getD k default).ss = filterB (sumB (headX (bs.getD k default).h)) (bs.getD k default).ss ∧ (blockFilter (bs.getD k default).h (bs.getD k default).ss).length ≤ 600 := by
  have hb := okP_block h hk
  have hp := blockOk_parts hb
  have e : blockFilter (bs.getD k default).h (bs.getD k default).ss = filterB (sumB (headX (bs.getD k default).h)) (bs.getD k default).ss := by rw [blockFilter, if_pos hb]
  exact ⟨e, by rw [e]; exact filter_len (isSum_sumB _) hp.2⟩
theorem mrk_sum {bs : List BlkV} (h : okP (ptsOf bs) = true) : ∀ k, k ≤ bs.length → isSum (mrkB (ptsOf bs) k) = true
  | 0, _ => by rw [mrkB]; decide
  | k + 1, hk => by
    rw [mrkB, pts_getD (by omega), markOf, if_pos ⟨mrk_sum h k (by omega), (okP_filter h (by omega)).2⟩]
    exact isSum_sumB _
theorem mrk_step {bs : List BlkV} (h : okP (ptsOf bs) = true) {k : Nat} (hk : k < bs.length) : mrkB (ptsOf bs) (k + 1) = sumB (markT (mrkB (ptsOf bs) k) (filterB (sumB (headX (bs.getD k default).h)) (bs.getD k default).ss)) := by
  rw [mrkB, pts_getD hk, markOf, if_pos ⟨mrk_sum h k (by omega), (okP_filter h hk).2⟩, (okP_filter h hk).1]
theorem mrk_len {bs : List BlkV} (h : okP (ptsOf bs) = true) : ∀ k, k ≤ bs.length → (mrkA (ptsOf bs) k).size = 16
  | 0, _ => rfl
  | k + 1, hk => by
    have : (mrkB (ptsOf bs) (k + 1)).length = 16 := by rw [mrk_step h (by omega)]; exact sumB_len _
    show (mrkB (ptsOf bs) (k + 1)).toArray.size = 16
    rw [List.size_toArray]
    exact this

end Go.Proofs.YtphgjhakghblgaaGreatDoor

