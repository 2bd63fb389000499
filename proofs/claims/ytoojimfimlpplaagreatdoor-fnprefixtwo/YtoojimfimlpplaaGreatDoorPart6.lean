/-
  Texts that the last part needs, joined.
-/
import Derived.Test.YtoojimfimlpplaaGreatDoorPart1
import Derived.Test.YtoojimfimlpplaaGreatDoorPart2
import Derived.Test.YtoojimfimlpplaaGreatDoorPart3
import Derived.Test.YtoojimfimlpplaaGreatDoorPart4
import Derived.Test.YtoojimfimlpplaaGreatDoorPart5
import Derived.Deep.RegionHeld3
import Derived.Deep.RegionLaw
import Derived.Lib.AppendIntMem
import Derived.Deep.RegionWith
set_option linter.unusedVariables false
namespace Go.Proofs.YtoojimfimlpplaaGreatDoor
open Go.RowKit Go.Deep

theorem sizeAlloc (w : World) (o : Obj) : w.heap.size ≤ (w.alloc o).heap.size := by simp
theorem grownOff {w w' : World} {o : Obj} {g : Nat} (h : (w.alloc o).grownBy w' (some g)) : ∀ c, c < w.heap.size → c ≠ g → w'.heap[c]? = w.heap[c]? := fun c hc hne =>
  (h.block c (Nat.lt_of_lt_of_le hc (sizeAlloc w o)) (by simpa using hne)).trans (Below.heap_alloc _ _ _ hc)
/-- A stack in memory: its block, its row of peaks. -/
structure StkW (w0 wr : World) (g r c M : Nat) (l : List PeakV) : Prop where
  s : CBk wr g 51 #[.slice (some ⟨r, 0, none⟩) M c, .func (.func 35) #[] #[], .func (.func 36) #[] #[]]
  row : wr.ownsRow w0.heap.size 31 3 (.slice (some ⟨r, 0, none⟩) M c) M (l.flatMap pEnc)
  len : l.length = M
  b : Below w0.heap.size w0 wr
  rg : r ≠ g
  lo : w0.heap.size ≤ g
def Stk (w0 wr : World) (g : Nat) (l : List PeakV) : Prop := ∃ r c M, StkW w0 wr g r c M l
theorem StkW.frow {w0 wr : World} {g r c M : Nat} {l : List PeakV} (h : StkW w0 wr g r c M l) : PRow w0.heap.size (.slice (some ⟨r, 0, none⟩) M c) l wr := FRow.of h.row h.len.symm
theorem StkW.at {w0 wr : World} {g r c M : Nat} {l : List PeakV} (h : StkW w0 wr g r c M l) : AtP wr r l ∧ M = l.length ∧ w0.heap.size ≤ r ∧ M ≤ c := FRow.at pEnc_len h.frow
theorem StkW.call {w0 wr w' : World} {g r c M : Nat} {l : List PeakV} (h : StkW w0 wr g r c M l) (hb : Below wr.heap.size wr w') : StkW w0 w' g r c M l :=
  ⟨h.s.call hb, (FRow.below h.frow hb).2 |> (fun x => by rw [h.len] at x; exact x), h.len, h.b.trans (hb.mono h.b.size), h.rg, h.lo⟩
theorem StkW.drew {w0 wr : World} {g r c M : Nat} {l : List PeakV} (h : StkW w0 wr g r c M l) : StkW w0 wr.drew g r c M l := h.call (Below.refl _ _).drew
theorem StkW.outs {w0 wr : World} {g r c M : Nat} {l : List PeakV} (h : StkW w0 wr g r c M l) : wr.cell? ⟨g, 0, none⟩ = some (.slice (some ⟨r, 0, none⟩) M c) ∧ wr.cell? ⟨g, 1, none⟩ = some (.func (.func 35) #[] #[]) ∧ wr.cell? ⟨g, 2, none⟩ = some (.func (.func 36) #[] #[]) := ⟨h.s.cell 0, h.s.cell 1, h.s.cell 2⟩
theorem rowKeep {B r c M g3 i : Nat} {xs : List Value} {wx : World} {v : Value} (hx : wx.ownsRow B 31 3 (.slice (some ⟨r, 0, none⟩) M c) M xs) (hne : r ≠ g3) : (wx.setCell ⟨g3, i, none⟩ v).ownsRow B 31 3 (.slice (some ⟨r, 0, none⟩) M c) M xs := by
  obtain ⟨h1, h2⟩ := hx
  refine ⟨h1, ?_⟩
  rcases h2 with h3 | ⟨g', cap', cur, hv, hB, hg, h4⟩
  · exact .inl h3
  · refine .inr ⟨g', cap', cur, hv, hB, ?_, h4⟩
    simp only [Value.slice.injEq, Option.some.injEq, Addr.mk.injEq, and_true] at hv
    have : g3 ≠ g' := by have := hv.1; omega
    simp [World.setCell, Array.getElem?_modify, hg, this]
theorem PushK {w0 wr w6 : World} {o : Obj} {g r c M : Nat} {l : List PeakV} (h : StkW w0 wr g r c M l) (hg : (wr.drew.alloc o).grownBy w6 (some r)) : CBk w6 g 51 #[.slice (some ⟨r, 0, none⟩) M c, .func (.func 35) #[] #[], .func (.func 36) #[] #[]] :=
  (grownOff hg g h.s.lt h.rg.symm).trans h.s
/-- Behind a store into a block of no other's. -/
theorem StkW.store {w0 wr : World} {g r c M : Nat} {l : List PeakV} (h : StkW w0 wr g r c M l) {g3 i : Nat} (v : Value) (h1 : g3 ≠ g) (h2 : r ≠ g3) (h3 : w0.heap.size ≤ g3) : StkW w0 (wr.setCell ⟨g3, i, none⟩ v) g r c M l :=
  ⟨h.s.other h1 v, rowKeep h.row h2, h.len, h.b.setCell (p := ⟨g3, i, none⟩) h3 v, h.rg, h.lo⟩
/-- The stack while one is pushed: the one's block beside it. -/
structure PushW (w0 wr : World) (g g3 r c M : Nat) (l : List PeakV) (q : PeakV) : Prop where
  k : StkW w0 wr g r c M l
  o : CBk wr g3 31 #[.string q.sum, .int .i64 q.work, .int .i64 q.count]
  n1 : g < g3
  n2 : r < g3
theorem PushW.call {w0 wr w' : World} {g g3 r c M : Nat} {l : List PeakV} {q : PeakV} (h : PushW w0 wr g g3 r c M l q) (hb : Below wr.heap.size wr w') : PushW w0 w' g g3 r c M l q := ⟨h.k.call hb, h.o.call hb, h.n1, h.n2⟩
theorem PushW.drew {w0 wr : World} {g g3 r c M : Nat} {l : List PeakV} {q : PeakV} (h : PushW w0 wr g g3 r c M l q) : PushW w0 wr.drew g g3 r c M l q := h.call (Below.refl _ _).drew
theorem PushW.two {w0 wr : World} {g g3 r c M : Nat} {l : List PeakV} {q : PeakV} (h : PushW w0 wr g g3 r c M l q) : (wr.cell? ⟨g, 0, none⟩ = some (.slice (some ⟨r, 0, none⟩) M c) ∧ wr.cell? ⟨g, 1, none⟩ = some (.func (.func 35) #[] #[]) ∧ wr.cell? ⟨g, 2, none⟩ = some (.func (.func 36) #[] #[])) ∧ (wr.cell? ⟨g3, 0, none⟩ = some (.string q.sum) ∧ wr.cell? ⟨g3, 1, none⟩ = some (.int .i64 q.work) ∧ wr.cell? ⟨g3, 2, none⟩ = some (.int .i64 q.count)) := ⟨h.k.outs, h.o.cell 0, h.o.cell 1, h.o.cell 2⟩
theorem PushW.all {w0 wr : World} {g g3 r c M m : Nat} {l : List PeakV} {q t : PeakV} (h : PushW w0 wr g g3 r c M l q) (hm : m < l.length) (ht : l.getD m default = t) : (wr.cell? ⟨g, 0, none⟩ = some (.slice (some ⟨r, 0, none⟩) M c) ∧ wr.cell? ⟨g, 1, none⟩ = some (.func (.func 35) #[] #[]) ∧ wr.cell? ⟨g, 2, none⟩ = some (.func (.func 36) #[] #[])) ∧ (wr.cell? ⟨r, m * 3, none⟩ = some (.string t.sum) ∧ wr.cell? ⟨r, m * 3 + 1, none⟩ = some (.int .i64 t.work) ∧ wr.cell? ⟨r, m * 3 + 2, none⟩ = some (.int .i64 t.count)) ∧ (wr.cell? ⟨g3, 0, none⟩ = some (.string q.sum) ∧ wr.cell? ⟨g3, 1, none⟩ = some (.int .i64 q.work) ∧ wr.cell? ⟨g3, 2, none⟩ = some (.int .i64 q.count)) := by
  have h1 := h.k.at.1
  refine ⟨h.k.outs, ?_, h.o.cell 0, h.o.cell 1, h.o.cell 2⟩
  rw [← ht]
  exact ⟨AtP.c0 h1 m hm, AtP.c1 h1 m hm, AtP.c2 h1 m hm⟩
theorem PushW.grown {w0 wr w6 : World} {o : Obj} {g g3 r c M : Nat} {l : List PeakV} {q : PeakV} (h : PushW w0 wr g g3 r c M l q) (hg : (wr.drew.alloc o).grownBy w6 (some r)) : CBk w6 g 51 #[.slice (some ⟨r, 0, none⟩) M c, .func (.func 35) #[] #[], .func (.func 36) #[] #[]] := PushK h.k hg
theorem PushW.grownTwo {w0 wr w6 : World} {o : Obj} {g g3 r c M : Nat} {l : List PeakV} {q : PeakV} (h : PushW w0 wr g g3 r c M l q) (hg : (wr.drew.alloc o).grownBy w6 (some r)) : (w6.cell? ⟨g, 0, none⟩ = some (.slice (some ⟨r, 0, none⟩) M c) ∧ w6.cell? ⟨g, 1, none⟩ = some (.func (.func 35) #[] #[]) ∧ w6.cell? ⟨g, 2, none⟩ = some (.func (.func 36) #[] #[])) ∧ (w6.cell? ⟨g3, 0, none⟩ = some (.string q.sum) ∧ w6.cell? ⟨g3, 1, none⟩ = some (.int .i64 q.work) ∧ w6.cell? ⟨g3, 2, none⟩ = some (.int .i64 q.count)) := by
  have h1 : CBk w6 g 51 #[.slice (some ⟨r, 0, none⟩) M c, .func (.func 35) #[] #[], .func (.func 36) #[] #[]] := PushK h.k hg
  have h2 : CBk w6 g3 31 #[.string q.sum, .int .i64 q.work, .int .i64 q.count] := (grownOff hg g3 h.o.lt (by have := h.n2; omega)).trans h.o
  exact ⟨⟨h1.cell 0, h1.cell 1, h1.cell 2⟩, h2.cell 0, h2.cell 1, h2.cell 2⟩
/-- Behind the store of another one. -/
theorem PushW.put {w0 wr : World} {g g3 r c M : Nat} {l : List PeakV} {q : PeakV} (h : PushW w0 wr g g3 r c M l q) (x : PeakV) : PushW w0 (((wr.setCell ⟨g3, 0, none⟩ (.string (x).sum)).setCell ⟨g3, 1, none⟩ (.int .i64 (x).work)).setCell ⟨g3, 2, none⟩ (.int .i64 (x).count)) g g3 r c M l x := by
  have h1 := h.n1
  have h2 := h.n2
  have h3 := h.k.lo
  exact ⟨((h.k.store _ (by omega) (by omega) (by omega)).store _ (by omega) (by omega) (by omega)).store _ (by omega) (by omega) (by omega), h.o.set3, h1, h2⟩
/-- Behind the store of a shorter row. -/
theorem PushW.pop {w0 wr : World} {g g3 r c m : Nat} {l : List PeakV} {q : PeakV} (h : PushW w0 wr g g3 r c (m + 1) l q) : PushW w0 (wr.setCell ⟨g, 0, none⟩ (.slice (some ⟨r, 0, none⟩) m c)) g g3 r c m (l.take m) q := by
  have h1 := h.n1
  have h2 := h.n2
  have h3 := h.k.lo
  have h4 := h.k.len
  have hml : m < l.length := by omega
  have e1 : l = l.take m ++ [l.getD m default] := by
    rw [← take_one hml, ← h4, List.take_length]
  have hl : ((l.take m).flatMap pEnc).length = m * 3 := by
    rw [flat_length 3 pEnc pEnc_len, List.length_take]
    omega
  have h5 : wr.ownsRow w0.heap.size 31 3 (.slice (some ⟨r, 0, none⟩) (m + 1) c) (m + 1) ((l.take m).flatMap pEnc ++ pEnc (l.getD m default)) := by
    have := h.k.row
    rw [e1, List.flatMap_append] at this
    have hmin : min m l.length = m := by omega
    simpa [List.take_append_of_le_length, List.length_take, hmin] using this
  have h6 := ownsRow_pop hl h5
  refine ⟨⟨h.k.s.set 0 _, rowKeep h6 h.k.rg, by rw [List.length_take]; omega, h.k.b.setCell (p := ⟨g, 0, none⟩) h3 _, h.k.rg, h3⟩, h.o.other (by omega) _, h1, h2⟩

def PushRes (w0 : World) (g : Nat) (l : List PeakV) (e : Ending) (w' : World) : Prop := e = .returned (.tuple #[]) ∧ Stk w0 w' g l
theorem push_res {w0 w' : World} {g r c M : Nat} {l : List PeakV} (h : StkW w0 w' g r c M l) : PushRes w0 g l (.returned (.tuple #[])) w' := ⟨rfl, r, c, M, h⟩
set_option maxHeartbeats 8000000 in
set_option maxRecDepth 100000 in
theorem implPush (w0 : World) (g : Nat) (ps : List PeakV) (p : PeakV) (w : World) (hs : Stk w0 w g ps) (hm : ps.length ≤ 1048576) (hk : ∀ i, i < ps.length → peakOkB (ps.getD i default) = true) (hr : Room ps ps.length p) (hK : RowG w0 shaK) (hP : TabP w0) :
    Calls Tryz.prog 21 #[.pointer (some ⟨g, 0, none⟩), peakVal p] w fun e w' => PushRes w0 g (addP ps p) e w' := by
  obtain ⟨r, c, n, h0⟩ := hs
  obtain ⟨i0, hi, hz0, hz1, hz2⟩ := info3 infoPeak
  have HN : Hid (n = ps.length) := h0.len.symm
  have HM0 : Hid (n ≤ 1048576) := by show _ ≤ _; have := h0.len; omega
  have HK : Hid (RowG w0 shaK) := hK
  have HP : Hid (TabP w0) := hP
  have HKP : Hid (∀ i, i < ps.length → peakOkB (ps.getD i default) = true) := hk
  have HR0 : Hid (Room ps n p) := by show Room _ _ _; rw [HN.out]; exact hr
  have HAD : Hid (addP (ps.take n) p = addP ps p) := by show _ = _; rw [HN.out, List.take_length]
  generalize addP ps p = A at HAD ⊢
  unfold peakVal
  have PZ : Hid (PushW w0 (w.alloc (.cells #[.string p.sum, .int .i64 p.work, .int .i64 p.count] 31)) g w.heap.size r c n ps p) := by
    have hb : Below w.heap.size w (w.alloc (.cells #[.string p.sum, .int .i64 p.work, .int .i64 p.count] 31)) := (Below.refl _ w).alloc (Nat.le_refl _) _
    exact ⟨h0.call hb, CBk.new w _ _, h0.s.lt, h0.at.1.1⟩
  have P0 : Hid (PushW w0 (w.alloc (.cells #[.string p.sum, .int .i64 p.work, .int .i64 p.count] 31)) g w.heap.size r c n (ps.take n) p) := by
    have e : ps.take n = ps := by rw [HN.out, List.take_length]
    rw [e]
    exact PZ.out
  clear hm hk hr hK hP h0 PZ
  obtain ⟨⟨a0, a1, a2⟩, x0⟩ := P0.out.two
  have hw0 : IntKind.i64.wrap ((n : Int) - 1) = (n : Int) - 1 := by have := HM0.out; rw [IntKind.wrap_i64]; omega
  go_enter Tryz.func21, Tryz.ntmps21
  go_wp2_with fail
  clear a0 a1 a2 x0 hw0
  generalize w.alloc (.cells #[.string p.sum, .int .i64 p.work, .int .i64 p.count] 31) = W0 at P0 ⊢
  obtain ⟨g3, hg3⟩ : ∃ g3, g3 = w.heap.size := ⟨_, rfl⟩
  rw [← hg3] at P0 ⊢
  clear hg3
  clear w
  go_loopw [4] (fun last wr => ∃ (m : Nat) (q : PeakV), m ≤ n ∧ last = .int .i64 ((m : Int) - 1) ∧ Hid (PushW w0 wr g g3 r c m (ps.take m) q) ∧ Hid (addP (ps.take m) q = A) ∧ Hid (Room ps m q)) (fun last _ => (intOf last + 1).toNat)
  case atStart => exact ⟨n, p, Nat.le_refl _, rfl, P0, HAD, HR0⟩
  case round =>
    clear P0 HAD HR0
    obtain ⟨m, q, hmn, rfl, PW, HAD, HRM⟩ := hrel
    cases m with
    | zero =>
      have e0 : ((0 : Nat) : Int) - 1 = -1 := rfl
      rw [e0]
      have hd0 : decide ((0 : Int) ≤ -1) = false := by decide
      have HRV : Hid (A = ps.take 0 ++ [q]) := by show _ = _; rw [← HAD.out, List.take_zero, addP_nil]; rfl
      obtain ⟨M, hM⟩ : ∃ M, M = 0 := ⟨_, rfl⟩
      have HM : Hid (M = 0) := hM
      rw [← hM] at PW HRV
      clear hM hmn HAD HRM
      obtain ⟨⟨a0, a1, a2⟩, d0, d1, d2⟩ := PW.out.two
      go_wp2_with fail
      go_big_region
      have PW1 : Hid (PushW w0 wr.drew g g3 r c M (ps.take M) q) := PW.out.drew
      have HLA : Hid ((ps.take M).length = M) := PW1.out.k.len
      have hx1 : M + 1 ≤ maxLen := by have h1 := HLA.out; rw [List.length_take] at h1; have h2 := HM0.out; have h3 := HN.out; unfold maxLen; omega
      have hx2 : (M + 1) * 32 ≤ 140737488355328 := by have h1 := HLA.out; rw [List.length_take] at h1; have h2 := HM0.out; have h3 := HN.out; omega
      have HRD : Hid (wr.drew.ownsRow w0.heap.size 31 3 (.slice (some ⟨r, 0, none⟩) M c) M ((ps.take M).flatMap pEnc)) := PW1.out.k.row
      have HZ : Hid (w0.heap.size ≤ wr.drew.heap.size ∧ g3 < wr.drew.heap.size ∧ g < g3 ∧ r < g3 ∧ r ≠ g ∧ w0.heap.size ≤ g ∧ w0.heap.size ≤ r) := ⟨PW1.out.k.b.size, PW1.out.o.lt, PW1.out.n1, PW1.out.n2, PW1.out.k.rg, PW1.out.k.lo, PW1.out.k.at.2.2.1⟩
      have PX : Hid (PushW w0 wr.drew.drew g g3 r c M (ps.take M) q) := PW1.out.drew
      have PA : Hid (PushW w0 (wr.drew.drew.alloc (.cells (pEnc q).toArray 31)) g g3 r c M (ps.take M) q) := PX.out.call ((Below.refl _ _).alloc (Nat.le_refl _) _)
      have hu := pEnc_one q
      have HCN : Hid (∀ j u, (pEnc q)[j]? = some u → (wr.drew.drew.alloc (.cells (pEnc q).toArray 31)).cell? ((⟨wr.drew.heap.size, 0, none⟩ : Addr).add j) = some u) := cells_new wr.drew.drew 31 (pEnc q)
      have HFd : Hid ((wr.drew.drew.alloc (.cells (pEnc q).toArray 31)).ownsRow w0.heap.size 31 3 (.slice (some ⟨r, 0, none⟩) M c) M ((ps.take M).flatMap pEnc)) := PA.out.k.row
      have HBZ : Hid (w0.heap.size ≤ (wr.drew.drew.alloc (.cells (pEnc q).toArray 31)).heap.size) := PA.out.k.b.size
      have HGT6 : Hid (∀ w6, (wr.drew.drew.alloc (.cells (pEnc q).toArray 31)).grownBy w6 (some r) → CBk w6 g 51 #[.slice (some ⟨r, 0, none⟩) M c, .func (.func 35) #[] #[], .func (.func 36) #[] #[]]) := fun w6 h => PW1.out.grown h
      have ba0 : (wr.alloc (.cells #[.string q.sum, .int .i64 q.work, .int .i64 q.count] 31)).cell? ⟨g, 0, none⟩ = some (.slice (some ⟨r, 0, none⟩) M c) := (Below.cell ((Below.refl _ wr).alloc (Nat.le_refl _) _) (p := ⟨g, 0, none⟩) PW.out.k.s.lt).trans PW.out.k.outs.1
      clear a0 a1 a2 d0 d1 d2
      obtain ⟨⟨a0, a1, a2⟩, d0, d1, d2⟩ := PX.out.two
      go_wp2_with fail
      go_region_law (refine step_append_any rfl (.tmp 56) (.tmp 58) 26 rfl w0.heap.size 31 i0 (.agg #[.string ⟨#[]⟩, .int .i64 0, .int .i64 0]) 3 32 Tryz.underlying26 hi hz0 hz1 hz2 rfl (by decide) r c M ((ps.take M).flatMap pEnc) (by simp [Act.eval]) HFd.out ⟨wr.drew.heap.size, 0, none⟩ 1 1 (pEnc q) (by simp [Act.eval]) rfl HCN.out hu hx1 hx2 HBZ.out ?_; intro g6 c6 w6 hown6 hgrow6 hat6 hlt6; have C6 : Hid (CBk w6 g 51 #[.slice (some ⟨r, 0, none⟩) M c, .func (.func 35) #[] #[], .func (.func 36) #[] #[]]) := HGT6.out w6 hgrow6; have q6 : w6.cell? ⟨g, 0, none⟩ = some (.slice (some ⟨r, 0, none⟩) M c) := C6.out.cell 0; have z6 : w6.frozen? ⟨g, 0, none⟩ = false := C6.out.frozen 0)
      all_goals
        have K6 : Hid (StkW w0 (w6.setCell ⟨g, 0, none⟩ (.slice (some ⟨g6, 0, none⟩) (M + 1) c6)) g g6 c6 (M + 1) A) := by
          have hz := HZ.out
          have hne : g6 ≠ g := by
            have h1 : r = g6 ∨ g6 = wr.drew.heap.size ∨ wr.drew.heap.size ≤ g6 := by
              rcases hat6.out with h1 | h1
              · exact .inl h1
              · right; right; rw [h1]; simp
            omega
          refine ⟨C6.out.set 0 _, rowKeep ?_ hne, ?_, ?_, hne, hz.2.2.2.2.2.1⟩
          · rw [HRV.out, List.flatMap_append]
            simpa using hown6
          · rw [HRV.out, List.length_append, HLA.out]
            rfl
          · exact (PA.out.k.b.grown hgrow6 PA.out.k.b.size (fun j hj => by cases hj; exact hz.2.2.2.2.2.2)).setCell (p := ⟨g, 0, none⟩) hz.2.2.2.2.2.1 _
        clear PX PA C6 HRD hown6 hgrow6 hat6 hlt6
        go_wp2_with fail
        exact bodyPost_ret (results_none rfl _ _ _) rfl (push_res K6.out)
    | succ m =>
      have e0 : ((m + 1 : Nat) : Int) - 1 = (m : Int) := by omega
      rw [e0]
      have hml : m < ps.length := by rw [← HN.out]; omega
      have hgt : (ps.take (m + 1)).getD m default = ps.getD m default := by simp
      have hlen : m < (ps.take (m + 1)).length := by rw [List.length_take]; omega
      have HKM : Hid (peakOkB (ps.getD m default) = true) := HKP.out m hml
      have HS : Hid ((ps.getD m default).count = q.count → Room ps m (bothP (ps.getD m default) q)) := fun he => HRM.out.step HKP.out hml he
      have HYES : Hid ((ps.getD m default).count = q.count → addP (ps.take m) (bothP (ps.getD m default) q) = A) := fun he => by
        rw [← HAD.out, take_one hml, addP_yes he]
      have HNO : Hid (¬ (ps.getD m default).count = q.count → A = ps.take (m + 1) ++ [q]) := fun he => by
        rw [← HAD.out, take_one hml, addP_no he]
      have HTT : Hid ((ps.take (m + 1)).take m = ps.take m) := by show _ = _; rw [List.take_take]; congr 1; omega
      have HLL : Hid (m < (ps.take (m + 1)).length) := hlen
      have HGT : Hid ((ps.take (m + 1)).getD m default = ps.getD m default) := hgt
      have hd0 : decide ((0 : Int) ≤ (m : Int)) = true := decide_eq_true (by omega)
      have hd1 : (0 : Int) ≤ (m : Int) := by omega
      have lm1 : (m : Int) < ((m + 1 : Nat) : Int) := by omega
      obtain ⟨M, hM⟩ : ∃ M, M = m + 1 := ⟨_, rfl⟩
      have HM : Hid (M = m + 1) := hM
      rw [← hM] at lm1
      rw [← hM] at PW HNO HLL HGT hmn
      have HTT : Hid ((ps.take M).take m = ps.take m) := by rw [hM]; exact HTT.out
      have HMN : Hid (M ≤ n) := hmn
      have hdn : decide (0 ≤ m) = true := decide_eq_true (by omega)
      have ltm : m < M := by omega
      clear hM hlen hgt hml HAD hmn
      generalize ps.getD m default = t at HKM HS HYES HNO HGT
      obtain ⟨⟨a0, a1, a2⟩, ⟨q0, q1, q2⟩, d0, d1, d2⟩ := PW.out.all HLL.out HGT.out
      have hal := fun w' => implPeakAlike t q w'
      unfold peakVal at hal
      have PD : Hid (PushW w0 wr.drew g g3 r c M (ps.take M) q) := PW.out.drew
      by_cases he : t.count = q.count
      · have heb : (t.count == q.count) = true := by simpa using he
        rw [heb] at hal
        have HRM2 : Hid (Room ps m (bothP t q)) := HS.out he
        have HAD2 : Hid (addP (ps.take m) (bothP t q) = A) := HYES.out he
        have HBO : Hid (∀ w', Below w0.heap.size w0 w' → Calls Tryz.prog 36 #[.agg #[.string t.sum, .int .i64 t.work, .int .i64 t.count], .agg #[.string q.sum, .int .i64 q.work, .int .i64 q.count]] w' fun e w'' => e = .returned (.agg #[.string (bothP t q).sum, .int .i64 (bothP t q).work, .int .i64 (bothP t q).count]) ∧ Below w'.heap.size w' w'') := fun w' hb => implPeakBoth t q w' HKM.out HRM.out.ok (HK.out.below hb HK.out.lt) (TabP.below HP.out hb (Nat.le_refl _))
        clear HS HYES HNO he heb HRM HKM
        go_wp2_with fail
        go_region_held3 (fun w' => (w'.cell? ⟨g, 0, none⟩ = some (.slice (some ⟨r, 0, none⟩) M c) ∧ w'.cell? ⟨g, 1, none⟩ = some (.func (.func 35) #[] #[]) ∧ w'.cell? ⟨g, 2, none⟩ = some (.func (.func 36) #[] #[])) ∧ (w'.cell? ⟨r, m * 3, none⟩ = some (.string t.sum) ∧ w'.cell? ⟨r, m * 3 + 1, none⟩ = some (.int .i64 t.work) ∧ w'.cell? ⟨r, m * 3 + 2, none⟩ = some (.int .i64 t.count)) ∧ (w'.cell? ⟨g3, 0, none⟩ = some (.string q.sum) ∧ w'.cell? ⟨g3, 1, none⟩ = some (.int .i64 q.work) ∧ w'.cell? ⟨g3, 2, none⟩ = some (.int .i64 q.count)))
          (first | exact PW.out.all HLL.out HGT.out | exact PD.out.all HLL.out HGT.out | exact P5.out.all HLL.out HGT.out)
          (first | (go_at_call 35; refine (hal _).mono ?_; rintro e w5 ⟨rfl, b5⟩; have P5 : Hid (PushW w0 w5 g g3 r c M (ps.take M) q) := PD.out.call b5))
        clear a0 a1 a2 q0 q1 q2 d0 d1 d2 PW PD b5
        obtain ⟨⟨a0, a1, a2⟩, ⟨q0, q1, q2⟩, d0, d1, d2⟩ := P5.out.all HLL.out HGT.out
        have hlt4 : (m : Int) < (M : Int) := lm1
        go_wp2_with fail
        go_region_with (go_at_call 36; refine (HBO.out _ (P5.out.drew.k.b)).mono ?_; rintro e w6 ⟨rfl, b6⟩; have P6 : Hid (PushW w0 w6 g g3 r c M (ps.take M) q) := P5.out.drew.call b6; obtain ⟨m0, m1, m2⟩ := P6.out.o.cells3; obtain ⟨f0, f1, f2⟩ := P6.out.o.free3)
        all_goals
          have P7 : Hid _ := P6.out.put (bothP t q)
          generalize bothP t q = nq at P7 HRM2 HAD2
          clear a0 a1 a2 q0 q1 q2 d0 d1 d2 m0 m1 m2 f0 f1 f2 b6 P6 P5 HBO
          generalize (((w6.setCell ⟨g3, 0, none⟩ (.string (nq).sum)).setCell ⟨g3, 1, none⟩ (.int .i64 (nq).work)).setCell ⟨g3, 2, none⟩ (.int .i64 (nq).count)) = w7 at P7 ⊢
          clear w6
          obtain ⟨⟨a0, a1, a2⟩, d0, d1, d2⟩ := P7.out.two
          have z0 := P7.out.k.s.frozen 0
          have lmc : (m : Int) ≤ (c : Int) := by have := P7.out.k.at.2.2.2; omega
          have hc0 : ¬ c = 0 := by have := P7.out.k.at.2.2.2; omega
          have P8 : Hid (PushW w0 (w7.setCell ⟨g, 0, none⟩ (.slice (some ⟨r, 0, none⟩) m c)) g g3 r c m (ps.take m) nq) := by
            have h1 := P7.out
            rw [HM.out] at h1
            have h2 := h1.pop
            rwa [show (ps.take (m + 1)).take m = ps.take m from by rw [← HM.out]; exact HTT.out] at h2
          have hw2 : IntKind.i64.wrap ((m : Int) - 1) = (m : Int) - 1 := by have := HMN.out; have := HM0.out; rw [IntKind.wrap_i64]; omega
          clear P7
          go_wp2_with fail
          go_roundw
          case rel => exact ⟨m, nq, by have := HM.out; have := HMN.out; omega, rfl, P8, HAD2, HRM2⟩
          case measure => have := HM.out; simp [intOf] <;> omega
      · have heb : (t.count == q.count) = false := by simpa using he
        rw [heb] at hal
        have HRV : Hid (A = ps.take M ++ [q]) := HNO.out he
        clear HS HYES HNO he heb HRM HKM HTT
        go_wp2_with fail
        go_region_held3 (fun w' => (w'.cell? ⟨g, 0, none⟩ = some (.slice (some ⟨r, 0, none⟩) M c) ∧ w'.cell? ⟨g, 1, none⟩ = some (.func (.func 35) #[] #[]) ∧ w'.cell? ⟨g, 2, none⟩ = some (.func (.func 36) #[] #[])) ∧ (w'.cell? ⟨r, m * 3, none⟩ = some (.string t.sum) ∧ w'.cell? ⟨r, m * 3 + 1, none⟩ = some (.int .i64 t.work) ∧ w'.cell? ⟨r, m * 3 + 2, none⟩ = some (.int .i64 t.count)) ∧ (w'.cell? ⟨g3, 0, none⟩ = some (.string q.sum) ∧ w'.cell? ⟨g3, 1, none⟩ = some (.int .i64 q.work) ∧ w'.cell? ⟨g3, 2, none⟩ = some (.int .i64 q.count)))
          (first | exact PW.out.all HLL.out HGT.out | exact PD.out.all HLL.out HGT.out | exact P5.out.all HLL.out HGT.out)
          (first | (go_at_call 35; refine (hal _).mono ?_; rintro e w5 ⟨rfl, b5⟩; have P5 : Hid (PushW w0 w5 g g3 r c M (ps.take M) q) := PD.out.call b5))
        clear a0 a1 a2 q0 q1 q2 d0 d1 d2 PW PD b5
        have HLA : Hid ((ps.take M).length = M) := P5.out.k.len
        have hx1 : M + 1 ≤ maxLen := by have h1 := HLA.out; rw [List.length_take] at h1; have h2 := HM0.out; have h3 := HN.out; unfold maxLen; omega
        have hx2 : (M + 1) * 32 ≤ 140737488355328 := by have h1 := HLA.out; rw [List.length_take] at h1; have h2 := HM0.out; have h3 := HN.out; omega
        have HRD : Hid (w5.ownsRow w0.heap.size 31 3 (.slice (some ⟨r, 0, none⟩) M c) M ((ps.take M).flatMap pEnc)) := P5.out.k.row
        have HZ : Hid (w0.heap.size ≤ w5.heap.size ∧ g3 < w5.heap.size ∧ g < g3 ∧ r < g3 ∧ r ≠ g ∧ w0.heap.size ≤ g ∧ w0.heap.size ≤ r) := ⟨P5.out.k.b.size, P5.out.o.lt, P5.out.n1, P5.out.n2, P5.out.k.rg, P5.out.k.lo, P5.out.k.at.2.2.1⟩
        have PX : Hid (PushW w0 w5.drew g g3 r c M (ps.take M) q) := P5.out.drew
        have PA : Hid (PushW w0 (w5.drew.alloc (.cells (pEnc q).toArray 31)) g g3 r c M (ps.take M) q) := PX.out.call ((Below.refl _ _).alloc (Nat.le_refl _) _)
        have hu := pEnc_one q
        have HCN : Hid (∀ j u, (pEnc q)[j]? = some u → (w5.drew.alloc (.cells (pEnc q).toArray 31)).cell? ((⟨w5.heap.size, 0, none⟩ : Addr).add j) = some u) := cells_new w5.drew 31 (pEnc q)
        have HFd : Hid ((w5.drew.alloc (.cells (pEnc q).toArray 31)).ownsRow w0.heap.size 31 3 (.slice (some ⟨r, 0, none⟩) M c) M ((ps.take M).flatMap pEnc)) := PA.out.k.row
        have HBZ : Hid (w0.heap.size ≤ (w5.drew.alloc (.cells (pEnc q).toArray 31)).heap.size) := PA.out.k.b.size
        have HGT6 : Hid (∀ w6, (w5.drew.alloc (.cells (pEnc q).toArray 31)).grownBy w6 (some r) → CBk w6 g 51 #[.slice (some ⟨r, 0, none⟩) M c, .func (.func 35) #[] #[], .func (.func 36) #[] #[]]) := fun w6 h => P5.out.grown h
        have ba0 : (w5.alloc (.cells #[.string q.sum, .int .i64 q.work, .int .i64 q.count] 31)).cell? ⟨g, 0, none⟩ = some (.slice (some ⟨r, 0, none⟩) M c) := (Below.cell ((Below.refl _ w5).alloc (Nat.le_refl _) _) (p := ⟨g, 0, none⟩) P5.out.k.s.lt).trans P5.out.k.outs.1
        obtain ⟨⟨a0, a1, a2⟩, d0, d1, d2⟩ := PX.out.two
        go_wp2_with fail
        go_region_law (refine step_append_any rfl (.tmp 56) (.tmp 58) 26 rfl w0.heap.size 31 i0 (.agg #[.string ⟨#[]⟩, .int .i64 0, .int .i64 0]) 3 32 Tryz.underlying26 hi hz0 hz1 hz2 rfl (by decide) r c M ((ps.take M).flatMap pEnc) (by simp [Act.eval]) HFd.out ⟨w5.heap.size, 0, none⟩ 1 1 (pEnc q) (by simp [Act.eval]) rfl HCN.out hu hx1 hx2 HBZ.out ?_; intro g6 c6 w6 hown6 hgrow6 hat6 hlt6; have C6 : Hid (CBk w6 g 51 #[.slice (some ⟨r, 0, none⟩) M c, .func (.func 35) #[] #[], .func (.func 36) #[] #[]]) := HGT6.out w6 hgrow6; have q6 : w6.cell? ⟨g, 0, none⟩ = some (.slice (some ⟨r, 0, none⟩) M c) := C6.out.cell 0; have z6 : w6.frozen? ⟨g, 0, none⟩ = false := C6.out.frozen 0)
        all_goals
          have K6 : Hid (StkW w0 (w6.setCell ⟨g, 0, none⟩ (.slice (some ⟨g6, 0, none⟩) (M + 1) c6)) g g6 c6 (M + 1) A) := by
            have hz := HZ.out
            have hne : g6 ≠ g := by
              have h1 : r = g6 ∨ g6 = w5.heap.size ∨ w5.heap.size ≤ g6 := by
                rcases hat6.out with h1 | h1
                · exact .inl h1
                · right; right; rw [h1]; simp
              omega
            refine ⟨C6.out.set 0 _, rowKeep ?_ hne, ?_, ?_, hne, hz.2.2.2.2.2.1⟩
            · rw [HRV.out, List.flatMap_append]
              simpa using hown6
            · rw [HRV.out, List.length_append, HLA.out]
              rfl
            · exact (PA.out.k.b.grown hgrow6 PA.out.k.b.size (fun j hj => by cases hj; exact hz.2.2.2.2.2.2)).setCell (p := ⟨g, 0, none⟩) hz.2.2.2.2.2.1 _
          clear PX PA C6 HRD hown6 hgrow6 hat6 hlt6
          go_wp2_with fail
          exact bodyPost_ret (results_none rfl _ _ _) rfl (push_res K6.out)

end Go.Proofs.YtoojimfimlpplaaGreatDoor



set_option linter.unusedVariables false
namespace Go.Proofs.YtoojimfimlpplaaGreatDoor
open Go.RowKit Go.Deep

set_option maxHeartbeats 1000000 in
set_option maxRecDepth 100000 in
theorem implCloneP (s : ByteArray) (w : World) (hs : s.size ≤ 281474976710656) :
    Calls Tryz.prog 34 #[.string s] w fun e w' => e = .returned (.string s) ∧ Below w.heap.size w w' := by
  go_enter Tryz.func34, Tryz.ntmps34
  go_wp2_with fail
  refine (Tryz.stringslite_Clone s w hs).mono ?_
  rintro e w1 ⟨rfl, b1⟩
  go_wp2_with fail
  go_ret
  exact ⟨rfl, b1⟩
theorem makeP0 (n : Nat) (hn : n ≤ 1048577) (w : World) : (Instr.makeSlice 26 (.int .i64 0) (.int .i64 (n : Int))).run Tryz.prog w = .ok (.slice (some ⟨w.heap.size, 0, none⟩) 0 n) (w.alloc (.cells (madeCells #[.string ⟨#[]⟩, .int .i64 0, .int .i64 0] (n * 3)) 31)) := by
  obtain ⟨i, hi, hz, hs, hb⟩ := info3 infoPeak
  have hb' : (i.bytes : Int) * (n : Int) ≤ 281474976710656 := by rw [hb]; omega
  have hr := run_make (P := Tryz.prog) w 26 31 i _ Tryz.underlying26 hi hz .i64 .i64 0 (n : Int) (by omega) (by omega) hb' (by omega)
  simp only [Int.toNat_natCast, hs, Value.cells] at hr
  exact hr
theorem StkW.lower {w0 w1 wr : World} {g r c M : Nat} {l : List PeakV} (h : StkW w1 wr g r c M l) (hb : Below w0.heap.size w0 w1) : StkW w0 wr g r c M l := by
  have h1 := (FRow.mono h.frow hb.size).2
  rw [h.len] at h1
  exact ⟨h.s, h1, h.len, hb.trans (h.b.mono hb.size), h.rg, Nat.le_trans hb.size h.lo⟩
theorem Stk.lower {w0 w1 wr : World} {g : Nat} {l : List PeakV} (h : Stk w1 wr g l) (hb : Below w0.heap.size w0 w1) : Stk w0 wr g l := by
  obtain ⟨r, c, M, h⟩ := h
  exact ⟨r, c, M, h.lower hb⟩
theorem Stk.call {w0 wr w' : World} {g : Nat} {l : List PeakV} (h : Stk w0 wr g l) (hb : Below wr.heap.size wr w') : Stk w0 w' g l := by
  obtain ⟨r, c, M, h⟩ := h
  exact ⟨r, c, M, h.call hb⟩
theorem Stk.b {w0 wr : World} {g : Nat} {l : List PeakV} (h : Stk w0 wr g l) : Below w0.heap.size w0 wr := by
  obtain ⟨r, c, M, h⟩ := h
  exact h.b
/-- The stack is new. -/
def StackRes (w : World) (l : List PeakV) (e : Ending) (w' : World) : Prop := ∃ g, e = .returned (.pointer (some ⟨g, 0, none⟩)) ∧ Stk w w' g l
theorem stack_new {w w1 : World} {v : Value} {l : List PeakV} (hR : PRow w.heap.size v l w1) (hb : Below w.heap.size w w1) : StackRes w l (.returned (.pointer (some ⟨w1.heap.size, 0, none⟩))) (w1.alloc (.cells #[v, .func (.func 35) #[] #[], .func (.func 36) #[] #[]] 51)) := by
  obtain ⟨g, c, cur, rfl, h1, h2, _⟩ := hR.block
  have h5 := (FRow.below hR ((Below.refl _ w1).alloc (Nat.le_refl _) (.cells #[.slice (some ⟨g, 0, none⟩) l.length c, .func (.func 35) #[] #[], .func (.func 36) #[] #[]] 51))).2
  exact ⟨_, rfl, g, c, l.length, CBk.new w1 _ _, h5, rfl, hb.alloc hb.size _, by omega, hb.size⟩

set_option maxHeartbeats 4000000 in
set_option maxRecDepth 100000 in
theorem implPeakStackNil (w : World) :
    Calls Tryz.prog 20 #[.slice none 0 0] w fun e w' => StackRes w [] e w' := by
  have hmk : (Instr.makeSlice 26 (.int .i64 0) (.int .i64 1)).run Tryz.prog w = _ := makeP0 1 (by omega) w
  have R0 : Hid (PRow w.heap.size (.slice (some ⟨w.heap.size, 0, none⟩) 0 1) [] (w.alloc (.cells (madeCells #[.string ⟨#[]⟩, .int .i64 0, .int .i64 0] (1 * 3)) 31))) :=
    ⟨⟨_, _, rfl⟩, by simp, .inr ⟨w.heap.size, 1, _, rfl, Nat.le_refl _, heap_alloc_new w _, Nat.zero_le _, by unfold maxLen; omega, by simp [madeCells], by simp⟩⟩
  have B0 : Hid (Below w.heap.size w (w.alloc (.cells (madeCells #[.string ⟨#[]⟩, .int .i64 0, .int .i64 0] (1 * 3)) 31))) := (Below.refl _ w).alloc (Nat.le_refl _) _
  generalize w.alloc (.cells (madeCells #[.string ⟨#[]⟩, .int .i64 0, .int .i64 0] (1 * 3)) 31) = wm at hmk R0 B0
  have HQ : Hid (∀ (w1 : World) (v : Value), PRow w.heap.size v [] w1 → Below w.heap.size w w1 → StackRes w [] (.returned (.pointer (some ⟨w1.heap.size, 0, none⟩))) (w1.alloc (.cells #[v, .func (.func 35) #[] #[], .func (.func 36) #[] #[]] 51))) := fun w1 v h1 h2 => stack_new h1 h2
  generalize StackRes w [] = Q at HQ ⊢
  go_enter Tryz.func20, Tryz.ntmps20
  go_wp2_with fail
  clear hmk
  go_loopw [3, 12] (fun v i wr => v = .slice (some ⟨w.heap.size, 0, none⟩) 0 1 ∧ i = .int .i64 0 ∧ Hid (wr = wm)) (fun _ _ _ => 0)
  case atStart => exact ⟨rfl, rfl, rfl⟩
  case round =>
    obtain ⟨rfl, rfl, HW⟩ := hrel
    go_wp2_with fail
    rw [HW.out]
    exact HQ.out _ _ R0.out B0.out

set_option maxHeartbeats 8000000 in
set_option maxRecDepth 100000 in
theorem implPeakStack (g n cap : Nat) (ps : List PeakV) (w : World) (h : AtP w g ps) (hn : n = ps.length) (hm : n ≤ 1048576) (hz : ∀ i, i < ps.length → (ps.getD i default).sum.size ≤ 281474976710656) :
    Calls Tryz.prog 20 #[.slice (some ⟨g, 0, none⟩) n cap] w fun e w' => StackRes w ps e w' := by
  obtain ⟨i0, hi, hz0, hz1, hz2⟩ := info3 infoPeak
  have hmk : (Instr.makeSlice 26 (.int .i64 0) (.int .i64 ((n : Int) + 1))).run Tryz.prog w = _ := makeP0 (n + 1) (by omega) w
  have HA : Hid (AtP w g ps) := h
  have HN : Hid (n = ps.length) := hn
  have HSZ : Hid (∀ i, i < ps.length → (ps.getD i default).sum.size ≤ 281474976710656) := hz
  have R0 : Hid (PRow w.heap.size (.slice (some ⟨w.heap.size, 0, none⟩) 0 (n + 1)) [] (w.alloc (.cells (madeCells #[.string ⟨#[]⟩, .int .i64 0, .int .i64 0] ((n + 1) * 3)) 31))) :=
    ⟨⟨_, _, rfl⟩, by simp, .inr ⟨w.heap.size, n + 1, _, rfl, Nat.le_refl _, heap_alloc_new w _, Nat.zero_le _, by unfold maxLen; omega, by simp [madeCells], by simp⟩⟩
  have B0 : Hid (Below w.heap.size w (w.alloc (.cells (madeCells #[.string ⟨#[]⟩, .int .i64 0, .int .i64 0] ((n + 1) * 3)) 31))) := (Below.refl _ w).alloc (Nat.le_refl _) _
  generalize (w.alloc (.cells (madeCells #[.string ⟨#[]⟩, .int .i64 0, .int .i64 0] ((n + 1) * 3)) 31)) = wm at hmk R0 B0
  have HQ : Hid (∀ (w1 : World) (v : Value), PRow w.heap.size v (ps.take n) w1 → Below w.heap.size w w1 → StackRes w ps (.returned (.pointer (some ⟨w1.heap.size, 0, none⟩))) (w1.alloc (.cells #[v, .func (.func 35) #[] #[], .func (.func 36) #[] #[]] 51))) := fun w1 v h1 h2 => by
    rw [hn, List.take_length] at h1
    exact stack_new h1 h2
  generalize StackRes w ps = Q at HQ ⊢
  clear h hn hz
  have hw1 : IntKind.i64.wrap ((n : Int) + 1) = (n : Int) + 1 := by rw [IntKind.wrap_i64]; omega
  go_enter Tryz.func20, Tryz.ntmps20
  go_wp2_with fail
  clear hmk hw1
  go_loopw [3, 12] (fun v i wr => ∃ (k g2 c2 : Nat), k ≤ n ∧ i = .int .i64 (k : Int) ∧ v = .slice (some ⟨g2, 0, none⟩) k c2 ∧ Hid (PRow w.heap.size (.slice (some ⟨g2, 0, none⟩) k c2) (ps.take k) wr) ∧ Hid (Below w.heap.size w wr)) (fun _ i _ => n - (intOf i).toNat)
  case atStart => exact ⟨0, w.heap.size, n + 1, by omega, rfl, rfl, R0, B0⟩
  case round =>
    clear R0 B0
    obtain ⟨k, g2, c2, hk, rfl, rfl, R, HB⟩ := hrel
    by_cases hlt : k < n
    · have hkl : k < ps.length := by rw [← HN.out]; exact hlt
      have HAr := HA.out.below HB.out HA.out.1
      have q0 := AtP.c0 HAr k hkl
      have q1 := AtP.c1 HAr k hkl
      have q2 := AtP.c2 HAr k hkl
      have lk : (k : Int) < (n : Int) := by omega
      have lk0 : (0 : Int) ≤ (k : Int) := by omega
      have wk : IntKind.i64.wrap ((k : Int) + 1) = (k : Int) + 1 := by rw [IntKind.wrap_i64]; omega
      have HK1 : Hid (k + 1 ≤ n) := hlt
      have HT : Hid (ps.take (k + 1) = ps.take k ++ [ps.getD k default]) := take_one hkl
      have hcl := fun w' => implCloneP (ps.getD k default).sum w' (HSZ.out k hkl)
      have HLT : Hid ((ps.take k).length = k) := by show _ = _; rw [List.length_take]; omega
      clear hkl HAr
      generalize ps.getD k default = t at q0 q1 q2 hcl HT
      have HG2 : Hid (g2 < wr.heap.size ∧ k ≤ c2) := ⟨(FRow.at pEnc_len R.out).1.1, (FRow.at pEnc_len R.out).2.2.2⟩
      have L0 : Hid (Below wr.heap.size wr (wr.alloc (.cells #[.string t.sum, .int .i64 t.work, .int .i64 t.count] 31))) := (Below.refl _ wr).alloc (Nat.le_refl _) _
      have T0 : Hid (CBk (wr.alloc (.cells #[.string t.sum, .int .i64 t.work, .int .i64 t.count] 31)) wr.heap.size 31 #[.string t.sum, .int .i64 t.work, .int .i64 t.count]) := CBk.new wr _ _
      go_wp2_with fail
      refine (hcl _).mono ?_
      rintro e w2 ⟨rfl, b2⟩
      obtain ⟨gs, hgs⟩ : ∃ gs, gs = wr.heap.size := ⟨_, rfl⟩
      have T2 : Hid (CBk w2 gs 31 #[.string t.sum, .int .i64 t.work, .int .i64 t.count]) := by rw [hgs]; exact T0.out.call b2
      have L2 : Hid (Below wr.heap.size wr w2) := L0.out.trans (b2.mono L0.out.size)
      have B2 : Hid (Below w.heap.size w w2) := HB.out.trans (L2.out.mono HB.out.size)
      have HG : Hid (gs = wr.heap.size) := hgs
      rw [← hgs]
      clear hgs L0 T0 b2 hcl q0 q1 q2
      obtain ⟨d0, d1, d2⟩ := T2.out.cells3
      obtain ⟨f0, f1, f2⟩ := T2.out.free3
      have B3 : Hid (Below w.heap.size w (w2.setCell ⟨gs, 0, none⟩ (.string t.sum))) := B2.out.setCell (p := ⟨gs, 0, none⟩) (by show w.heap.size ≤ gs; rw [HG.out]; exact HB.out.size) _
      have T3 : Hid (CBk (w2.setCell ⟨gs, 0, none⟩ (.string t.sum)) gs 31 #[.string t.sum, .int .i64 t.work, .int .i64 t.count]) := T2.out.set 0 _
      have HOW : Hid ((w2.setCell ⟨gs, 0, none⟩ (.string t.sum)).ownsRow w.heap.size 31 3 (.slice (some ⟨g2, 0, none⟩) k c2) k ((ps.take k).flatMap pEnc)) := by
        have h1 := (FRow.below R.out L2.out).2
        rw [HLT.out] at h1
        exact rowKeep h1 (by rw [HG.out]; have := HG2.out.1; omega)
      have hx1 : k + 1 ≤ maxLen := by unfold maxLen; omega
      have hx2 : (k + 1) * 32 ≤ 140737488355328 := by omega
      have hu := pEnc_one t
      have hsz := B3.out.size
      clear R L2 B2 HB
      clear T2
      go_wp2_with (at_builtin; refine wp_appN rfl _ _ 26 rfl w.heap.size 31 i0 (.agg #[.string ⟨#[]⟩, .int .i64 0, .int .i64 0]) 3 32 1 Tryz.underlying26 hi hz0 hz1 hz2 rfl (by decide) (by decide) _ _ _ rfl HOW.out (pEnc t) (by first | rfl | simp [Act.eval]) rfl hu hx1 hx2 hsz ?_; intro g4 c4 w4 hown4 hb4 hkeep4)
      have R4 : Hid (PRow w.heap.size (.slice (some ⟨g4, 0, none⟩) (k + 1) c4) (ps.take (k + 1)) w4) := by
        rw [HT.out]
        refine FRow.of ?_ ?_
        · rw [List.flatMap_append]
          simpa using hown4
        · rw [List.length_append, HLT.out]; rfl
      have B4 : Hid (Below w.heap.size w w4) := B3.out.trans hb4
      clear hown4 hb4 hkeep4 B3 T3 HOW d0 d1 d2 f0 f1 f2
      go_wp2_with fail
      go_roundw
      case rel => exact ⟨k + 1, g4, c4, HK1.out, by go_num, rfl, R4, B4⟩
      case measure => have := HK1.out; simp [intOf]; omega
    · obtain rfl : k = n := by omega
      go_wp2_with fail
      exact HQ.out _ _ R.out HB.out

end Go.Proofs.YtoojimfimlpplaaGreatDoor

set_option linter.unusedVariables false
namespace Go.Proofs.YtoojimfimlpplaaGreatDoor
open Go.RowKit Go.Deep

set_option maxHeartbeats 2000000 in
set_option maxRecDepth 100000 in
theorem specL5Of (g n cap : Nat) (l : List HeadV) (w : World) (hA : AtHead w g l) (hn : n = l.length) (hm : n ≤ 20) (hok : ∀ i, i < l.length → headOkB (l.getD i default) = true) :
    Calls Tryz.prog 33 #[.slice (some ⟨g, 0, none⟩) n cap] w fun e w' => ∃ v, e = .returned v ∧ PRow w.heap.size v (ofP l n) w' ∧ Below w.heap.size w w' := by
  have HA : Hid (AtHead w g l) := hA
  have HN : Hid (n = l.length) := hn
  have HM : Hid (n ≤ 20) := hm
  have HOK : Hid (∀ i, i < l.length → headOkB (l.getD i default) = true) := hok
  have R0 : Hid (PRow w.heap.size (.slice (some ⟨w.heap.size, 0, none⟩) 0 0) [] (w.alloc (.cells #[] 31))) := frow_new pEnc 31 3 w
  have B0 : Hid (Below w.heap.size w (w.alloc (.cells #[] 31))) := (Below.refl _ w).alloc (Nat.le_refl _) _
  clear hA hn hm hok
  go_enter Tryz.func33, Tryz.ntmps33
  go_wp2_with fail
  generalize w.alloc (.cells #[] 31) = W0 at R0 B0 ⊢
  go_loopw [3, 4] (fun out i wr => ∃ (k : Nat), k ≤ n ∧ i = .int .i64 (k : Int) ∧ Hid (PRow w.heap.size out (ofP l k) wr) ∧ Hid (Below w.heap.size w wr)) (fun _ i _ => n - (intOf i).toNat)
  case atStart => exact ⟨0, by omega, rfl, R0, B0⟩
  case round =>
    clear R0 B0
    obtain ⟨k, hk, rfl, R, HB⟩ := hrel
    by_cases hlt : k < n
    · have hkl : k < l.length := by rw [← HN.out]; exact hlt
      have HAr := HA.out.below HB.out HA.out.1
      have c0 := AtHead.c0 HAr k hkl
      have c1 := AtHead.c1 HAr k hkl
      have c2 := AtHead.c2 HAr k hkl
      have c3 := AtHead.c3 HAr k hkl
      have c4 := AtHead.c4 HAr k hkl
      have lk : (k : Int) < (n : Int) := by omega
      have lk0 : (0 : Int) ≤ (k : Int) := by omega
      have wk : IntKind.i64.wrap ((k : Int) + 1) = (k : Int) + 1 := by have := HM.out; rw [IntKind.wrap_i64]; omega
      have HK1 : Hid (k + 1 ≤ n) := hlt
      have hkk := HOK.out k hkl
      obtain ⟨ho1, ho2, ho3⟩ := ofP_ok HOK.out (by rw [← HN.out]; exact HM.out) k (by omega)
      have hlf := fun w' => specL5Leaf (l.getD k default) w' hkk
      have HLK : Hid (peakOkB (leafP (l.getD k default)) = true) := fine_ok (fine_leaf hkk) (by show (1 : Int) ≤ 20; decide)
      have HL1 : Hid ((leafP (l.getD k default)).count = 1) := rfl
      have HS : Hid (ofP l (k + 1) = addP (ofP l k) (leafP (l.getD k default))) := rfl
      obtain ⟨A2, hA2⟩ : ∃ A2, A2 = ofP l (k + 1) := ⟨_, rfl⟩
      have HE : Hid (A2 = ofP l (k + 1)) := hA2
      rw [← hA2] at HS
      clear hA2
      have HPK : Hid (∀ i, i < (ofP l k).length → peakOkB ((ofP l k).getD i default) = true) := fun i hi => getD_all (C := fun q => peakOkB q = true) ho1 i hi
      have HCN : Hid (cntTo (ofP l k) (ofP l k).length = (k : Int)) := ho2
      have HLL : Hid ((ofP l k).length ≤ k) := ho3
      generalize leafP (l.getD k default) = p at hlf HLK HL1 HS
      generalize ofP l k = A at R HPK HCN HLL HS
      generalize l.getD k default = h at c0 c1 c2 c3 c4 hlf hkk
      obtain ⟨⟨g4, cc, rfl⟩, -⟩ := id R.out
      unfold headVal at hlf
      clear HAr hkk ho1 ho2 ho3
      go_wp2_with fail
      refine (hlf _).mono ?_
      rintro e w3 ⟨rfl, b3⟩
      have B3 : Hid (Below w.heap.size w w3) := HB.out.trans (b3.mono HB.out.size)
      have R3 : Hid (PRow w.heap.size (.slice (some ⟨g4, 0, none⟩) A.length cc) A w3) := R.out.below b3
      have had := specL5Add g4 A.length cc A p w3 (FRow.at pEnc_len R3.out).1 rfl (by have := HLL.out; have := HM.out; omega) HPK.out ⟨HLK.out, by rw [HL1.out, HCN.out]; have := HM.out; omega⟩
      unfold peakVal at had
      unfold peakVal
      rw [← HS.out] at had
      clear hlf b3 R HB c0 c1 c2 c3 c4 HLK HL1 HPK HCN HS
      go_wp2_with fail
      refine had.mono ?_
      rintro e w4 ⟨v, rfl, R4, b4⟩
      have B4 : Hid (Below w.heap.size w w4) := B3.out.trans (b4.mono B3.out.size)
      have R5 : Hid (PRow w.heap.size v A2 w4) := R4.mono B3.out.size
      clear had b4 B3 R3 R4
      go_wp2_with fail
      go_roundw
      case rel => exact ⟨k + 1, HK1.out, by go_num, by rw [← HE.out]; exact R5, B4⟩
      case measure => have := HK1.out; simp [intOf]; omega
    · obtain rfl : k = n := by omega
      go_wp2_with fail
      go_ret
      exact ⟨_, rfl, R.out, HB.out⟩

end Go.Proofs.YtoojimfimlpplaaGreatDoor

set_option linter.unusedVariables false
namespace Go.Proofs.YtoojimfimlpplaaGreatDoor
open Go.RowKit Go.Deep

theorem room_leaf {ps : List PeakV} {h : HeadV} (hk : headOkB h = true) (hc : cntTo ps ps.length ≤ 20) : Room ps ps.length (leafP h) := by
  refine ⟨fine_ok (fine_leaf hk) (by show (1 : Int) ≤ 20; decide), ?_⟩
  show (1 : Int) + _ ≤ 21
  omega
end Go.Proofs.YtoojimfimlpplaaGreatDoor

set_option linter.unusedVariables false
namespace Go.Proofs.YtoojimfimlpplaaGreatDoor
open Go.RowKit

def mkD : Nat → Nat → List UInt8 → List UInt8
  | 0, _, out => out
  | f + 1, k, out => if k = 0 then out else mkD f (k / 10) (UInt8.ofNat (48 + k % 10) :: out)
/-- The text of a number's mark. -/
def mkS (k : Nat) : ByteArray := if k = 0 then ⟨#[109, 48]⟩ else ⟨(109 :: mkD 19 k []).toArray⟩
theorem mkD_zero (f : Nat) (out : List UInt8) : mkD f 0 out = out := by cases f <;> simp [mkD]

end Go.Proofs.YtoojimfimlpplaaGreatDoor

set_option linter.unusedVariables false
namespace Go.Proofs.YtoojimfimlpplaaGreatDoor
open Go.RowKit Go.Deep

/-- A block of peaks that may be written. -/
def PBk (w : World) (g n : Nat) : Prop := ∃ cur : Array Value, w.heap[g]? = some (.cells cur 31 (0, 0)) ∧ n * 3 ≤ cur.size
theorem PBk.lt {w : World} {g n : Nat} (h : PBk w g n) : g < w.heap.size := by
  obtain ⟨cur, h1, _⟩ := h
  rcases Nat.lt_or_ge g w.heap.size with h' | h'
  · exact h'
  · simp [Array.getElem?_eq_none h'] at h1
theorem PBk.keep {w w' : World} {g n : Nat} (h : PBk w g n) (hk : w'.heap[g]? = w.heap[g]?) : PBk w' g n := by
  obtain ⟨cur, h1, h2⟩ := h
  exact ⟨cur, hk.trans h1, h2⟩
theorem PBk.below {w w' : World} {g n B : Nat} (h : PBk w g n) (hb : Below B w w') (hg : g < B) : PBk w' g n := h.keep (hb.block g hg)
theorem PBk.cell {w : World} {g n : Nat} (h : PBk w g n) (i : Nat) (hi : i < n * 3) : (∃ v, w.cell? ⟨g, i, none⟩ = some v) ∧ w.frozen? ⟨g, i, none⟩ = false := by
  obtain ⟨cur, h1, h2⟩ := h
  refine ⟨?_, Lib.frozen_of_heap h1 i⟩
  rw [Lib.cell_of_heap h1]
  have hic : i < cur.size := by omega
  exact ⟨cur[i], Array.getElem?_eq_getElem hic⟩
theorem PBk.set {w : World} {g n : Nat} (h : PBk w g n) (i : Nat) (v : Value) : PBk (w.setCell ⟨g, i, none⟩ v) g n := by
  obtain ⟨cur, h1, h2⟩ := h
  exact ⟨cur.setIfInBounds i v, by simp [World.setCell, Array.getElem?_modify, h1], by simpa using h2⟩
theorem PBk.of {w : World} {g : Nat} {l : List PeakV} (h : RowP w g l) : PBk w g l.length := ⟨_, h, by simp [flat_length 3 pEnc pEnc_len]⟩
theorem PBk.frow {B : Nat} {v : Value} {l : List PeakV} {w : World} (h : PRow B v l w) : ∃ g cap, v = .slice (some ⟨g, 0, none⟩) l.length cap ∧ AtP w g l ∧ PBk w g l.length ∧ B ≤ g := by
  obtain ⟨g, cap, cur, rfl, h1, h2, h3, h4, h5⟩ := h.block
  refine ⟨g, cap, rfl, (FRow.at pEnc_len h).1, ⟨cur, h3, ?_⟩, h1⟩
  have := congrArg List.length h4
  rw [List.length_take, flat_length 3 pEnc pEnc_len] at this
  rw [← Array.length_toList]
  omega
theorem cellSetOther {w : World} {g i j : Nat} {v : Value} (h : i ≠ j) : (w.setCell ⟨g, i, none⟩ v).cell? ⟨g, j, none⟩ = w.cell? ⟨g, j, none⟩ := by
  simp [World.setCell, World.cell?, Array.getElem?_modify]
  cases hh : w.heap[g]? with
  | none => simp
  | some o => cases o <;> simp [h]
theorem PBk.cellSet {w : World} {g n : Nat} (h : PBk w g n) (i : Nat) (hi : i < n * 3) (v : Value) : (w.setCell ⟨g, i, none⟩ v).cell? ⟨g, i, none⟩ = some v := by
  obtain ⟨cur, h1, h2⟩ := h
  have : (w.setCell ⟨g, i, none⟩ v).heap[g]? = some (.cells (cur.setIfInBounds i v) 31 (0, 0)) := by simp [World.setCell, Array.getElem?_modify, h1]
  rw [Lib.cell_of_heap this]
  have : i < cur.size := by omega
  simp [this]
/-- A list that holds its marks, so far. -/
def MkP (w : World) (g k n : Nat) : Prop := ∀ i, i < n → w.cell? ⟨g, i * 3, none⟩ = some (.string (mkS (k + 3 * i))) ∧ w.cell? ⟨g, i * 3 + 1, none⟩ = some (.int .i64 (((k + 3 * i : Nat) : Int) + 1)) ∧ w.cell? ⟨g, i * 3 + 2, none⟩ = some (.int .i64 (((k + 3 * i : Nat) : Int) + 1 + 1))
theorem MkP.below {w w' : World} {g k n B : Nat} (h : MkP w g k n) (hb : Below B w w') (hg : g < B) : MkP w' g k n := fun i hi =>
  ⟨(hb.cell (p := ⟨g, i * 3, none⟩) hg).trans (h i hi).1, (hb.cell (p := ⟨g, i * 3 + 1, none⟩) hg).trans (h i hi).2.1, (hb.cell (p := ⟨g, i * 3 + 2, none⟩) hg).trans (h i hi).2.2⟩
theorem MkP.step {w : World} {g k j n : Nat} (h : MkP w g k j) (hb : PBk w g n) (hj : j < n) : MkP (((w.setCell ⟨g, j * 3, none⟩ (.string (mkS (k + 3 * j)))).setCell ⟨g, j * 3 + 1, none⟩ (.int .i64 (((k + 3 * j : Nat) : Int) + 1))).setCell ⟨g, j * 3 + 2, none⟩ (.int .i64 (((k + 3 * j : Nat) : Int) + 1 + 1))) g k (j + 1) := by
  intro i hi
  rcases Nat.lt_or_ge i j with h' | h'
  · obtain ⟨h1, h2, h3⟩ := h i h'
    refine ⟨?_, ?_, ?_⟩
    · rw [cellSetOther (by omega), cellSetOther (by omega), cellSetOther (by omega)]; exact h1
    · rw [cellSetOther (by omega), cellSetOther (by omega), cellSetOther (by omega)]; exact h2
    · rw [cellSetOther (by omega), cellSetOther (by omega), cellSetOther (by omega)]; exact h3
  · obtain rfl : i = j := by omega
    refine ⟨?_, ?_, ?_⟩
    · rw [cellSetOther (by omega), cellSetOther (by omega)]; exact hb.cellSet _ (by omega) _
    · rw [cellSetOther (by omega)]; exact (hb.set _ _).cellSet _ (by omega) _
    · exact ((hb.set _ _).set _ _).cellSet _ (by omega) _
/-- What writing marks leaves. -/
def MPPost (g n k : Nat) (w : World) (e : Ending) (w' : World) : Prop := e = .returned (.int .i64 ((k + 3 * n : Nat) : Int)) ∧ MkP w' g k n ∧ (∀ c, c < w.heap.size → c ≠ g → w'.heap[c]? = w.heap[c]?) ∧ Below 0 w w' ∧ PBk w' g n
theorem setOff {w wr : World} {g j : Nat} {v : Value} (h : ∀ c, c < w.heap.size → c ≠ g → wr.heap[c]? = w.heap[c]?) : ∀ c, c < w.heap.size → c ≠ g → (wr.setCell ⟨g, j, none⟩ v).heap[c]? = w.heap[c]? := fun c hc hne => by
  rw [← h c hc hne]
  simp [World.setCell, Array.getElem?_modify, Ne.symm hne]
/-- A list of peaks that was handed back: nothing, or a row that stands in a block of its own. -/
def Pks (B : Nat) (v : Value) (l : List PeakV) (w : World) : Prop := (v = .slice none 0 0 ∧ l = []) ∨ ∃ g cap, v = .slice (some ⟨g, 0, none⟩) l.length cap ∧ AtP w g l ∧ PBk w g l.length ∧ B ≤ g
theorem Pks.below {B : Nat} {v : Value} {l : List PeakV} {w w' : World} (h : Pks B v l w) (hb : Below w.heap.size w w') : Pks B v l w' := by
  rcases h with h | ⟨g, cap, h1, h2, h3, h4⟩
  · exact .inl h
  · exact .inr ⟨g, cap, h1, h2.below hb h2.1, h3.below hb h3.lt, h4⟩
theorem Pks.mono {B C : Nat} {v : Value} {l : List PeakV} {w : World} (h : Pks B v l w) (hc : C ≤ B) : Pks C v l w := by
  rcases h with h | ⟨g, cap, h1, h2, h3, h4⟩
  · exact .inl h
  · exact .inr ⟨g, cap, h1, h2, h3, Nat.le_trans hc h4⟩
/-- The block of a value that is a row. -/
def blkOf : Value → Nat → Prop
  | .slice (some a) _ _, g => a.block = g
  | _, _ => False
theorem Pks.blk {B : Nat} {v : Value} {l : List PeakV} {w : World} (h : Pks B v l w) {g : Nat} (hv : blkOf v g) : g < w.heap.size ∧ B ≤ g := by
  rcases h with ⟨rfl, _⟩ | ⟨g', c', rfl, h2, _, h4⟩
  · exact absurd hv (by simp [blkOf])
  · have : g' = g := hv
    subst this
    exact ⟨h2.1, h4⟩
theorem Pks.keep {B : Nat} {v : Value} {l : List PeakV} {w w' : World} (h : Pks B v l w) (hs : w.heap.size ≤ w'.heap.size) (hk : ∀ g, blkOf v g → w'.heap[g]? = w.heap[g]?) : Pks B v l w' := by
  rcases h with h | ⟨g, cap, rfl, h2, h3, h4⟩
  · exact .inl h
  · refine .inr ⟨g, cap, rfl, ⟨Nat.lt_of_lt_of_le h2.1 hs, fun i j hi hj => ?_⟩, h3.keep (hk g rfl), h4⟩
    have := h2.2 i j hi hj
    rw [← this]
    exact World.cell?_of_block (a := ⟨g, i * 3 + j, none⟩) (hk g rfl)
/-- A list of peaks that holds its marks. -/
def HeldP (v : Value) (n : Nat) (w : World) : Prop := (v = .slice none 0 0 ∧ n = 0) ∨ ∃ g cap, v = .slice (some ⟨g, 0, none⟩) n cap ∧ g < w.heap.size ∧ MkP w g 1 n
theorem HeldP.below {v : Value} {n : Nat} {w w' : World} (h : HeldP v n w) (hb : Below w.heap.size w w') : HeldP v n w' := by
  rcases h with h | ⟨g, cap, h1, h2, h3⟩
  · exact .inl h
  · exact .inr ⟨g, cap, h1, Nat.lt_of_lt_of_le h2 hb.size, h3.below hb h2⟩
end Go.Proofs.YtoojimfimlpplaaGreatDoor

set_option linter.unusedVariables false
namespace Go.Proofs.YtoojimfimlpplaaGreatDoor
open Go.RowKit Go.Deep

/-- Whether heads can be those of a range. -/
def headsB (l : List HeadV) : Bool := decide (l.length ≤ 20) && l.all headOkB
theorem heads_at {l : List HeadV} (h : headsB l = true) (i : Nat) (hi : i < l.length) : headOkB (l.getD i default) = true := by
  rw [headsB, Bool.and_eq_true, List.all_eq_true] at h
  rw [List.getD_eq_getElem?_getD, List.getElem?_eq_getElem hi]
  exact h.2 _ (List.getElem_mem hi)
theorem heads_len {l : List HeadV} (h : headsB l = true) : l.length ≤ 20 := by
  rw [headsB, Bool.and_eq_true, decide_eq_true_eq] at h
  exact h.1
theorem heads_long {l : List HeadV} (h : ¬ l.length ≤ 20) : headsB l = false := by rw [headsB, decide_eq_false h]; rfl
theorem heads_bad {l : List HeadV} {i : Nat} (hi : i < l.length) (h : headOkB (l.getD i default) = false) : headsB l = false := by
  cases hs : headsB l with
  | false => rfl
  | true => rw [heads_at hs i hi] at h; cases h
theorem heads_good {l : List HeadV} (h8 : l.length ≤ 20) (h : ∀ i, i < l.length → headOkB (l.getD i default) = true) : headsB l = true := by
  rw [headsB, decide_eq_true h8, Bool.true_and, List.all_eq_true]
  intro q hq
  obtain ⟨j, hj, rfl⟩ := List.mem_iff_getElem.1 hq
  have := h j hj
  rwa [List.getD_eq_getElem?_getD, List.getElem?_eq_getElem hj] at this
/-- The peaks that RangeOf tells. -/
def ofL (l : List HeadV) : List PeakV := if headsB l = true then ofP l l.length else []
theorem ofL_len (l : List HeadV) : (ofL l).length ≤ 20 := by
  unfold ofL
  split
  · rename_i h
    have h1 := heads_len h
    have h2 := (ofP_ok (heads_at h) h1 l.length (Nat.le_refl _)).2.2
    omega
  · exact Nat.zero_le _

set_option maxHeartbeats 2000000 in
set_option maxRecDepth 100000 in
theorem implRangeHeadsOk (g n cap : Nat) (l : List HeadV) (w : World) (hA : AtHead w g l) (hn : n = l.length) (hm : n ≤ 1048576) :
    Calls Tryz.prog 15 #[.slice (some ⟨g, 0, none⟩) n cap] w fun e w' => e = .returned (.bool (headsB l)) ∧ Below w.heap.size w w' := by
  by_cases h20 : n ≤ 20
  · have HA : Hid (AtHead w g l) := hA
    have HN : Hid (n = l.length) := hn
    have HBAD : Hid (∀ k, k < n → headOkB (l.getD k default) = false → headsB l = false) := fun k hk he => heads_bad (by omega) he
    have HGOO : Hid ((∀ k, k < n → headOkB (l.getD k default) = true) → headsB l = true) := fun hf => heads_good (by omega) (fun i hi => hf i (by omega))
    generalize headsB l = R at HBAD HGOO ⊢
    have h21 : ¬ (20 : Int) < (n : Int) := by omega
    clear hA hn
    go_enter Tryz.func15, Tryz.ntmps15
    go_wp2_with fail
    go_loopw [10] (fun i wr => ∃ k : Nat, k ≤ n ∧ i = .int .i64 (k : Int) ∧ Hid (Below w.heap.size w wr) ∧ Hid (∀ j, j < k → headOkB (l.getD j default) = true)) (fun i _ => n - (intOf i).toNat)
    case atStart => exact ⟨0, by omega, rfl, Below.refl _ _, fun j hj => by omega⟩
    case round =>
      obtain ⟨k, hk, rfl, HB, HQ⟩ := hrel
      by_cases hlt : k < n
      · have hkl : k < l.length := by rw [← HN.out]; exact hlt
        have HAr := HA.out.below HB.out HA.out.1
        have c0 := AtHead.c0 HAr k hkl
        have c1 := AtHead.c1 HAr k hkl
        have c2 := AtHead.c2 HAr k hkl
        have c3 := AtHead.c3 HAr k hkl
        have c4 := AtHead.c4 HAr k hkl
        have lk : (k : Int) < (n : Int) := by omega
        have lk0 : (0 : Int) ≤ (k : Int) := by omega
        have wk : IntKind.i64.wrap ((k : Int) + 1) = (k : Int) + 1 := by rw [IntKind.wrap_i64]; omega
        have HK1 : Hid (k + 1 ≤ n) := hlt
        have HH : Hid (headOkB (l.getD k default) = false → R = false) := HBAD.out k hlt
        have HQ2 : Hid (headOkB (l.getD k default) = true → ∀ j, j < k + 1 → headOkB (l.getD j default) = true) := by
          intro h j hj
          rcases Nat.lt_or_ge j k with h' | h'
          · exact HQ.out j h'
          · obtain rfl : j = k := by omega
            exact h
        have hho := fun w' => implHeadOk (l.getD k default) w'
        clear HQ HBAD HGOO hkl HAr
        generalize headOkB (l.getD k default) = ok at hho HH HQ2
        generalize l.getD k default = h at c0 c1 c2 c3 c4 hho
        have L0 : Hid (Below wr.heap.size wr (wr.alloc (.cells #[.string h.prev, .string h.root, .int .i64 h.time, .int .i64 h.diff, .int .i64 h.nonce] 33))) := (Below.refl _ wr).alloc (Nat.le_refl _) _
        cases ok with
        | false =>
          have HV : Hid (R = false) := HH.out rfl
          clear HH HQ2
          go_wp2_with fail
          refine (hho _).mono ?_
          rintro e w1 ⟨rfl, b1⟩
          have HB1 : Hid (Below w.heap.size w w1) := HB.out.trans ((L0.out.trans (b1.mono L0.out.size)).mono HB.out.size)
          clear b1
          go_wp2_with fail
          go_ret
          exact ⟨by rw [HV.out]; rfl, HB1.out⟩
        | true =>
          have HQ3 : Hid (∀ j, j < k + 1 → headOkB (l.getD j default) = true) := HQ2.out rfl
          clear HH HQ2
          go_wp2_with fail
          refine (hho _).mono ?_
          rintro e w1 ⟨rfl, b1⟩
          have HB1 : Hid (Below w.heap.size w w1) := HB.out.trans ((L0.out.trans (b1.mono L0.out.size)).mono HB.out.size)
          clear b1
          go_wp2_with fail
          go_roundw
          case rel => exact ⟨k + 1, HK1.out, by go_num, HB1, HQ3⟩
          case measure => have := HK1.out; simp [intOf]; omega
      · obtain rfl : k = n := by omega
        have HV : Hid (R = true) := HGOO.out HQ.out
        clear HBAD HGOO HQ
        go_wp2_with fail
        go_ret
        exact ⟨by rw [HV.out]; rfl, HB.out⟩
  · have HV : Hid (headsB l = false) := heads_long (by omega)
    generalize headsB l = R at HV ⊢
    have h21 : (20 : Int) < (n : Int) := by omega
    clear hA hn
    go_enter Tryz.func15, Tryz.ntmps15
    go_wp2_with fail
    go_ret
    exact ⟨by rw [HV.out]; rfl, Below.refl _ _⟩

set_option maxHeartbeats 2000000 in
set_option maxRecDepth 100000 in
theorem specL5Heads (g n cap : Nat) (l : List HeadV) (w : World) (hA : AtHead w g l) (hn : n = l.length) (hm : n ≤ 1048576) (hz : ∀ i, i < l.length → (l.getD i default).prev.size ≤ maxLen ∧ (l.getD i default).root.size ≤ maxLen) :
    Calls Tryz.prog 17 #[.slice (some ⟨g, 0, none⟩) n cap] w fun e w' => e = .returned (.bool (headsB l)) ∧ Below w.heap.size w w' := by
  have HA : Hid (AtHead w g l) := hA
  have HN : Hid (n = l.length) := hn
  have HZ : Hid (∀ i, i < l.length → (l.getD i default).prev.size ≤ maxLen ∧ (l.getD i default).root.size ≤ maxLen) := hz
  have HBAD : Hid (∀ k, k < n → headOkB (l.getD k default) = false → headsB l = false) := fun k hk he => heads_bad (by omega) he
  have HEND : Hid ((∀ k, k < n → headOkB (l.getD k default) = true) → headsB l = decide ((n : Int) ≤ 20)) := fun hf => by
    by_cases h20 : l.length ≤ 20
    · rw [heads_good h20 (fun i hi => hf i (by omega)), decide_eq_true (by omega)]
    · rw [heads_long h20, decide_eq_false (by omega)]
  generalize headsB l = R at HBAD HEND ⊢
  clear hA hn hz
  go_enter Tryz.func17, Tryz.ntmps17
  go_wp2_with fail
  go_loopw [3] (fun i wr => ∃ k : Nat, k ≤ n ∧ i = .int .i64 (k : Int) ∧ Hid (Below w.heap.size w wr) ∧ Hid (∀ j, j < k → headOkB (l.getD j default) = true)) (fun i _ => n - (intOf i).toNat)
  case atStart => exact ⟨0, by omega, rfl, Below.refl _ _, fun j hj => by omega⟩
  case round =>
    obtain ⟨k, hk, rfl, HB, HQ⟩ := hrel
    by_cases hlt : k < n
    · have hkl : k < l.length := by rw [← HN.out]; exact hlt
      have HAr := HA.out.below HB.out HA.out.1
      have c0 := AtHead.c0 HAr k hkl
      have c1 := AtHead.c1 HAr k hkl
      have c2 := AtHead.c2 HAr k hkl
      have c3 := AtHead.c3 HAr k hkl
      have c4 := AtHead.c4 HAr k hkl
      have lk : (k : Int) < (n : Int) := by omega
      have lk0 : (0 : Int) ≤ (k : Int) := by omega
      have wk : IntKind.i64.wrap ((k : Int) + 1) = (k : Int) + 1 := by rw [IntKind.wrap_i64]; omega
      have HK1 : Hid (k + 1 ≤ n) := hlt
      have HH : Hid (headOkB (l.getD k default) = false → R = false) := HBAD.out k hlt
      have HQ2 : Hid (headOkB (l.getD k default) = true → ∀ j, j < k + 1 → headOkB (l.getD j default) = true) := by
        intro h j hj
        rcases Nat.lt_or_ge j k with h' | h'
        · exact HQ.out j h'
        · obtain rfl : j = k := by omega
          exact h
      have hho := fun w' => specL3Ok (l.getD k default) w' (HZ.out k hkl).1 (HZ.out k hkl).2
      clear HQ HBAD HEND hkl HAr
      generalize headOkB (l.getD k default) = ok at hho HH HQ2
      generalize l.getD k default = h at c0 c1 c2 c3 c4 hho
      cases ok with
      | false =>
        have HV : Hid (R = false) := HH.out rfl
        clear HH HQ2
        go_wp2_with fail
        refine (hho _).mono ?_
        rintro e w1 ⟨rfl, b1⟩
        have HB1 : Hid (Below w.heap.size w w1) := HB.out.trans (b1.mono HB.out.size)
        clear b1
        go_wp2_with fail
        go_ret
        exact ⟨by rw [HV.out]; rfl, HB1.out⟩
      | true =>
        have HQ3 : Hid (∀ j, j < k + 1 → headOkB (l.getD j default) = true) := HQ2.out rfl
        clear HH HQ2
        go_wp2_with fail
        refine (hho _).mono ?_
        rintro e w1 ⟨rfl, b1⟩
        have HB1 : Hid (Below w.heap.size w w1) := HB.out.trans (b1.mono HB.out.size)
        clear b1
        go_wp2_with fail
        go_roundw
        case rel => exact ⟨k + 1, HK1.out, by go_num, HB1, HQ3⟩
        case measure => have := HK1.out; simp [intOf]; omega
    · obtain rfl : k = n := by omega
      have HV : Hid (R = decide ((k : Int) ≤ 20)) := HEND.out HQ.out
      clear HBAD HEND HQ
      by_cases h20 : (k : Int) ≤ 20
      · have HV2 : Hid (R = true) := by show _ = _; rw [HV.out, decide_eq_true h20]
        clear HV
        go_wp2_with fail
        go_ret
        exact ⟨by rw [HV2.out]; rfl, HB.out⟩
      · have HV2 : Hid (R = false) := by show _ = _; rw [HV.out, decide_eq_false h20]
        clear HV
        go_wp2_with fail
        go_ret
        exact ⟨by rw [HV2.out]; rfl, HB.out⟩

def RofPost (l : List HeadV) (w : World) (e : Ending) (w' : World) : Prop := ∃ v, e = .returned v ∧ Pks w.heap.size v (ofL l) w' ∧ Below w.heap.size w w'
theorem of_no {l : List HeadV} {w w' : World} (h : headsB l = false) (hb : Below w.heap.size w w') : RofPost l w (.returned (.slice none 0 0)) w' := ⟨_, rfl, .inl ⟨rfl, by rw [ofL, h]; rfl⟩, hb⟩
theorem of_yes {l : List HeadV} {w w' : World} {v : Value} (h : headsB l = true) (hr : PRow w.heap.size v (ofP l l.length) w') (hb : Below w.heap.size w w') : RofPost l w (.returned v) w' := ⟨_, rfl, .inr (by rw [ofL, if_pos h]; exact PBk.frow hr), hb⟩

set_option maxHeartbeats 4000000 in
set_option maxRecDepth 100000 in
theorem implRangeOf (g n cap : Nat) (l : List HeadV) (w : World) (hA : AtHead w g l) (hn : n = l.length) (hm : n ≤ 1048576) (hK : RowG w shaK) (hP : TabP w) :
    Calls Tryz.prog 9 #[.slice (some ⟨g, 0, none⟩) n cap] w fun e w' => RofPost l w e w' := by
  have hhs := implRangeHeadsOk g n cap l w hA hn hm
  have HA : Hid (AtHead w g l) := hA
  have HN : Hid (n = l.length) := hn
  have HNO : Hid (∀ w', headsB l = false → Below w.heap.size w w' → RofPost l w (.returned (.slice none 0 0)) w') := fun w' h1 h2 => of_no h1 h2
  have HYES : Hid (∀ w' v, headsB l = true → PRow w.heap.size v (ofP l n) w' → Below w.heap.size w w' → RofPost l w (.returned v) w') := fun w' v h1 h2 h3 => of_yes h1 (by rw [← hn]; exact h2) h3
  generalize RofPost l w = Q at HNO HYES ⊢
  cases hk : headsB l with
  | false =>
    have HV : Hid (∀ w', Below w.heap.size w w' → Q (.returned (.slice none 0 0)) w') := fun w' h => HNO.out w' hk h
    rw [hk] at hhs
    clear HNO HYES hA hn hK hP
    go_enter Tryz.func9, Tryz.ntmps9
    go_wp2_with fail
    refine hhs.mono ?_
    rintro e w1 ⟨rfl, b1⟩
    go_wp2_with fail
    exact HV.out _ b1
  | true =>
  have HV : Hid (∀ w' v, PRow w.heap.size v (ofP l n) w' → Below w.heap.size w w' → Q (.returned v) w') := fun w' v h2 h3 => HYES.out w' v hk h2 h3
  have HM : Hid (n ≤ 20) := by show _ ≤ _; have := heads_len hk; omega
  have HPU : Hid (∀ k, k < n → ∀ (w' : World) (g4 : Nat), Stk w w' g4 (ofP l k) → Calls Tryz.prog 21 #[.pointer (some ⟨g4, 0, none⟩), peakVal (leafP (l.getD k default))] w' fun e w'' => PushRes w g4 (ofP l (k + 1)) e w'') := fun k hkn w' g4 hs => by
    obtain ⟨h1, h2, h3⟩ := ofP_ok (heads_at hk) (heads_len hk) k (by omega)
    have hh := heads_at hk k (by omega)
    exact implPush w g4 (ofP l k) _ w' hs (by have := heads_len hk; omega) (fun i hi => getD_all (C := fun q => peakOkB q = true) h1 i hi) (room_leaf hh (by rw [h2]; have := heads_len hk; omega)) hK hP
  have HPH : Hid (∀ k, k < n → ∀ (w' : World), Below w.heap.size w w' → Calls Tryz.prog 22 #[headVal (l.getD k default)] w' fun e w'' => e = .returned (peakVal (leafP (l.getD k default))) ∧ Below w'.heap.size w' w'') := fun k hkn w' hb => implPeakHead _ w' (heads_at hk k (by omega)) (hK.below hb hK.lt) (TabP.below hP hb (Nat.le_refl _))
  rw [hk] at hhs
  clear HNO HYES hA hn hK hP hk
  unfold headVal at HPH
  unfold peakVal at HPH HPU
  go_enter Tryz.func9, Tryz.ntmps9
  go_wp2_with fail
  refine hhs.mono ?_
  rintro e w1 ⟨rfl, b1⟩
  have B1 : Hid (Below w.heap.size w w1) := b1
  clear b1 hhs
  go_wp2_with fail
  refine Calls.mono (implPeakStackNil w1) ?_
  rintro e w2 ⟨g4, rfl, hs2⟩
  have S2 : Hid (Stk w w2 g4 (ofP l 0)) := hs2.lower B1.out
  clear hs2 B1
  go_wp2_with fail
  go_loopw [12] (fun i wr => ∃ k : Nat, k ≤ n ∧ i = .int .i64 (k : Int) ∧ Hid (Stk w wr g4 (ofP l k))) (fun i _ => n - (intOf i).toNat)
  case atStart => exact ⟨0, by omega, rfl, S2⟩
  case round =>
    clear S2
    obtain ⟨k, hk, rfl, SK⟩ := hrel
    by_cases hlt : k < n
    · have hkl : k < l.length := by rw [← HN.out]; exact hlt
      have HAr := HA.out.below SK.out.b HA.out.1
      have c0 := AtHead.c0 HAr k hkl
      have c1 := AtHead.c1 HAr k hkl
      have c2 := AtHead.c2 HAr k hkl
      have c3 := AtHead.c3 HAr k hkl
      have c4 := AtHead.c4 HAr k hkl
      have lk : (k : Int) < (n : Int) := by omega
      have lk0 : (0 : Int) ≤ (k : Int) := by omega
      have wk : IntKind.i64.wrap ((k : Int) + 1) = (k : Int) + 1 := by have := HM.out; rw [IntKind.wrap_i64]; omega
      have HK1 : Hid (k + 1 ≤ n) := hlt
      have HPUk := HPU.out k hlt
      have HPHk := HPH.out k hlt
      have HPUk : Hid _ := HPUk
      have HPHk : Hid _ := HPHk
      clear hkl HAr
      generalize leafP (l.getD k default) = p at HPUk HPHk
      generalize l.getD k default = h at c0 c1 c2 c3 c4 HPHk
      have L0 : Hid (Below wr.heap.size wr (wr.alloc (.cells #[.string h.prev, .string h.root, .int .i64 h.time, .int .i64 h.diff, .int .i64 h.nonce] 33))) := (Below.refl _ wr).alloc (Nat.le_refl _) _
      have SA : Hid (Stk w (wr.alloc (.cells #[.string h.prev, .string h.root, .int .i64 h.time, .int .i64 h.diff, .int .i64 h.nonce] 33)) g4 (ofP l k)) := SK.out.call L0.out
      have hph := HPHk.out _ SA.out.b
      clear SK HPHk
      go_wp2_with fail
      refine hph.mono ?_
      rintro e w3 ⟨rfl, b3⟩
      have S3 : Hid (Stk w w3 g4 (ofP l k)) := SA.out.call b3
      have hpu := HPUk.out _ _ S3.out
      clear SA b3 hph HPUk c0 c1 c2 c3 c4 L0
      go_wp2_with fail
      refine Calls.mono hpu ?_
      rintro e w4 ⟨rfl, hs4⟩
      have S4 : Hid (Stk w w4 g4 (ofP l (k + 1))) := hs4
      clear hs4 hpu S3
      go_wp2_with fail
      go_roundw
      case rel => exact ⟨k + 1, HK1.out, by go_num, S4⟩
      case measure => have := HK1.out; simp [intOf]; omega
    · obtain rfl : k = n := by omega
      obtain ⟨r, c, M, hw⟩ := id SK.out
      have SW : Hid (StkW w wr g4 r c M (ofP l k)) := hw
      clear hw SK HPU HPH
      obtain ⟨a0, a1, a2⟩ := SW.out.outs
      go_wp2_with fail
      exact HV.out _ _ SW.out.frow SW.out.b

end Go.Proofs.YtoojimfimlpplaaGreatDoor

set_option linter.unusedVariables false
namespace Go.Proofs.YtoojimfimlpplaaGreatDoor
open Go.RowKit Go.Deep

/-- Heads, so many cells behind where a block begins. -/
def AtHO (w : World) (g o : Nat) (l : List HeadV) : Prop := g < w.heap.size ∧ ∀ i c, i < l.length → c < 5 → w.cell? ⟨g, o + i * 5 + c, none⟩ = (enHead (l.getD i default))[c]?
theorem AtHO.below {w w' : World} {g o k : Nat} {l : List HeadV} (h : AtHO w g o l) (hb : Below k w w') (hk : g < k) : AtHO w' g o l :=
  ⟨Nat.lt_of_lt_of_le h.1 hb.size, fun i c hi hc => (hb.cell (p := ⟨g, o + i * 5 + c, none⟩) hk).trans (h.2 i c hi hc)⟩
theorem AtHO.of {w : World} {g : Nat} {l : List HeadV} (h : AtHead w g l) (a m : Nat) (hm : a + m ≤ l.length) : AtHO w g (a * 5) ((l.drop a).take m) := by
  refine ⟨h.1, fun i c hi hc => ?_⟩
  have hi2 : i < m := by rw [List.length_take] at hi; omega
  have e : ((l.drop a).take m).getD i default = l.getD (a + i) default := by
    rw [List.getD_eq_getElem?_getD, List.getElem?_take_of_lt hi2, List.getElem?_drop, ← List.getD_eq_getElem?_getD]
  rw [e, show a * 5 + i * 5 + c = (a + i) * 5 + c from by omega]
  exact h.2 (a + i) c (by omega) hc
theorem AtHO.c0 {w : World} {g o : Nat} {l : List HeadV} (h : AtHO w g o l) (i : Nat) (hi : i < l.length) : w.cell? ⟨g, o + i * 5, none⟩ = some (.string (l.getD i default).prev) := h.2 i 0 hi (by decide)
theorem AtHO.c1 {w : World} {g o : Nat} {l : List HeadV} (h : AtHO w g o l) (i : Nat) (hi : i < l.length) : w.cell? ⟨g, o + i * 5 + 1, none⟩ = some (.string (l.getD i default).root) := h.2 i 1 hi (by decide)
theorem AtHO.c2 {w : World} {g o : Nat} {l : List HeadV} (h : AtHO w g o l) (i : Nat) (hi : i < l.length) : w.cell? ⟨g, o + i * 5 + 2, none⟩ = some (.int .i64 (l.getD i default).time) := h.2 i 2 hi (by decide)
theorem AtHO.c3 {w : World} {g o : Nat} {l : List HeadV} (h : AtHO w g o l) (i : Nat) (hi : i < l.length) : w.cell? ⟨g, o + i * 5 + 3, none⟩ = some (.int .i64 (l.getD i default).diff) := h.2 i 3 hi (by decide)
theorem AtHO.c4 {w : World} {g o : Nat} {l : List HeadV} (h : AtHO w g o l) (i : Nat) (hi : i < l.length) : w.cell? ⟨g, o + i * 5 + 4, none⟩ = some (.int .i64 (l.getD i default).nonce) := h.2 i 4 hi (by decide)

set_option maxHeartbeats 2000000 in
set_option maxRecDepth 100000 in
theorem implRangeHeadsOkO (g o n cap : Nat) (l : List HeadV) (w : World) (hA : AtHO w g o l) (hn : n = l.length) (hm : n ≤ 1048576) :
    Calls Tryz.prog 15 #[.slice (some ⟨g, o, none⟩) n cap] w fun e w' => e = .returned (.bool (headsB l)) ∧ Below w.heap.size w w' := by
  by_cases h20 : n ≤ 20
  · have HA : Hid (AtHO w g o l) := hA
    have HN : Hid (n = l.length) := hn
    have HBAD : Hid (∀ k, k < n → headOkB (l.getD k default) = false → headsB l = false) := fun k hk he => heads_bad (by omega) he
    have HGOO : Hid ((∀ k, k < n → headOkB (l.getD k default) = true) → headsB l = true) := fun hf => heads_good (by omega) (fun i hi => hf i (by omega))
    generalize headsB l = R at HBAD HGOO ⊢
    have h21 : ¬ (20 : Int) < (n : Int) := by omega
    clear hA hn
    go_enter Tryz.func15, Tryz.ntmps15
    go_wp2_with fail
    go_loopw [10] (fun i wr => ∃ k : Nat, k ≤ n ∧ i = .int .i64 (k : Int) ∧ Hid (Below w.heap.size w wr) ∧ Hid (∀ j, j < k → headOkB (l.getD j default) = true)) (fun i _ => n - (intOf i).toNat)
    case atStart => exact ⟨0, by omega, rfl, Below.refl _ _, fun j hj => by omega⟩
    case round =>
      obtain ⟨k, hk, rfl, HB, HQ⟩ := hrel
      by_cases hlt : k < n
      · have hkl : k < l.length := by rw [← HN.out]; exact hlt
        have HAr := HA.out.below HB.out HA.out.1
        have c0 := AtHO.c0 HAr k hkl
        have c1 := AtHO.c1 HAr k hkl
        have c2 := AtHO.c2 HAr k hkl
        have c3 := AtHO.c3 HAr k hkl
        have c4 := AtHO.c4 HAr k hkl
        have lk : (k : Int) < (n : Int) := by omega
        have lk0 : (0 : Int) ≤ (k : Int) := by omega
        have wk : IntKind.i64.wrap ((k : Int) + 1) = (k : Int) + 1 := by rw [IntKind.wrap_i64]; omega
        have HK1 : Hid (k + 1 ≤ n) := hlt
        have HH : Hid (headOkB (l.getD k default) = false → R = false) := HBAD.out k hlt
        have HQ2 : Hid (headOkB (l.getD k default) = true → ∀ j, j < k + 1 → headOkB (l.getD j default) = true) := by
          intro h j hj
          rcases Nat.lt_or_ge j k with h' | h'
          · exact HQ.out j h'
          · obtain rfl : j = k := by omega
            exact h
        have hho := fun w' => implHeadOk (l.getD k default) w'
        clear HQ HBAD HGOO hkl HAr
        generalize headOkB (l.getD k default) = ok at hho HH HQ2
        generalize l.getD k default = h at c0 c1 c2 c3 c4 hho
        have L0 : Hid (Below wr.heap.size wr (wr.alloc (.cells #[.string h.prev, .string h.root, .int .i64 h.time, .int .i64 h.diff, .int .i64 h.nonce] 33))) := (Below.refl _ wr).alloc (Nat.le_refl _) _
        cases ok with
        | false =>
          have HV : Hid (R = false) := HH.out rfl
          clear HH HQ2
          go_wp2_with fail
          refine (hho _).mono ?_
          rintro e w1 ⟨rfl, b1⟩
          have HB1 : Hid (Below w.heap.size w w1) := HB.out.trans ((L0.out.trans (b1.mono L0.out.size)).mono HB.out.size)
          clear b1
          go_wp2_with fail
          go_ret
          exact ⟨by rw [HV.out]; rfl, HB1.out⟩
        | true =>
          have HQ3 : Hid (∀ j, j < k + 1 → headOkB (l.getD j default) = true) := HQ2.out rfl
          clear HH HQ2
          go_wp2_with fail
          refine (hho _).mono ?_
          rintro e w1 ⟨rfl, b1⟩
          have HB1 : Hid (Below w.heap.size w w1) := HB.out.trans ((L0.out.trans (b1.mono L0.out.size)).mono HB.out.size)
          clear b1
          go_wp2_with fail
          go_roundw
          case rel => exact ⟨k + 1, HK1.out, by go_num, HB1, HQ3⟩
          case measure => have := HK1.out; simp [intOf]; omega
      · obtain rfl : k = n := by omega
        have HV : Hid (R = true) := HGOO.out HQ.out
        clear HBAD HGOO HQ
        go_wp2_with fail
        go_ret
        exact ⟨by rw [HV.out]; rfl, HB.out⟩
  · have HV : Hid (headsB l = false) := heads_long (by omega)
    generalize headsB l = R at HV ⊢
    have h21 : (20 : Int) < (n : Int) := by omega
    clear hA hn
    go_enter Tryz.func15, Tryz.ntmps15
    go_wp2_with fail
    go_ret
    exact ⟨by rw [HV.out]; rfl, Below.refl _ _⟩

set_option maxHeartbeats 4000000 in
set_option maxRecDepth 100000 in
theorem implRangeOfO (g o n cap : Nat) (l : List HeadV) (w : World) (hA : AtHO w g o l) (hn : n = l.length) (hm : n ≤ 1048576) (hK : RowG w shaK) (hP : TabP w) :
    Calls Tryz.prog 9 #[.slice (some ⟨g, o, none⟩) n cap] w fun e w' => RofPost l w e w' := by
  have hhs := implRangeHeadsOkO g o n cap l w hA hn hm
  have HA : Hid (AtHO w g o l) := hA
  have HN : Hid (n = l.length) := hn
  have HNO : Hid (∀ w', headsB l = false → Below w.heap.size w w' → RofPost l w (.returned (.slice none 0 0)) w') := fun w' h1 h2 => of_no h1 h2
  have HYES : Hid (∀ w' v, headsB l = true → PRow w.heap.size v (ofP l n) w' → Below w.heap.size w w' → RofPost l w (.returned v) w') := fun w' v h1 h2 h3 => of_yes h1 (by rw [← hn]; exact h2) h3
  generalize RofPost l w = Q at HNO HYES ⊢
  cases hk : headsB l with
  | false =>
    have HV : Hid (∀ w', Below w.heap.size w w' → Q (.returned (.slice none 0 0)) w') := fun w' h => HNO.out w' hk h
    rw [hk] at hhs
    clear HNO HYES hA hn hK hP
    go_enter Tryz.func9, Tryz.ntmps9
    go_wp2_with fail
    refine hhs.mono ?_
    rintro e w1 ⟨rfl, b1⟩
    go_wp2_with fail
    exact HV.out _ b1
  | true =>
  have HV : Hid (∀ w' v, PRow w.heap.size v (ofP l n) w' → Below w.heap.size w w' → Q (.returned v) w') := fun w' v h2 h3 => HYES.out w' v hk h2 h3
  have HM : Hid (n ≤ 20) := by show _ ≤ _; have := heads_len hk; omega
  have HPU : Hid (∀ k, k < n → ∀ (w' : World) (g4 : Nat), Stk w w' g4 (ofP l k) → Calls Tryz.prog 21 #[.pointer (some ⟨g4, 0, none⟩), peakVal (leafP (l.getD k default))] w' fun e w'' => PushRes w g4 (ofP l (k + 1)) e w'') := fun k hkn w' g4 hs => by
    obtain ⟨h1, h2, h3⟩ := ofP_ok (heads_at hk) (heads_len hk) k (by omega)
    have hh := heads_at hk k (by omega)
    exact implPush w g4 (ofP l k) _ w' hs (by have := heads_len hk; omega) (fun i hi => getD_all (C := fun q => peakOkB q = true) h1 i hi) (room_leaf hh (by rw [h2]; have := heads_len hk; omega)) hK hP
  have HPH : Hid (∀ k, k < n → ∀ (w' : World), Below w.heap.size w w' → Calls Tryz.prog 22 #[headVal (l.getD k default)] w' fun e w'' => e = .returned (peakVal (leafP (l.getD k default))) ∧ Below w'.heap.size w' w'') := fun k hkn w' hb => implPeakHead _ w' (heads_at hk k (by omega)) (hK.below hb hK.lt) (TabP.below hP hb (Nat.le_refl _))
  rw [hk] at hhs
  clear HNO HYES hA hn hK hP hk
  unfold headVal at HPH
  unfold peakVal at HPH HPU
  go_enter Tryz.func9, Tryz.ntmps9
  go_wp2_with fail
  refine hhs.mono ?_
  rintro e w1 ⟨rfl, b1⟩
  have B1 : Hid (Below w.heap.size w w1) := b1
  clear b1 hhs
  go_wp2_with fail
  refine Calls.mono (implPeakStackNil w1) ?_
  rintro e w2 ⟨g4, rfl, hs2⟩
  have S2 : Hid (Stk w w2 g4 (ofP l 0)) := hs2.lower B1.out
  clear hs2 B1
  go_wp2_with fail
  go_loopw [12] (fun i wr => ∃ k : Nat, k ≤ n ∧ i = .int .i64 (k : Int) ∧ Hid (Stk w wr g4 (ofP l k))) (fun i _ => n - (intOf i).toNat)
  case atStart => exact ⟨0, by omega, rfl, S2⟩
  case round =>
    clear S2
    obtain ⟨k, hk, rfl, SK⟩ := hrel
    by_cases hlt : k < n
    · have hkl : k < l.length := by rw [← HN.out]; exact hlt
      have HAr := HA.out.below SK.out.b HA.out.1
      have c0 := AtHO.c0 HAr k hkl
      have c1 := AtHO.c1 HAr k hkl
      have c2 := AtHO.c2 HAr k hkl
      have c3 := AtHO.c3 HAr k hkl
      have c4 := AtHO.c4 HAr k hkl
      have lk : (k : Int) < (n : Int) := by omega
      have lk0 : (0 : Int) ≤ (k : Int) := by omega
      have wk : IntKind.i64.wrap ((k : Int) + 1) = (k : Int) + 1 := by have := HM.out; rw [IntKind.wrap_i64]; omega
      have HK1 : Hid (k + 1 ≤ n) := hlt
      have HPUk := HPU.out k hlt
      have HPHk := HPH.out k hlt
      have HPUk : Hid _ := HPUk
      have HPHk : Hid _ := HPHk
      clear hkl HAr
      generalize leafP (l.getD k default) = p at HPUk HPHk
      generalize l.getD k default = h at c0 c1 c2 c3 c4 HPHk
      have L0 : Hid (Below wr.heap.size wr (wr.alloc (.cells #[.string h.prev, .string h.root, .int .i64 h.time, .int .i64 h.diff, .int .i64 h.nonce] 33))) := (Below.refl _ wr).alloc (Nat.le_refl _) _
      have SA : Hid (Stk w (wr.alloc (.cells #[.string h.prev, .string h.root, .int .i64 h.time, .int .i64 h.diff, .int .i64 h.nonce] 33)) g4 (ofP l k)) := SK.out.call L0.out
      have hph := HPHk.out _ SA.out.b
      clear SK HPHk
      go_wp2_with fail
      refine hph.mono ?_
      rintro e w3 ⟨rfl, b3⟩
      have S3 : Hid (Stk w w3 g4 (ofP l k)) := SA.out.call b3
      have hpu := HPUk.out _ _ S3.out
      clear SA b3 hph HPUk c0 c1 c2 c3 c4 L0
      go_wp2_with fail
      refine Calls.mono hpu ?_
      rintro e w4 ⟨rfl, hs4⟩
      have S4 : Hid (Stk w w4 g4 (ofP l (k + 1))) := hs4
      clear hs4 hpu S3
      go_wp2_with fail
      go_roundw
      case rel => exact ⟨k + 1, HK1.out, by go_num, S4⟩
      case measure => have := HK1.out; simp [intOf]; omega
    · obtain rfl : k = n := by omega
      obtain ⟨r, c, M, hw⟩ := id SK.out
      have SW : Hid (StkW w wr g4 r c M (ofP l k)) := hw
      clear hw SK HPU HPH
      obtain ⟨a0, a1, a2⟩ := SW.out.outs
      go_wp2_with fail
      exact HV.out _ _ SW.out.frow SW.out.b

set_option maxHeartbeats 2000000 in
set_option maxRecDepth 100000 in
theorem specL5OfO (g o n cap : Nat) (l : List HeadV) (w : World) (hA : AtHO w g o l) (hn : n = l.length) (hm : n ≤ 20) (hok : ∀ i, i < l.length → headOkB (l.getD i default) = true) :
    Calls Tryz.prog 33 #[.slice (some ⟨g, o, none⟩) n cap] w fun e w' => ∃ v, e = .returned v ∧ PRow w.heap.size v (ofP l n) w' ∧ Below w.heap.size w w' := by
  have HA : Hid (AtHO w g o l) := hA
  have HN : Hid (n = l.length) := hn
  have HM : Hid (n ≤ 20) := hm
  have HOK : Hid (∀ i, i < l.length → headOkB (l.getD i default) = true) := hok
  have R0 : Hid (PRow w.heap.size (.slice (some ⟨w.heap.size, 0, none⟩) 0 0) [] (w.alloc (.cells #[] 31))) := frow_new pEnc 31 3 w
  have B0 : Hid (Below w.heap.size w (w.alloc (.cells #[] 31))) := (Below.refl _ w).alloc (Nat.le_refl _) _
  clear hA hn hm hok
  go_enter Tryz.func33, Tryz.ntmps33
  go_wp2_with fail
  generalize w.alloc (.cells #[] 31) = W0 at R0 B0 ⊢
  go_loopw [3, 4] (fun out i wr => ∃ (k : Nat), k ≤ n ∧ i = .int .i64 (k : Int) ∧ Hid (PRow w.heap.size out (ofP l k) wr) ∧ Hid (Below w.heap.size w wr)) (fun _ i _ => n - (intOf i).toNat)
  case atStart => exact ⟨0, by omega, rfl, R0, B0⟩
  case round =>
    clear R0 B0
    obtain ⟨k, hk, rfl, R, HB⟩ := hrel
    by_cases hlt : k < n
    · have hkl : k < l.length := by rw [← HN.out]; exact hlt
      have HAr := HA.out.below HB.out HA.out.1
      have c0 := AtHO.c0 HAr k hkl
      have c1 := AtHO.c1 HAr k hkl
      have c2 := AtHO.c2 HAr k hkl
      have c3 := AtHO.c3 HAr k hkl
      have c4 := AtHO.c4 HAr k hkl
      have lk : (k : Int) < (n : Int) := by omega
      have lk0 : (0 : Int) ≤ (k : Int) := by omega
      have wk : IntKind.i64.wrap ((k : Int) + 1) = (k : Int) + 1 := by have := HM.out; rw [IntKind.wrap_i64]; omega
      have HK1 : Hid (k + 1 ≤ n) := hlt
      have hkk := HOK.out k hkl
      obtain ⟨ho1, ho2, ho3⟩ := ofP_ok HOK.out (by rw [← HN.out]; exact HM.out) k (by omega)
      have hlf := fun w' => specL5Leaf (l.getD k default) w' hkk
      have HLK : Hid (peakOkB (leafP (l.getD k default)) = true) := fine_ok (fine_leaf hkk) (by show (1 : Int) ≤ 20; decide)
      have HL1 : Hid ((leafP (l.getD k default)).count = 1) := rfl
      have HS : Hid (ofP l (k + 1) = addP (ofP l k) (leafP (l.getD k default))) := rfl
      obtain ⟨A2, hA2⟩ : ∃ A2, A2 = ofP l (k + 1) := ⟨_, rfl⟩
      have HE : Hid (A2 = ofP l (k + 1)) := hA2
      rw [← hA2] at HS
      clear hA2
      have HPK : Hid (∀ i, i < (ofP l k).length → peakOkB ((ofP l k).getD i default) = true) := fun i hi => getD_all (C := fun q => peakOkB q = true) ho1 i hi
      have HCN : Hid (cntTo (ofP l k) (ofP l k).length = (k : Int)) := ho2
      have HLL : Hid ((ofP l k).length ≤ k) := ho3
      generalize leafP (l.getD k default) = p at hlf HLK HL1 HS
      generalize ofP l k = A at R HPK HCN HLL HS
      generalize l.getD k default = h at c0 c1 c2 c3 c4 hlf hkk
      obtain ⟨⟨g4, cc, rfl⟩, -⟩ := id R.out
      unfold headVal at hlf
      clear HAr hkk ho1 ho2 ho3
      go_wp2_with fail
      refine (hlf _).mono ?_
      rintro e w3 ⟨rfl, b3⟩
      have B3 : Hid (Below w.heap.size w w3) := HB.out.trans (b3.mono HB.out.size)
      have R3 : Hid (PRow w.heap.size (.slice (some ⟨g4, 0, none⟩) A.length cc) A w3) := R.out.below b3
      have had := specL5Add g4 A.length cc A p w3 (FRow.at pEnc_len R3.out).1 rfl (by have := HLL.out; have := HM.out; omega) HPK.out ⟨HLK.out, by rw [HL1.out, HCN.out]; have := HM.out; omega⟩
      unfold peakVal at had
      unfold peakVal
      rw [← HS.out] at had
      clear hlf b3 R HB c0 c1 c2 c3 c4 HLK HL1 HPK HCN HS
      go_wp2_with fail
      refine had.mono ?_
      rintro e w4 ⟨v, rfl, R4, b4⟩
      have B4 : Hid (Below w.heap.size w w4) := B3.out.trans (b4.mono B3.out.size)
      have R5 : Hid (PRow w.heap.size v A2 w4) := R4.mono B3.out.size
      clear had b4 B3 R3 R4
      go_wp2_with fail
      go_roundw
      case rel => exact ⟨k + 1, HK1.out, by go_num, by rw [← HE.out]; exact R5, B4⟩
      case measure => have := HK1.out; simp [intOf]; omega
    · obtain rfl : k = n := by omega
      go_wp2_with fail
      go_ret
      exact ⟨_, rfl, R.out, HB.out⟩

end Go.Proofs.YtoojimfimlpplaaGreatDoor

set_option linter.unusedVariables false
namespace Go.Proofs.YtoojimfimlpplaaGreatDoor
open Go.RowKit Go.Deep

/-- Each place is as aligned as its height says. -/
theorem shp_dvd : ∀ (t : List (Nat × Nat)) (e j : Nat), Shp e j t → 2 ^ j ∣ e
  | [], e, j, h => by
    obtain rfl : e = 0 := h
    exact Nat.dvd_zero _
  | s :: r, e, j, h => by
    obtain ⟨h1, h2, h3⟩ := h
    have h4 := shp_dvd r s.1 (s.2 + 1) h3
    have h5 : 2 ^ s.2 ∣ s.1 := Nat.dvd_trans (Nat.pow_dvd_pow 2 (Nat.le_succ _)) h4
    have h6 : 2 ^ j ∣ 2 ^ s.2 := Nat.pow_dvd_pow 2 h2
    rw [← h1]
    exact Nat.dvd_trans h6 (Nat.dvd_add h5 (Nat.dvd_refl _))
theorem shp_zero : ∀ (t : List (Nat × Nat)) (j : Nat), Shp 0 j t → t = []
  | [], _, _ => rfl
  | s :: r, j, h => by
    have h1 := h.1
    have := Nat.two_pow_pos s.2
    omega
theorem shp_pow {k : Nat} {t : List (Nat × Nat)} (h : Shp (2 ^ k) 0 t) : t = [(0, k)] := by
  cases t with
  | nil =>
    have h1 : 2 ^ k = 0 := h
    have := Nat.two_pow_pos k
    omega
  | cons s r =>
    obtain ⟨h1, h2, h3⟩ := h
    have h4 := shp_dvd r s.1 (s.2 + 1) h3
    obtain ⟨a, i⟩ := s
    dsimp only at h1 h3 h4
    by_cases h0 : a = 0
    · subst h0
      have hr := shp_zero r _ h3
      have hi : i = k := pow_same (by omega)
      rw [hr, hi]
    · exfalso
      have hlt : 2 ^ i < 2 ^ k := by omega
      have hik : i < k := (Nat.pow_lt_pow_iff_right (by decide)).1 hlt
      have h5 : 2 ^ (i + 1) ∣ 2 ^ k := Nat.pow_dvd_pow 2 hik
      rw [← h1] at h5
      have h6 := (Nat.dvd_add_right h4).1 h5
      have h7 := Nat.le_of_dvd (Nat.two_pow_pos i) h6
      have h8 : 2 ^ (i + 1) = 2 ^ i + 2 ^ i := by rw [Nat.pow_succ']; omega
      have := Nat.two_pow_pos i
      omega
theorem tree_shift {f g : Nat → PeakV} {d : Nat} (h : ∀ i, g i = f (d + i)) : ∀ (j a : Nat), treeT g a j = treeT f (d + a) j
  | 0, a => h a
  | j + 1, a => by
    rw [treeT, treeT, tree_shift h j a, tree_shift h j (a + 2 ^ j), Nat.add_assoc]
theorem tree_within {f g : Nat → PeakV} : ∀ (j a : Nat), (∀ i, a ≤ i → i < a + 2 ^ j → g i = f i) → treeT g a j = treeT f a j
  | 0, a, h => h a (Nat.le_refl _) (by omega)
  | j + 1, a, h => by
    have e : 2 ^ (j + 1) = 2 ^ j + 2 ^ j := by rw [Nat.pow_succ']; omega
    rw [treeT, treeT, tree_within j a (fun i h1 h2 => h i h1 (by omega)), tree_within j (a + 2 ^ j) (fun i h1 h2 => h i (by omega) (by omega))]
/-- Heads that are a power of two have one peak. -/
theorem of_pow (l : List HeadV) (k : Nat) : ofP l (2 ^ k) = [treeT (leafF l) 0 k] := by
  obtain ⟨t, t1, t2, _⟩ := stk_shp (leafF_cnt l) 0 (2 ^ k)
  rw [stk_peaks t1, shp_pow t2]
  rfl
theorem sub_at {l : List HeadV} {a m i : Nat} (hi : i < m) : ((l.drop a).take m).getD i default = l.getD (a + i) default := by
  rw [List.getD_eq_getElem?_getD, List.getElem?_take_of_lt hi, List.getElem?_drop, ← List.getD_eq_getElem?_getD]
theorem of_sub {l : List HeadV} {a k : Nat} (h : a + 2 ^ k ≤ l.length) : ofP ((l.drop a).take (2 ^ k)) (2 ^ k) = [treeT (leafF l) a k] := by
  rw [of_pow]
  congr 1
  have h1 : treeT (leafF ((l.drop a).take (2 ^ k))) 0 k = treeT (fun i => leafF l (a + i)) 0 k := tree_within k 0 (fun i _ hi => by
    show leafP _ = leafP _
    rw [sub_at (by omega)])
  rw [h1, tree_shift (f := leafF l) (d := a) (fun i => rfl)]
  rfl
theorem sub_len {l : List HeadV} {a m : Nat} (h : a + m ≤ l.length) : ((l.drop a).take m).length = m := by
  rw [List.length_take, List.length_drop]
  omega
theorem sub_heads {l : List HeadV} (hk : headsB l = true) (a m : Nat) (h : a + m ≤ l.length) : headsB ((l.drop a).take m) = true := by
  rw [headsB, Bool.and_eq_true, decide_eq_true_eq, List.all_eq_true]
  refine ⟨?_, fun x hx => ?_⟩
  · rw [sub_len h]
    have := heads_len hk
    omega
  · rw [headsB, Bool.and_eq_true, List.all_eq_true] at hk
    exact hk.2 x (List.mem_of_mem_drop (List.mem_of_mem_take hx))

/-- How high the greatest peak is that begins at a place, from a height on. -/
def alN (p t : Nat) : Nat → Nat → Nat
  | 0, i => i
  | f + 1, i => if 2 ^ i * 2 ≤ t ∧ p % (2 ^ i * 2) = 0 then alN p t f (i + 1) else i
theorem alN_up (p t : Nat) : ∀ f i, i ≤ alN p t f i
  | 0, i => Nat.le_refl _
  | f + 1, i => by
    rw [alN]
    split
    · exact Nat.le_trans (Nat.le_succ _) (alN_up p t f (i + 1))
    · exact Nat.le_refl _
theorem alN_le (p t : Nat) : ∀ f i, 2 ^ i ≤ t → 2 ^ alN p t f i ≤ t
  | 0, i, h => h
  | f + 1, i, h => by
    rw [alN]
    split
    · rename_i hc
      exact alN_le p t f (i + 1) (by rw [Nat.pow_succ]; exact hc.1)
    · exact h
theorem alN_dvd (p t : Nat) : ∀ f i, p % 2 ^ i = 0 → p % 2 ^ alN p t f i = 0
  | 0, i, h => h
  | f + 1, i, h => by
    rw [alN]
    split
    · rename_i hc
      exact alN_dvd p t f (i + 1) (by rw [Nat.pow_succ]; exact hc.2)
    · exact h
/-- Where it stops it could not go on, if the fuel is enough. -/
theorem alN_stop (p t : Nat) (ht : t ≤ 20) : ∀ f i, 5 ≤ i + f → ¬ (2 ^ alN p t f i * 2 ≤ t ∧ p % (2 ^ alN p t f i * 2) = 0)
  | 0, i, h => by
    rw [alN]
    have : 2 ^ 5 ≤ 2 ^ i := Nat.pow_le_pow_right (by decide) (by omega)
    omega
  | f + 1, i, h => by
    rw [alN]
    split
    · exact alN_stop p t ht f (i + 1) (by omega)
    · assumption
def high (p t : Nat) : Nat := alN p t 5 0
theorem high_le {p t : Nat} (h : 0 < t) : 2 ^ high p t ≤ t := alN_le p t 5 0 h
theorem high_few {p t : Nat} (h : 0 < t) (h2 : t ≤ 20) : high p t ≤ 4 := by
  have h1 := high_le (p := p) h
  refine Classical.byContradiction fun hn => ?_
  have : 2 ^ 5 ≤ 2 ^ high p t := Nat.pow_le_pow_right (by decide) (by omega)
  omega
/-- The peaks from a place on. -/
def prefT (l : List HeadV) : Nat → Nat → List PeakV
  | 0, _ => []
  | f + 1, a => if a < l.length then treeT (leafF l) a (high a (l.length - a)) :: prefT l f (a + 2 ^ high a (l.length - a)) else []
theorem prefT_end (l : List HeadV) (f a : Nat) (h : l.length ≤ a) : prefT l f a = [] := by
  cases f with
  | zero => rfl
  | succ f => rw [prefT, if_neg (by omega)]
theorem prefT_step {l : List HeadV} {f a : Nat} (h : a < l.length) (hf : l.length ≤ a + f) : ∃ f', l.length ≤ (a + 2 ^ high a (l.length - a)) + f' ∧ prefT l f a = treeT (leafF l) a (high a (l.length - a)) :: prefT l f' (a + 2 ^ high a (l.length - a)) := by
  cases f with
  | zero => omega
  | succ f =>
    have := Nat.two_pow_pos (high a (l.length - a))
    exact ⟨f, by omega, by rw [prefT, if_pos h]⟩
theorem prefT_len (l : List HeadV) : ∀ f a, (prefT l f a).length ≤ f
  | 0, a => Nat.le_refl _
  | f + 1, a => by
    rw [prefT]
    split
    · have := prefT_len l f (a + 2 ^ high a (l.length - a))
      simp only [List.length_cons]
      omega
    · exact Nat.zero_le _
/-- What PrefixOf tells. -/
def prefL (l : List HeadV) (m : Int) : List PeakV := if headsB l = true ∧ 0 ≤ m ∧ m ≤ (l.length : Int) then prefT l (l.length - m.toNat) m.toNat else []
theorem prefL_no {l : List HeadV} {m : Int} (h : ¬ (headsB l = true ∧ 0 ≤ m ∧ m ≤ (l.length : Int))) : prefL l m = [] := by rw [prefL, if_neg h]
theorem prefL_yes {l : List HeadV} {m : Int} (h : headsB l = true ∧ 0 ≤ m ∧ m ≤ (l.length : Int)) : prefL l m = prefT l (l.length - m.toNat) m.toNat := by rw [prefL, if_pos h]
theorem prefL_len (l : List HeadV) (m : Int) : (prefL l m).length ≤ 20 := by
  unfold prefL
  split
  · rename_i h
    have h1 := heads_len h.1
    have h2 := prefT_len l (l.length - m.toNat) m.toNat
    omega
  · exact Nat.zero_le _

end Go.Proofs.YtoojimfimlpplaaGreatDoor

