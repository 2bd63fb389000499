/-
  Texts that the last part needs, joined.
-/
import Derived.Test.YtkajpkfhedfmaaaGreatDoorPart1
import Derived.Test.YtkajpkfhedfmaaaGreatDoorPart2
import Derived.Test.YtkajpkfhedfmaaaGreatDoorPart3
import Derived.Test.YtkajpkfhedfmaaaGreatDoorPart4
import Derived.Test.YtkajpkfhedfmaaaGreatDoorPart5
import Derived.Test.YtkajpkfhedfmaaaGreatDoorPart6
import Derived.Test.YtkajpkfhedfmaaaGreatDoorPart7
import Derived.Test.YtkajpkfhedfmaaaGreatDoorPart8
import Derived.Test.YtkajpkfhedfmaaaGreatDoorPart9
import Derived.Test.YtkajpkfhedfmaaaGreatDoorPart10
import Derived.Test.YtkajpkfhedfmaaaGreatDoorPart11
import Derived.Test.YtkajpkfhedfmaaaGreatDoorPart12
import Derived.Test.YtkajpkfhedfmaaaGreatDoorPart13
import Derived.Test.YtkajpkfhedfmaaaGreatDoorPart14
import Derived.Deep.AppendLies
import Derived.Deep.Cut
import Derived.Laws.EntriesVeiled
import Derived.Deep.RegionHeld3
import Derived.WalkSmall
import Derived.Deep.RegionWith
set_option linter.unusedVariables false
namespace Go.Proofs.YtkajpkfhedfmaaaGreatDoor
open Go.RowKit Go.Deep

def ndVal (a : NodeB) : Value := .agg #[.string a.1, .bool a.2]
def ndEnc (a : NodeB) : List Value := [.string a.1, .bool a.2]
theorem ndEnc_len (a : NodeB) : (ndEnc a).length = 2 := rfl
theorem ndEnc_one (a : NodeB) : ∀ u ∈ ndEnc a, u.oneCell' = true := by
  intro u hu
  simp only [ndEnc, List.mem_cons, List.not_mem_nil, or_false] at hu
  rcases hu with rfl | rfl <;> rfl
theorem enSide_one (a : SideV) : ∀ u ∈ enSide a, u.oneCell' = true := by
  intro u hu
  simp only [enSide, List.mem_cons, List.not_mem_nil, or_false] at hu
  rcases hu with rfl | rfl <;> rfl
theorem infoNodeB : (Tryz.prog.info? 128).map (fun i => (i.zero, i.size, i.bytes)) = some (some (.agg #[.string ⟨#[]⟩, .bool false]), 2, 24) := by kernel_rfl
theorem nts : (128 : TypeId) ≠ 131 := by decide
theorem bts : (45 : TypeId) ≠ 131 := by decide
theorem ntb : (128 : TypeId) ≠ 45 := by decide
theorem stnB : (131 : TypeId) ≠ 128 := by decide
theorem btn : (45 : TypeId) ≠ 128 := by decide
/-- The sides while they are noted: the variable's block, their row. -/
structure SdW (w0 wr : World) (gp : Nat) (vs : Value) (ss : List SideV) : Prop where
  k : CBk wr gp 45 #[vs]
  row : wr.ownsRow w0.heap.size 131 2 vs ss.length (ss.flatMap enSide)
  b : Below w0.heap.size w0 wr
  lo : w0.heap.size ≤ gp
def Sd (w0 wr : World) (gp : Nat) (ss : List SideV) : Prop := ∃ vs, SdW w0 wr gp vs ss
theorem SdW.call {w0 wr w' : World} {gp : Nat} {vs : Value} {ss : List SideV} (h : SdW w0 wr gp vs ss) (hb : Below wr.heap.size wr w') : SdW w0 w' gp vs ss :=
  ⟨h.k.call hb, ownE_below h.row hb, h.b.trans (hb.mono h.b.size), h.lo⟩
theorem SdW.store {w0 wr : World} {gp g j : Nat} {T : TypeId} {vs : Value} {ss : List SideV} {cs : Array Value} (h : SdW w0 wr gp vs ss) (hk : CBk wr g T cs) (hT : T ≠ 131) (hne : g ≠ gp) (hlo : w0.heap.size ≤ g) (u : Value) : SdW w0 (wr.setCell ⟨g, j, none⟩ u) gp vs ss :=
  ⟨h.k.other hne u, ownE_set h.row hk hT, h.b.setCell (p := ⟨g, j, none⟩) hlo u, h.lo⟩
theorem CBk.twoC {w : World} {g : Nat} {T : TypeId} {a b : Value} (h : CBk w g T #[a, b]) : w.cell? ⟨g, 0, none⟩ = some a ∧ w.cell? ⟨g, 1, none⟩ = some b := ⟨h.cell 0, h.cell 1⟩
theorem CBk.twoF {w : World} {g : Nat} {T : TypeId} {cs : Array Value} (h : CBk w g T cs) : w.frozen? ⟨g, 0, none⟩ = false ∧ w.frozen? ⟨g, 1, none⟩ = false := ⟨h.frozen 0, h.frozen 1⟩
def NdBk (w : World) (g : Nat) (a : NodeB) : Prop := CBk w g 128 #[.string a.1, .bool a.2]
/-- Within the closure: its two nodes, its answer's block. -/
structure NoteW (w0 w wr : World) (gp g0 : Nat) (vs : Value) (ss : List SideV) (a b : NodeB) : Prop where
  f : SdW w0 wr gp vs ss
  a : NdBk wr g0 a
  b : NdBk wr (g0 + 1) b
  r : CBk wr (g0 + 1 + 1) 128 #[.string ⟨#[]⟩, .bool false]
  o : OffT 131 gp w wr
  e : g0 = w.heap.size
  g : gp < w.heap.size
theorem NoteW.call {w0 w wr w' : World} {gp g0 : Nat} {vs : Value} {ss : List SideV} {a b : NodeB} (h : NoteW w0 w wr gp g0 vs ss a b) (hb : Below wr.heap.size wr w') : NoteW w0 w w' gp g0 vs ss a b :=
  ⟨h.f.call hb, CBk.call h.a hb, CBk.call h.b hb, h.r.call hb, h.o.below hb, h.e, h.g⟩
theorem NoteW.drew {w0 w wr : World} {gp g0 : Nat} {vs : Value} {ss : List SideV} {a b : NodeB} (h : NoteW w0 w wr gp g0 vs ss a b) : NoteW w0 w wr.drew gp g0 vs ss a b := h.call (Below.refl _ _).drew
theorem NoteW.enter {w0 w : World} {gp : Nat} {vs : Value} {ss : List SideV} (h : SdW w0 w gp vs ss) (a b : NodeB) : NoteW w0 w (((w.alloc (.cells #[.string a.1, .bool a.2] 128)).alloc (.cells #[.string b.1, .bool b.2] 128)).alloc (.cells #[.string ⟨#[]⟩, .bool false] 128)) gp w.heap.size vs ss a b := by
  have b1 : Below w.heap.size w (w.alloc (.cells #[.string a.1, .bool a.2] 128)) := (Below.refl _ w).alloc (Nat.le_refl _) _
  have b2 := b1.alloc (o := .cells #[.string b.1, .bool b.2] 128) b1.size
  have b3 := b2.alloc (o := .cells #[.string ⟨#[]⟩, .bool false] 128) b2.size
  refine ⟨h.call b3, ((CBk.new w _ _).alloc _).alloc _, ?_, ?_, (OffT.refl 131 gp w).below b3, rfl, h.k.lt⟩
  · have := (CBk.new (w.alloc (.cells #[.string a.1, .bool a.2] 128)) 128 #[.string b.1, .bool b.2]).alloc (.cells #[.string ⟨#[]⟩, .bool false] 128)
    rwa [show (w.alloc (.cells #[.string a.1, .bool a.2] 128)).heap.size = w.heap.size + 1 from by simp] at this
  · have := CBk.new ((w.alloc (.cells #[.string a.1, .bool a.2] 128)).alloc (.cells #[.string b.1, .bool b.2] 128)) 128 #[.string ⟨#[]⟩, .bool false]
    rwa [show ((w.alloc (.cells #[.string a.1, .bool a.2] 128)).alloc (.cells #[.string b.1, .bool b.2] 128)).heap.size = w.heap.size + 1 + 1 from by simp] at this
/-- Behind an append to the sides, ahead of its store. -/
theorem NoteW.keep4 {w0 w wr w4 : World} {gp g0 : Nat} {vs : Value} {ss : List SideV} {a b : NodeB} (h : NoteW w0 w wr gp g0 vs ss a b) (hk : ∀ c, c < wr.heap.size → vs.ownBlock ≠ some c → w4.heap[c]? = wr.heap[c]?) : CBk w4 gp 45 #[vs] :=
  (hk gp h.f.k.lt (ownE_ne h.f.row h.f.k bts)).trans h.f.k
theorem NoteW.one {w0 w wr w4 : World} {gp g0 : Nat} {vs : Value} {ss : List SideV} {a b : NodeB} (h : NoteW w0 w wr gp g0 vs ss a b) (hk : ∀ c, c < wr.heap.size → vs.ownBlock ≠ some c → w4.heap[c]? = wr.heap[c]?) : w4.cell? ⟨gp, 0, none⟩ = some vs ∧ w4.frozen? ⟨gp, 0, none⟩ = false := ⟨(h.keep4 hk).cell 0, (h.keep4 hk).frozen 0⟩
theorem NoteW.noted {w0 w wr w4 : World} {gp g0 g4 c4 : Nat} {vs : Value} {ss : List SideV} {a b : NodeB} {t : SideV} (h : NoteW w0 w wr gp g0 vs ss a b) (hown : w4.ownsRow w0.heap.size 131 2 (.slice (some ⟨g4, 0, none⟩) (ss.length + 1) c4) (ss.length + 1) (ss.flatMap enSide ++ enSide t)) (hb : Below w0.heap.size wr w4) (hk : ∀ c, c < wr.heap.size → vs.ownBlock ≠ some c → w4.heap[c]? = wr.heap[c]?) :
    NoteW w0 w (w4.setCell ⟨gp, 0, none⟩ (.slice (some ⟨g4, 0, none⟩) (ss.length + 1) c4)) gp g0 (.slice (some ⟨g4, 0, none⟩) (ss.length + 1) c4) (ss ++ [t]) a b := by
  have he := h.e
  have hg := h.g
  have hk4 := h.keep4 hk
  have hown' : w4.ownsRow w0.heap.size 131 2 (.slice (some ⟨g4, 0, none⟩) (ss.length + 1) c4) (ss ++ [t]).length ((ss ++ [t]).flatMap enSide) := by
    rw [List.length_append, List.flatMap_append]
    simpa using hown
  have hN : ∀ c cs, CBk wr c 128 cs → CBk w4 c 128 cs := fun c cs hc => (hk c hc.lt (ownE_ne h.f.row hc nts)).trans hc
  refine ⟨⟨hk4.set 0 _, ownE_set hown' hk4 bts, (h.f.b.trans hb).setCell (p := ⟨gp, 0, none⟩) h.f.lo _, h.f.lo⟩, ?_, ?_, ?_, ?_, he, hg⟩
  · exact CBk.other (hN g0 _ h.a) (by omega) _
  · exact CBk.other (hN _ _ h.b) (by omega) _
  · exact CBk.other (hN _ _ h.r) (by omega) _
  · refine (h.o.trans ?_).set (.inr rfl) _
    refine ⟨hb.size, fun c hc hne hp => hk c hc (fun hv => ?_)⟩
    obtain ⟨⟨cur, h1⟩, _⟩ := ownE_is h.f.row hv
    exact hp _ _ h1
theorem NoteW.cells {w0 w wr : World} {gp g0 : Nat} {vs : Value} {ss : List SideV} {a b : NodeB} (h : NoteW w0 w wr gp g0 vs ss a b) : (wr.cell? ⟨g0, 0, none⟩ = some (.string a.1) ∧ wr.cell? ⟨g0, 1, none⟩ = some (.bool a.2)) ∧ (wr.cell? ⟨g0 + 1, 0, none⟩ = some (.string b.1) ∧ wr.cell? ⟨g0 + 1, 1, none⟩ = some (.bool b.2)) := ⟨CBk.twoC h.a, CBk.twoC h.b⟩
theorem NoteW.ans {w0 w wr : World} {gp g0 : Nat} {vs : Value} {ss : List SideV} {a b : NodeB} (h : NoteW w0 w wr gp g0 vs ss a b) : (wr.cell? ⟨g0 + 1 + 1, 0, none⟩ = some (.string ⟨#[]⟩) ∧ wr.cell? ⟨g0 + 1 + 1, 1, none⟩ = some (.bool false)) ∧ (wr.frozen? ⟨g0 + 1 + 1, 0, none⟩ = false ∧ wr.frozen? ⟨g0 + 1 + 1, 1, none⟩ = false) := ⟨CBk.twoC h.r, h.r.twoF⟩
theorem NoteW.cellsFin {w0 w wr : World} {gp g0 : Nat} {vs : Value} {ss : List SideV} {a b : NodeB} (h : NoteW w0 w wr gp g0 vs ss a b) (p q : Value) : (((wr.setCell ⟨g0 + 1 + 1, 0, none⟩ p).setCell ⟨g0 + 1 + 1, 1, none⟩ q).cell? ⟨g0, 0, none⟩ = some (.string a.1) ∧ ((wr.setCell ⟨g0 + 1 + 1, 0, none⟩ p).setCell ⟨g0 + 1 + 1, 1, none⟩ q).cell? ⟨g0, 1, none⟩ = some (.bool a.2)) ∧ (((wr.setCell ⟨g0 + 1 + 1, 0, none⟩ p).setCell ⟨g0 + 1 + 1, 1, none⟩ q).cell? ⟨g0 + 1, 0, none⟩ = some (.string b.1) ∧ ((wr.setCell ⟨g0 + 1 + 1, 0, none⟩ p).setCell ⟨g0 + 1 + 1, 1, none⟩ q).cell? ⟨g0 + 1, 1, none⟩ = some (.bool b.2)) :=
  ⟨CBk.twoC ((CBk.other h.a (by omega) p).other (by omega) q), CBk.twoC ((CBk.other h.b (by omega) p).other (by omega) q)⟩
def NoteRes (w0 w : World) (gp : Nat) (ss : List SideV) (a b : NodeB) (e : Ending) (w' : World) : Prop := e = .returned (ndVal (bothNB a b)) ∧ Sd w0 w' gp (ss ++ noteNB a b) ∧ OffT 131 gp w w'
/-- Behind the store of the answer. -/
theorem NoteW.fin {w0 w wr : World} {gp g0 : Nat} {vs : Value} {ss : List SideV} {a b : NodeB} (h : NoteW w0 w wr gp g0 vs ss a b) (p q : Value) : Sd w0 ((wr.setCell ⟨g0 + 1 + 1, 0, none⟩ p).setCell ⟨g0 + 1 + 1, 1, none⟩ q) gp ss ∧ OffT 131 gp w ((wr.setCell ⟨g0 + 1 + 1, 0, none⟩ p).setCell ⟨g0 + 1 + 1, 1, none⟩ q) ∧ CBk ((wr.setCell ⟨g0 + 1 + 1, 0, none⟩ p).setCell ⟨g0 + 1 + 1, 1, none⟩ q) (g0 + 1 + 1) 128 #[p, q] := by
  have he := h.e
  have hg := h.g
  have hlo := h.f.lo
  have hr1 := h.r.set 0 p
  refine ⟨⟨vs, (h.f.store h.r nts (by omega) (by omega) p).store hr1 nts (by omega) (by omega) q⟩, (h.o.set (.inl (by omega)) p).set (.inl (by omega)) q, hr1.set 1 q⟩

set_option maxHeartbeats 4000000 in
set_option maxRecDepth 100000 in
theorem implRootNoteFF (w0 w : World) (gp : Nat) (ss : List SideV) (x y : ByteArray) (hs : Sd w0 w gp ss) (hm : ss.length ≤ 1048576) (hx : x.size = 16) (hy : y.size = 16) (hK : RowG w0 shaK) :
    Calls Tryz.prog 72 #[ndVal (x, false), ndVal (y, false), .pointer (some ⟨gp, 0, none⟩)] w fun e w' => NoteRes w0 w gp ss (x, false) (y, false) e w' := by
  obtain ⟨v0, h0⟩ := hs
  obtain ⟨i0, hi, hz0, hz1, hz2⟩ := info3 infoSide
  have Hss : Hid (ss.length ≤ 1048576) := hm
  have HBO : Hid (∀ w', Below w0.heap.size w0 w' → Calls Tryz.prog 73 #[.string x, .string y] w' fun e w'' => e = .returned (.string (bothB x y)) ∧ Below w'.heap.size w' w'') := fun w' hb => implRootBoth x y w' hx hy (hK.below hb hK.lt)
  have HQ : Hid (∀ (w' : World) (s' : List SideV), s' = ss ++ noteNB (x, false) (y, false) → Sd w0 w' gp s' ∧ OffT 131 gp w w' → NoteRes w0 w gp ss (x, false) (y, false) (.returned (.agg #[.string (bothB x y), .bool false])) w') := fun w' s' he h => ⟨rfl, he ▸ h.1, h.2⟩
  generalize NoteRes w0 w gp ss (x, false) (y, false) = Q at HQ ⊢
  have B0 : Hid _ := NoteW.enter h0 (x, false) (y, false)
  unfold ndVal
  dsimp only at B0 ⊢
  clear h0 hm hx hy hK
  go_enter Tryz.func72, Tryz.ntmps72
  go_upto_region 1 with fail
  generalize ((w.alloc (.cells #[.string x, .bool false] 128)).alloc (.cells #[.string y, .bool false] 128)).alloc (.cells #[.string ⟨#[]⟩, .bool false] 128) = W0 at B0 ⊢
  obtain ⟨g0, hg0⟩ : ∃ g0, g0 = w.heap.size := ⟨_, rfl⟩
  rw [← hg0] at B0 ⊢
  clear hg0
  obtain ⟨⟨a0, a1⟩, b0, b1⟩ := B0.out.cells
  go_upto_region 3 with fail
  clear a0 a1 b0 b1
  obtain ⟨⟨a0, a1⟩, b0, b1⟩ := B0.out.cells
  go_upto_region 5 with fail
  clear a0 a1 b0 b1
  have HSF : Hid (ss = ss ++ noteNB (x, false) (y, false)) := by show _ = _; simp [noteNB]
  have B5 : Hid (NoteW w0 w W0.drew gp g0 v0 ss _ _) := B0.out.drew
  have HB5 : Hid (Below w0.heap.size w0 W0.drew) := B5.out.f.b
  refine wp_region_noPanic ?_
  refine wp_region_held_drew (S := fun w' => (w'.cell? ⟨g0, 0, none⟩ = some (.string x) ∧ w'.cell? ⟨g0, 1, none⟩ = some (.bool false)) ∧ (w'.cell? ⟨g0 + 1, 0, none⟩ = some (.string y) ∧ w'.cell? ⟨g0 + 1, 1, none⟩ = some (.bool false))) (by kernel_rfl) (B5.out.cells) (fun hHeld => ?_)
  refine takeL 0 (v := ?_) rfl (by kernel_rfl) (by kernel_rfl) (by kernel_rfl) (fun _ _ _ h => h) (by kernel_rfl) ?_ (by assumption) ?_
  rotate_left
  · intro w hSw; (try dsimp only at hSw); first | (go_simp; done) | (go_simp; with_reducible rfl)
  try simp only [Act.put, List.setIfInBounds_toArray, List.set_cons_zero, List.set_cons_succ]
  refine takeL 1 (v := ?_) rfl (by kernel_rfl) (by kernel_rfl) (by kernel_rfl) (fun _ _ _ h => h) (by kernel_rfl) ?_ (by assumption) ?_
  rotate_left
  · intro w hSw; (try dsimp only at hSw); first | (go_simp; done) | (go_simp; with_reducible rfl)
  try simp only [Act.put, List.setIfInBounds_toArray, List.set_cons_zero, List.set_cons_succ]
  refine takeL 2 (v := ?_) rfl (by kernel_rfl) (by kernel_rfl) (by kernel_rfl) (fun _ _ _ h => h) (by kernel_rfl) ?_ (by assumption) ?_
  rotate_left
  · intro w hSw; (try dsimp only at hSw); first | (go_simp; done) | (go_simp; with_reducible rfl)
  try simp only [Act.put, List.setIfInBounds_toArray, List.set_cons_zero, List.set_cons_succ]
  refine takeL 3 (v := ?_) rfl (by kernel_rfl) (by kernel_rfl) (by kernel_rfl) (fun _ _ _ h => h) (by kernel_rfl) ?_ (by assumption) ?_
  rotate_left
  · intro w hSw; (try dsimp only at hSw); first | (go_simp; done) | (go_simp; with_reducible rfl)
  try simp only [Act.put, List.setIfInBounds_toArray, List.set_cons_zero, List.set_cons_succ]
  refine takeL 5 (v := ?_) rfl (by kernel_rfl) (by kernel_rfl) (by kernel_rfl) (fun _ _ _ h => h) (by kernel_rfl) ?_ (by assumption) ?_
  rotate_left
  · intro w hSw; (try dsimp only at hSw); first | (go_simp; done) | (go_simp; with_reducible rfl)
  try simp only [Act.put, List.setIfInBounds_toArray, List.set_cons_zero, List.set_cons_succ]
  refine takeL 6 (v := ?_) rfl (by kernel_rfl) (by kernel_rfl) (by kernel_rfl) (fun _ _ _ h => h) (by kernel_rfl) ?_ (by assumption) ?_
  rotate_left
  · intro w hSw; (try dsimp only at hSw); first | (go_simp; done) | (go_simp; with_reducible rfl)
  try simp only [Act.put, List.setIfInBounds_toArray, List.set_cons_zero, List.set_cons_succ]
  refine callL 4 rfl (by kernel_rfl) (fun K hK => ?_)
  go_simp
  refine (HBO.out _ HB5.out).mono ?_
  rintro e w6 ⟨rfl, b6⟩
  have B6 : Hid (NoteW w0 w w6 gp g0 v0 ss _ _) := B5.out.call b6
  obtain ⟨⟨r0, r1⟩, s0, s1⟩ := B6.out.ans
  clear b6
  generalize bothB x y = nq at HQ ⊢
  go_wp2_with fail
  refine hK.out _ _ ?_ (fun hHeld => ?_)
  · first | exact B6.out.cells | exact B6.out.cellsFin _ _
  clear hK K
  try simp only [Act.put, List.setIfInBounds_toArray, List.set_cons_zero, List.set_cons_succ]
  refine takeL 7 (v := ?_) rfl (by kernel_rfl) (by kernel_rfl) (by kernel_rfl) (fun _ _ _ h => h) (by kernel_rfl) ?_ (by assumption) ?_
  rotate_left
  · intro w hSw; (try dsimp only at hSw); first | (go_simp; done) | (go_simp; with_reducible rfl)
  try simp only [Act.put, List.setIfInBounds_toArray, List.set_cons_zero, List.set_cons_succ]
  refine takeL 8 (v := ?_) rfl (by kernel_rfl) (by kernel_rfl) (by kernel_rfl) (fun _ _ _ h => h) (by kernel_rfl) ?_ (by assumption) ?_
  rotate_left
  · intro w hSw; (try dsimp only at hSw); first | (go_simp; done) | (go_simp; with_reducible rfl)
  try simp only [Act.put, List.setIfInBounds_toArray, List.set_cons_zero, List.set_cons_succ]
  refine takeL 9 (v := ?_) rfl (by kernel_rfl) (by kernel_rfl) (by kernel_rfl) (fun _ _ _ h => h) (by kernel_rfl) ?_ (by assumption) ?_
  rotate_left
  · intro w hSw; (try dsimp only at hSw); first | (go_simp; done) | (go_simp; with_reducible rfl)
  try simp only [Act.put, List.setIfInBounds_toArray, List.set_cons_zero, List.set_cons_succ]
  refine takeL 10 (v := ?_) rfl (by kernel_rfl) (by kernel_rfl) (by kernel_rfl) (fun _ _ _ h => h) (by kernel_rfl) ?_ (by assumption) ?_
  rotate_left
  · intro w hSw; (try dsimp only at hSw); first | (go_simp; done) | (go_simp; with_reducible rfl)
  try simp only [Act.put, List.setIfInBounds_toArray, List.set_cons_zero, List.set_cons_succ]
  refine takeL 11 (v := ?_) rfl (by kernel_rfl) (by kernel_rfl) (by kernel_rfl) (fun _ _ _ h => h) (by kernel_rfl) ?_ (by assumption) ?_
  rotate_left
  · intro w hSw; (try dsimp only at hSw); first | (go_simp; done) | (go_simp; with_reducible rfl)
  try simp only [Act.put, List.setIfInBounds_toArray, List.set_cons_zero, List.set_cons_succ]
  refine callL 12 rfl (by kernel_rfl) (fun K hK => ?_)
  go_simp
  refine hK.out _ _ ?_ (fun hHeld => ?_)
  · first | exact B6.out.cells | exact B6.out.cellsFin _ _
  clear hK K
  try simp only [Act.put, List.setIfInBounds_toArray, List.set_cons_zero, List.set_cons_succ]
  refine wpAnyH_done (by kernel_rfl) ?_ _
  refine NoPanic.normal ?_
  have B7 := B6.out.fin (.string nq) (.bool false)
  have T7 : Hid _ := B7.2.2
  have P7 : Hid _ := HQ.out _ _ HSF.out ⟨B7.1, B7.2.1⟩
  clear B7
  go_wp2_with fail
  exact bodyPost_ret (results_cell_row (p := 5) rfl _ _ (g0 + 1 + 1) 128 #[.string nq, .bool false] (0, 0) _ rfl T7.out Tryz.underlying128 rfl (by kernel_rfl)) rfl P7.out

set_option maxHeartbeats 4000000 in
set_option maxRecDepth 100000 in
theorem implRootNoteFT (w0 w : World) (gp : Nat) (ss : List SideV) (x y : ByteArray) (hs : Sd w0 w gp ss) (hm : ss.length ≤ 1048576) (hx : x.size = 16) (hy : y.size = 16) (hK : RowG w0 shaK) :
    Calls Tryz.prog 72 #[ndVal (x, false), ndVal (y, true), .pointer (some ⟨gp, 0, none⟩)] w fun e w' => NoteRes w0 w gp ss (x, false) (y, true) e w' := by
  obtain ⟨v0, h0⟩ := hs
  obtain ⟨i0, hi, hz0, hz1, hz2⟩ := info3 infoSide
  have Hss : Hid (ss.length ≤ 1048576) := hm
  have HBO : Hid (∀ w', Below w0.heap.size w0 w' → Calls Tryz.prog 73 #[.string x, .string y] w' fun e w'' => e = .returned (.string (bothB x y)) ∧ Below w'.heap.size w' w'') := fun w' hb => implRootBoth x y w' hx hy (hK.below hb hK.lt)
  have HQ : Hid (∀ (w' : World) (s' : List SideV), s' = ss ++ noteNB (x, false) (y, true) → Sd w0 w' gp s' ∧ OffT 131 gp w w' → NoteRes w0 w gp ss (x, false) (y, true) (.returned (.agg #[.string (bothB x y), .bool true])) w') := fun w' s' he h => ⟨rfl, he ▸ h.1, h.2⟩
  generalize NoteRes w0 w gp ss (x, false) (y, true) = Q at HQ ⊢
  have B0 : Hid _ := NoteW.enter h0 (x, false) (y, true)
  unfold ndVal
  dsimp only at B0 ⊢
  clear h0 hm hx hy hK
  go_enter Tryz.func72, Tryz.ntmps72
  go_upto_region 1 with fail
  generalize ((w.alloc (.cells #[.string x, .bool false] 128)).alloc (.cells #[.string y, .bool true] 128)).alloc (.cells #[.string ⟨#[]⟩, .bool false] 128) = W0 at B0 ⊢
  obtain ⟨g0, hg0⟩ : ∃ g0, g0 = w.heap.size := ⟨_, rfl⟩
  rw [← hg0] at B0 ⊢
  clear hg0
  obtain ⟨⟨a0, a1⟩, b0, b1⟩ := B0.out.cells
  go_upto_region 3 with fail
  clear a0 a1 b0 b1
  obtain ⟨⟨a0, a1⟩, b0, b1⟩ := B0.out.cells
  go_upto_region 4 with fail
  clear a0 a1 b0 b1
  have hx1 : ss.length + 1 ≤ maxLen := by have := Hss.out; unfold maxLen; omega
  have hx2 : (ss.length + 1) * 24 ≤ 140737488355328 := by have := Hss.out; omega
  have hu := enSide_one (⟨x, true⟩ : SideV)
  have hsz := B0.out.f.b.size
  have HRW : Hid (W0.ownsRow w0.heap.size 131 2 v0 ss.length (ss.flatMap enSide)) := B0.out.f.row
  have HTW : Hid (∀ w4 : World, (∀ c, c < W0.heap.size → v0.ownBlock ≠ some c → w4.heap[c]? = W0.heap[c]?) → w4.cell? ⟨gp, 0, none⟩ = some v0 ∧ w4.frozen? ⟨gp, 0, none⟩ = false) := fun w4 h => B0.out.one h
  obtain ⟨⟨a0, a1⟩, b0, b1⟩ := B0.out.cells
  have p1 : W0.cell? ⟨gp, 0, none⟩ = some v0 := B0.out.f.k.cell 0
  go_upto_region 5 with (at_builtin; refine wp_appN rfl _ _ 45 rfl w0.heap.size 131 i0 (.agg #[.string ⟨#[]⟩, .bool false]) 2 24 1 Tryz.underlying45 hi hz0 hz1 hz2 rfl (by decide) (by decide) _ _ _ rfl HRW.out (enSide (⟨x, true⟩ : SideV)) (by first | rfl | simp [Act.eval]) rfl hu hx1 hx2 hsz ?_; intro g2 c2 w2 hown2 hb2 hkeep2; obtain ⟨q2, z2⟩ := HTW.out _ hkeep2)
  have B2 : Hid (NoteW w0 w _ gp g0 _ (ss ++ [(⟨x, true⟩ : SideV)]) _ _) := B0.out.noted hown2 hb2 hkeep2
  clear a0 a1 b0 b1 p1 hx1 hx2 hu hsz HRW HTW q2 z2 hown2 hb2 hkeep2 B0
  generalize (.slice (some ⟨g2, 0, none⟩) (ss.length + 1) c2 : Value) = v2 at B2 ⊢
  generalize w2.setCell ⟨gp, 0, none⟩ v2 = W2 at B2 ⊢
  clear w2
  obtain ⟨s2, hs2⟩ : ∃ s2, s2 = ss ++ [(⟨x, true⟩ : SideV)] := ⟨_, rfl⟩
  have Hs2 : Hid (s2.length ≤ 1048578) := by show _ ≤ _; have := Hss.out; rw [hs2, List.length_append, List.length_singleton]; omega
  have HE2 : Hid (s2 = ss ++ [(⟨x, true⟩ : SideV)]) := hs2
  rw [← hs2] at B2
  clear hs2
  have HSF : Hid (s2 = ss ++ noteNB (x, false) (y, true)) := by show _ = _; rw [HE2.out]; simp [noteNB]
  have B5 : Hid (NoteW w0 w W2.drew gp g0 v2 s2 _ _) := B2.out.drew
  have HB5 : Hid (Below w0.heap.size w0 W2.drew) := B5.out.f.b
  refine wp_region_noPanic ?_
  refine wp_region_held_drew (S := fun w' => (w'.cell? ⟨g0, 0, none⟩ = some (.string x) ∧ w'.cell? ⟨g0, 1, none⟩ = some (.bool false)) ∧ (w'.cell? ⟨g0 + 1, 0, none⟩ = some (.string y) ∧ w'.cell? ⟨g0 + 1, 1, none⟩ = some (.bool true))) (by kernel_rfl) (B5.out.cells) (fun hHeld => ?_)
  refine takeL 0 (v := ?_) rfl (by kernel_rfl) (by kernel_rfl) (by kernel_rfl) (fun _ _ _ h => h) (by kernel_rfl) ?_ (by assumption) ?_
  rotate_left
  · intro w hSw; (try dsimp only at hSw); first | (go_simp; done) | (go_simp; with_reducible rfl)
  try simp only [Act.put, List.setIfInBounds_toArray, List.set_cons_zero, List.set_cons_succ]
  refine takeL 1 (v := ?_) rfl (by kernel_rfl) (by kernel_rfl) (by kernel_rfl) (fun _ _ _ h => h) (by kernel_rfl) ?_ (by assumption) ?_
  rotate_left
  · intro w hSw; (try dsimp only at hSw); first | (go_simp; done) | (go_simp; with_reducible rfl)
  try simp only [Act.put, List.setIfInBounds_toArray, List.set_cons_zero, List.set_cons_succ]
  refine takeL 2 (v := ?_) rfl (by kernel_rfl) (by kernel_rfl) (by kernel_rfl) (fun _ _ _ h => h) (by kernel_rfl) ?_ (by assumption) ?_
  rotate_left
  · intro w hSw; (try dsimp only at hSw); first | (go_simp; done) | (go_simp; with_reducible rfl)
  try simp only [Act.put, List.setIfInBounds_toArray, List.set_cons_zero, List.set_cons_succ]
  refine takeL 3 (v := ?_) rfl (by kernel_rfl) (by kernel_rfl) (by kernel_rfl) (fun _ _ _ h => h) (by kernel_rfl) ?_ (by assumption) ?_
  rotate_left
  · intro w hSw; (try dsimp only at hSw); first | (go_simp; done) | (go_simp; with_reducible rfl)
  try simp only [Act.put, List.setIfInBounds_toArray, List.set_cons_zero, List.set_cons_succ]
  refine takeL 5 (v := ?_) rfl (by kernel_rfl) (by kernel_rfl) (by kernel_rfl) (fun _ _ _ h => h) (by kernel_rfl) ?_ (by assumption) ?_
  rotate_left
  · intro w hSw; (try dsimp only at hSw); first | (go_simp; done) | (go_simp; with_reducible rfl)
  try simp only [Act.put, List.setIfInBounds_toArray, List.set_cons_zero, List.set_cons_succ]
  refine takeL 6 (v := ?_) rfl (by kernel_rfl) (by kernel_rfl) (by kernel_rfl) (fun _ _ _ h => h) (by kernel_rfl) ?_ (by assumption) ?_
  rotate_left
  · intro w hSw; (try dsimp only at hSw); first | (go_simp; done) | (go_simp; with_reducible rfl)
  try simp only [Act.put, List.setIfInBounds_toArray, List.set_cons_zero, List.set_cons_succ]
  refine callL 4 rfl (by kernel_rfl) (fun K hK => ?_)
  go_simp
  refine (HBO.out _ HB5.out).mono ?_
  rintro e w6 ⟨rfl, b6⟩
  have B6 : Hid (NoteW w0 w w6 gp g0 v2 s2 _ _) := B5.out.call b6
  obtain ⟨⟨r0, r1⟩, s0, s1⟩ := B6.out.ans
  clear b6
  generalize bothB x y = nq at HQ ⊢
  go_wp2_with fail
  refine hK.out _ _ ?_ (fun hHeld => ?_)
  · first | exact B6.out.cells | exact B6.out.cellsFin _ _
  clear hK K
  try simp only [Act.put, List.setIfInBounds_toArray, List.set_cons_zero, List.set_cons_succ]
  refine takeL 7 (v := ?_) rfl (by kernel_rfl) (by kernel_rfl) (by kernel_rfl) (fun _ _ _ h => h) (by kernel_rfl) ?_ (by assumption) ?_
  rotate_left
  · intro w hSw; (try dsimp only at hSw); first | (go_simp; done) | (go_simp; with_reducible rfl)
  try simp only [Act.put, List.setIfInBounds_toArray, List.set_cons_zero, List.set_cons_succ]
  refine takeL 8 (v := ?_) rfl (by kernel_rfl) (by kernel_rfl) (by kernel_rfl) (fun _ _ _ h => h) (by kernel_rfl) ?_ (by assumption) ?_
  rotate_left
  · intro w hSw; (try dsimp only at hSw); first | (go_simp; done) | (go_simp; with_reducible rfl)
  try simp only [Act.put, List.setIfInBounds_toArray, List.set_cons_zero, List.set_cons_succ]
  refine takeL 9 (v := ?_) rfl (by kernel_rfl) (by kernel_rfl) (by kernel_rfl) (fun _ _ _ h => h) (by kernel_rfl) ?_ (by assumption) ?_
  rotate_left
  · intro w hSw; (try dsimp only at hSw); first | (go_simp; done) | (go_simp; with_reducible rfl)
  try simp only [Act.put, List.setIfInBounds_toArray, List.set_cons_zero, List.set_cons_succ]
  refine takeL 10 (v := ?_) rfl (by kernel_rfl) (by kernel_rfl) (by kernel_rfl) (fun _ _ _ h => h) (by kernel_rfl) ?_ (by assumption) ?_
  rotate_left
  · intro w hSw; (try dsimp only at hSw); first | (go_simp; done) | (go_simp; with_reducible rfl)
  try simp only [Act.put, List.setIfInBounds_toArray, List.set_cons_zero, List.set_cons_succ]
  refine takeL 11 (v := ?_) rfl (by kernel_rfl) (by kernel_rfl) (by kernel_rfl) (fun _ _ _ h => h) (by kernel_rfl) ?_ (by assumption) ?_
  rotate_left
  · intro w hSw; (try dsimp only at hSw); first | (go_simp; done) | (go_simp; with_reducible rfl)
  try simp only [Act.put, List.setIfInBounds_toArray, List.set_cons_zero, List.set_cons_succ]
  refine callL 12 rfl (by kernel_rfl) (fun K hK => ?_)
  go_simp
  refine hK.out _ _ ?_ (fun hHeld => ?_)
  · first | exact B6.out.cells | exact B6.out.cellsFin _ _
  clear hK K
  try simp only [Act.put, List.setIfInBounds_toArray, List.set_cons_zero, List.set_cons_succ]
  refine wpAnyH_done (by kernel_rfl) ?_ _
  refine NoPanic.normal ?_
  have B7 := B6.out.fin (.string nq) (.bool true)
  have T7 : Hid _ := B7.2.2
  have P7 : Hid _ := HQ.out _ _ HSF.out ⟨B7.1, B7.2.1⟩
  clear B7
  go_wp2_with fail
  exact bodyPost_ret (results_cell_row (p := 5) rfl _ _ (g0 + 1 + 1) 128 #[.string nq, .bool true] (0, 0) _ rfl T7.out Tryz.underlying128 rfl (by kernel_rfl)) rfl P7.out

set_option maxHeartbeats 4000000 in
set_option maxRecDepth 100000 in
theorem implRootNoteTF (w0 w : World) (gp : Nat) (ss : List SideV) (x y : ByteArray) (hs : Sd w0 w gp ss) (hm : ss.length ≤ 1048576) (hx : x.size = 16) (hy : y.size = 16) (hK : RowG w0 shaK) :
    Calls Tryz.prog 72 #[ndVal (x, true), ndVal (y, false), .pointer (some ⟨gp, 0, none⟩)] w fun e w' => NoteRes w0 w gp ss (x, true) (y, false) e w' := by
  obtain ⟨v0, h0⟩ := hs
  obtain ⟨i0, hi, hz0, hz1, hz2⟩ := info3 infoSide
  have Hss : Hid (ss.length ≤ 1048576) := hm
  have HBO : Hid (∀ w', Below w0.heap.size w0 w' → Calls Tryz.prog 73 #[.string x, .string y] w' fun e w'' => e = .returned (.string (bothB x y)) ∧ Below w'.heap.size w' w'') := fun w' hb => implRootBoth x y w' hx hy (hK.below hb hK.lt)
  have HQ : Hid (∀ (w' : World) (s' : List SideV), s' = ss ++ noteNB (x, true) (y, false) → Sd w0 w' gp s' ∧ OffT 131 gp w w' → NoteRes w0 w gp ss (x, true) (y, false) (.returned (.agg #[.string (bothB x y), .bool true])) w') := fun w' s' he h => ⟨rfl, he ▸ h.1, h.2⟩
  generalize NoteRes w0 w gp ss (x, true) (y, false) = Q at HQ ⊢
  have B0 : Hid _ := NoteW.enter h0 (x, true) (y, false)
  unfold ndVal
  dsimp only at B0 ⊢
  clear h0 hm hx hy hK
  go_enter Tryz.func72, Tryz.ntmps72
  go_upto_region 1 with fail
  generalize ((w.alloc (.cells #[.string x, .bool true] 128)).alloc (.cells #[.string y, .bool false] 128)).alloc (.cells #[.string ⟨#[]⟩, .bool false] 128) = W0 at B0 ⊢
  obtain ⟨g0, hg0⟩ : ∃ g0, g0 = w.heap.size := ⟨_, rfl⟩
  rw [← hg0] at B0 ⊢
  clear hg0
  obtain ⟨⟨a0, a1⟩, b0, b1⟩ := B0.out.cells
  go_upto_region 2 with fail
  clear a0 a1 b0 b1
  have hx1 : ss.length + 1 ≤ maxLen := by have := Hss.out; unfold maxLen; omega
  have hx2 : (ss.length + 1) * 24 ≤ 140737488355328 := by have := Hss.out; omega
  have hu := enSide_one (⟨y, false⟩ : SideV)
  have hsz := B0.out.f.b.size
  have HRW : Hid (W0.ownsRow w0.heap.size 131 2 v0 ss.length (ss.flatMap enSide)) := B0.out.f.row
  have HTW : Hid (∀ w4 : World, (∀ c, c < W0.heap.size → v0.ownBlock ≠ some c → w4.heap[c]? = W0.heap[c]?) → w4.cell? ⟨gp, 0, none⟩ = some v0 ∧ w4.frozen? ⟨gp, 0, none⟩ = false) := fun w4 h => B0.out.one h
  obtain ⟨⟨a0, a1⟩, b0, b1⟩ := B0.out.cells
  have p1 : W0.cell? ⟨gp, 0, none⟩ = some v0 := B0.out.f.k.cell 0
  go_upto_region 3 with (at_builtin; refine wp_appN rfl _ _ 45 rfl w0.heap.size 131 i0 (.agg #[.string ⟨#[]⟩, .bool false]) 2 24 1 Tryz.underlying45 hi hz0 hz1 hz2 rfl (by decide) (by decide) _ _ _ rfl HRW.out (enSide (⟨y, false⟩ : SideV)) (by first | rfl | simp [Act.eval]) rfl hu hx1 hx2 hsz ?_; intro g1 c1 w1 hown1 hb1 hkeep1; obtain ⟨q1, z1⟩ := HTW.out _ hkeep1)
  have B1 : Hid (NoteW w0 w _ gp g0 _ (ss ++ [(⟨y, false⟩ : SideV)]) _ _) := B0.out.noted hown1 hb1 hkeep1
  clear a0 a1 b0 b1 p1 hx1 hx2 hu hsz HRW HTW q1 z1 hown1 hb1 hkeep1 B0
  generalize (.slice (some ⟨g1, 0, none⟩) (ss.length + 1) c1 : Value) = v1 at B1 ⊢
  generalize w1.setCell ⟨gp, 0, none⟩ v1 = W1 at B1 ⊢
  clear w1
  obtain ⟨s1, hs1⟩ : ∃ s1, s1 = ss ++ [(⟨y, false⟩ : SideV)] := ⟨_, rfl⟩
  have Hs1 : Hid (s1.length ≤ 1048577) := by show _ ≤ _; have := Hss.out; rw [hs1, List.length_append, List.length_singleton]; omega
  have HE1 : Hid (s1 = ss ++ [(⟨y, false⟩ : SideV)]) := hs1
  rw [← hs1] at B1
  clear hs1
  obtain ⟨⟨a0, a1⟩, b0, b1⟩ := B1.out.cells
  go_upto_region 5 with fail
  clear a0 a1 b0 b1
  have HSF : Hid (s1 = ss ++ noteNB (x, true) (y, false)) := by show _ = _; rw [HE1.out]; simp [noteNB]
  have B5 : Hid (NoteW w0 w W1.drew gp g0 v1 s1 _ _) := B1.out.drew
  have HB5 : Hid (Below w0.heap.size w0 W1.drew) := B5.out.f.b
  refine wp_region_noPanic ?_
  refine wp_region_held_drew (S := fun w' => (w'.cell? ⟨g0, 0, none⟩ = some (.string x) ∧ w'.cell? ⟨g0, 1, none⟩ = some (.bool true)) ∧ (w'.cell? ⟨g0 + 1, 0, none⟩ = some (.string y) ∧ w'.cell? ⟨g0 + 1, 1, none⟩ = some (.bool false))) (by kernel_rfl) (B5.out.cells) (fun hHeld => ?_)
  refine takeL 0 (v := ?_) rfl (by kernel_rfl) (by kernel_rfl) (by kernel_rfl) (fun _ _ _ h => h) (by kernel_rfl) ?_ (by assumption) ?_
  rotate_left
  · intro w hSw; (try dsimp only at hSw); first | (go_simp; done) | (go_simp; with_reducible rfl)
  try simp only [Act.put, List.setIfInBounds_toArray, List.set_cons_zero, List.set_cons_succ]
  refine takeL 1 (v := ?_) rfl (by kernel_rfl) (by kernel_rfl) (by kernel_rfl) (fun _ _ _ h => h) (by kernel_rfl) ?_ (by assumption) ?_
  rotate_left
  · intro w hSw; (try dsimp only at hSw); first | (go_simp; done) | (go_simp; with_reducible rfl)
  try simp only [Act.put, List.setIfInBounds_toArray, List.set_cons_zero, List.set_cons_succ]
  refine takeL 2 (v := ?_) rfl (by kernel_rfl) (by kernel_rfl) (by kernel_rfl) (fun _ _ _ h => h) (by kernel_rfl) ?_ (by assumption) ?_
  rotate_left
  · intro w hSw; (try dsimp only at hSw); first | (go_simp; done) | (go_simp; with_reducible rfl)
  try simp only [Act.put, List.setIfInBounds_toArray, List.set_cons_zero, List.set_cons_succ]
  refine takeL 3 (v := ?_) rfl (by kernel_rfl) (by kernel_rfl) (by kernel_rfl) (fun _ _ _ h => h) (by kernel_rfl) ?_ (by assumption) ?_
  rotate_left
  · intro w hSw; (try dsimp only at hSw); first | (go_simp; done) | (go_simp; with_reducible rfl)
  try simp only [Act.put, List.setIfInBounds_toArray, List.set_cons_zero, List.set_cons_succ]
  refine takeL 5 (v := ?_) rfl (by kernel_rfl) (by kernel_rfl) (by kernel_rfl) (fun _ _ _ h => h) (by kernel_rfl) ?_ (by assumption) ?_
  rotate_left
  · intro w hSw; (try dsimp only at hSw); first | (go_simp; done) | (go_simp; with_reducible rfl)
  try simp only [Act.put, List.setIfInBounds_toArray, List.set_cons_zero, List.set_cons_succ]
  refine takeL 6 (v := ?_) rfl (by kernel_rfl) (by kernel_rfl) (by kernel_rfl) (fun _ _ _ h => h) (by kernel_rfl) ?_ (by assumption) ?_
  rotate_left
  · intro w hSw; (try dsimp only at hSw); first | (go_simp; done) | (go_simp; with_reducible rfl)
  try simp only [Act.put, List.setIfInBounds_toArray, List.set_cons_zero, List.set_cons_succ]
  refine callL 4 rfl (by kernel_rfl) (fun K hK => ?_)
  go_simp
  refine (HBO.out _ HB5.out).mono ?_
  rintro e w6 ⟨rfl, b6⟩
  have B6 : Hid (NoteW w0 w w6 gp g0 v1 s1 _ _) := B5.out.call b6
  obtain ⟨⟨r0, r1⟩, s0, s1⟩ := B6.out.ans
  clear b6
  generalize bothB x y = nq at HQ ⊢
  go_wp2_with fail
  refine hK.out _ _ ?_ (fun hHeld => ?_)
  · first | exact B6.out.cells | exact B6.out.cellsFin _ _
  clear hK K
  try simp only [Act.put, List.setIfInBounds_toArray, List.set_cons_zero, List.set_cons_succ]
  refine takeL 7 (v := ?_) rfl (by kernel_rfl) (by kernel_rfl) (by kernel_rfl) (fun _ _ _ h => h) (by kernel_rfl) ?_ (by assumption) ?_
  rotate_left
  · intro w hSw; (try dsimp only at hSw); first | (go_simp; done) | (go_simp; with_reducible rfl)
  try simp only [Act.put, List.setIfInBounds_toArray, List.set_cons_zero, List.set_cons_succ]
  refine skipL 8 rfl (by kernel_rfl) (by kernel_rfl) (by kernel_rfl) (fun _ _ _ h => h) (by kernel_rfl) (by assumption) ?_
  try simp only [Act.put, List.setIfInBounds_toArray, List.set_cons_zero, List.set_cons_succ]
  refine skipL 9 rfl (by kernel_rfl) (by kernel_rfl) (by kernel_rfl) (fun _ _ _ h => h) (by kernel_rfl) (by assumption) ?_
  try simp only [Act.put, List.setIfInBounds_toArray, List.set_cons_zero, List.set_cons_succ]
  refine takeL 10 (v := ?_) rfl (by kernel_rfl) (by kernel_rfl) (by kernel_rfl) (fun _ _ _ h => h) (by kernel_rfl) ?_ (by assumption) ?_
  rotate_left
  · intro w hSw; (try dsimp only at hSw); first | (go_simp; done) | (go_simp; with_reducible rfl)
  try simp only [Act.put, List.setIfInBounds_toArray, List.set_cons_zero, List.set_cons_succ]
  refine takeL 11 (v := ?_) rfl (by kernel_rfl) (by kernel_rfl) (by kernel_rfl) (fun _ _ _ h => h) (by kernel_rfl) ?_ (by assumption) ?_
  rotate_left
  · intro w hSw; (try dsimp only at hSw); first | (go_simp; done) | (go_simp; with_reducible rfl)
  try simp only [Act.put, List.setIfInBounds_toArray, List.set_cons_zero, List.set_cons_succ]
  refine callL 12 rfl (by kernel_rfl) (fun K hK => ?_)
  go_simp
  refine hK.out _ _ ?_ (fun hHeld => ?_)
  · first | exact B6.out.cells | exact B6.out.cellsFin _ _
  clear hK K
  try simp only [Act.put, List.setIfInBounds_toArray, List.set_cons_zero, List.set_cons_succ]
  refine wpAnyH_done (by kernel_rfl) ?_ _
  refine NoPanic.normal ?_
  have B7 := B6.out.fin (.string nq) (.bool true)
  have T7 : Hid _ := B7.2.2
  have P7 : Hid _ := HQ.out _ _ HSF.out ⟨B7.1, B7.2.1⟩
  clear B7
  go_wp2_with fail
  exact bodyPost_ret (results_cell_row (p := 5) rfl _ _ (g0 + 1 + 1) 128 #[.string nq, .bool true] (0, 0) _ rfl T7.out Tryz.underlying128 rfl (by kernel_rfl)) rfl P7.out

set_option maxHeartbeats 4000000 in
set_option maxRecDepth 100000 in
theorem implRootNoteTT (w0 w : World) (gp : Nat) (ss : List SideV) (x y : ByteArray) (hs : Sd w0 w gp ss) (hm : ss.length ≤ 1048576) (hx : x.size = 16) (hy : y.size = 16) (hK : RowG w0 shaK) :
    Calls Tryz.prog 72 #[ndVal (x, true), ndVal (y, true), .pointer (some ⟨gp, 0, none⟩)] w fun e w' => NoteRes w0 w gp ss (x, true) (y, true) e w' := by
  obtain ⟨v0, h0⟩ := hs
  obtain ⟨i0, hi, hz0, hz1, hz2⟩ := info3 infoSide
  have Hss : Hid (ss.length ≤ 1048576) := hm
  have HBO : Hid (∀ w', Below w0.heap.size w0 w' → Calls Tryz.prog 73 #[.string x, .string y] w' fun e w'' => e = .returned (.string (bothB x y)) ∧ Below w'.heap.size w' w'') := fun w' hb => implRootBoth x y w' hx hy (hK.below hb hK.lt)
  have HQ : Hid (∀ (w' : World) (s' : List SideV), s' = ss ++ noteNB (x, true) (y, true) → Sd w0 w' gp s' ∧ OffT 131 gp w w' → NoteRes w0 w gp ss (x, true) (y, true) (.returned (.agg #[.string (bothB x y), .bool true])) w') := fun w' s' he h => ⟨rfl, he ▸ h.1, h.2⟩
  generalize NoteRes w0 w gp ss (x, true) (y, true) = Q at HQ ⊢
  have B0 : Hid _ := NoteW.enter h0 (x, true) (y, true)
  unfold ndVal
  dsimp only at B0 ⊢
  clear h0 hm hx hy hK
  go_enter Tryz.func72, Tryz.ntmps72
  go_upto_region 1 with fail
  generalize ((w.alloc (.cells #[.string x, .bool true] 128)).alloc (.cells #[.string y, .bool true] 128)).alloc (.cells #[.string ⟨#[]⟩, .bool false] 128) = W0 at B0 ⊢
  obtain ⟨g0, hg0⟩ : ∃ g0, g0 = w.heap.size := ⟨_, rfl⟩
  rw [← hg0] at B0 ⊢
  clear hg0
  obtain ⟨⟨a0, a1⟩, b0, b1⟩ := B0.out.cells
  go_upto_region 2 with fail
  clear a0 a1 b0 b1
  have hx1 : ss.length + 1 ≤ maxLen := by have := Hss.out; unfold maxLen; omega
  have hx2 : (ss.length + 1) * 24 ≤ 140737488355328 := by have := Hss.out; omega
  have hu := enSide_one (⟨y, false⟩ : SideV)
  have hsz := B0.out.f.b.size
  have HRW : Hid (W0.ownsRow w0.heap.size 131 2 v0 ss.length (ss.flatMap enSide)) := B0.out.f.row
  have HTW : Hid (∀ w4 : World, (∀ c, c < W0.heap.size → v0.ownBlock ≠ some c → w4.heap[c]? = W0.heap[c]?) → w4.cell? ⟨gp, 0, none⟩ = some v0 ∧ w4.frozen? ⟨gp, 0, none⟩ = false) := fun w4 h => B0.out.one h
  obtain ⟨⟨a0, a1⟩, b0, b1⟩ := B0.out.cells
  have p1 : W0.cell? ⟨gp, 0, none⟩ = some v0 := B0.out.f.k.cell 0
  go_upto_region 3 with (at_builtin; refine wp_appN rfl _ _ 45 rfl w0.heap.size 131 i0 (.agg #[.string ⟨#[]⟩, .bool false]) 2 24 1 Tryz.underlying45 hi hz0 hz1 hz2 rfl (by decide) (by decide) _ _ _ rfl HRW.out (enSide (⟨y, false⟩ : SideV)) (by first | rfl | simp [Act.eval]) rfl hu hx1 hx2 hsz ?_; intro g1 c1 w1 hown1 hb1 hkeep1; obtain ⟨q1, z1⟩ := HTW.out _ hkeep1)
  have B1 : Hid (NoteW w0 w _ gp g0 _ (ss ++ [(⟨y, false⟩ : SideV)]) _ _) := B0.out.noted hown1 hb1 hkeep1
  clear a0 a1 b0 b1 p1 hx1 hx2 hu hsz HRW HTW q1 z1 hown1 hb1 hkeep1 B0
  generalize (.slice (some ⟨g1, 0, none⟩) (ss.length + 1) c1 : Value) = v1 at B1 ⊢
  generalize w1.setCell ⟨gp, 0, none⟩ v1 = W1 at B1 ⊢
  clear w1
  obtain ⟨s1, hs1⟩ : ∃ s1, s1 = ss ++ [(⟨y, false⟩ : SideV)] := ⟨_, rfl⟩
  have Hs1 : Hid (s1.length ≤ 1048577) := by show _ ≤ _; have := Hss.out; rw [hs1, List.length_append, List.length_singleton]; omega
  have HE1 : Hid (s1 = ss ++ [(⟨y, false⟩ : SideV)]) := hs1
  rw [← hs1] at B1
  clear hs1
  obtain ⟨⟨a0, a1⟩, b0, b1⟩ := B1.out.cells
  go_upto_region 4 with fail
  clear a0 a1 b0 b1
  have hx1 : s1.length + 1 ≤ maxLen := by have := Hs1.out; unfold maxLen; omega
  have hx2 : (s1.length + 1) * 24 ≤ 140737488355328 := by have := Hs1.out; omega
  have hu := enSide_one (⟨x, true⟩ : SideV)
  have hsz := B1.out.f.b.size
  have HRW : Hid (W1.ownsRow w0.heap.size 131 2 v1 s1.length (s1.flatMap enSide)) := B1.out.f.row
  have HTW : Hid (∀ w4 : World, (∀ c, c < W1.heap.size → v1.ownBlock ≠ some c → w4.heap[c]? = W1.heap[c]?) → w4.cell? ⟨gp, 0, none⟩ = some v1 ∧ w4.frozen? ⟨gp, 0, none⟩ = false) := fun w4 h => B1.out.one h
  obtain ⟨⟨a0, a1⟩, b0, b1⟩ := B1.out.cells
  have p1 : W1.cell? ⟨gp, 0, none⟩ = some v1 := B1.out.f.k.cell 0
  go_upto_region 5 with (at_builtin; refine wp_appN rfl _ _ 45 rfl w0.heap.size 131 i0 (.agg #[.string ⟨#[]⟩, .bool false]) 2 24 1 Tryz.underlying45 hi hz0 hz1 hz2 rfl (by decide) (by decide) _ _ _ rfl HRW.out (enSide (⟨x, true⟩ : SideV)) (by first | rfl | simp [Act.eval]) rfl hu hx1 hx2 hsz ?_; intro g2 c2 w2 hown2 hb2 hkeep2; obtain ⟨q2, z2⟩ := HTW.out _ hkeep2)
  have B2 : Hid (NoteW w0 w _ gp g0 _ (s1 ++ [(⟨x, true⟩ : SideV)]) _ _) := B1.out.noted hown2 hb2 hkeep2
  clear a0 a1 b0 b1 p1 hx1 hx2 hu hsz HRW HTW q2 z2 hown2 hb2 hkeep2 B1
  generalize (.slice (some ⟨g2, 0, none⟩) (s1.length + 1) c2 : Value) = v2 at B2 ⊢
  generalize w2.setCell ⟨gp, 0, none⟩ v2 = W2 at B2 ⊢
  clear w2
  obtain ⟨s2, hs2⟩ : ∃ s2, s2 = s1 ++ [(⟨x, true⟩ : SideV)] := ⟨_, rfl⟩
  have Hs2 : Hid (s2.length ≤ 1048578) := by show _ ≤ _; have := Hs1.out; rw [hs2, List.length_append, List.length_singleton]; omega
  have HE2 : Hid (s2 = s1 ++ [(⟨x, true⟩ : SideV)]) := hs2
  rw [← hs2] at B2
  clear hs2
  have HSF : Hid (s2 = ss ++ noteNB (x, true) (y, true)) := by show _ = _; rw [HE2.out]; rw [HE1.out]; simp [noteNB]
  have B5 : Hid (NoteW w0 w W2.drew gp g0 v2 s2 _ _) := B2.out.drew
  have HB5 : Hid (Below w0.heap.size w0 W2.drew) := B5.out.f.b
  refine wp_region_noPanic ?_
  refine wp_region_held_drew (S := fun w' => (w'.cell? ⟨g0, 0, none⟩ = some (.string x) ∧ w'.cell? ⟨g0, 1, none⟩ = some (.bool true)) ∧ (w'.cell? ⟨g0 + 1, 0, none⟩ = some (.string y) ∧ w'.cell? ⟨g0 + 1, 1, none⟩ = some (.bool true))) (by kernel_rfl) (B5.out.cells) (fun hHeld => ?_)
  refine takeL 0 (v := ?_) rfl (by kernel_rfl) (by kernel_rfl) (by kernel_rfl) (fun _ _ _ h => h) (by kernel_rfl) ?_ (by assumption) ?_
  rotate_left
  · intro w hSw; (try dsimp only at hSw); first | (go_simp; done) | (go_simp; with_reducible rfl)
  try simp only [Act.put, List.setIfInBounds_toArray, List.set_cons_zero, List.set_cons_succ]
  refine takeL 1 (v := ?_) rfl (by kernel_rfl) (by kernel_rfl) (by kernel_rfl) (fun _ _ _ h => h) (by kernel_rfl) ?_ (by assumption) ?_
  rotate_left
  · intro w hSw; (try dsimp only at hSw); first | (go_simp; done) | (go_simp; with_reducible rfl)
  try simp only [Act.put, List.setIfInBounds_toArray, List.set_cons_zero, List.set_cons_succ]
  refine takeL 2 (v := ?_) rfl (by kernel_rfl) (by kernel_rfl) (by kernel_rfl) (fun _ _ _ h => h) (by kernel_rfl) ?_ (by assumption) ?_
  rotate_left
  · intro w hSw; (try dsimp only at hSw); first | (go_simp; done) | (go_simp; with_reducible rfl)
  try simp only [Act.put, List.setIfInBounds_toArray, List.set_cons_zero, List.set_cons_succ]
  refine takeL 3 (v := ?_) rfl (by kernel_rfl) (by kernel_rfl) (by kernel_rfl) (fun _ _ _ h => h) (by kernel_rfl) ?_ (by assumption) ?_
  rotate_left
  · intro w hSw; (try dsimp only at hSw); first | (go_simp; done) | (go_simp; with_reducible rfl)
  try simp only [Act.put, List.setIfInBounds_toArray, List.set_cons_zero, List.set_cons_succ]
  refine takeL 5 (v := ?_) rfl (by kernel_rfl) (by kernel_rfl) (by kernel_rfl) (fun _ _ _ h => h) (by kernel_rfl) ?_ (by assumption) ?_
  rotate_left
  · intro w hSw; (try dsimp only at hSw); first | (go_simp; done) | (go_simp; with_reducible rfl)
  try simp only [Act.put, List.setIfInBounds_toArray, List.set_cons_zero, List.set_cons_succ]
  refine takeL 6 (v := ?_) rfl (by kernel_rfl) (by kernel_rfl) (by kernel_rfl) (fun _ _ _ h => h) (by kernel_rfl) ?_ (by assumption) ?_
  rotate_left
  · intro w hSw; (try dsimp only at hSw); first | (go_simp; done) | (go_simp; with_reducible rfl)
  try simp only [Act.put, List.setIfInBounds_toArray, List.set_cons_zero, List.set_cons_succ]
  refine callL 4 rfl (by kernel_rfl) (fun K hK => ?_)
  go_simp
  refine (HBO.out _ HB5.out).mono ?_
  rintro e w6 ⟨rfl, b6⟩
  have B6 : Hid (NoteW w0 w w6 gp g0 v2 s2 _ _) := B5.out.call b6
  obtain ⟨⟨r0, r1⟩, s0, s1⟩ := B6.out.ans
  clear b6
  generalize bothB x y = nq at HQ ⊢
  go_wp2_with fail
  refine hK.out _ _ ?_ (fun hHeld => ?_)
  · first | exact B6.out.cells | exact B6.out.cellsFin _ _
  clear hK K
  try simp only [Act.put, List.setIfInBounds_toArray, List.set_cons_zero, List.set_cons_succ]
  refine takeL 7 (v := ?_) rfl (by kernel_rfl) (by kernel_rfl) (by kernel_rfl) (fun _ _ _ h => h) (by kernel_rfl) ?_ (by assumption) ?_
  rotate_left
  · intro w hSw; (try dsimp only at hSw); first | (go_simp; done) | (go_simp; with_reducible rfl)
  try simp only [Act.put, List.setIfInBounds_toArray, List.set_cons_zero, List.set_cons_succ]
  refine skipL 8 rfl (by kernel_rfl) (by kernel_rfl) (by kernel_rfl) (fun _ _ _ h => h) (by kernel_rfl) (by assumption) ?_
  try simp only [Act.put, List.setIfInBounds_toArray, List.set_cons_zero, List.set_cons_succ]
  refine skipL 9 rfl (by kernel_rfl) (by kernel_rfl) (by kernel_rfl) (fun _ _ _ h => h) (by kernel_rfl) (by assumption) ?_
  try simp only [Act.put, List.setIfInBounds_toArray, List.set_cons_zero, List.set_cons_succ]
  refine takeL 10 (v := ?_) rfl (by kernel_rfl) (by kernel_rfl) (by kernel_rfl) (fun _ _ _ h => h) (by kernel_rfl) ?_ (by assumption) ?_
  rotate_left
  · intro w hSw; (try dsimp only at hSw); first | (go_simp; done) | (go_simp; with_reducible rfl)
  try simp only [Act.put, List.setIfInBounds_toArray, List.set_cons_zero, List.set_cons_succ]
  refine takeL 11 (v := ?_) rfl (by kernel_rfl) (by kernel_rfl) (by kernel_rfl) (fun _ _ _ h => h) (by kernel_rfl) ?_ (by assumption) ?_
  rotate_left
  · intro w hSw; (try dsimp only at hSw); first | (go_simp; done) | (go_simp; with_reducible rfl)
  try simp only [Act.put, List.setIfInBounds_toArray, List.set_cons_zero, List.set_cons_succ]
  refine callL 12 rfl (by kernel_rfl) (fun K hK => ?_)
  go_simp
  refine hK.out _ _ ?_ (fun hHeld => ?_)
  · first | exact B6.out.cells | exact B6.out.cellsFin _ _
  clear hK K
  try simp only [Act.put, List.setIfInBounds_toArray, List.set_cons_zero, List.set_cons_succ]
  refine wpAnyH_done (by kernel_rfl) ?_ _
  refine NoPanic.normal ?_
  have B7 := B6.out.fin (.string nq) (.bool true)
  have T7 : Hid _ := B7.2.2
  have P7 : Hid _ := HQ.out _ _ HSF.out ⟨B7.1, B7.2.1⟩
  clear B7
  go_wp2_with fail
  exact bodyPost_ret (results_cell_row (p := 5) rfl _ _ (g0 + 1 + 1) 128 #[.string nq, .bool true] (0, 0) _ rfl T7.out Tryz.underlying128 rfl (by kernel_rfl)) rfl P7.out

theorem implRootNote (w0 w : World) (gp : Nat) (ss : List SideV) (a b : NodeB) (hs : Sd w0 w gp ss) (hm : ss.length ≤ 1048576) (hx : a.1.size = 16) (hy : b.1.size = 16) (hK : RowG w0 shaK) :
    Calls Tryz.prog 72 #[ndVal a, ndVal b, .pointer (some ⟨gp, 0, none⟩)] w fun e w' => NoteRes w0 w gp ss a b e w' := by
  obtain ⟨x, xy⟩ := a
  obtain ⟨y, yy⟩ := b
  cases xy <;> cases yy
  · exact implRootNoteFF w0 w gp ss x y hs hm hx hy hK
  · exact implRootNoteFT w0 w gp ss x y hs hm hx hy hK
  · exact implRootNoteTF w0 w gp ss x y hs hm hx hy hK
  · exact implRootNoteTT w0 w gp ss x y hs hm hx hy hK

end Go.Proofs.YtkajpkfhedfmaaaGreatDoor

set_option linter.unusedVariables false
namespace Go.Proofs.YtkajpkfhedfmaaaGreatDoor
open Go.RowKit Go.Deep

theorem makeN0 (n : Nat) (hn : n ≤ 1048577) (w : World) : (Instr.makeSlice 126 (.int .i64 0) (.int .i64 (n : Int))).run Tryz.prog w = .ok (.slice (some ⟨w.heap.size, 0, none⟩) 0 n) (w.alloc (.cells (madeCells #[.string ⟨#[]⟩, .bool false] (n * 2)) 128)) := by
  obtain ⟨i, hi, hz, hs, hb⟩ := info3 infoNodeB
  have hb' : (i.bytes : Int) * (n : Int) ≤ 281474976710656 := by rw [hb]; omega
  have hr := run_make (P := Tryz.prog) w 126 128 i _ Tryz.underlying126 hi hz .i64 .i64 0 (n : Int) (by omega) (by omega) hb' (by omega)
  simp only [Int.toNat_natCast, hs, Value.cells] at hr
  exact hr
theorem rowN0 (n : Nat) (hn : n ≤ 1048577) (w : World) : (w.alloc (.cells (madeCells #[.string ⟨#[]⟩, .bool false] (n * 2)) 128)).ownsRow w.heap.size 128 2 (.slice (some ⟨w.heap.size, 0, none⟩) 0 n) 0 (([] : List NodeB).flatMap ndEnc) :=
  ⟨by simp, .inr ⟨w.heap.size, n, _, rfl, Nat.le_refl _, heap_alloc_new w _, Nat.zero_le _, by unfold maxLen; omega, by simp [madeCells], by simp⟩⟩
theorem Sd.b {w0 wr : World} {gp : Nat} {ss : List SideV} (h : Sd w0 wr gp ss) : Below w0.heap.size w0 wr := by
  obtain ⟨vs, h⟩ := h
  exact h.b
theorem Sd.call {w0 wr w' : World} {gp : Nat} {ss : List SideV} (h : Sd w0 wr gp ss) (hb : Below wr.heap.size wr w') : Sd w0 w' gp ss := by
  obtain ⟨vs, h⟩ := h
  exact ⟨vs, h.call hb⟩
theorem Sd.blk {w0 wr : World} {gp : Nat} {ss : List SideV} (h : Sd w0 wr gp ss) : ∃ cs, CBk wr gp 45 cs := by
  obtain ⟨vs, h⟩ := h
  exact ⟨_, h.k⟩
/-- Behind an append to a row of nodes. -/
theorem Sd.app {w0 w1 w4 : World} {gp B n : Nat} {o : Obj} {v : Value} {xs : List Value} {ss : List SideV} (h : Sd w0 w1 gp ss) (hr : w1.ownsRow B 128 2 v n xs) (hB : w0.heap.size ≤ B) (hg : (w1.alloc o).grownBy w4 v.ownBlock) : Sd w0 w4 gp ss := by
  have hb : Below w1.heap.size w1 (w1.alloc o) := (Below.refl _ w1).alloc (Nat.le_refl _) _
  obtain ⟨vs, h⟩ := h
  have h2 := h.call hb
  have hr2 := ownE_below hr hb
  refine ⟨vs, (hg.block gp h2.k.lt (Ne.symm (ownE_ne hr2 h2.k btn))).trans h2.k, ownE_keep h2.row (fun b hv hlt => ?_), ?_, h2.lo⟩
  · obtain ⟨⟨cur, hc⟩, _⟩ := ownE_is h2.row hv
    exact hg.block b hlt (Ne.symm (ownE_ne hr2 hc stnB))
  · exact h2.b.grown hg h2.b.size (fun j hj => Nat.le_trans hB (ownE_is hr2 hj).2)
theorem OffT.app {P : TypeId} {gp B n k : Nat} {e : TypeId} {w w1 w4 : World} {o : Obj} {v : Value} {xs : List Value} (h : OffT P gp w w1) (hr : w1.ownsRow B e k v n xs) (hB : w.heap.size ≤ B) (hg : (w1.alloc o).grownBy w4 v.ownBlock) : OffT P gp w w4 := by
  have hb : Below w1.heap.size w1 (w1.alloc o) := (Below.refl _ w1).alloc (Nat.le_refl _) _
  have h2 := h.below hb
  have hr2 := ownE_below hr hb
  refine ⟨Nat.le_trans h2.1 hg.size, fun c hc hne hp => ?_⟩
  rw [← h2.2 c hc hne hp]
  refine hg.block c (Nat.lt_of_lt_of_le hc h2.1) (fun he => ?_)
  have := (ownE_is hr2 he.symm).2
  omega
theorem Sd.app0 {w0 w1 w4 : World} {gp B n : Nat} {v : Value} {xs : List Value} {ss : List SideV} (h : Sd w0 w1 gp ss) (hr : w1.ownsRow B 128 2 v n xs) (hB : w0.heap.size ≤ B) (hg : w1.grownBy w4 v.ownBlock) : Sd w0 w4 gp ss := by
  obtain ⟨vs, h⟩ := h
  have h2 := h
  have hr2 := hr
  refine ⟨vs, (hg.block gp h2.k.lt (Ne.symm (ownE_ne hr2 h2.k btn))).trans h2.k, ownE_keep h2.row (fun b hv hlt => ?_), ?_, h2.lo⟩
  · obtain ⟨⟨cur, hc⟩, _⟩ := ownE_is h2.row hv
    exact hg.block b hlt (Ne.symm (ownE_ne hr2 hc stnB))
  · exact h2.b.grown hg h2.b.size (fun j hj => Nat.le_trans hB (ownE_is hr2 hj).2)
theorem OffT.app0 {P : TypeId} {gp B n k : Nat} {e : TypeId} {w w1 w4 : World} {v : Value} {xs : List Value} (h : OffT P gp w w1) (hr : w1.ownsRow B e k v n xs) (hB : w.heap.size ≤ B) (hg : w1.grownBy w4 v.ownBlock) : OffT P gp w w4 := by
  have h2 := h
  have hr2 := hr
  refine ⟨Nat.le_trans h2.1 hg.size, fun c hc hne hp => ?_⟩
  rw [← h2.2 c hc hne hp]
  refine hg.block c (Nat.lt_of_lt_of_le hc h2.1) (fun he => ?_)
  have := (ownE_is hr2 he.symm).2
  omega
/-- While the row above is made. -/
structure AbW (w0 w wr : World) (gp g n cap B : Nat) (l : List NodeB) (ss : List SideV) (g3 ml c3 k : Nat) : Prop where
  row : wr.ownsRow B 128 2 (.slice (some ⟨g, 0, none⟩) n cap) n (l.flatMap ndEnc)
  up : wr.ownsRow w.heap.size 128 2 (.slice (some ⟨g3, 0, none⟩) ml c3) ml ((upN (l.take k)).flatMap ndEnc)
  sd : Sd w0 wr gp (ss ++ noteU (l.take k))
  off : OffT 131 gp w wr
theorem AbW.far {w0 w wr : World} {gp g n cap B : Nat} {l : List NodeB} {ss : List SideV} {g3 ml c3 k : Nat} (h : AbW w0 w wr gp g n cap B l ss g3 ml c3 k) (hg : g < w.heap.size) : g < wr.heap.size ∧ g ≠ g3 ∧ g ≠ gp ∧ (∀ cur fr, wr.heap[g]? ≠ some (.cells cur 131 fr)) := by
  obtain ⟨⟨c1, k1⟩, _⟩ := ownE_is h.row (b := g) rfl
  obtain ⟨_, h3⟩ := ownE_is h.up (b := g3) rfl
  obtain ⟨cs, hk⟩ := h.sd.blk
  exact ⟨k1.lt, by omega, cbk_ne k1 hk ntb, cbk_notT k1 nts⟩
theorem AbW.step {w0 w wr w1 w4 : World} {gp g n cap B : Nat} {l : List NodeB} {ss : List SideV} {g3 ml c3 g4 c4 k : Nat} {o : Obj} (h : AbW w0 w wr gp g n cap B l ss g3 ml c3 k) (hg : g < w.heap.size) (hw : w0.heap.size ≤ w.heap.size) (hk : k + 1 < l.length) (he : k % 2 = 0) (sd1 : Sd w0 w1 gp ((ss ++ noteU (l.take k)) ++ noteNB (l.getD k default) (l.getD (k + 1) default))) (of1 : OffT 131 gp wr w1) (hown : w4.ownsRow w.heap.size 128 2 (.slice (some ⟨g4, 0, none⟩) (ml + 1) c4) (ml + 1) ((upN (l.take k)).flatMap ndEnc ++ ndEnc (bothNB (l.getD k default) (l.getD (k + 1) default)))) (hgr : (w1.alloc o).grownBy w4 (some g3)) : AbW w0 w w4 gp g n cap B l ss g4 (ml + 1) c4 (k + 2) := by
  obtain ⟨t1, t2⟩ := takeB_two l k hk he
  obtain ⟨cs, hb⟩ := h.sd.blk
  have hrow1 := of1.own h.row nts hb ntb
  have hup1 := of1.own h.up nts hb ntb
  have hf := h.far hg
  refine ⟨ownE_keep hrow1 (fun b hv hlt => ?_), ?_, ?_, (h.off.trans of1).app hup1 (Nat.le_refl _) hgr⟩
  · have hbg : g = b := by simpa [Value.ownBlock] using hv
    subst hbg
    refine (hgr.block g (by simp; omega) (fun hh => hf.2.1 (by simpa using hh))).trans (Below.heap_alloc _ _ _ hlt)
  · rw [t1, List.flatMap_append]
    simpa using hown
  · rw [t2, ← List.append_assoc]
    exact sd1.app hup1 hw hgr
theorem AbW.cells {w0 w wr : World} {gp g n cap B : Nat} {l : List NodeB} {ss : List SideV} {g3 ml c3 k : Nat} (h : AbW w0 w wr gp g n cap B l ss g3 ml c3 k) (hn : n = l.length) : AtF ndEnc 2 wr g l := (FRow.at ndEnc_len (FRow.of h.row hn)).1
def AboveRes (w0 w : World) (gp : Nat) (l : List NodeB) (ss : List SideV) (e : Ending) (w' : World) : Prop := ∃ g' c', e = .returned (.slice (some ⟨g', 0, none⟩) (upN l).length c') ∧ w'.ownsRow w.heap.size 128 2 (.slice (some ⟨g', 0, none⟩) (upN l).length c') (upN l).length ((upN l).flatMap ndEnc) ∧ Sd w0 w' gp (ss ++ noteU l) ∧ OffT 131 gp w w'

set_option maxHeartbeats 8000000 in
set_option maxRecDepth 100000 in
theorem implAboveN (w0 : World) (gp g n cap B : Nat) (l : List NodeB) (ss : List SideV) (w : World) (hr : w.ownsRow B 128 2 (.slice (some ⟨g, 0, none⟩) n cap) n (l.flatMap ndEnc)) (hn : n = l.length) (hc : n ≤ cap) (hm : n ≤ 1000) (hs : Sd w0 w gp ss) (h16 : ∀ q ∈ l, q.1.size = 16) (hsl : ss.length + n ≤ 1048576) (hK : RowG w0 shaK) :
    Calls Tryz.prog 107 #[.slice (some ⟨g, 0, none⟩) n cap, .func (.func 72) #[] #[.pointer (some ⟨gp, 0, none⟩)]] w fun e w' => AboveRes w0 w gp l ss e w' := by
  obtain ⟨i0, hi, hz0, hz1, hz2⟩ := info3 infoNodeB
  have hgl : g < w.heap.size := by
    obtain ⟨⟨c1, k1⟩, _⟩ := ownE_is hr (b := g) rfl
    exact k1.lt
  have HGL : Hid (g < w.heap.size ∧ w0.heap.size ≤ w.heap.size) := ⟨hgl, hs.b.size⟩
  have HN : Hid (n = l.length) := hn
  have HSL : Hid (ss.length + n ≤ 1048576) := hsl
  have HS : Hid (∀ i, i < l.length → (l.getD i default).1.size = 16) := by
    intro i hi
    refine h16 _ ?_
    simp [List.getElem?_eq_getElem hi]
  have HCO : Hid (∀ (w' : World) (s' : List SideV) (x y : NodeB), Sd w0 w' gp s' → s'.length ≤ 1048576 → x.1.size = 16 → y.1.size = 16 → Calls Tryz.prog 72 #[.agg #[.string x.1, .bool x.2], .agg #[.string y.1, .bool y.2], .pointer (some ⟨gp, 0, none⟩)] w' fun e w'' => e = .returned (.agg #[.string (bothNB x y).1, .bool (bothNB x y).2]) ∧ Sd w0 w'' gp (s' ++ noteNB x y) ∧ OffT 131 gp w' w'') := fun w' s' x y h1 h2 h3 h4 => implRootNote w0 w' gp s' x y h1 h2 h3 h4 hK
  obtain ⟨m2, hm2⟩ : ∃ m2, m2 = (n + 1) / 2 := ⟨_, rfl⟩
  have hmk := makeN0 m2 (by omega) w
  have hq : ((n : Int) + 1) / 2 = (m2 : Int) := by omega
  have hb0 : Below w.heap.size w (w.alloc (.cells (madeCells #[.string ⟨#[]⟩, .bool false] (m2 * 2)) 128)) := (Below.refl _ w).alloc (Nat.le_refl _) _
  have A0 : Hid (AbW w0 w (w.alloc (.cells (madeCells #[.string ⟨#[]⟩, .bool false] (m2 * 2)) 128)) gp g n cap B l ss w.heap.size 0 m2 0) := by
    refine ⟨ownE_below hr hb0, rowN0 m2 (by omega) w, ?_, (OffT.refl 131 gp w).below hb0⟩
    rw [List.take_zero, noteU, List.append_nil]
    exact hs.call hb0
    all_goals simp
  have HQ : Hid (∀ (wr : World) (g' m c' : Nat), m = (upN l).length → wr.ownsRow w.heap.size 128 2 (.slice (some ⟨g', 0, none⟩) m c') m ((upN l).flatMap ndEnc) → Sd w0 wr gp (ss ++ noteU l) → OffT 131 gp w wr → AboveRes w0 w gp l ss (.returned (.slice (some ⟨g', 0, none⟩) m c')) wr) := fun wr g' m c' h0 h1 h2 h3 => by
    subst h0
    exact ⟨g', c', rfl, h1, h2, h3⟩
  generalize AboveRes w0 w gp l ss = Q at HQ ⊢
  clear hn h16 hK hm2 hr hs hsl hgl hb0
  go_enter Tryz.func107, Tryz.ntmps107
  go_wp2_with fail
  clear hmk hq
  generalize w.alloc (.cells (madeCells #[.string ⟨#[]⟩, .bool false] (m2 * 2)) 128) = W0 at A0 ⊢
  go_loopw [0, 5] (fun rv av wr => ∃ (k r off c1 ml c3 g3 : Nat), rv = .slice (some ⟨g, off, none⟩) r c1 ∧ av = .slice (some ⟨g3, 0, none⟩) ml c3 ∧ r ≤ c1 ∧ r ≤ n ∧ ml ≤ n ∧ Hid (k + r = n ∧ k % 2 = 0 ∧ (0 < r → off = k * 2) ∧ ml = (upN (l.take k)).length) ∧ Hid (AbW w0 w wr gp g n cap B l ss g3 ml c3 k)) (fun rv _ _ => sliceLen2 rv)
  case atStart => exact ⟨0, n, 0, cap, 0, m2, w.heap.size, rfl, rfl, hc, Nat.le_refl _, Nat.zero_le _, ⟨by omega, rfl, fun _ => rfl, rfl⟩, A0⟩
  case round =>
    clear A0
    obtain ⟨k, r, off, c1, ml, c3, g3, rfl, rfl, hrc, hrn, hmln, HX, HA⟩ := hrel
    have hx1 : ml + 1 ≤ maxLen := by unfold maxLen; omega
    have hx2 : (ml + 1) * 24 ≤ 140737488355328 := by omega
    obtain ⟨hgw, hne, hgp, hnp⟩ := HA.out.far HGL.out.1
    have hszr : w.heap.size ≤ wr.heap.size := HA.out.off.1
    by_cases h1 : 1 < r
    · have hof : off = k * 2 := HX.out.2.2.1 (by omega)
      have hkl2 : k + 1 < l.length := by have := HX.out.1; have := HN.out; omega
      have hkl : k < l.length := by omega
      have hat := HA.out.cells HN.out
      have HCL : Hid (∀ w' : World, w'.heap[g]? = wr.heap[g]? → (w'.cell? ⟨g, off, none⟩ = some (.string (l.getD k default).1) ∧ w'.cell? ⟨g, off + 1, none⟩ = some (.bool (l.getD k default).2)) ∧ (w'.cell? ⟨g, off + 2, none⟩ = some (.string (l.getD (k + 1) default).1) ∧ w'.cell? ⟨g, off + 2 + 1, none⟩ = some (.bool (l.getD (k + 1) default).2))) := fun w' hw' => by
        have e2 : off + 2 = (k + 1) * 2 := by omega
        rw [e2, hof]
        exact ⟨⟨(World.cell?_of_block (a := ⟨g, k * 2, none⟩) hw').trans (hat.2 k 0 hkl (by decide)), (World.cell?_of_block (a := ⟨g, k * 2 + 1, none⟩) hw').trans (hat.2 k 1 hkl (by decide))⟩, (World.cell?_of_block (a := ⟨g, (k + 1) * 2, none⟩) hw').trans (hat.2 (k + 1) 0 hkl2 (by decide)), (World.cell?_of_block (a := ⟨g, (k + 1) * 2 + 1, none⟩) hw').trans (hat.2 (k + 1) 1 hkl2 (by decide))⟩
      have HST : Hid (∀ (w1 w4 : World) (o : Obj) (g4 c4 : Nat), Sd w0 w1 gp ((ss ++ noteU (l.take k)) ++ noteNB (l.getD k default) (l.getD (k + 1) default)) → OffT 131 gp wr w1 → w4.ownsRow w.heap.size 128 2 (.slice (some ⟨g4, 0, none⟩) (ml + 1) c4) (ml + 1) ((upN (l.take k)).flatMap ndEnc ++ ndEnc (bothNB (l.getD k default) (l.getD (k + 1) default))) → (w1.alloc o).grownBy w4 (some g3) → AbW w0 w w4 gp g n cap B l ss g4 (ml + 1) c4 (k + 2)) := fun w1 w4 o g4 c4 h1 h2 h3 h4 => HA.out.step HGL.out.1 HGL.out.2 hkl2 HX.out.2.1 h1 h2 h3 h4
      have HLN : Hid (ml + 1 = (upN (l.take (k + 2))).length) := by
        show _ = _
        rw [(takeB_two l k hkl2 HX.out.2.1).1, List.length_append, ← HX.out.2.2.2]
        rfl
      have HML : Hid (ml + 1 ≤ n) := by
        have h3 := upN_len (l.take (k + 2))
        have h4 := HLN.out
        have h5 := HX.out.1
        have h6 : (l.take (k + 2)).length ≤ k + 2 := by simp; omega
        show _ ≤ _
        omega
      have hs1 := HS.out k hkl
      have hs2 := HS.out (k + 1) hkl2
      have hsn : (ss ++ noteU (l.take k)).length ≤ 1048576 := by
        have h3 := noteU_len (l.take k)
        have h4 : (l.take k).length ≤ k := by simp; omega
        have h5 := HSL.out
        have h6 := HX.out.1
        rw [List.length_append]
        omega
      have hco := HCO.out wr.drew (ss ++ noteU (l.take k)) (l.getD k default) (l.getD (k + 1) default) (HA.out.sd.call (Below.refl _ _).drew) hsn hs1 hs2
      have HUP : Hid (∀ (w1 : World), OffT 131 gp wr w1 → w1.ownsRow w.heap.size 128 2 (.slice (some ⟨g3, 0, none⟩) ml c3) ml ((upN (l.take k)).flatMap ndEnc)) := fun w1 h => by
        obtain ⟨cs, hb⟩ := HA.out.sd.blk
        exact h.own HA.out.up nts hb ntb
      clear hs1 hs2 hsn hat
      generalize l.getD k default = t1 at HCL HST hco
      generalize l.getD (k + 1) default = t2 at HCL HST hco
      generalize (ss ++ noteU (l.take k)) ++ noteNB t1 t2 = sn at HST hco
      generalize bothNB t1 t2 = nq at HST hco
      generalize (upN (l.take k)).flatMap ndEnc = ue at HST HUP
      have hu := ndEnc_one nq
      obtain ⟨⟨q0, q1⟩, q2, q3⟩ := HCL.out wr rfl
      have h1' : (1 : Int) < (r : Int) := by omega
      have h0' : (0 : Int) < (r : Int) := by omega
      have h0'' : 0 < r := by omega
      have hr2 : (2 : Int) ≤ (r : Int) ∧ (r : Int) ≤ (c1 : Int) := by omega
      have HK2 : Hid (k + 2 + (r - 2) = n ∧ (k + 2) % 2 = 0 ∧ off + 4 = (k + 2) * 2) := by have := HX.out; exact ⟨by omega, by omega, by omega⟩
      clear hkl hkl2 hof HA
      go_wp2_with fail
      go_region_held3 (fun w' => (w'.cell? ⟨g, off, none⟩ = some (.string t1.1) ∧ w'.cell? ⟨g, off + 1, none⟩ = some (.bool t1.2)) ∧ (w'.cell? ⟨g, off + 2, none⟩ = some (.string t2.1) ∧ w'.cell? ⟨g, off + 2 + 1, none⟩ = some (.bool t2.2)))
        (first | go_keep | (exact HCL.out _ (of1.2 g hgw hgp hnp)) | (exact HCL.out _ (((hgrow4.block g (by simp; omega) (by simpa [Value.ownBlock] using hne)).trans (Below.heap_alloc _ _ _ (by omega))).trans (of1.2 g hgw hgp hnp))))
        (first
          | (go_at_call 72; refine hco.mono ?_; rintro e w1 ⟨rfl, sd1, of0⟩; have of1 : OffT 131 gp wr w1 := of0; have hw1s : wr.heap.size ≤ w1.heap.size := of1.1; clear of0)
          | ((refine step_append_lies _ (by rfl) _ _ 126 (by rfl) w.heap.size 128 i0 (.agg #[.string ⟨#[]⟩, .bool false]) 2 24 Tryz.underlying126 hi hz0 hz1 hz2 rfl (by decide) _ ml _ (by rfl) (World.ownsRow.alloc (HUP.out _ of1) _) ⟨w1.heap.size, 0, none⟩ 1 1 (ndEnc nq) (by rfl) rfl (cells_new w1 128 (ndEnc nq)) hu (by decide) hx1 hx2 (by simp; omega) _ rfl ?_; intro g4 c4 w4 hown4 hgrow4 hat4 hlt4)))
      have A4 : Hid (AbW w0 w w4 gp g n cap B l ss g4 (ml + 1) c4 (k + 2)) := HST.out w1 w4 _ g4 c4 sd1 of1 hown4 hgrow4
      clear hown4 hgrow4 hat4 hlt4 sd1 of1 hw1s hco HST HUP HCL q0 q1 q2 q3
      by_cases hc12 : c1 = 2
      · obtain rfl : r = 2 := by omega
        subst hc12
        go_wp2_with fail
        go_roundw
        case rel =>
          exact ⟨k + 2, 0, _, _, ml + 1, c4, g4, rfl, rfl, by omega, by omega, HML.out, ⟨by have := HK2.out.1; omega, HK2.out.2.1, fun h => by omega, HLN.out⟩, A4⟩
        case measure => simp [sliceLen2]
      · have hc12' : ¬ (c1 : Int) = 2 := by omega
        go_wp2_with fail
        go_roundw
        case rel =>
          exact ⟨k + 2, r - 2, _, _, ml + 1, c4, g4, rfl, rfl, by omega, by omega, HML.out, ⟨HK2.out.1, HK2.out.2.1, fun h => HK2.out.2.2, HLN.out⟩, A4⟩
        case measure => simp [sliceLen2]; omega
    · have h1' : ¬ (1 : Int) < (r : Int) := by omega
      obtain ⟨hu1, hu2⟩ := takeB_rest l k (by have := HX.out.1; have := HN.out; omega) HX.out.2.1 (by have := HX.out.1; have := HN.out; omega)
      have hat := HA.out.cells HN.out
      have hnews : ∀ j u, ((l.drop k).flatMap ndEnc)[j]? = some u → wr.cell? ((⟨g, off, none⟩ : Addr).add j) = some u := by
        intro j u hu
        have hr1 : r = 0 ∨ r = 1 := by omega
        rcases hr1 with rfl | rfl
        · rw [List.drop_eq_nil_of_le (by have := HX.out.1; have := HN.out; omega)] at hu
          simp at hu
        · have hkl : k < l.length := by have := HX.out.1; have := HN.out; omega
          have hof : off = k * 2 := HX.out.2.2.1 (by omega)
          have e1 : l.drop k = [l.getD k default] := by
            rw [List.drop_eq_getElem_cons hkl, List.drop_eq_nil_of_le (by have := HX.out.1; have := HN.out; omega)]
            simp [List.getElem?_eq_getElem hkl]
          rw [e1] at hu
          have hj : j < 2 := by
            have := (List.getElem?_eq_some_iff.1 hu).1
            simpa [ndEnc] using this
          have h3 := hat.2 k j hkl hj
          have e2 : ((⟨g, off, none⟩ : Addr).add j) = ⟨g, k * 2 + j, none⟩ := by
            subst hof
            rcases j with _ | j
            · simp [Addr.add]
            · simp [Addr.add]
          rw [e2, h3, ← hu]
          simp
      have HLD : Hid (((l.drop k).flatMap ndEnc).length = r * 2) := by
        show _ = _
        rw [flat_length 2 ndEnc ndEnc_len, List.length_drop]
        have := HX.out.1
        have := HN.out
        congr 1
        omega
      have h1c : ∀ u ∈ (l.drop k).flatMap ndEnc, u.oneCell' = true := by
        intro u hu
        obtain ⟨x, _, hx⟩ := List.mem_flatMap.1 hu
        exact ndEnc_one x u hx
      have hx3 : ml + r ≤ maxLen := by unfold maxLen; omega
      have hx4 : (ml + r) * 24 ≤ 140737488355328 := by omega
      have HNE : Hid ((upN l).flatMap ndEnc = (upN (l.take k)).flatMap ndEnc ++ (l.drop k).flatMap ndEnc ∧ ml + r = (upN l).length ∧ noteU l = noteU (l.take k)) := by
        have h3 := HX.out.1
        have h4 := HN.out
        refine ⟨by rw [hu1, List.flatMap_append], ?_, hu2⟩
        rw [hu1, List.length_append, ← HX.out.2.2.2, List.length_drop]
        omega
      have HRW : Hid (wr.ownsRow w.heap.size 128 2 (.slice (some ⟨g3, 0, none⟩) ml c3) ml ((upN (l.take k)).flatMap ndEnc)) := HA.out.up
      have hnl : 0 < n ∨ ml + r = 0 ∨ 0 < ml + r := by omega
      clear hat hu1 hu2
      generalize (l.drop k).flatMap ndEnc = news at hnews HLD h1c HNE
      go_wp2_with (at_builtin; refine wpList_append_own _ rfl _ _ 126 rfl w.heap.size 128 i0 (.agg #[.string ⟨#[]⟩, .bool false]) 2 24 Tryz.underlying126 hi hz0 hz1 hz2 rfl (by decide) (.slice (some ⟨g3, 0, none⟩) ml c3) ml _ rfl HRW.out ⟨g, off, none⟩ r c1 news rfl HLD.out hnews h1c hx3 hx4 hszr ?_; intro v' w4 hown4 hgrow4 hnil4)
      obtain ⟨g4, c4, rfl⟩ : ∃ g4 c4, v' = .slice (some ⟨g4, 0, none⟩) (ml + r) c4 := by
        rcases hown4.2 with ⟨h2, _⟩ | ⟨g', cap', cur, hv, _⟩
        · have := (hnil4.1 h2).1
          cases this
        · exact ⟨g', cap', hv⟩
      have HR4 : Hid (w4.ownsRow w.heap.size 128 2 (.slice (some ⟨g4, 0, none⟩) (ml + r) c4) (ml + r) ((upN l).flatMap ndEnc)) := by
        have h5 : w4.ownsRow w.heap.size 128 2 (.slice (some ⟨g4, 0, none⟩) (ml + r) c4) (ml + r) ((upN l).flatMap ndEnc) := by
          rw [HNE.out.1]
          exact hown4
        exact h5
      have HSD : Hid (Sd w0 w4 gp (ss ++ noteU l)) := by
        show Sd _ _ _ _
        rw [HNE.out.2.2]
        exact HA.out.sd.app0 HRW.out HGL.out.2 hgrow4
      have HOF : Hid (OffT 131 gp w w4) := HA.out.off.app0 HRW.out (Nat.le_refl _) hgrow4
      have HFQ : Hid (Q (.returned (.slice (some ⟨g4, 0, none⟩) (ml + r) c4)) w4) := HQ.out _ _ _ _ HNE.out.2.1 HR4.out HSD.out HOF.out
      clear hown4 hgrow4 hnil4 HA HRW hnews h1c
      go_wp2_with fail
      exact HFQ.out
end Go.Proofs.YtkajpkfhedfmaaaGreatDoor

set_option linter.unusedVariables false
namespace Go.Proofs.YtkajpkfhedfmaaaGreatDoor
open Go.RowKit Go.Deep

/-- While a row comes to its top. -/
structure TopW (w0 w wr : World) (gp g4 g2 m c2 : Nat) (rs : List NodeB) (s' : List SideV) : Prop where
  row : ∃ B, wr.ownsRow B 128 2 (.slice (some ⟨g2, 0, none⟩) m c2) m (rs.flatMap ndEnc)
  sd : Sd w0 wr gp s'
  ans : CBk wr g4 128 #[.string ⟨#[]⟩, .bool false]
  lo : w0.heap.size ≤ g4
theorem TopW.cap {w0 w wr : World} {gp g4 g2 m c2 : Nat} {rs : List NodeB} {s' : List SideV} (h : TopW w0 w wr gp g4 g2 m c2 rs s') : m ≤ c2 := by
  obtain ⟨B, h1, h2⟩ := h.row
  rcases h2 with ⟨h5, _⟩ | ⟨g', cap', cur, hv, _, _, h6, _⟩
  · cases h5
  · simp only [Value.slice.injEq, Option.some.injEq, Addr.mk.injEq, and_true] at hv
    obtain ⟨_, _, rfl⟩ := hv
    exact h6
theorem TopW.at {w0 w wr : World} {gp g4 g2 m c2 : Nat} {rs : List NodeB} {s' : List SideV} (h : TopW w0 w wr gp g4 g2 m c2 rs s') (hm : m = rs.length) : AtF ndEnc 2 wr g2 rs := by
  obtain ⟨B, h1⟩ := h.row
  exact (FRow.at ndEnc_len (FRow.of h1 hm)).1
theorem upN_16 : ∀ l : List NodeB, (∀ q ∈ l, q.1.size = 16) → ∀ q ∈ upN l, q.1.size = 16
  | [], _ => by simp [upN]
  | [a], h => by simpa [upN] using h
  | a :: b :: r, h => by
    intro s hs
    rcases List.mem_cons.1 hs with rfl | hs
    · exact bsum_size _
    · exact upN_16 r (fun x hx => h x (by simp [hx])) s hs
set_option maxHeartbeats 4000000 in
set_option maxRecDepth 100000 in
theorem implTopN (w0 : World) (gp g n cap B : Nat) (l : List NodeB) (ss : List SideV) (w : World) (hr : w.ownsRow B 128 2 (.slice (some ⟨g, 0, none⟩) n cap) n (l.flatMap ndEnc)) (hn : n = l.length) (h0 : n ≠ 0) (hm : n ≤ 1000) (hs : Sd w0 w gp ss) (h16 : ∀ q ∈ l, q.1.size = 16) (hsl : (ss ++ noteT n l).length ≤ 1000) (hK : RowG w0 shaK) :
    Calls Tryz.prog 71 #[.slice (some ⟨g, 0, none⟩) n cap, .func (.func 72) #[] #[.pointer (some ⟨gp, 0, none⟩)]] w fun e w' => (∃ q : NodeB, e = .returned (ndVal q)) ∧ Sd w0 w' gp (ss ++ noteT n l) := by
  have HAB : Hid (∀ (w' : World) (B2 g2 m c2 : Nat) (rs : List NodeB) (s' : List SideV), w'.ownsRow B2 128 2 (.slice (some ⟨g2, 0, none⟩) m c2) m (rs.flatMap ndEnc) → m = rs.length → m ≤ c2 → m ≤ 1000 → Sd w0 w' gp s' → (∀ q ∈ rs, q.1.size = 16) → s'.length ≤ 1000 → Calls Tryz.prog 107 #[.slice (some ⟨g2, 0, none⟩) m c2, .func (.func 72) #[] #[.pointer (some ⟨gp, 0, none⟩)]] w' fun e w'' => AboveRes w0 w' gp rs s' e w'') := fun w' B2 g2 m c2 rs s' h1 h2 h3 h4 h5 h6 h7 => implAboveN w0 gp g2 m c2 B2 rs s' w' h1 h2 h3 h4 h5 h6 (by omega) hK
  unfold AboveRes at HAB
  have hb0 : Below w.heap.size w (w.alloc (.cells #[.string ⟨#[]⟩, .bool false] 128)) := (Below.refl _ w).alloc (Nat.le_refl _) _
  have T0 : Hid (TopW w0 w (w.alloc (.cells #[.string ⟨#[]⟩, .bool false] 128)) gp w.heap.size g n cap l ss) := ⟨⟨B, ownE_below hr hb0⟩, hs.call hb0, CBk.new w _ _, hs.b.size⟩
  have HN0 : Hid (n = l.length ∧ n ≠ 0 ∧ n ≤ n) := ⟨hn, h0, Nat.le_refl _⟩
  have H60 : Hid (∀ q ∈ l, q.1.size = 16) := h16
  have HSL : Hid ((ss ++ noteT n l).length ≤ 1000) := hsl
  obtain ⟨N, hN⟩ : ∃ N, N = ss ++ noteT n l := ⟨_, rfl⟩
  have HT0 : Hid (ss ++ noteT n l = N) := hN.symm
  rw [← hN] at HSL ⊢
  obtain ⟨Q, hQ⟩ : ∃ Q : Ending → World → Prop, Q = fun e w' => (∃ q : NodeB, e = .returned (ndVal q)) ∧ Sd w0 w' gp N := ⟨_, rfl⟩
  have HQ : Hid (∀ (q : NodeB) (w' : World), Sd w0 w' gp N → Q (.returned (.agg #[.string q.1, .bool q.2])) w') := fun q w' h => by rw [hQ]; exact ⟨⟨q, rfl⟩, h⟩
  show Calls _ _ _ _ (fun e w' => (∃ q : NodeB, e = .returned (ndVal q)) ∧ Sd w0 w' gp N)
  rw [← hQ]
  clear hQ hN hr hn h0 hs h16 hsl hK hb0
  go_enter Tryz.func71, Tryz.ntmps71
  go_wp2_with fail
  generalize w.alloc (.cells #[.string ⟨#[]⟩, .bool false] 128) = W0 at T0 ⊢
  obtain ⟨g4, hg4⟩ : ∃ g4, g4 = w.heap.size := ⟨_, rfl⟩
  rw [← hg4] at T0 ⊢
  clear hg4
  go_loopw [0] (fun v wr => ∃ (rs : List NodeB) (s' : List SideV) (g2 c2 m f : Nat), v = .slice (some ⟨g2, 0, none⟩) m c2 ∧ m ≤ n ∧ Hid (m = rs.length ∧ m ≠ 0 ∧ m ≤ f) ∧ Hid (TopW w0 w wr gp g4 g2 m c2 rs s') ∧ Hid (∀ q ∈ rs, q.1.size = 16) ∧ Hid (s' ++ noteT f rs = N)) (fun v _ => sliceLen2 v)
  case atStart => exact ⟨l, ss, g, cap, n, n, rfl, Nat.le_refl _, HN0, T0, H60, HT0⟩
  case round =>
    clear T0 HN0 H60 HT0
    obtain ⟨rs, s', g2, c2, m, f, rfl, hmn, HMF, TW, H6, HT⟩ := hrel
    have hmc : m ≤ c2 := TW.out.cap
    by_cases h1 : 1 < m
    · have h1' : (1 : Int) < (m : Int) := by omega
      obtain ⟨B2, hrow⟩ := TW.out.row
      have hsl : s'.length ≤ 1000 := by
        have h3 := HSL.out
        have h4 := congrArg List.length HT.out
        rw [List.length_append] at h4
        omega
      have hup := HAB.out wr B2 g2 m c2 rs s' hrow HMF.out.1 hmc (by omega) TW.out.sd H6.out hsl
      have hml : ¬ rs.length ≤ 1 := by rw [← HMF.out.1]; omega
      have HUL : Hid ((upN rs).length < m ∧ (upN rs).length ≠ 0 ∧ (upN rs).length ≤ f - 1) := by
        have h3 := upN_len rs
        have h4 := HMF.out
        exact ⟨by omega, by omega, by omega⟩
      have HT2 : Hid ((s' ++ noteU rs) ++ noteT (f - 1) (upN rs) = N) := by
        show _ = _
        obtain ⟨f', rfl⟩ : ∃ f', f = f' + 1 := ⟨f - 1, by have := HMF.out; omega⟩
        rw [← HT.out, noteT_step hml, List.append_assoc]
        rfl
      have HU6 : Hid (∀ q ∈ upN rs, q.1.size = 16) := upN_16 rs H6.out
      have HTW2 : Hid (∀ (w2 : World) (g3 c3 : Nat), w2.ownsRow wr.heap.size 128 2 (.slice (some ⟨g3, 0, none⟩) (upN rs).length c3) (upN rs).length ((upN rs).flatMap ndEnc) → Sd w0 w2 gp (s' ++ noteU rs) → OffT 131 gp wr w2 → TopW w0 w w2 gp g4 g3 (upN rs).length c3 (upN rs) (s' ++ noteU rs)) := fun w2 g3 c3 h1 h2 h3 => by
        obtain ⟨cs, hb⟩ := TW.out.sd.blk
        exact ⟨⟨_, h1⟩, h2, h3.cbk TW.out.ans nts (cbk_ne TW.out.ans hb ntb), TW.out.lo⟩
      clear hrow hsl hml TW HT H6
      go_wp2_with fail
      refine hup.mono ?_
      rintro e w2 ⟨g3, c3, rfl, hr2, hs2, ho2⟩
      have TN : Hid _ := HTW2.out w2 g3 c3 hr2 hs2 ho2
      clear hup hr2 hs2 ho2 HTW2
      obtain ⟨mm, hmm⟩ : ∃ mm, mm = (upN rs).length := ⟨_, rfl⟩
      rw [← hmm] at HUL TN ⊢
      have HMM : Hid (mm = (upN rs).length) := hmm
      clear hmm
      go_wp2_with fail
      go_roundw
      case rel => exact ⟨upN rs, s' ++ noteU rs, g3, c3, mm, f - 1, rfl, by have := HUL.out; omega, ⟨HMM.out, HUL.out.2.1, HUL.out.2.2⟩, TN, HU6, HT2⟩
      case measure => have := HUL.out; simp [sliceLen2]; omega
    · have h1' : ¬ (1 : Int) < (m : Int) := by omega
      have hm1 : m = 1 := by have := HMF.out.2.1; omega
      subst hm1
      have hat := TW.out.at HMF.out.1
      have hl : 0 < rs.length := by rw [← HMF.out.1]; omega
      have hc0 : wr.cell? ⟨g2, 0, none⟩ = some (.string (rs.getD 0 default).1) := by
        have := hat.2 0 0 hl (by decide)
        rw [Nat.zero_mul] at this
        exact this
      have hc1 : wr.cell? ⟨g2, 1, none⟩ = some (.bool (rs.getD 0 default).2) := by
        have := hat.2 0 1 hl (by decide)
        rw [Nat.zero_mul] at this
        exact this
      have HSN : Hid (Sd w0 wr gp N) := by
        show Sd _ _ _ _
        rw [← HT.out, noteT_done (by rw [← HMF.out.1]; omega), List.append_nil]
        exact TW.out.sd
      have HAN : Hid (CBk wr g4 128 #[.string ⟨#[]⟩, .bool false]) := TW.out.ans
      have HLO : Hid (w0.heap.size ≤ g4) := TW.out.lo
      generalize rs.getD 0 default = z at hc0 hc1
      have hfin : CBk ((wr.setCell ⟨g4, 0, none⟩ (.string z.1)).setCell ⟨g4, 1, none⟩ (.bool z.2)) g4 128 #[.string z.1, .bool z.2] := (HAN.out.set 0 _).set 1 _
      have hsdf : Sd w0 ((wr.setCell ⟨g4, 0, none⟩ (.string z.1)).setCell ⟨g4, 1, none⟩ (.bool z.2)) gp N := by
        obtain ⟨vs, h⟩ := HSN.out
        exact ⟨vs, (h.store HAN.out nts (cbk_ne HAN.out h.k ntb) HLO.out _).store (HAN.out.set 0 (.string z.1)) nts (cbk_ne HAN.out h.k ntb) HLO.out _⟩
      have HFIN : Hid (CBk ((wr.setCell ⟨g4, 0, none⟩ (.string z.1)).setCell ⟨g4, 1, none⟩ (.bool z.2)) g4 128 #[.string z.1, .bool z.2]) := hfin
      have HFQ : Hid (Q (.returned (.agg #[.string z.1, .bool z.2])) ((wr.setCell ⟨g4, 0, none⟩ (.string z.1)).setCell ⟨g4, 1, none⟩ (.bool z.2))) := HQ.out z _ hsdf
      obtain ⟨e0, e1⟩ := CBk.twoC HAN.out
      obtain ⟨f0, f1⟩ := CBk.twoF HAN.out
      clear hfin hsdf hat hl TW HT
      go_wp2_with fail
      exact bodyPost_ret (results_cell_row (p := 4) rfl _ _ g4 128 #[.string z.1, .bool z.2] (0, 0) _ rfl HFIN.out Tryz.underlying128 rfl (by kernel_rfl)) rfl HFQ.out

/-- A list of sides that was handed back: nothing, or a row that stands in a block of its own. -/
def SdBk (w : World) (g n : Nat) : Prop := ∃ cur : Array Value, w.heap[g]? = some (.cells cur 131 (0, 0)) ∧ n * 2 ≤ cur.size
def Sds (B : Nat) (v : Value) (l : List SideV) (w : World) : Prop := (v = .slice none 0 0 ∧ l = []) ∨ ∃ g cap, v = .slice (some ⟨g, 0, none⟩) l.length cap ∧ AtSide w g l ∧ SdBk w g l.length ∧ B ≤ g
theorem sds_own {B : Nat} {v : Value} {l : List SideV} {w : World} (h : w.ownsRow B 131 2 v l.length (l.flatMap enSide)) : Sds B v l w := by
  have h' := h
  rcases h.2 with ⟨rfl, h0⟩ | ⟨g, cap, cur, rfl, hB, hg, h1, h2, h3, h4⟩
  · exact .inl ⟨rfl, List.eq_nil_of_length_eq_zero h0⟩
  · refine .inr ⟨g, cap, rfl, (FRow.at enSide_len (FRow.of h' rfl)).1, ⟨cur, hg, ?_⟩, hB⟩
    rw [h3]
    exact Nat.mul_le_mul_right _ h1
/-- What RootProof tells. -/
def rproofL (ss : List ByteArray) (x : Int) : List SideV := if itemsOkB ss = true ∧ 0 ≤ x ∧ x < (ss.length : Int) then sidesR ss.length (ss.map rootItemB) x.toNat else []
theorem rproof_no {ss : List ByteArray} {x : Int} (h : ¬ (itemsOkB ss = true ∧ 0 ≤ x ∧ x < (ss.length : Int))) : rproofL ss x = [] := by rw [rproofL, if_neg h]
theorem rproof_yes {ss : List ByteArray} {X : Nat} (hk : itemsOkB ss = true) (h : X < ss.length) : rproofL ss (X : Int) = sidesR ss.length (ss.map rootItemB) X := by
  rw [rproofL, if_pos ⟨hk, by omega, by omega⟩]
  rfl
def RpPost (ss : List ByteArray) (x : Int) (w : World) (e : Ending) (w' : World) : Prop := ∃ v, e = .returned v ∧ Sds w.heap.size v (rproofL ss x) w' ∧ Below w.heap.size w w'
set_option maxHeartbeats 4000000 in
set_option maxRecDepth 100000 in
theorem implRootProofNo (g n cap : Nat) (ss : List ByteArray) (x : Int) (w : World) (h : AtS w g ss) (hn : n = ss.length) (hc : ¬ (itemsOkB ss = true ∧ 0 ≤ x ∧ x < (ss.length : Int))) :
    Calls Tryz.prog 36 #[.slice (some ⟨g, 0, none⟩) n cap, .int .i64 x] w fun e w' => RpPost ss x w e w' := by
  have hit := implItemsOk g n cap ss w h hn
  have HC : Hid (itemsOkB ss = true → ¬ x < 0 → ¬ x < (n : Int)) := fun h1 h2 h3 => hc ⟨h1, by omega, by omega⟩
  have HV : Hid (RpPost ss x w (.returned (.slice none 0 0)) w) := ⟨_, rfl, .inl ⟨rfl, rproof_no hc⟩, Below.refl _ _⟩
  generalize RpPost ss x w = Q at HV ⊢
  clear h hn hc
  cases hok : itemsOkB ss with
  | false =>
    rw [hok] at hit
    clear HC hok
    go_enter Tryz.func36, Tryz.ntmps36
    go_wp2_with (go_at_call 69; refine hit.mono ?_; rintro e w1 ⟨rfl, rfl⟩)
    exact HV.out
  | true =>
    rw [hok] at hit
    by_cases hx : x < 0
    · clear HC hok
      go_enter Tryz.func36, Tryz.ntmps36
      go_wp2_with (go_at_call 69; refine hit.mono ?_; rintro e w1 ⟨rfl, rfl⟩)
      exact HV.out
    · have hx2 : ¬ x < (n : Int) := HC.out hok hx
      clear HC hok
      go_enter Tryz.func36, Tryz.ntmps36
      go_wp2_with (go_at_call 69; refine hit.mono ?_; rintro e w1 ⟨rfl, rfl⟩)
      exact HV.out
set_option maxHeartbeats 8000000 in
set_option maxRecDepth 100000 in
theorem implRootProofYes (g n cap : Nat) (ss : List ByteArray) (X : Nat) (w : World) (h : AtS w g ss) (hn : n = ss.length) (hok : itemsOkB ss = true) (hX : X < ss.length) (hK : RowG w shaK) :
    Calls Tryz.prog 36 #[.slice (some ⟨g, 0, none⟩) n cap, .int .i64 (X : Int)] w fun e w' => RpPost ss (X : Int) w e w' := by
  obtain ⟨i0, hi, hz0, hz1, hz2⟩ := info3 infoNodeB
  have hit := implItemsOk g n cap ss w h hn
  rw [hok] at hit
  have hn40 : n ≤ 40 := by rw [hn]; exact itemsOk_len hok
  have HKG : Hid (RowG w shaK) := hK
  have HA : Hid (AtS w g ss) := h
  have HN : Hid (n = ss.length) := hn
  have HS : Hid (∀ i, i < ss.length → (ss.getD i ByteArray.empty).size ≤ 1048576) := by
    intro i hi
    have := isItem_size (itemsOk_at hok i hi)
    omega
  have hmk := makeN0 n (by omega) w
  have R0 : Hid ((w.alloc (.cells (madeCells #[.string ⟨#[]⟩, .bool false] (n * 2)) 128)).ownsRow w.heap.size 128 2 (.slice (some ⟨w.heap.size, 0, none⟩) 0 n) 0 ((mkN ((ss.take 0).map rootItemB) 0 X).flatMap ndEnc)) := rowN0 n (by omega) w
  have B0 : Hid (Below w.heap.size w (w.alloc (.cells (madeCells #[.string ⟨#[]⟩, .bool false] (n * 2)) 128))) := (Below.refl _ w).alloc (Nat.le_refl _) _
  have HTP : Hid (∀ (w' : World) (gp g2 c2 : Nat), w'.ownsRow w.heap.size 128 2 (.slice (some ⟨g2, 0, none⟩) n c2) n ((mkN (ss.map rootItemB) 0 X).flatMap ndEnc) → Sd w w' gp [] → Calls Tryz.prog 71 #[.slice (some ⟨g2, 0, none⟩) n c2, .func (.func 72) #[] #[.pointer (some ⟨gp, 0, none⟩)]] w' fun e w'' => (∃ q : NodeB, e = .returned (.agg #[.string q.1, .bool q.2])) ∧ Sd w w'' gp (rproofL ss (X : Int))) := fun w' gp g2 c2 h1 h2 => by
    have hl : n = (mkN (ss.map rootItemB) 0 X).length := by rw [mkN_len, List.length_map]; exact hn
    have h3 := implTopN w gp g2 n c2 w.heap.size (mkN (ss.map rootItemB) 0 X) [] w' h1 hl (by omega) (by omega) h2 (by
      intro q hq
      have h4 : q.1 ∈ (mkN (ss.map rootItemB) 0 X).map Prod.fst := List.mem_map.2 ⟨q, hq, rfl⟩
      rw [mkN_fst] at h4
      exact rootItemB_16 ss q.1 h4) (by
      have h5 := noteT_len n (mkN (ss.map rootItemB) 0 X)
      rw [List.nil_append]
      omega) hK
    rw [List.nil_append, noteT_mk _ _ _ (by rw [List.length_map]; exact hX), hn] at h3
    rw [rproof_yes hok hX, hn]
    exact h3
  have HQ : Hid (∀ (vs : Value) (w' : World), SdW w w' 0 vs [] ∨ True → w'.ownsRow w.heap.size 131 2 vs (rproofL ss (X : Int)).length ((rproofL ss (X : Int)).flatMap enSide) → Below w.heap.size w w' → RpPost ss (X : Int) w (.returned vs) w') := fun vs w' _ h1 h2 => ⟨vs, rfl, sds_own h1, h2⟩
  generalize RpPost ss (X : Int) w = Q at HQ ⊢
  have hx0 : ¬ (X : Int) < 0 := by omega
  have hxn : (X : Int) < (n : Int) := by omega
  clear hok h hn hK hX
  go_enter Tryz.func36, Tryz.ntmps36
  go_upto_region 5 with (go_at_call 69; refine hit.mono ?_; rintro e w1 ⟨rfl, rfl⟩)
  have hd : decide ((X : Int) < 0) = false := decide_eq_false (by omega)
  have hd2 : decide (n ≤ X) = false := decide_eq_false (by omega)
  simp only [hd, hd2, Bool.or_false]
  clear hit hmk hd hd2
  generalize w.alloc (.cells (madeCells #[.string ⟨#[]⟩, .bool false] (n * 2)) 128) = W0 at R0 B0 ⊢
  go_loopw [5, 27] (fun v i wr => ∃ (k g3 c3 : Nat), k ≤ n ∧ i = .int .i64 (k : Int) ∧ v = .slice (some ⟨g3, 0, none⟩) k c3 ∧ Hid (wr.ownsRow w.heap.size 128 2 (.slice (some ⟨g3, 0, none⟩) k c3) k ((mkN ((ss.take k).map rootItemB) 0 X).flatMap ndEnc)) ∧ Hid (Below w.heap.size w wr)) (fun _ i _ => n - (intOf i).toNat)
  case atStart => exact ⟨0, _, _, by omega, rfl, rfl, R0, B0⟩
  case round =>
    clear R0 B0
    obtain ⟨k, g3, c3, hk, rfl, rfl, HR, HB⟩ := hrel
    by_cases hlt : k < n
    · have hkl : k < ss.length := by rw [← HN.out]; exact hlt
      have hc : wr.cell? ⟨g, k, none⟩ = some (.string (ss.getD k ByteArray.empty)) := by
        rw [HB.out.cell (p := ⟨g, k, none⟩) HA.out.1]
        exact HA.out.2 k hkl
      have hsz := HS.out k hkl
      have HE : Hid (mkN ((ss.take (k + 1)).map rootItemB) 0 X = mkN ((ss.take k).map rootItemB) 0 X ++ [(rootItemB (ss.getD k ByteArray.empty), (k : Int) == (X : Int))]) := by
        have hbq : ((k : Int) == (X : Int)) = decide (k = X) := by rw [Bool.eq_iff_iff]; simp only [beq_iff_eq, decide_eq_true_eq]; omega
        show _ = _
        rw [List.take_add_one, List.getElem?_eq_getElem hkl, List.map_append, List.getD_eq_getElem?_getD, List.getElem?_eq_getElem hkl]
        show mkN ((ss.take k).map rootItemB ++ [rootItemB ss[k]]) 0 X = _
        rw [mkN_snoc, List.length_map, List.length_take, Nat.min_eq_left (by omega), Nat.zero_add, hbq]
        rfl
      generalize ss.getD k ByteArray.empty = z at hc hsz HE
      have HK1 : Hid (k + 1 ≤ n) := hlt
      have lk : (k : Int) < (n : Int) := by omega
      have lk0 : (0 : Int) ≤ (k : Int) := by omega
      have wk : IntKind.i64.wrap ((k : Int) + 1) = (k : Int) + 1 := by rw [IntKind.wrap_i64]; omega
      have hsum := implRootItem z wr hsz (HKG.out.below HB.out HKG.out.lt)
      generalize rootItemB z = rz at hsum HE
      have hu := ndEnc_one (rz, (k : Int) == (X : Int))
      have hx1 : k + 1 ≤ maxLen := by unfold maxLen; omega
      have hx2 : (k + 1) * 24 ≤ 140737488355328 := by omega
      clear hkl
      go_wp2_with fail
      refine hsum.mono ?_
      rintro e w1 ⟨rfl, b1⟩
      have HRW1 : Hid (w1.ownsRow w.heap.size 128 2 (.slice (some ⟨g3, 0, none⟩) k c3) k ((mkN ((ss.take k).map rootItemB) 0 X).flatMap ndEnc)) := ownE_below HR.out b1
      have HB1 : Hid (Below w.heap.size w w1) := HB.out.trans (b1.mono HB.out.size)
      have hsz1 := HB1.out.size
      clear b1 hsum HR HB hc
      go_wp2_with (at_builtin; refine wp_appN rfl _ _ 126 rfl w.heap.size 128 i0 (.agg #[.string ⟨#[]⟩, .bool false]) 2 24 1 Tryz.underlying126 hi hz0 hz1 hz2 rfl (by decide) (by decide) _ _ _ rfl HRW1.out (ndEnc (rz, (k : Int) == (X : Int))) (by first | rfl | simp [Act.eval]) rfl hu hx1 hx2 hsz1 ?_; intro g4 c4 w4 hown4 hb4 hkeep4)
      have R4 : Hid (w4.ownsRow w.heap.size 128 2 (.slice (some ⟨g4, 0, none⟩) (k + 1) c4) (k + 1) ((mkN ((ss.take (k + 1)).map rootItemB) 0 X).flatMap ndEnc)) := by
        have h5 : w4.ownsRow w.heap.size 128 2 (.slice (some ⟨g4, 0, none⟩) (k + 1) c4) (k + 1) ((mkN ((ss.take (k + 1)).map rootItemB) 0 X).flatMap ndEnc) := by
          rw [HE.out, List.flatMap_append]
          simpa using hown4
        exact h5
      have B4 : Hid (Below w.heap.size w w4) := HB1.out.trans hb4
      clear hown4 hb4 hkeep4 HRW1 HB1 hsz1
      go_wp2_with fail
      go_roundw
      case rel => exact ⟨k + 1, g4, c4, HK1.out, by go_num, rfl, R4, B4⟩
      case measure => have := HK1.out; simp [intOf]; omega
    · obtain rfl : k = n := by omega
      have HR2 : Hid (wr.ownsRow w.heap.size 128 2 (.slice (some ⟨g3, 0, none⟩) k c3) k ((mkN (ss.map rootItemB) 0 X).flatMap ndEnc)) := by
        have h5 := HR.out
        rwa [List.take_of_length_le (by rw [← HN.out]; omega)] at h5
      have hb1 : Below wr.heap.size wr (wr.alloc (.cells #[.slice none 0 0] 45)) := (Below.refl _ wr).alloc (Nat.le_refl _) _
      have S1 : Hid (Sd w (wr.alloc (.cells #[.slice none 0 0] 45)) wr.heap.size []) := ⟨.slice none 0 0, CBk.new wr _ _, ⟨rfl, .inl ⟨rfl, rfl⟩⟩, HB.out.trans (hb1.mono HB.out.size), HB.out.size⟩
      have htp := HTP.out _ wr.heap.size g3 c3 (ownE_below HR2.out hb1) S1.out
      clear HTP HR HR2 HB S1 hb1 HA HS HKG
      go_wp2_with fail
      refine htp.mono ?_
      rintro e w5 ⟨⟨q, rfl⟩, vs, hsd⟩
      have HSD : Hid (SdW w w5 wr.heap.size vs (rproofL ss (X : Int))) := hsd
      obtain ⟨va, vn, vc, rfl⟩ := own_slice hsd.row
      have p0 : w5.cell? ⟨wr.heap.size, 0, none⟩ = some (.slice va vn vc) := HSD.out.k.cell 0
      have HFQ : Hid (Q (.returned (.slice va vn vc)) w5) := HQ.out _ _ (.inr trivial) HSD.out.row HSD.out.b
      clear htp hsd HSD HQ
      go_wp2_with fail
      exact HFQ.out
theorem implRootProof (g n cap : Nat) (ss : List ByteArray) (x : Int) (w : World) (h : AtS w g ss) (hn : n = ss.length) (hK : RowG w shaK) :
    Calls Tryz.prog 36 #[.slice (some ⟨g, 0, none⟩) n cap, .int .i64 x] w fun e w' => RpPost ss x w e w' := by
  by_cases hc : itemsOkB ss = true ∧ 0 ≤ x ∧ x < (ss.length : Int)
  · obtain ⟨hk, hx0, hxl⟩ := hc
    obtain ⟨X, rfl⟩ : ∃ X : Nat, x = (X : Int) := ⟨x.toNat, by omega⟩
    exact implRootProofYes g n cap ss X w h hn hk (by omega) hK
  · exact implRootProofNo g n cap ss x w h hn hc
end Go.Proofs.YtkajpkfhedfmaaaGreatDoor

set_option linter.unusedVariables false
namespace Go.Proofs.YtkajpkfhedfmaaaGreatDoor
open Go.RowKit Go.Deep

def lenS : Value → Nat
  | .slice _ n _ => n
  | _ => 0
theorem own_atS {w : World} {B g m c : Nat} {rs : List ByteArray} (h : w.ownsRow B 9 1 (.slice (some ⟨g, 0, none⟩) m c) m (rs.map Value.string)) (hm : m = rs.length) : AtS w g rs := by
  subst hm
  exact (SRow.at (B := B) (cap := c) ⟨⟨g, c, rfl⟩, h⟩).1
theorem stn2 : (131 : TypeId) ≠ 9 := by decide
theorem sts2 : (9 : TypeId) ≠ 131 := by decide
theorem sidesR_len (f : Nat) (ss : List ByteArray) (x : Nat) (h : x < ss.length) : (sidesR f ss x).length ≤ 2 * ss.length := by
  rw [← noteT_mk f ss x h]
  have := noteT_len f (mkN ss 0 x)
  rwa [mkN_len] at this
theorem srow_side (w : World) : (w.alloc (.cells #[] 131)).ownsRow w.heap.size 131 2 (.slice (some ⟨w.heap.size, 0, none⟩) 0 0) 0 (([] : List SideV).flatMap enSide) := (frow_new enSide 131 2 w).2
end Go.Proofs.YtkajpkfhedfmaaaGreatDoor

set_option linter.unusedVariables false
namespace Go.Proofs.YtkajpkfhedfmaaaGreatDoor
open Go.RowKit Go.Deep

theorem SdBk.lt {w : World} {g n : Nat} (h : SdBk w g n) : g < w.heap.size := by
  obtain ⟨cur, h1, _⟩ := h
  rcases Nat.lt_or_ge g w.heap.size with h' | h'
  · exact h'
  · simp [Array.getElem?_eq_none h'] at h1
theorem SdBk.keep {w w' : World} {g n : Nat} (h : SdBk w g n) (hk : w'.heap[g]? = w.heap[g]?) : SdBk w' g n := by
  obtain ⟨cur, h1, h2⟩ := h
  exact ⟨cur, hk.trans h1, h2⟩
theorem SdBk.below {w w' : World} {g n B : Nat} (h : SdBk w g n) (hb : Below B w w') (hg : g < B) : SdBk w' g n := h.keep (hb.block g hg)
theorem SdBk.cell {w : World} {g n : Nat} (h : SdBk w g n) (i : Nat) (hi : i < n * 2) : (∃ v, w.cell? ⟨g, i, none⟩ = some v) ∧ w.frozen? ⟨g, i, none⟩ = false := by
  obtain ⟨cur, h1, h2⟩ := h
  refine ⟨?_, Lib.frozen_of_heap h1 i⟩
  rw [Lib.cell_of_heap h1]
  have hic : i < cur.size := by omega
  exact ⟨cur[i], Array.getElem?_eq_getElem hic⟩
theorem SdBk.set {w : World} {g n : Nat} (h : SdBk w g n) (i : Nat) (v : Value) : SdBk (w.setCell ⟨g, i, none⟩ v) g n := by
  obtain ⟨cur, h1, h2⟩ := h
  exact ⟨cur.setIfInBounds i v, by simp [World.setCell, Array.getElem?_modify, h1], by simpa using h2⟩
theorem cellSetOtherS {w : World} {g i j : Nat} {v : Value} (h : i ≠ j) : (w.setCell ⟨g, i, none⟩ v).cell? ⟨g, j, none⟩ = w.cell? ⟨g, j, none⟩ := by
  simp [World.setCell, World.cell?, Array.getElem?_modify]
  cases hh : w.heap[g]? with
  | none => simp
  | some o => cases o <;> simp [h]
theorem SdBk.cellSet {w : World} {g n : Nat} (h : SdBk w g n) (i : Nat) (hi : i < n * 2) (v : Value) : (w.setCell ⟨g, i, none⟩ v).cell? ⟨g, i, none⟩ = some v := by
  obtain ⟨cur, h1, h2⟩ := h
  have : (w.setCell ⟨g, i, none⟩ v).heap[g]? = some (.cells (cur.setIfInBounds i v) 131 (0, 0)) := by simp [World.setCell, Array.getElem?_modify, h1]
  rw [Lib.cell_of_heap this]
  have : i < cur.size := by omega
  simp [this]
def b3 (m : Nat) : Bool := decide (m % 3 = 0)
theorem b3_int (m : Nat) : (((m % 3 : Nat) : Int) == 0) = b3 m := by
  rw [b3, Bool.eq_iff_iff]
  simp only [beq_iff_eq, decide_eq_true_eq]
  omega
/-- A list that holds its marks, so far. -/
def MkSd (w : World) (g k n : Nat) : Prop := ∀ i, i < n → w.cell? ⟨g, i * 2, none⟩ = some (.string (mkS (k + 2 * i))) ∧ w.cell? ⟨g, i * 2 + 1, none⟩ = some (.bool (b3 (k + 2 * i + 1)))
theorem MkSd.below {w w' : World} {g k n B : Nat} (h : MkSd w g k n) (hb : Below B w w') (hg : g < B) : MkSd w' g k n := fun i hi =>
  ⟨(hb.cell (p := ⟨g, i * 2, none⟩) hg).trans (h i hi).1, (hb.cell (p := ⟨g, i * 2 + 1, none⟩) hg).trans (h i hi).2⟩
theorem MkSd.step {w : World} {g k j n : Nat} (h : MkSd w g k j) (hb : SdBk w g n) (hj : j < n) : MkSd ((w.setCell ⟨g, j * 2, none⟩ (.string (mkS (k + 2 * j)))).setCell ⟨g, j * 2 + 1, none⟩ (.bool (b3 (k + 2 * j + 1)))) g k (j + 1) := by
  intro i hi
  rcases Nat.lt_or_ge i j with h' | h'
  · obtain ⟨h1, h2⟩ := h i h'
    refine ⟨?_, ?_⟩
    · rw [cellSetOtherS (by omega), cellSetOtherS (by omega)]; exact h1
    · rw [cellSetOtherS (by omega), cellSetOtherS (by omega)]; exact h2
  · obtain rfl : i = j := by omega
    refine ⟨?_, ?_⟩
    · rw [cellSetOtherS (by omega)]; exact hb.cellSet _ (by omega) _
    · exact (hb.set _ _).cellSet _ (by omega) _
theorem setOffS {w wr : World} {g j : Nat} {v : Value} (h : ∀ c, c < w.heap.size → c ≠ g → wr.heap[c]? = w.heap[c]?) : ∀ c, c < w.heap.size → c ≠ g → (wr.setCell ⟨g, j, none⟩ v).heap[c]? = w.heap[c]? := fun c hc hne => by
  rw [← h c hc hne]
  simp [World.setCell, Array.getElem?_modify, Ne.symm hne]
def MSdPost (g n k : Nat) (w : World) (e : Ending) (w' : World) : Prop := e = .returned (.int .i64 ((k + 2 * n : Nat) : Int)) ∧ MkSd w' g k n ∧ (∀ c, c < w.heap.size → c ≠ g → w'.heap[c]? = w.heap[c]?) ∧ Below 0 w w' ∧ SdBk w' g n
end Go.Proofs.YtkajpkfhedfmaaaGreatDoor

set_option linter.unusedVariables false
namespace Go.Proofs.YtkajpkfhedfmaaaGreatDoor
open Go.RowKit Go.Deep

theorem Sds.below {B : Nat} {v : Value} {l : List SideV} {w w' : World} (h : Sds B v l w) (hb : Below w.heap.size w w') : Sds B v l w' := by
  rcases h with h | ⟨g, cap, h1, h2, h3, h4⟩
  · exact .inl h
  · exact .inr ⟨g, cap, h1, h2.below hb h2.1, h3.below hb h3.lt, h4⟩
theorem Sds.mono {B C : Nat} {v : Value} {l : List SideV} {w : World} (h : Sds B v l w) (hc : C ≤ B) : Sds C v l w := by
  rcases h with h | ⟨g, cap, h1, h2, h3, h4⟩
  · exact .inl h
  · exact .inr ⟨g, cap, h1, h2, h3, Nat.le_trans hc h4⟩
/-- The block of a value that is a row. -/
def blkS : Value → Nat → Prop
  | .slice (some a) _ _, g => a.block = g
  | _, _ => False
theorem Sds.blk {B : Nat} {v : Value} {l : List SideV} {w : World} (h : Sds B v l w) {g : Nat} (hv : blkS v g) : g < w.heap.size ∧ B ≤ g := by
  rcases h with ⟨rfl, _⟩ | ⟨g', c', rfl, h2, _, h4⟩
  · exact absurd hv (by simp [blkS])
  · have : g' = g := hv
    subst this
    exact ⟨h2.1, h4⟩
theorem Sds.keep {B : Nat} {v : Value} {l : List SideV} {w w' : World} (h : Sds B v l w) (hs : w.heap.size ≤ w'.heap.size) (hk : ∀ g, blkS v g → w'.heap[g]? = w.heap[g]?) : Sds B v l w' := by
  rcases h with h | ⟨g, cap, rfl, h2, h3, h4⟩
  · exact .inl h
  · refine .inr ⟨g, cap, rfl, ⟨Nat.lt_of_lt_of_le h2.1 hs, fun i j hi hj => ?_⟩, h3.keep (hk g rfl), h4⟩
    have := h2.2 i j hi hj
    rw [← this]
    exact World.cell?_of_block (a := ⟨g, i * 2 + j, none⟩) (hk g rfl)
theorem sds_slice {B : Nat} {v : Value} {l : List SideV} {w : World} (h : Sds B v l w) : ∃ a n c, v = .slice a n c := by
  rcases h with ⟨rfl, _⟩ | ⟨g, cap, rfl, _⟩
  · exact ⟨_, _, _, rfl⟩
  · exact ⟨_, _, _, rfl⟩
/-- A list of sides that holds its marks from k on. -/
def HeldS (v : Value) (n k : Nat) (w : World) : Prop := (v = .slice none 0 0 ∧ n = 0) ∨ ∃ g cap, v = .slice (some ⟨g, 0, none⟩) n cap ∧ g < w.heap.size ∧ MkSd w g k n
theorem HeldS.below {v : Value} {n k : Nat} {w w' : World} (h : HeldS v n k w) (hb : Below w.heap.size w w') : HeldS v n k w' := by
  rcases h with h | ⟨g, cap, h1, h2, h3⟩
  · exact .inl h
  · exact .inr ⟨g, cap, h1, Nat.lt_of_lt_of_le h2 hb.size, h3.below hb h2⟩
theorem rproofL_len (ss : List ByteArray) (x : Int) : (rproofL ss x).length ≤ 1048576 := by
  unfold rproofL
  split
  · rename_i h
    have h1 := itemsOk_len h.1
    have h2 := sidesR_len ss.length (ss.map rootItemB) x.toNat (by rw [List.length_map]; omega)
    rw [List.length_map] at h2
    omega
  · exact Nat.zero_le _
end Go.Proofs.YtkajpkfhedfmaaaGreatDoor

set_option linter.unusedVariables false
namespace Go.Proofs.YtkajpkfhedfmaaaGreatDoor
open Go.RowKit Go.Deep

structure PdV where
  a : Int
  h : HeadV
  pk : List PeakV
  st : List PeakV
  sd : List SideV
def zeroPd : PdV := ⟨0, ⟨⟨#[]⟩, ⟨#[]⟩, 0, 0, 0⟩, [], [], []⟩
/-- The place, and the place of the item, are there. -/
def inPd (ps : List (HeadV × List ByteArray)) (x y : Int) : Prop := okP ps = true ∧ (0 ≤ x ∧ x < (ps.length : Int)) ∧ (0 ≤ y ∧ y < ((ps.getD x.toNat default).2.length : Int))
open Classical in
noncomputable def paidOfL (ps : List (HeadV × List ByteArray)) (x y : Int) : PdV := if inPd ps x y then ⟨x, (ps.getD x.toNat default).1, ofP (ps.map (·.1)) ps.length, notesN (leafF (ps.map (·.1))) x.toNat ps.length, sidesR (ps.getD x.toNat default).2.length ((ps.getD x.toNat default).2.map rootItemB) y.toNat⟩ else zeroPd
theorem paidOfL_no {ps : List (HeadV × List ByteArray)} {x y : Int} (h : ¬ inPd ps x y) : paidOfL ps x y = zeroPd := by rw [paidOfL, if_neg h]
theorem paidOfL_yes {ps : List (HeadV × List ByteArray)} {X Y : Nat} (h : inPd ps (X : Int) (Y : Int)) : paidOfL ps (X : Int) (Y : Int) = ⟨(X : Int), (ps.getD X default).1, ofP (ps.map (·.1)) ps.length, notesN (leafF (ps.map (·.1))) X ps.length, sidesR (ps.getD X default).2.length ((ps.getD X default).2.map rootItemB) Y⟩ := by
  rw [paidOfL, if_pos h]
  rfl
/-- The nine cells of a proof that was handed back. -/
def pdCells (v : PdV) (vp vs vd : Value) : Array Value := #[.int .i64 v.a, .string v.h.prev, .string v.h.root, .int .i64 v.h.time, .int .i64 v.h.diff, .int .i64 v.h.nonce, vp, vs, vd]
def PdPost (B : Nat) (v : PdV) (w : World) (e : Ending) (w' : World) : Prop := ∃ vp vs vd, e = .returned (.agg (pdCells v vp vs vd)) ∧ Pks B vp v.pk w' ∧ Pks B vs v.st w' ∧ Sds B vd v.sd w' ∧ Below w.heap.size w w'
/-- The three lists of an answer are apart. -/
def Dis3 (v : PdV) (e : Ending) : Prop := ∀ vp vs vd b, e = .returned (.agg (pdCells v vp vs vd)) → (blkOf vp b → ¬ blkOf vs b ∧ ¬ blkS vd b) ∧ (blkOf vs b → ¬ blkS vd b)
theorem blkS_of (v : Value) (b : Nat) : blkS v b ↔ blkOf v b := by
  cases v with
  | slice a n c => cases a <;> exact Iff.rfl
  | _ => exact Iff.rfl
/-- A list of sides and one of peaks stand in blocks of different types. -/
theorem sd_pk {w : World} {B C : Nat} {u v : Value} {p : List PeakV} {s : List SideV} (hp : Pks B u p w) (hs : Sds C v s w) (b : Nat) (h1 : blkOf u b) : ¬ blkS v b := by
  intro h2
  rcases hp with ⟨rfl, _⟩ | ⟨g, cap, rfl, _, ⟨cur, hc, _⟩, _⟩
  · exact absurd h1 (by simp [blkOf])
  rcases hs with ⟨rfl, _⟩ | ⟨g', cap', rfl, _, ⟨cur', hc', _⟩, _⟩
  · exact absurd h2 (by simp [blkS])
  have e1 : g = b := h1
  have e2 : g' = b := h2
  subst e1
  subst e2
  rw [hc] at hc'
  simp only [Option.some.injEq, Obj.cells.injEq] at hc'
  exact absurd hc'.2.1 (by decide)
theorem inPd_facts {ps : List (HeadV × List ByteArray)} {x y : Int} (h : inPd ps x y) : headsB (ps.map (·.1)) = true ∧ (∀ p ∈ ps, itemsOkB p.2 = true) := by
  obtain ⟨h1, _, _⟩ := h
  rw [okP, Bool.and_eq_true, decide_eq_true_eq] at h1
  refine ⟨heads_good (ck_len h1.1) (ck_ok h1.1), fun p hp => ?_⟩
  have h2 := h1.2
  rw [allOk, List.all_eq_true] at h2
  have h3 := h2 p hp
  simp only [blockOkB, Bool.and_eq_true] at h3
  exact h3.2.2.1
theorem pd_len (bs : List BlkV) : (ptsOf bs).length = bs.length := by simp [ptsOf]
theorem pd_at {bs : List BlkV} {k : Nat} (h : k < bs.length) : (ptsOf bs).getD k default = ((bs.getD k default).h, (bs.getD k default).ss) := by
  simp [ptsOf, List.getD_eq_getElem?_getD, List.getElem?_eq_getElem h]
end Go.Proofs.YtkajpkfhedfmaaaGreatDoor

set_option linter.unusedVariables false
namespace Go.Proofs.YtkajpkfhedfmaaaGreatDoor
open Go.ChangeShapes Go.WideShapes Go.ChangeAt Go.RowKit Go.Deep Go.Joins

theorem CBk.nineC {w : World} {g : Nat} {T : TypeId} {a b c d e f x y z : Value} (h : CBk w g T #[a, b, c, d, e, f, x, y, z]) : w.cell? ⟨g, 0, none⟩ = some a ∧ w.cell? ⟨g, 1, none⟩ = some b ∧ w.cell? ⟨g, 2, none⟩ = some c ∧ w.cell? ⟨g, 3, none⟩ = some d ∧ w.cell? ⟨g, 4, none⟩ = some e ∧ w.cell? ⟨g, 5, none⟩ = some f ∧ w.cell? ⟨g, 6, none⟩ = some x ∧ w.cell? ⟨g, 7, none⟩ = some y ∧ w.cell? ⟨g, 8, none⟩ = some z :=
  ⟨h.cell 0, h.cell 1, h.cell 2, h.cell 3, h.cell 4, h.cell 5, h.cell 6, h.cell 7, h.cell 8⟩
theorem CBk.nineF {w : World} {g : Nat} {T : TypeId} {cs : Array Value} (h : CBk w g T cs) : w.frozen? ⟨g, 0, none⟩ = false ∧ w.frozen? ⟨g, 1, none⟩ = false ∧ w.frozen? ⟨g, 2, none⟩ = false ∧ w.frozen? ⟨g, 3, none⟩ = false ∧ w.frozen? ⟨g, 4, none⟩ = false ∧ w.frozen? ⟨g, 5, none⟩ = false ∧ w.frozen? ⟨g, 6, none⟩ = false ∧ w.frozen? ⟨g, 7, none⟩ = false ∧ w.frozen? ⟨g, 8, none⟩ = false :=
  ⟨h.frozen 0, h.frozen 1, h.frozen 2, h.frozen 3, h.frozen 4, h.frozen 5, h.frozen 6, h.frozen 7, h.frozen 8⟩
/-- A proof that an item is there, of the laws. -/
structure LPaid where
  a : Int
  h : HeadV
  r : LPrf
  da : Option Addr
  dn : Nat
  dc : Nat
  dl : List SideV
def lpaidVal (L : LPaid) : Value := .agg #[.int .i64 L.a, .string L.h.prev, .string L.h.root, .int .i64 L.h.time, .int .i64 L.h.diff, .int .i64 L.h.nonce, .slice L.r.pa L.r.pn L.r.pc, .slice L.r.sa L.r.sn L.r.sc, .slice L.da L.dn L.dc]
structure IsPaid (w : World) (L : LPaid) : Prop where
  a : (Lit.int .i64 L.a).wf = true
  h : wfHead L.h
  r : IsPrf w L.r
  d : IsSides w L.da L.dn L.dc L.dl
theorem sides_below {w w' : World} {a : Option Addr} {len cap : Nat} {ps : List SideV} (h : IsSides w a len cap ps) (hb : Below w.heap.size w w') : IsSides w' a len cap ps := by
  have hat := fun i hi => h.at enSide_len hb i hi
  rcases h with h1 | ⟨x, hx, h1, h2, h3, h4, h5⟩
  · exact .inl h1
  · refine .inr ⟨x, hx, h1, h2, h3, fun i j hi hj => ?_, h5⟩
    obtain ⟨y, hy, hc, _⟩ := hat i hi
    rw [hx] at hy
    obtain rfl := Option.some.inj hy
    exact hc j hj
theorem IsPaid.below {w w' : World} {L : LPaid} (h : IsPaid w L) (hb : Below w.heap.size w w') : IsPaid w' L := ⟨h.a, h.h, h.r.below hb, sides_below h.d hb⟩
theorem cellsInt2 : Tryz.prog.cellsOf 3 = 1 := by kernel_rfl
theorem nine_parts {cs : Array Value} {a b c d e f x y z : Value} (hl : cs.toList.length = 9) (h0 : (cs.toList.drop 0).take 1 = [a]) (h1 : (cs.toList.drop 1).take 5 = [b, c, d, e, f]) (h2 : (cs.toList.drop 6).take 2 = [x, y]) (h3 : (cs.toList.drop 8).take 1 = [z]) : cs = #[a, b, c, d, e, f, x, y, z] := by
  refine Array.ext' ?_
  match hx : cs.toList, hl with
  | [x0, x1, x2, x3, x4, x5, x6, x7, x8], _ =>
    rw [hx] at h0 h1 h2 h3
    simp at h0 h1 h2 h3
    obtain ⟨rfl, rfl, rfl, rfl, rfl⟩ := h1
    obtain ⟨rfl, rfl⟩ := h2
    subst h0 h3
    rfl
theorem one_of {l : List Value} (h : l.length = 1) : ∃ v, l = [v] := by
  match l, h with
  | [v], _ => exact ⟨v, rfl⟩
structure SmallPaid (L : LPaid) : Prop where
  h : smallHead L.h
  r : SmallPrf L.r
  dn : L.dn ≤ 1048576
  ds : ∀ i, i < L.dn → smallSide (L.dl.getD i default)
/-- A proof that an item is there, in memory of its own. -/
structure PaidV where
  s : PrfV
  g : Nat
  n : Nat
  c : Nat
def paidVal (L : LPaid) (v : PaidV) : Value := .agg #[.int .i64 L.a, .string L.h.prev, .string L.h.root, .int .i64 L.h.time, .int .i64 L.h.diff, .int .i64 L.h.nonce, .slice (some ⟨v.s.g, 0, none⟩) v.s.n v.s.c, .slice (some ⟨v.s.sg, 0, none⟩) v.s.sn v.s.sc, .slice (some ⟨v.g, 0, none⟩) v.n v.c]
structure CopyPaid (B : Nat) (L : LPaid) (v : PaidV) (w : World) : Prop where
  r : CopyPrf B L.r v.s w
  d : RowSide w v.g L.dl
  dn : v.n = L.dn
  dc : v.c = v.n
  lo : v.s.sg < v.g
theorem CopyPaid.below {B : Nat} {L : LPaid} {v : PaidV} {w w' : World} (h : CopyPaid B L v w) (hb : Below w.heap.size w w') : CopyPaid B L v w' :=
  ⟨h.r.below hb, h.d.below hb h.d.lt, h.dn, h.dc, h.lo⟩
theorem rowSd_other {w : World} {g g' : Nat} {l : List SideV} (h : RowSide w g l) (hg : g' ≠ g) (j : Nat) (v : Value) : RowSide (w.setCell ⟨g', j, none⟩ v) g l := by
  unfold RowSide RowF at h ⊢; simp [World.setCell, Array.getElem?_modify, h, hg]
theorem copyPrf_other {B : Nat} {L : LPrf} {s : PrfV} {w : World} (h : CopyPrf B L s w) {g' : Nat} (hg : g' < B) (j : Nat) (v : Value) : CopyPrf B L s (w.setCell ⟨g', j, none⟩ v) := by
  have h1 := h.lo
  have h2 := h.up
  exact ⟨rowP_other h.p (by omega) j v, h.ps, h.pn, h.pc, rowP_other h.st (by omega) j v, h.ss, h.sn, h.sc, h.lo, h.up⟩
theorem copyPrf_lo {B C : Nat} {L : LPrf} {s : PrfV} {w : World} (h : CopyPrf B L s w) (hc : C ≤ B) : CopyPrf C L s w :=
  ⟨h.p, h.ps, h.pn, h.pc, h.st, h.ss, h.sn, h.sc, Nat.le_trans hc h.lo, h.up⟩
theorem copyPaid_other {B : Nat} {L : LPaid} {v : PaidV} {w : World} (h : CopyPaid B L v w) {g' : Nat} (hg : g' < B) (j : Nat) (x : Value) : CopyPaid B L v (w.setCell ⟨g', j, none⟩ x) := by
  have h1 := h.r.lo
  have h2 := h.r.up
  have h3 := h.lo
  exact ⟨copyPrf_other h.r hg j x, rowSd_other h.d (by omega) j x, h.dn, h.dc, h.lo⟩
theorem copyPaid_lo {B C : Nat} {L : LPaid} {v : PaidV} {w : World} (h : CopyPaid B L v w) (hc : C ≤ B) : CopyPaid C L v w := ⟨copyPrf_lo h.r hc, h.d, h.dn, h.dc, h.lo⟩

theorem CopyPaid.len {B : Nat} {L : LPaid} {v : PaidV} {w : World} (h : CopyPaid B L v w) : v.n = L.dn := h.dn
structure LenPaid (L : LPaid) : Prop where
  p : L.r.pl.length = L.r.pn
  s : L.r.sl.length = L.r.sn
  d : L.dl.length = L.dn
theorem IsPaid.lens {w : World} {L : LPaid} (h : IsPaid w L) : LenPaid L := ⟨h.r.p.len, h.r.s.len, h.d.len⟩
end Go.Proofs.YtkajpkfhedfmaaaGreatDoor

set_option linter.unusedVariables false
namespace Go.Proofs.YtkajpkfhedfmaaaGreatDoor
open Go.RowKit Go.Deep

theorem CBk.drewP {w : World} {g : Nat} {T : TypeId} {cs : Array Value} (h : CBk w g T cs) : CBk w.drew g T cs := h
def pheadVal (L : LPaid) (v : PaidV) : Value := .agg #[.int .i64 L.a, .string L.h.prev, .string L.h.root, .int .i64 L.h.time, .int .i64 L.h.diff, .int .i64 L.h.nonce, .slice (some ⟨v.s.g, 0, none⟩) v.s.n v.s.c, .slice (some ⟨v.s.sg, 0, none⟩) v.s.sn v.s.sc]
theorem at_new2 (w : World) (o1 o2 : Obj) : ((w.alloc o1).alloc o2).heap[w.heap.size + 1]? = some o2 := by
  have := heap_alloc_new (w.alloc o1) o2
  rwa [show (w.alloc o1).heap.size = w.heap.size + 1 from by simp] at this
set_option maxRecDepth 100000 in
theorem runHeadPart (L : LPaid) (v : PaidV) (w : World) : (Instr.field 83 (.agg #[.int .i64 L.a, .string L.h.prev, .string L.h.root, .int .i64 L.h.time, .int .i64 L.h.diff, .int .i64 L.h.nonce, .slice (some ⟨v.s.g, 0, none⟩) v.s.n v.s.c, .slice (some ⟨v.s.sg, 0, none⟩) v.s.sn v.s.sc, .slice (some ⟨v.g, 0, none⟩) v.n v.c]) 0).run Tryz.prog w = .ok (.agg #[.int .i64 L.a, .string L.h.prev, .string L.h.root, .int .i64 L.h.time, .int .i64 L.h.diff, .int .i64 L.h.nonce, .slice (some ⟨v.s.g, 0, none⟩) v.s.n v.s.c, .slice (some ⟨v.s.sg, 0, none⟩) v.s.sn v.s.sc]) w := by kernel_rfl
set_option maxHeartbeats 1000000 in
set_option maxRecDepth 100000 in
theorem implPaidOpen (L : LPaid) (v : PaidV) (w : World) :
    Calls Tryz.prog 32 #[paidVal L v] w fun e w' => e = .returned (paidVal L v) ∧ Below w.heap.size w w' := by
  unfold paidVal
  go_enter Tryz.func32, Tryz.ntmps32
  go_wp2_with fail
  exact bodyPost_ret (results_cell_row (p := 2) rfl _ _ (w.heap.size + 1) 83 #[.int .i64 L.a, .string L.h.prev, .string L.h.root, .int .i64 L.h.time, .int .i64 L.h.diff, .int .i64 L.h.nonce, .slice (some ⟨v.s.g, 0, none⟩) v.s.n v.s.c, .slice (some ⟨v.s.sg, 0, none⟩) v.s.sn v.s.sc, .slice (some ⟨v.g, 0, none⟩) v.n v.c] (0, 0) _ rfl (at_new2 _ _ _) Tryz.underlying83 rfl (by kernel_rfl)) rfl ⟨rfl, ((Below.refl _ w).alloc (Nat.le_refl _) _).alloc (by simp) _⟩

end Go.Proofs.YtkajpkfhedfmaaaGreatDoor

