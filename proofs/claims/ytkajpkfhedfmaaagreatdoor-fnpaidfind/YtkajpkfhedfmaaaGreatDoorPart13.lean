/-
  Texts that the last part needs, joined.
-/
import Derived.Test.YtkajpkfhedfmaaaGreatDoorPart1
import Derived.Test.YtkajpkfhedfmaaaGreatDoorPart2
import Derived.Test.YtkajpkfhedfmaaaGreatDoorPart3
import Derived.Test.YtkajpkfhedfmaaaGreatDoorPart4
import Derived.Test.YtkajpkfhedfmaaaGreatDoorPart5
import Derived.Test.YtkajpkfhedfmaaaGreatDoorPart6
import Derived.Test.YtkajpkfhedfmaaaGreatDoorPart7
import Derived.Test.YtkajpkfhedfmaaaGreatDoorPart8
import Derived.Test.YtkajpkfhedfmaaaGreatDoorPart9
import Derived.Test.YtkajpkfhedfmaaaGreatDoorPart10
import Derived.Test.YtkajpkfhedfmaaaGreatDoorPart11
import Derived.Test.YtkajpkfhedfmaaaGreatDoorPart12
import Derived.Deep.AppendLies
import Derived.Deep.Cut
import Derived.Deep.RegionHeld3
import Derived.Deep.RegionLaw
set_option linter.unusedVariables false
namespace Go.Proofs.YtkajpkfhedfmaaaGreatDoor
open Go.RowKit Go.Deep

/-- The proof while it is made: its block, its row of steps. -/
structure PfW (w0 wr : World) (gp : Nat) (vs : Value) (ss : List PeakV) : Prop where
  k : CBk wr gp 44 #[.slice none 0 0, vs]
  row : wr.ownsRow w0.heap.size 67 3 vs ss.length (ss.flatMap pEnc)
  b : Below w0.heap.size w0 wr
  lo : w0.heap.size ≤ gp
def Pf (w0 wr : World) (gp : Nat) (ss : List PeakV) : Prop := ∃ vs, PfW w0 wr gp vs ss
/-- No block but the proof's own and those of peaks has changed. -/
def Off (gp : Nat) (w w' : World) : Prop := w.heap.size ≤ w'.heap.size ∧ ∀ c, c < w.heap.size → c ≠ gp → (∀ cur fr, w.heap[c]? ≠ some (.cells cur 67 fr)) → w'.heap[c]? = w.heap[c]?
theorem Off.refl (gp : Nat) (w : World) : Off gp w w := ⟨Nat.le_refl _, fun _ _ _ _ => rfl⟩
theorem Off.trans {gp : Nat} {w w1 w2 : World} (h : Off gp w w1) (h2 : Off gp w1 w2) : Off gp w w2 :=
  ⟨Nat.le_trans h.1 h2.1, fun c hc hne hp => by
    have e := h.2 c hc hne hp
    rw [← e]
    exact h2.2 c (Nat.lt_of_lt_of_le hc h.1) hne (fun cur fr => by rw [e]; exact hp cur fr)⟩
theorem Off.below {gp : Nat} {w w1 w2 : World} (h : Off gp w w1) (hb : Below w1.heap.size w1 w2) : Off gp w w2 :=
  h.trans ⟨hb.size, fun c hc _ _ => hb.block c hc⟩
theorem Off.set {gp g j : Nat} {w w1 : World} (h : Off gp w w1) (hg : w.heap.size ≤ g ∨ g = gp) (v : Value) : Off gp w (w1.setCell ⟨g, j, none⟩ v) :=
  ⟨by simpa using h.1, fun c hc hne hp => by
    rw [← h.2 c hc hne hp]
    have : c ≠ g := by rcases hg with h' | h' <;> omega
    simp [World.setCell, Array.getElem?_modify, Ne.symm this]⟩
/-- A block of another type is not the row's. -/
theorem own_ne {w : World} {B g n : Nat} {T : TypeId} {v : Value} {xs : List Value} {cs : Array Value} (h : w.ownsRow B 67 3 v n xs) (hk : CBk w g T cs) (hT : T ≠ 67) : v.ownBlock ≠ some g := by
  rcases h.2 with ⟨rfl, _⟩ | ⟨g', cap, cur, rfl, _, hg, _⟩
  · simp [Value.ownBlock]
  · intro he
    have he' : g' = g := by simpa [Value.ownBlock] using he
    subst he'
    have hk' : w.heap[g']? = some (.cells cs T (0, 0)) := hk
    rw [hg] at hk'
    simp only [Option.some.injEq, Obj.cells.injEq] at hk'
    exact hT hk'.2.1.symm
theorem own_is {w : World} {B n b : Nat} {v : Value} {xs : List Value} (h : w.ownsRow B 67 3 v n xs) (hv : v.ownBlock = some b) : ∃ cur, w.heap[b]? = some (.cells cur 67 (0, 0)) := by
  rcases h.2 with ⟨rfl, _⟩ | ⟨g', cap, cur, rfl, _, hg, _⟩
  · simp [Value.ownBlock] at hv
  · have : g' = b := by simpa [Value.ownBlock] using hv
    subst this
    exact ⟨cur, hg⟩
theorem own_below {w w' : World} {B n : Nat} {v : Value} {xs : List Value} (h : w.ownsRow B 67 3 v n xs) (hb : Below w.heap.size w w') : w'.ownsRow B 67 3 v n xs := by
  refine ⟨h.1, ?_⟩
  rcases h.2 with h1 | ⟨g', cap, cur, hv, hB, hg, h4⟩
  · exact .inl h1
  · refine .inr ⟨g', cap, cur, hv, hB, ?_, h4⟩
    rw [hb.block g' ?_]
    · exact hg
    · rcases Nat.lt_or_ge g' w.heap.size with h' | h'
      · exact h'
      · simp [Array.getElem?_eq_none h'] at hg
theorem own_set {w : World} {B n g j : Nat} {T : TypeId} {v u : Value} {xs : List Value} {cs : Array Value} (h : w.ownsRow B 67 3 v n xs) (hk : CBk w g T cs) (hT : T ≠ 67) : (w.setCell ⟨g, j, none⟩ u).ownsRow B 67 3 v n xs := by
  have hne := own_ne h hk hT
  refine ⟨h.1, ?_⟩
  rcases h.2 with h1 | ⟨g', cap, cur, hv, hB, hg, h4⟩
  · exact .inl h1
  · refine .inr ⟨g', cap, cur, hv, hB, ?_, h4⟩
    have : g ≠ g' := by
      intro he
      subst he
      rw [hv] at hne
      exact hne rfl
    simp [World.setCell, Array.getElem?_modify, hg, this]
theorem PfW.call {w0 wr w' : World} {gp : Nat} {vs : Value} {ss : List PeakV} (h : PfW w0 wr gp vs ss) (hb : Below wr.heap.size wr w') : PfW w0 w' gp vs ss :=
  ⟨h.k.call hb, own_below h.row hb, h.b.trans (hb.mono h.b.size), h.lo⟩
theorem PfW.store {w0 wr : World} {gp g j : Nat} {T : TypeId} {vs : Value} {ss : List PeakV} {cs : Array Value} (h : PfW w0 wr gp vs ss) (hk : CBk wr g T cs) (hT : T ≠ 67) (hne : g ≠ gp) (hlo : w0.heap.size ≤ g) (u : Value) : PfW w0 (wr.setCell ⟨g, j, none⟩ u) gp vs ss :=
  ⟨h.k.other hne u, own_set h.row hk hT, h.b.setCell (p := ⟨g, j, none⟩) hlo u, h.lo⟩
theorem NBk.four {w : World} {g : Nat} {a : NodeV} (h : NBk w g a) : w.cell? ⟨g, 0, none⟩ = some (.string a.1.sum) ∧ w.cell? ⟨g, 1, none⟩ = some (.int .i64 a.1.work) ∧ w.cell? ⟨g, 2, none⟩ = some (.int .i64 a.1.count) ∧ w.cell? ⟨g, 3, none⟩ = some (.bool a.2) := ⟨CBk.cell h 0, CBk.cell h 1, CBk.cell h 2, CBk.cell h 3⟩
theorem CBk.free4 {w : World} {g : Nat} {T : TypeId} {cs : Array Value} (h : CBk w g T cs) : w.frozen? ⟨g, 0, none⟩ = false ∧ w.frozen? ⟨g, 1, none⟩ = false ∧ w.frozen? ⟨g, 2, none⟩ = false ∧ w.frozen? ⟨g, 3, none⟩ = false := ⟨h.frozen 0, h.frozen 1, h.frozen 2, h.frozen 3⟩
theorem CBk.set4 {w : World} {g : Nat} {T : TypeId} {x y z u a b c d : Value} (h : CBk w g T #[x, y, z, u]) : CBk ((((w.setCell ⟨g, 0, none⟩ a).setCell ⟨g, 1, none⟩ b).setCell ⟨g, 2, none⟩ c).setCell ⟨g, 3, none⟩ d) g T #[a, b, c, d] := (((h.set 0 a).set 1 b).set 2 c).set 3 d
theorem ntne : (119 : TypeId) ≠ 67 := by decide
theorem ftne : (44 : TypeId) ≠ 67 := by decide
/-- Within the closure: its two nodes, its answer's block. -/
structure BothW (w0 w wr : World) (gp g0 : Nat) (vs : Value) (ss : List PeakV) (a b : NodeV) : Prop where
  f : PfW w0 wr gp vs ss
  a : NBk wr g0 a
  b : NBk wr (g0 + 1) b
  r : CBk wr (g0 + 1 + 1) 119 #[.string ⟨#[]⟩, .int .i64 0, .int .i64 0, .bool false]
  o : Off gp w wr
  e : g0 = w.heap.size
  g : gp < w.heap.size
theorem BothW.call {w0 w wr w' : World} {gp g0 : Nat} {vs : Value} {ss : List PeakV} {a b : NodeV} (h : BothW w0 w wr gp g0 vs ss a b) (hb : Below wr.heap.size wr w') : BothW w0 w w' gp g0 vs ss a b :=
  ⟨h.f.call hb, CBk.call h.a hb, CBk.call h.b hb, h.r.call hb, h.o.below hb, h.e, h.g⟩
theorem BothW.drew {w0 w wr : World} {gp g0 : Nat} {vs : Value} {ss : List PeakV} {a b : NodeV} (h : BothW w0 w wr gp g0 vs ss a b) : BothW w0 w wr.drew gp g0 vs ss a b := h.call (Below.refl _ _).drew
theorem BothW.enter {w0 w : World} {gp : Nat} {vs : Value} {ss : List PeakV} (h : PfW w0 w gp vs ss) (a b : NodeV) : BothW w0 w (((w.alloc (.cells #[.string a.1.sum, .int .i64 a.1.work, .int .i64 a.1.count, .bool a.2] 119)).alloc (.cells #[.string b.1.sum, .int .i64 b.1.work, .int .i64 b.1.count, .bool b.2] 119)).alloc (.cells #[.string ⟨#[]⟩, .int .i64 0, .int .i64 0, .bool false] 119)) gp w.heap.size vs ss a b := by
  have b1 : Below w.heap.size w (w.alloc (.cells #[.string a.1.sum, .int .i64 a.1.work, .int .i64 a.1.count, .bool a.2] 119)) := (Below.refl _ w).alloc (Nat.le_refl _) _
  have b2 := b1.alloc (o := .cells #[.string b.1.sum, .int .i64 b.1.work, .int .i64 b.1.count, .bool b.2] 119) b1.size
  have b3 := b2.alloc (o := .cells #[.string ⟨#[]⟩, .int .i64 0, .int .i64 0, .bool false] 119) b2.size
  refine ⟨h.call b3, ((CBk.new w _ _).alloc _).alloc _, ?_, ?_, (Off.refl gp w).below b3, rfl, h.k.lt⟩
  · have := (CBk.new (w.alloc (.cells #[.string a.1.sum, .int .i64 a.1.work, .int .i64 a.1.count, .bool a.2] 119)) 119 #[.string b.1.sum, .int .i64 b.1.work, .int .i64 b.1.count, .bool b.2]).alloc (.cells #[.string ⟨#[]⟩, .int .i64 0, .int .i64 0, .bool false] 119)
    rwa [show (w.alloc (.cells #[.string a.1.sum, .int .i64 a.1.work, .int .i64 a.1.count, .bool a.2] 119)).heap.size = w.heap.size + 1 from by simp] at this
  · have := CBk.new ((w.alloc (.cells #[.string a.1.sum, .int .i64 a.1.work, .int .i64 a.1.count, .bool a.2] 119)).alloc (.cells #[.string b.1.sum, .int .i64 b.1.work, .int .i64 b.1.count, .bool b.2] 119)) 119 #[.string ⟨#[]⟩, .int .i64 0, .int .i64 0, .bool false]
    rwa [show ((w.alloc (.cells #[.string a.1.sum, .int .i64 a.1.work, .int .i64 a.1.count, .bool a.2] 119)).alloc (.cells #[.string b.1.sum, .int .i64 b.1.work, .int .i64 b.1.count, .bool b.2] 119)).heap.size = w.heap.size + 1 + 1 from by simp] at this
/-- Behind an append to the steps, ahead of its store. -/
theorem BothW.keep4 {w0 w wr w4 : World} {gp g0 : Nat} {vs : Value} {ss : List PeakV} {a b : NodeV} (h : BothW w0 w wr gp g0 vs ss a b) (hk : ∀ c, c < wr.heap.size → vs.ownBlock ≠ some c → w4.heap[c]? = wr.heap[c]?) : CBk w4 gp 44 #[.slice none 0 0, vs] :=
  (hk gp h.f.k.lt (own_ne h.f.row h.f.k ftne)).trans h.f.k
theorem BothW.two {w0 w wr w4 : World} {gp g0 : Nat} {vs : Value} {ss : List PeakV} {a b : NodeV} (h : BothW w0 w wr gp g0 vs ss a b) (hk : ∀ c, c < wr.heap.size → vs.ownBlock ≠ some c → w4.heap[c]? = wr.heap[c]?) : w4.cell? ⟨gp, 1, none⟩ = some vs ∧ w4.frozen? ⟨gp, 1, none⟩ = false := ⟨(h.keep4 hk).cell 1, (h.keep4 hk).frozen 1⟩
theorem BothW.noted {w0 w wr w4 : World} {gp g0 g4 c4 : Nat} {vs : Value} {ss : List PeakV} {a b : NodeV} {t : PeakV} (h : BothW w0 w wr gp g0 vs ss a b) (hown : w4.ownsRow w0.heap.size 67 3 (.slice (some ⟨g4, 0, none⟩) (ss.length + 1) c4) (ss.length + 1) (ss.flatMap pEnc ++ pEnc t)) (hb : Below w0.heap.size wr w4) (hk : ∀ c, c < wr.heap.size → vs.ownBlock ≠ some c → w4.heap[c]? = wr.heap[c]?) :
    BothW w0 w (w4.setCell ⟨gp, 1, none⟩ (.slice (some ⟨g4, 0, none⟩) (ss.length + 1) c4)) gp g0 (.slice (some ⟨g4, 0, none⟩) (ss.length + 1) c4) (ss ++ [t]) a b := by
  have he := h.e
  have hg := h.g
  have hk4 := h.keep4 hk
  have hown' : w4.ownsRow w0.heap.size 67 3 (.slice (some ⟨g4, 0, none⟩) (ss.length + 1) c4) (ss ++ [t]).length ((ss ++ [t]).flatMap pEnc) := by
    rw [List.length_append, List.flatMap_append]
    simpa using hown
  have hN : ∀ c cs, CBk wr c 119 cs → CBk w4 c 119 cs := fun c cs hc => (hk c hc.lt (own_ne h.f.row hc ntne)).trans hc
  refine ⟨⟨hk4.set 1 _, own_set hown' hk4 ftne, (h.f.b.trans hb).setCell (p := ⟨gp, 1, none⟩) h.f.lo _, h.f.lo⟩, ?_, ?_, ?_, ?_, he, hg⟩
  · exact CBk.other (hN g0 _ h.a) (by omega) _
  · exact CBk.other (hN _ _ h.b) (by omega) _
  · exact CBk.other (hN _ _ h.r) (by omega) _
  · refine (h.o.trans ?_).set (.inr rfl) _
    refine ⟨hb.size, fun c hc hne hp => hk c hc (fun hv => ?_)⟩
    obtain ⟨cur, h1⟩ := own_is h.f.row hv
    exact hp _ _ h1
theorem BothW.cells {w0 w wr : World} {gp g0 : Nat} {vs : Value} {ss : List PeakV} {a b : NodeV} (h : BothW w0 w wr gp g0 vs ss a b) : (wr.cell? ⟨g0, 0, none⟩ = some (.string a.1.sum) ∧ wr.cell? ⟨g0, 1, none⟩ = some (.int .i64 a.1.work) ∧ wr.cell? ⟨g0, 2, none⟩ = some (.int .i64 a.1.count) ∧ wr.cell? ⟨g0, 3, none⟩ = some (.bool a.2)) ∧ (wr.cell? ⟨g0 + 1, 0, none⟩ = some (.string b.1.sum) ∧ wr.cell? ⟨g0 + 1, 1, none⟩ = some (.int .i64 b.1.work) ∧ wr.cell? ⟨g0 + 1, 2, none⟩ = some (.int .i64 b.1.count) ∧ wr.cell? ⟨g0 + 1, 3, none⟩ = some (.bool b.2)) := ⟨h.a.four, h.b.four⟩
theorem BothW.ans {w0 w wr : World} {gp g0 : Nat} {vs : Value} {ss : List PeakV} {a b : NodeV} (h : BothW w0 w wr gp g0 vs ss a b) : (wr.cell? ⟨g0 + 1 + 1, 0, none⟩ = some (.string ⟨#[]⟩) ∧ wr.cell? ⟨g0 + 1 + 1, 1, none⟩ = some (.int .i64 0) ∧ wr.cell? ⟨g0 + 1 + 1, 2, none⟩ = some (.int .i64 0) ∧ wr.cell? ⟨g0 + 1 + 1, 3, none⟩ = some (.bool false)) ∧ (wr.frozen? ⟨g0 + 1 + 1, 0, none⟩ = false ∧ wr.frozen? ⟨g0 + 1 + 1, 1, none⟩ = false ∧ wr.frozen? ⟨g0 + 1 + 1, 2, none⟩ = false ∧ wr.frozen? ⟨g0 + 1 + 1, 3, none⟩ = false) := ⟨⟨h.r.cell 0, h.r.cell 1, h.r.cell 2, h.r.cell 3⟩, h.r.free4⟩
theorem BothW.cellsFin {w0 w wr : World} {gp g0 : Nat} {vs : Value} {ss : List PeakV} {a b : NodeV} (h : BothW w0 w wr gp g0 vs ss a b) (p q r s : Value) : (((((wr.setCell ⟨g0 + 1 + 1, 0, none⟩ p).setCell ⟨g0 + 1 + 1, 1, none⟩ q).setCell ⟨g0 + 1 + 1, 2, none⟩ r).setCell ⟨g0 + 1 + 1, 3, none⟩ s).cell? ⟨g0, 0, none⟩ = some (.string a.1.sum) ∧ ((((wr.setCell ⟨g0 + 1 + 1, 0, none⟩ p).setCell ⟨g0 + 1 + 1, 1, none⟩ q).setCell ⟨g0 + 1 + 1, 2, none⟩ r).setCell ⟨g0 + 1 + 1, 3, none⟩ s).cell? ⟨g0, 1, none⟩ = some (.int .i64 a.1.work) ∧ ((((wr.setCell ⟨g0 + 1 + 1, 0, none⟩ p).setCell ⟨g0 + 1 + 1, 1, none⟩ q).setCell ⟨g0 + 1 + 1, 2, none⟩ r).setCell ⟨g0 + 1 + 1, 3, none⟩ s).cell? ⟨g0, 2, none⟩ = some (.int .i64 a.1.count) ∧ ((((wr.setCell ⟨g0 + 1 + 1, 0, none⟩ p).setCell ⟨g0 + 1 + 1, 1, none⟩ q).setCell ⟨g0 + 1 + 1, 2, none⟩ r).setCell ⟨g0 + 1 + 1, 3, none⟩ s).cell? ⟨g0, 3, none⟩ = some (.bool a.2)) ∧ (((((wr.setCell ⟨g0 + 1 + 1, 0, none⟩ p).setCell ⟨g0 + 1 + 1, 1, none⟩ q).setCell ⟨g0 + 1 + 1, 2, none⟩ r).setCell ⟨g0 + 1 + 1, 3, none⟩ s).cell? ⟨g0 + 1, 0, none⟩ = some (.string b.1.sum) ∧ ((((wr.setCell ⟨g0 + 1 + 1, 0, none⟩ p).setCell ⟨g0 + 1 + 1, 1, none⟩ q).setCell ⟨g0 + 1 + 1, 2, none⟩ r).setCell ⟨g0 + 1 + 1, 3, none⟩ s).cell? ⟨g0 + 1, 1, none⟩ = some (.int .i64 b.1.work) ∧ ((((wr.setCell ⟨g0 + 1 + 1, 0, none⟩ p).setCell ⟨g0 + 1 + 1, 1, none⟩ q).setCell ⟨g0 + 1 + 1, 2, none⟩ r).setCell ⟨g0 + 1 + 1, 3, none⟩ s).cell? ⟨g0 + 1, 2, none⟩ = some (.int .i64 b.1.count) ∧ ((((wr.setCell ⟨g0 + 1 + 1, 0, none⟩ p).setCell ⟨g0 + 1 + 1, 1, none⟩ q).setCell ⟨g0 + 1 + 1, 2, none⟩ r).setCell ⟨g0 + 1 + 1, 3, none⟩ s).cell? ⟨g0 + 1, 3, none⟩ = some (.bool b.2)) :=
  ⟨NBk.four ((((CBk.other h.a (by omega) p).other (by omega) q).other (by omega) r).other (by omega) s), NBk.four ((((CBk.other h.b (by omega) p).other (by omega) q).other (by omega) r).other (by omega) s)⟩
def BothRes (w0 w : World) (gp : Nat) (ss : List PeakV) (a b : NodeV) (e : Ending) (w' : World) : Prop := e = .returned (nodeVal (bothN a b)) ∧ Pf w0 w' gp (ss ++ noteN a b) ∧ Off gp w w'
/-- Behind the store of the answer. -/
theorem BothW.fin {w0 w wr : World} {gp g0 : Nat} {vs : Value} {ss : List PeakV} {a b : NodeV} (h : BothW w0 w wr gp g0 vs ss a b) (p q r s : Value) : Pf w0 ((((wr.setCell ⟨g0 + 1 + 1, 0, none⟩ p).setCell ⟨g0 + 1 + 1, 1, none⟩ q).setCell ⟨g0 + 1 + 1, 2, none⟩ r).setCell ⟨g0 + 1 + 1, 3, none⟩ s) gp ss ∧ Off gp w ((((wr.setCell ⟨g0 + 1 + 1, 0, none⟩ p).setCell ⟨g0 + 1 + 1, 1, none⟩ q).setCell ⟨g0 + 1 + 1, 2, none⟩ r).setCell ⟨g0 + 1 + 1, 3, none⟩ s) ∧ CBk ((((wr.setCell ⟨g0 + 1 + 1, 0, none⟩ p).setCell ⟨g0 + 1 + 1, 1, none⟩ q).setCell ⟨g0 + 1 + 1, 2, none⟩ r).setCell ⟨g0 + 1 + 1, 3, none⟩ s) (g0 + 1 + 1) 119 #[p, q, r, s] := by
  have he := h.e
  have hg := h.g
  have hlo := h.f.lo
  have hr1 := h.r.set 0 p
  have hr2 := hr1.set 1 q
  have hr3 := hr2.set 2 r
  refine ⟨⟨vs, (((h.f.store h.r ntne (by omega) (by omega) p).store hr1 ntne (by omega) (by omega) q).store hr2 ntne (by omega) (by omega) r).store hr3 ntne (by omega) (by omega) s⟩, (((h.o.set (.inl (by omega)) p).set (.inl (by omega)) q).set (.inl (by omega)) r).set (.inl (by omega)) s, h.r.set4⟩

set_option maxHeartbeats 4000000 in
set_option maxRecDepth 100000 in
theorem implNodeBothFF (w0 w : World) (gp : Nat) (ss : List PeakV) (x y : PeakV) (hs : Pf w0 w gp ss) (hm : ss.length ≤ 1048576) (hx : peakOkB x = true) (hy : peakOkB y = true) (hK : RowG w0 shaK) (hP : TabP w0) :
    Calls Tryz.prog 67 #[nodeVal (x, false), nodeVal (y, false), .pointer (some ⟨gp, 0, none⟩)] w fun e w' => BothRes w0 w gp ss (x, false) (y, false) e w' := by
  obtain ⟨v0, h0⟩ := hs
  obtain ⟨i0, hi, hz0, hz1, hz2⟩ := info3 infoPeak
  have Hss : Hid (ss.length ≤ 1048576) := hm
  have HBO : Hid (∀ w', Below w0.heap.size w0 w' → Calls Tryz.prog 62 #[.agg #[.string x.sum, .int .i64 x.work, .int .i64 x.count], .agg #[.string y.sum, .int .i64 y.work, .int .i64 y.count]] w' fun e w'' => e = .returned (.agg #[.string (bothP x y).sum, .int .i64 (bothP x y).work, .int .i64 (bothP x y).count]) ∧ Below w'.heap.size w' w'') := fun w' hb => implPeakBoth x y w' hx hy (hK.below hb hK.lt) (TabP.below hP hb (Nat.le_refl _))
  have HQ : Hid (∀ (w' : World) (s' : List PeakV), s' = ss ++ noteN (x, false) (y, false) → Pf w0 w' gp s' ∧ Off gp w w' → BothRes w0 w gp ss (x, false) (y, false) (.returned (.agg #[.string (bothP x y).sum, .int .i64 (bothP x y).work, .int .i64 (bothP x y).count, .bool false])) w') := fun w' s' he h => ⟨rfl, he ▸ h.1, h.2⟩
  generalize BothRes w0 w gp ss (x, false) (y, false) = Q at HQ ⊢
  have B0 : Hid _ := BothW.enter h0 (x, false) (y, false)
  unfold nodeVal
  dsimp only at B0 ⊢
  clear h0 hm hx hy hK hP
  go_enter Tryz.func67, Tryz.ntmps67
  go_upto_region 1 with fail
  generalize ((w.alloc (.cells #[.string x.sum, .int .i64 x.work, .int .i64 x.count, .bool false] 119)).alloc (.cells #[.string y.sum, .int .i64 y.work, .int .i64 y.count, .bool false] 119)).alloc (.cells #[.string ⟨#[]⟩, .int .i64 0, .int .i64 0, .bool false] 119) = W0 at B0 ⊢
  obtain ⟨g0, hg0⟩ : ∃ g0, g0 = w.heap.size := ⟨_, rfl⟩
  rw [← hg0] at B0 ⊢
  clear hg0
  obtain ⟨⟨a0, a1, a2, a3⟩, b0, b1, b2, b3⟩ := B0.out.cells
  go_upto_region 3 with fail
  clear a0 a1 a2 a3 b0 b1 b2 b3
  obtain ⟨⟨a0, a1, a2, a3⟩, b0, b1, b2, b3⟩ := B0.out.cells
  go_upto_region 5 with fail
  clear a0 a1 a2 a3 b0 b1 b2 b3
  have HSF : Hid (ss = ss ++ noteN (x, false) (y, false)) := by show _ = _; simp [noteN]
  have B5 : Hid (BothW w0 w W0.drew gp g0 v0 ss _ _) := B0.out.drew
  have HB5 : Hid (Below w0.heap.size w0 W0.drew) := B5.out.f.b
  refine wp_region_noPanic ?_
  refine wp_region_held_drew (S := fun w' => (w'.cell? ⟨g0, 0, none⟩ = some (.string x.sum) ∧ w'.cell? ⟨g0, 1, none⟩ = some (.int .i64 x.work) ∧ w'.cell? ⟨g0, 2, none⟩ = some (.int .i64 x.count) ∧ w'.cell? ⟨g0, 3, none⟩ = some (.bool false)) ∧ (w'.cell? ⟨g0 + 1, 0, none⟩ = some (.string y.sum) ∧ w'.cell? ⟨g0 + 1, 1, none⟩ = some (.int .i64 y.work) ∧ w'.cell? ⟨g0 + 1, 2, none⟩ = some (.int .i64 y.count) ∧ w'.cell? ⟨g0 + 1, 3, none⟩ = some (.bool false))) (by kernel_rfl) (B5.out.cells) (fun hHeld => ?_)
  refine takeL 0 (v := ?_) rfl (by kernel_rfl) (by kernel_rfl) (by kernel_rfl) (fun _ _ _ h => h) (by kernel_rfl) ?_ (by assumption) ?_
  rotate_left
  · intro w hSw; (try dsimp only at hSw); first | (go_simp; done) | (go_simp; with_reducible rfl)
  try simp only [Act.put, List.setIfInBounds_toArray, List.set_cons_zero, List.set_cons_succ]
  refine takeL 1 (v := ?_) rfl (by kernel_rfl) (by kernel_rfl) (by kernel_rfl) (fun _ _ _ h => h) (by kernel_rfl) ?_ (by assumption) ?_
  rotate_left
  · intro w hSw; (try dsimp only at hSw); first | (go_simp; done) | (go_simp; with_reducible rfl)
  try simp only [Act.put, List.setIfInBounds_toArray, List.set_cons_zero, List.set_cons_succ]
  refine takeL 2 (v := ?_) rfl (by kernel_rfl) (by kernel_rfl) (by kernel_rfl) (fun _ _ _ h => h) (by kernel_rfl) ?_ (by assumption) ?_
  rotate_left
  · intro w hSw; (try dsimp only at hSw); first | (go_simp; done) | (go_simp; with_reducible rfl)
  try simp only [Act.put, List.setIfInBounds_toArray, List.set_cons_zero, List.set_cons_succ]
  refine takeL 3 (v := ?_) rfl (by kernel_rfl) (by kernel_rfl) (by kernel_rfl) (fun _ _ _ h => h) (by kernel_rfl) ?_ (by assumption) ?_
  rotate_left
  · intro w hSw; (try dsimp only at hSw); first | (go_simp; done) | (go_simp; with_reducible rfl)
  try simp only [Act.put, List.setIfInBounds_toArray, List.set_cons_zero, List.set_cons_succ]
  refine takeL 5 (v := ?_) rfl (by kernel_rfl) (by kernel_rfl) (by kernel_rfl) (fun _ _ _ h => h) (by kernel_rfl) ?_ (by assumption) ?_
  rotate_left
  · intro w hSw; (try dsimp only at hSw); first | (go_simp; done) | (go_simp; with_reducible rfl)
  try simp only [Act.put, List.setIfInBounds_toArray, List.set_cons_zero, List.set_cons_succ]
  refine takeL 6 (v := ?_) rfl (by kernel_rfl) (by kernel_rfl) (by kernel_rfl) (fun _ _ _ h => h) (by kernel_rfl) ?_ (by assumption) ?_
  rotate_left
  · intro w hSw; (try dsimp only at hSw); first | (go_simp; done) | (go_simp; with_reducible rfl)
  try simp only [Act.put, List.setIfInBounds_toArray, List.set_cons_zero, List.set_cons_succ]
  refine callL 4 rfl (by kernel_rfl) (fun K hK => ?_)
  go_simp
  refine (HBO.out _ HB5.out).mono ?_
  rintro e w6 ⟨rfl, b6⟩
  have B6 : Hid (BothW w0 w w6 gp g0 v0 ss _ _) := B5.out.call b6
  obtain ⟨⟨r0, r1, r2, r3⟩, s0, s1, s2, s3⟩ := B6.out.ans
  clear b6
  generalize bothP x y = nq at HQ ⊢
  go_wp2_with fail
  refine hK.out _ _ ?_ (fun hHeld => ?_)
  · first | exact B6.out.cells | exact B6.out.cellsFin _ _ _ _
  clear hK K
  try simp only [Act.put, List.setIfInBounds_toArray, List.set_cons_zero, List.set_cons_succ]
  refine takeL 7 (v := ?_) rfl (by kernel_rfl) (by kernel_rfl) (by kernel_rfl) (fun _ _ _ h => h) (by kernel_rfl) ?_ (by assumption) ?_
  rotate_left
  · intro w hSw; (try dsimp only at hSw); first | (go_simp; done) | (go_simp; with_reducible rfl)
  try simp only [Act.put, List.setIfInBounds_toArray, List.set_cons_zero, List.set_cons_succ]
  refine takeL 8 (v := ?_) rfl (by kernel_rfl) (by kernel_rfl) (by kernel_rfl) (fun _ _ _ h => h) (by kernel_rfl) ?_ (by assumption) ?_
  rotate_left
  · intro w hSw; (try dsimp only at hSw); first | (go_simp; done) | (go_simp; with_reducible rfl)
  try simp only [Act.put, List.setIfInBounds_toArray, List.set_cons_zero, List.set_cons_succ]
  refine takeL 9 (v := ?_) rfl (by kernel_rfl) (by kernel_rfl) (by kernel_rfl) (fun _ _ _ h => h) (by kernel_rfl) ?_ (by assumption) ?_
  rotate_left
  · intro w hSw; (try dsimp only at hSw); first | (go_simp; done) | (go_simp; with_reducible rfl)
  try simp only [Act.put, List.setIfInBounds_toArray, List.set_cons_zero, List.set_cons_succ]
  refine takeL 10 (v := ?_) rfl (by kernel_rfl) (by kernel_rfl) (by kernel_rfl) (fun _ _ _ h => h) (by kernel_rfl) ?_ (by assumption) ?_
  rotate_left
  · intro w hSw; (try dsimp only at hSw); first | (go_simp; done) | (go_simp; with_reducible rfl)
  try simp only [Act.put, List.setIfInBounds_toArray, List.set_cons_zero, List.set_cons_succ]
  refine takeL 11 (v := ?_) rfl (by kernel_rfl) (by kernel_rfl) (by kernel_rfl) (fun _ _ _ h => h) (by kernel_rfl) ?_ (by assumption) ?_
  rotate_left
  · intro w hSw; (try dsimp only at hSw); first | (go_simp; done) | (go_simp; with_reducible rfl)
  try simp only [Act.put, List.setIfInBounds_toArray, List.set_cons_zero, List.set_cons_succ]
  refine callL 12 rfl (by kernel_rfl) (fun K hK => ?_)
  go_simp
  refine hK.out _ _ ?_ (fun hHeld => ?_)
  · first | exact B6.out.cells | exact B6.out.cellsFin _ _ _ _
  clear hK K
  try simp only [Act.put, List.setIfInBounds_toArray, List.set_cons_zero, List.set_cons_succ]
  refine wpAnyH_done (by kernel_rfl) ?_ _
  refine NoPanic.normal ?_
  have B7 := B6.out.fin (.string nq.sum) (.int .i64 nq.work) (.int .i64 nq.count) (.bool false)
  have T7 : Hid _ := B7.2.2
  have P7 : Hid _ := HQ.out _ _ HSF.out ⟨B7.1, B7.2.1⟩
  clear B7
  go_wp2_with fail
  exact bodyPost_ret (results_cell_row (p := 5) rfl _ _ (g0 + 1 + 1) 119 #[.string nq.sum, .int .i64 nq.work, .int .i64 nq.count, .bool false] (0, 0) _ rfl T7.out Tryz.underlying119 rfl (by kernel_rfl)) rfl P7.out

set_option maxHeartbeats 4000000 in
set_option maxRecDepth 100000 in
theorem implNodeBothFT (w0 w : World) (gp : Nat) (ss : List PeakV) (x y : PeakV) (hs : Pf w0 w gp ss) (hm : ss.length ≤ 1048576) (hx : peakOkB x = true) (hy : peakOkB y = true) (hK : RowG w0 shaK) (hP : TabP w0) :
    Calls Tryz.prog 67 #[nodeVal (x, false), nodeVal (y, true), .pointer (some ⟨gp, 0, none⟩)] w fun e w' => BothRes w0 w gp ss (x, false) (y, true) e w' := by
  obtain ⟨v0, h0⟩ := hs
  obtain ⟨i0, hi, hz0, hz1, hz2⟩ := info3 infoPeak
  have Hss : Hid (ss.length ≤ 1048576) := hm
  have HBO : Hid (∀ w', Below w0.heap.size w0 w' → Calls Tryz.prog 62 #[.agg #[.string x.sum, .int .i64 x.work, .int .i64 x.count], .agg #[.string y.sum, .int .i64 y.work, .int .i64 y.count]] w' fun e w'' => e = .returned (.agg #[.string (bothP x y).sum, .int .i64 (bothP x y).work, .int .i64 (bothP x y).count]) ∧ Below w'.heap.size w' w'') := fun w' hb => implPeakBoth x y w' hx hy (hK.below hb hK.lt) (TabP.below hP hb (Nat.le_refl _))
  have HQ : Hid (∀ (w' : World) (s' : List PeakV), s' = ss ++ noteN (x, false) (y, true) → Pf w0 w' gp s' ∧ Off gp w w' → BothRes w0 w gp ss (x, false) (y, true) (.returned (.agg #[.string (bothP x y).sum, .int .i64 (bothP x y).work, .int .i64 (bothP x y).count, .bool true])) w') := fun w' s' he h => ⟨rfl, he ▸ h.1, h.2⟩
  generalize BothRes w0 w gp ss (x, false) (y, true) = Q at HQ ⊢
  have B0 : Hid _ := BothW.enter h0 (x, false) (y, true)
  unfold nodeVal
  dsimp only at B0 ⊢
  clear h0 hm hx hy hK hP
  go_enter Tryz.func67, Tryz.ntmps67
  go_upto_region 1 with fail
  generalize ((w.alloc (.cells #[.string x.sum, .int .i64 x.work, .int .i64 x.count, .bool false] 119)).alloc (.cells #[.string y.sum, .int .i64 y.work, .int .i64 y.count, .bool true] 119)).alloc (.cells #[.string ⟨#[]⟩, .int .i64 0, .int .i64 0, .bool false] 119) = W0 at B0 ⊢
  obtain ⟨g0, hg0⟩ : ∃ g0, g0 = w.heap.size := ⟨_, rfl⟩
  rw [← hg0] at B0 ⊢
  clear hg0
  obtain ⟨⟨a0, a1, a2, a3⟩, b0, b1, b2, b3⟩ := B0.out.cells
  go_upto_region 3 with fail
  clear a0 a1 a2 a3 b0 b1 b2 b3
  obtain ⟨⟨a0, a1, a2, a3⟩, b0, b1, b2, b3⟩ := B0.out.cells
  go_upto_region 4 with fail
  clear a0 a1 a2 a3 b0 b1 b2 b3
  have hx1 : ss.length + 1 ≤ maxLen := by have := Hss.out; unfold maxLen; omega
  have hx2 : (ss.length + 1) * 32 ≤ 140737488355328 := by have := Hss.out; omega
  have hu := pEnc_one x
  have hsz := B0.out.f.b.size
  have HRW : Hid (W0.ownsRow w0.heap.size 67 3 v0 ss.length (ss.flatMap pEnc)) := B0.out.f.row
  have HTW : Hid (∀ w4 : World, (∀ c, c < W0.heap.size → v0.ownBlock ≠ some c → w4.heap[c]? = W0.heap[c]?) → w4.cell? ⟨gp, 1, none⟩ = some v0 ∧ w4.frozen? ⟨gp, 1, none⟩ = false) := fun w4 h => B0.out.two h
  obtain ⟨⟨a0, a1, a2, a3⟩, b0, b1, b2, b3⟩ := B0.out.cells
  have p1 : W0.cell? ⟨gp, 1, none⟩ = some v0 := B0.out.f.k.cell 1
  go_upto_region 5 with (at_builtin; refine wp_appN rfl _ _ 31 rfl w0.heap.size 67 i0 (.agg #[.string ⟨#[]⟩, .int .i64 0, .int .i64 0]) 3 32 1 Tryz.underlying31 hi hz0 hz1 hz2 rfl (by decide) (by decide) _ _ _ rfl HRW.out (pEnc x) (by first | rfl | simp [Act.eval]) rfl hu hx1 hx2 hsz ?_; intro g2 c2 w2 hown2 hb2 hkeep2; obtain ⟨q2, z2⟩ := HTW.out _ hkeep2)
  have B2 : Hid (BothW w0 w _ gp g0 _ (ss ++ [x]) _ _) := B0.out.noted hown2 hb2 hkeep2
  clear a0 a1 a2 a3 b0 b1 b2 b3 p1 hx1 hx2 hu hsz HRW HTW q2 z2 hown2 hb2 hkeep2 B0
  generalize (.slice (some ⟨g2, 0, none⟩) (ss.length + 1) c2 : Value) = v2 at B2 ⊢
  generalize w2.setCell ⟨gp, 1, none⟩ v2 = W2 at B2 ⊢
  clear w2
  obtain ⟨s2, hs2⟩ : ∃ s2, s2 = ss ++ [x] := ⟨_, rfl⟩
  have Hs2 : Hid (s2.length ≤ 1048578) := by show _ ≤ _; have := Hss.out; rw [hs2, List.length_append, List.length_singleton]; omega
  have HE2 : Hid (s2 = ss ++ [x]) := hs2
  rw [← hs2] at B2
  clear hs2
  have HSF : Hid (s2 = ss ++ noteN (x, false) (y, true)) := by show _ = _; rw [HE2.out]; simp [noteN]
  have B5 : Hid (BothW w0 w W2.drew gp g0 v2 s2 _ _) := B2.out.drew
  have HB5 : Hid (Below w0.heap.size w0 W2.drew) := B5.out.f.b
  refine wp_region_noPanic ?_
  refine wp_region_held_drew (S := fun w' => (w'.cell? ⟨g0, 0, none⟩ = some (.string x.sum) ∧ w'.cell? ⟨g0, 1, none⟩ = some (.int .i64 x.work) ∧ w'.cell? ⟨g0, 2, none⟩ = some (.int .i64 x.count) ∧ w'.cell? ⟨g0, 3, none⟩ = some (.bool false)) ∧ (w'.cell? ⟨g0 + 1, 0, none⟩ = some (.string y.sum) ∧ w'.cell? ⟨g0 + 1, 1, none⟩ = some (.int .i64 y.work) ∧ w'.cell? ⟨g0 + 1, 2, none⟩ = some (.int .i64 y.count) ∧ w'.cell? ⟨g0 + 1, 3, none⟩ = some (.bool true))) (by kernel_rfl) (B5.out.cells) (fun hHeld => ?_)
  refine takeL 0 (v := ?_) rfl (by kernel_rfl) (by kernel_rfl) (by kernel_rfl) (fun _ _ _ h => h) (by kernel_rfl) ?_ (by assumption) ?_
  rotate_left
  · intro w hSw; (try dsimp only at hSw); first | (go_simp; done) | (go_simp; with_reducible rfl)
  try simp only [Act.put, List.setIfInBounds_toArray, List.set_cons_zero, List.set_cons_succ]
  refine takeL 1 (v := ?_) rfl (by kernel_rfl) (by kernel_rfl) (by kernel_rfl) (fun _ _ _ h => h) (by kernel_rfl) ?_ (by assumption) ?_
  rotate_left
  · intro w hSw; (try dsimp only at hSw); first | (go_simp; done) | (go_simp; with_reducible rfl)
  try simp only [Act.put, List.setIfInBounds_toArray, List.set_cons_zero, List.set_cons_succ]
  refine takeL 2 (v := ?_) rfl (by kernel_rfl) (by kernel_rfl) (by kernel_rfl) (fun _ _ _ h => h) (by kernel_rfl) ?_ (by assumption) ?_
  rotate_left
  · intro w hSw; (try dsimp only at hSw); first | (go_simp; done) | (go_simp; with_reducible rfl)
  try simp only [Act.put, List.setIfInBounds_toArray, List.set_cons_zero, List.set_cons_succ]
  refine takeL 3 (v := ?_) rfl (by kernel_rfl) (by kernel_rfl) (by kernel_rfl) (fun _ _ _ h => h) (by kernel_rfl) ?_ (by assumption) ?_
  rotate_left
  · intro w hSw; (try dsimp only at hSw); first | (go_simp; done) | (go_simp; with_reducible rfl)
  try simp only [Act.put, List.setIfInBounds_toArray, List.set_cons_zero, List.set_cons_succ]
  refine takeL 5 (v := ?_) rfl (by kernel_rfl) (by kernel_rfl) (by kernel_rfl) (fun _ _ _ h => h) (by kernel_rfl) ?_ (by assumption) ?_
  rotate_left
  · intro w hSw; (try dsimp only at hSw); first | (go_simp; done) | (go_simp; with_reducible rfl)
  try simp only [Act.put, List.setIfInBounds_toArray, List.set_cons_zero, List.set_cons_succ]
  refine takeL 6 (v := ?_) rfl (by kernel_rfl) (by kernel_rfl) (by kernel_rfl) (fun _ _ _ h => h) (by kernel_rfl) ?_ (by assumption) ?_
  rotate_left
  · intro w hSw; (try dsimp only at hSw); first | (go_simp; done) | (go_simp; with_reducible rfl)
  try simp only [Act.put, List.setIfInBounds_toArray, List.set_cons_zero, List.set_cons_succ]
  refine callL 4 rfl (by kernel_rfl) (fun K hK => ?_)
  go_simp
  refine (HBO.out _ HB5.out).mono ?_
  rintro e w6 ⟨rfl, b6⟩
  have B6 : Hid (BothW w0 w w6 gp g0 v2 s2 _ _) := B5.out.call b6
  obtain ⟨⟨r0, r1, r2, r3⟩, s0, s1, s2, s3⟩ := B6.out.ans
  clear b6
  generalize bothP x y = nq at HQ ⊢
  go_wp2_with fail
  refine hK.out _ _ ?_ (fun hHeld => ?_)
  · first | exact B6.out.cells | exact B6.out.cellsFin _ _ _ _
  clear hK K
  try simp only [Act.put, List.setIfInBounds_toArray, List.set_cons_zero, List.set_cons_succ]
  refine takeL 7 (v := ?_) rfl (by kernel_rfl) (by kernel_rfl) (by kernel_rfl) (fun _ _ _ h => h) (by kernel_rfl) ?_ (by assumption) ?_
  rotate_left
  · intro w hSw; (try dsimp only at hSw); first | (go_simp; done) | (go_simp; with_reducible rfl)
  try simp only [Act.put, List.setIfInBounds_toArray, List.set_cons_zero, List.set_cons_succ]
  refine takeL 8 (v := ?_) rfl (by kernel_rfl) (by kernel_rfl) (by kernel_rfl) (fun _ _ _ h => h) (by kernel_rfl) ?_ (by assumption) ?_
  rotate_left
  · intro w hSw; (try dsimp only at hSw); first | (go_simp; done) | (go_simp; with_reducible rfl)
  try simp only [Act.put, List.setIfInBounds_toArray, List.set_cons_zero, List.set_cons_succ]
  refine takeL 9 (v := ?_) rfl (by kernel_rfl) (by kernel_rfl) (by kernel_rfl) (fun _ _ _ h => h) (by kernel_rfl) ?_ (by assumption) ?_
  rotate_left
  · intro w hSw; (try dsimp only at hSw); first | (go_simp; done) | (go_simp; with_reducible rfl)
  try simp only [Act.put, List.setIfInBounds_toArray, List.set_cons_zero, List.set_cons_succ]
  refine takeL 10 (v := ?_) rfl (by kernel_rfl) (by kernel_rfl) (by kernel_rfl) (fun _ _ _ h => h) (by kernel_rfl) ?_ (by assumption) ?_
  rotate_left
  · intro w hSw; (try dsimp only at hSw); first | (go_simp; done) | (go_simp; with_reducible rfl)
  try simp only [Act.put, List.setIfInBounds_toArray, List.set_cons_zero, List.set_cons_succ]
  refine takeL 11 (v := ?_) rfl (by kernel_rfl) (by kernel_rfl) (by kernel_rfl) (fun _ _ _ h => h) (by kernel_rfl) ?_ (by assumption) ?_
  rotate_left
  · intro w hSw; (try dsimp only at hSw); first | (go_simp; done) | (go_simp; with_reducible rfl)
  try simp only [Act.put, List.setIfInBounds_toArray, List.set_cons_zero, List.set_cons_succ]
  refine callL 12 rfl (by kernel_rfl) (fun K hK => ?_)
  go_simp
  refine hK.out _ _ ?_ (fun hHeld => ?_)
  · first | exact B6.out.cells | exact B6.out.cellsFin _ _ _ _
  clear hK K
  try simp only [Act.put, List.setIfInBounds_toArray, List.set_cons_zero, List.set_cons_succ]
  refine wpAnyH_done (by kernel_rfl) ?_ _
  refine NoPanic.normal ?_
  have B7 := B6.out.fin (.string nq.sum) (.int .i64 nq.work) (.int .i64 nq.count) (.bool true)
  have T7 : Hid _ := B7.2.2
  have P7 : Hid _ := HQ.out _ _ HSF.out ⟨B7.1, B7.2.1⟩
  clear B7
  go_wp2_with fail
  exact bodyPost_ret (results_cell_row (p := 5) rfl _ _ (g0 + 1 + 1) 119 #[.string nq.sum, .int .i64 nq.work, .int .i64 nq.count, .bool true] (0, 0) _ rfl T7.out Tryz.underlying119 rfl (by kernel_rfl)) rfl P7.out

set_option maxHeartbeats 4000000 in
set_option maxRecDepth 100000 in
theorem implNodeBothTF (w0 w : World) (gp : Nat) (ss : List PeakV) (x y : PeakV) (hs : Pf w0 w gp ss) (hm : ss.length ≤ 1048576) (hx : peakOkB x = true) (hy : peakOkB y = true) (hK : RowG w0 shaK) (hP : TabP w0) :
    Calls Tryz.prog 67 #[nodeVal (x, true), nodeVal (y, false), .pointer (some ⟨gp, 0, none⟩)] w fun e w' => BothRes w0 w gp ss (x, true) (y, false) e w' := by
  obtain ⟨v0, h0⟩ := hs
  obtain ⟨i0, hi, hz0, hz1, hz2⟩ := info3 infoPeak
  have Hss : Hid (ss.length ≤ 1048576) := hm
  have HBO : Hid (∀ w', Below w0.heap.size w0 w' → Calls Tryz.prog 62 #[.agg #[.string x.sum, .int .i64 x.work, .int .i64 x.count], .agg #[.string y.sum, .int .i64 y.work, .int .i64 y.count]] w' fun e w'' => e = .returned (.agg #[.string (bothP x y).sum, .int .i64 (bothP x y).work, .int .i64 (bothP x y).count]) ∧ Below w'.heap.size w' w'') := fun w' hb => implPeakBoth x y w' hx hy (hK.below hb hK.lt) (TabP.below hP hb (Nat.le_refl _))
  have HQ : Hid (∀ (w' : World) (s' : List PeakV), s' = ss ++ noteN (x, true) (y, false) → Pf w0 w' gp s' ∧ Off gp w w' → BothRes w0 w gp ss (x, true) (y, false) (.returned (.agg #[.string (bothP x y).sum, .int .i64 (bothP x y).work, .int .i64 (bothP x y).count, .bool true])) w') := fun w' s' he h => ⟨rfl, he ▸ h.1, h.2⟩
  generalize BothRes w0 w gp ss (x, true) (y, false) = Q at HQ ⊢
  have B0 : Hid _ := BothW.enter h0 (x, true) (y, false)
  unfold nodeVal
  dsimp only at B0 ⊢
  clear h0 hm hx hy hK hP
  go_enter Tryz.func67, Tryz.ntmps67
  go_upto_region 1 with fail
  generalize ((w.alloc (.cells #[.string x.sum, .int .i64 x.work, .int .i64 x.count, .bool true] 119)).alloc (.cells #[.string y.sum, .int .i64 y.work, .int .i64 y.count, .bool false] 119)).alloc (.cells #[.string ⟨#[]⟩, .int .i64 0, .int .i64 0, .bool false] 119) = W0 at B0 ⊢
  obtain ⟨g0, hg0⟩ : ∃ g0, g0 = w.heap.size := ⟨_, rfl⟩
  rw [← hg0] at B0 ⊢
  clear hg0
  obtain ⟨⟨a0, a1, a2, a3⟩, b0, b1, b2, b3⟩ := B0.out.cells
  go_upto_region 2 with fail
  clear a0 a1 a2 a3 b0 b1 b2 b3
  have hx1 : ss.length + 1 ≤ maxLen := by have := Hss.out; unfold maxLen; omega
  have hx2 : (ss.length + 1) * 32 ≤ 140737488355328 := by have := Hss.out; omega
  have hu := pEnc_one y
  have hsz := B0.out.f.b.size
  have HRW : Hid (W0.ownsRow w0.heap.size 67 3 v0 ss.length (ss.flatMap pEnc)) := B0.out.f.row
  have HTW : Hid (∀ w4 : World, (∀ c, c < W0.heap.size → v0.ownBlock ≠ some c → w4.heap[c]? = W0.heap[c]?) → w4.cell? ⟨gp, 1, none⟩ = some v0 ∧ w4.frozen? ⟨gp, 1, none⟩ = false) := fun w4 h => B0.out.two h
  obtain ⟨⟨a0, a1, a2, a3⟩, b0, b1, b2, b3⟩ := B0.out.cells
  have p1 : W0.cell? ⟨gp, 1, none⟩ = some v0 := B0.out.f.k.cell 1
  go_upto_region 3 with (at_builtin; refine wp_appN rfl _ _ 31 rfl w0.heap.size 67 i0 (.agg #[.string ⟨#[]⟩, .int .i64 0, .int .i64 0]) 3 32 1 Tryz.underlying31 hi hz0 hz1 hz2 rfl (by decide) (by decide) _ _ _ rfl HRW.out (pEnc y) (by first | rfl | simp [Act.eval]) rfl hu hx1 hx2 hsz ?_; intro g1 c1 w1 hown1 hb1 hkeep1; obtain ⟨q1, z1⟩ := HTW.out _ hkeep1)
  have B1 : Hid (BothW w0 w _ gp g0 _ (ss ++ [y]) _ _) := B0.out.noted hown1 hb1 hkeep1
  clear a0 a1 a2 a3 b0 b1 b2 b3 p1 hx1 hx2 hu hsz HRW HTW q1 z1 hown1 hb1 hkeep1 B0
  generalize (.slice (some ⟨g1, 0, none⟩) (ss.length + 1) c1 : Value) = v1 at B1 ⊢
  generalize w1.setCell ⟨gp, 1, none⟩ v1 = W1 at B1 ⊢
  clear w1
  obtain ⟨s1, hs1⟩ : ∃ s1, s1 = ss ++ [y] := ⟨_, rfl⟩
  have Hs1 : Hid (s1.length ≤ 1048577) := by show _ ≤ _; have := Hss.out; rw [hs1, List.length_append, List.length_singleton]; omega
  have HE1 : Hid (s1 = ss ++ [y]) := hs1
  rw [← hs1] at B1
  clear hs1
  obtain ⟨⟨a0, a1, a2, a3⟩, b0, b1, b2, b3⟩ := B1.out.cells
  go_upto_region 5 with fail
  clear a0 a1 a2 a3 b0 b1 b2 b3
  have HSF : Hid (s1 = ss ++ noteN (x, true) (y, false)) := by show _ = _; rw [HE1.out]; simp [noteN]
  have B5 : Hid (BothW w0 w W1.drew gp g0 v1 s1 _ _) := B1.out.drew
  have HB5 : Hid (Below w0.heap.size w0 W1.drew) := B5.out.f.b
  refine wp_region_noPanic ?_
  refine wp_region_held_drew (S := fun w' => (w'.cell? ⟨g0, 0, none⟩ = some (.string x.sum) ∧ w'.cell? ⟨g0, 1, none⟩ = some (.int .i64 x.work) ∧ w'.cell? ⟨g0, 2, none⟩ = some (.int .i64 x.count) ∧ w'.cell? ⟨g0, 3, none⟩ = some (.bool true)) ∧ (w'.cell? ⟨g0 + 1, 0, none⟩ = some (.string y.sum) ∧ w'.cell? ⟨g0 + 1, 1, none⟩ = some (.int .i64 y.work) ∧ w'.cell? ⟨g0 + 1, 2, none⟩ = some (.int .i64 y.count) ∧ w'.cell? ⟨g0 + 1, 3, none⟩ = some (.bool false))) (by kernel_rfl) (B5.out.cells) (fun hHeld => ?_)
  refine takeL 0 (v := ?_) rfl (by kernel_rfl) (by kernel_rfl) (by kernel_rfl) (fun _ _ _ h => h) (by kernel_rfl) ?_ (by assumption) ?_
  rotate_left
  · intro w hSw; (try dsimp only at hSw); first | (go_simp; done) | (go_simp; with_reducible rfl)
  try simp only [Act.put, List.setIfInBounds_toArray, List.set_cons_zero, List.set_cons_succ]
  refine takeL 1 (v := ?_) rfl (by kernel_rfl) (by kernel_rfl) (by kernel_rfl) (fun _ _ _ h => h) (by kernel_rfl) ?_ (by assumption) ?_
  rotate_left
  · intro w hSw; (try dsimp only at hSw); first | (go_simp; done) | (go_simp; with_reducible rfl)
  try simp only [Act.put, List.setIfInBounds_toArray, List.set_cons_zero, List.set_cons_succ]
  refine takeL 2 (v := ?_) rfl (by kernel_rfl) (by kernel_rfl) (by kernel_rfl) (fun _ _ _ h => h) (by kernel_rfl) ?_ (by assumption) ?_
  rotate_left
  · intro w hSw; (try dsimp only at hSw); first | (go_simp; done) | (go_simp; with_reducible rfl)
  try simp only [Act.put, List.setIfInBounds_toArray, List.set_cons_zero, List.set_cons_succ]
  refine takeL 3 (v := ?_) rfl (by kernel_rfl) (by kernel_rfl) (by kernel_rfl) (fun _ _ _ h => h) (by kernel_rfl) ?_ (by assumption) ?_
  rotate_left
  · intro w hSw; (try dsimp only at hSw); first | (go_simp; done) | (go_simp; with_reducible rfl)
  try simp only [Act.put, List.setIfInBounds_toArray, List.set_cons_zero, List.set_cons_succ]
  refine takeL 5 (v := ?_) rfl (by kernel_rfl) (by kernel_rfl) (by kernel_rfl) (fun _ _ _ h => h) (by kernel_rfl) ?_ (by assumption) ?_
  rotate_left
  · intro w hSw; (try dsimp only at hSw); first | (go_simp; done) | (go_simp; with_reducible rfl)
  try simp only [Act.put, List.setIfInBounds_toArray, List.set_cons_zero, List.set_cons_succ]
  refine takeL 6 (v := ?_) rfl (by kernel_rfl) (by kernel_rfl) (by kernel_rfl) (fun _ _ _ h => h) (by kernel_rfl) ?_ (by assumption) ?_
  rotate_left
  · intro w hSw; (try dsimp only at hSw); first | (go_simp; done) | (go_simp; with_reducible rfl)
  try simp only [Act.put, List.setIfInBounds_toArray, List.set_cons_zero, List.set_cons_succ]
  refine callL 4 rfl (by kernel_rfl) (fun K hK => ?_)
  go_simp
  refine (HBO.out _ HB5.out).mono ?_
  rintro e w6 ⟨rfl, b6⟩
  have B6 : Hid (BothW w0 w w6 gp g0 v1 s1 _ _) := B5.out.call b6
  obtain ⟨⟨r0, r1, r2, r3⟩, s0, s1, s2, s3⟩ := B6.out.ans
  clear b6
  generalize bothP x y = nq at HQ ⊢
  go_wp2_with fail
  refine hK.out _ _ ?_ (fun hHeld => ?_)
  · first | exact B6.out.cells | exact B6.out.cellsFin _ _ _ _
  clear hK K
  try simp only [Act.put, List.setIfInBounds_toArray, List.set_cons_zero, List.set_cons_succ]
  refine takeL 7 (v := ?_) rfl (by kernel_rfl) (by kernel_rfl) (by kernel_rfl) (fun _ _ _ h => h) (by kernel_rfl) ?_ (by assumption) ?_
  rotate_left
  · intro w hSw; (try dsimp only at hSw); first | (go_simp; done) | (go_simp; with_reducible rfl)
  try simp only [Act.put, List.setIfInBounds_toArray, List.set_cons_zero, List.set_cons_succ]
  refine skipL 8 rfl (by kernel_rfl) (by kernel_rfl) (by kernel_rfl) (fun _ _ _ h => h) (by kernel_rfl) (by assumption) ?_
  try simp only [Act.put, List.setIfInBounds_toArray, List.set_cons_zero, List.set_cons_succ]
  refine skipL 9 rfl (by kernel_rfl) (by kernel_rfl) (by kernel_rfl) (fun _ _ _ h => h) (by kernel_rfl) (by assumption) ?_
  try simp only [Act.put, List.setIfInBounds_toArray, List.set_cons_zero, List.set_cons_succ]
  refine takeL 10 (v := ?_) rfl (by kernel_rfl) (by kernel_rfl) (by kernel_rfl) (fun _ _ _ h => h) (by kernel_rfl) ?_ (by assumption) ?_
  rotate_left
  · intro w hSw; (try dsimp only at hSw); first | (go_simp; done) | (go_simp; with_reducible rfl)
  try simp only [Act.put, List.setIfInBounds_toArray, List.set_cons_zero, List.set_cons_succ]
  refine takeL 11 (v := ?_) rfl (by kernel_rfl) (by kernel_rfl) (by kernel_rfl) (fun _ _ _ h => h) (by kernel_rfl) ?_ (by assumption) ?_
  rotate_left
  · intro w hSw; (try dsimp only at hSw); first | (go_simp; done) | (go_simp; with_reducible rfl)
  try simp only [Act.put, List.setIfInBounds_toArray, List.set_cons_zero, List.set_cons_succ]
  refine callL 12 rfl (by kernel_rfl) (fun K hK => ?_)
  go_simp
  refine hK.out _ _ ?_ (fun hHeld => ?_)
  · first | exact B6.out.cells | exact B6.out.cellsFin _ _ _ _
  clear hK K
  try simp only [Act.put, List.setIfInBounds_toArray, List.set_cons_zero, List.set_cons_succ]
  refine wpAnyH_done (by kernel_rfl) ?_ _
  refine NoPanic.normal ?_
  have B7 := B6.out.fin (.string nq.sum) (.int .i64 nq.work) (.int .i64 nq.count) (.bool true)
  have T7 : Hid _ := B7.2.2
  have P7 : Hid _ := HQ.out _ _ HSF.out ⟨B7.1, B7.2.1⟩
  clear B7
  go_wp2_with fail
  exact bodyPost_ret (results_cell_row (p := 5) rfl _ _ (g0 + 1 + 1) 119 #[.string nq.sum, .int .i64 nq.work, .int .i64 nq.count, .bool true] (0, 0) _ rfl T7.out Tryz.underlying119 rfl (by kernel_rfl)) rfl P7.out

set_option maxHeartbeats 4000000 in
set_option maxRecDepth 100000 in
theorem implNodeBothTT (w0 w : World) (gp : Nat) (ss : List PeakV) (x y : PeakV) (hs : Pf w0 w gp ss) (hm : ss.length ≤ 1048576) (hx : peakOkB x = true) (hy : peakOkB y = true) (hK : RowG w0 shaK) (hP : TabP w0) :
    Calls Tryz.prog 67 #[nodeVal (x, true), nodeVal (y, true), .pointer (some ⟨gp, 0, none⟩)] w fun e w' => BothRes w0 w gp ss (x, true) (y, true) e w' := by
  obtain ⟨v0, h0⟩ := hs
  obtain ⟨i0, hi, hz0, hz1, hz2⟩ := info3 infoPeak
  have Hss : Hid (ss.length ≤ 1048576) := hm
  have HBO : Hid (∀ w', Below w0.heap.size w0 w' → Calls Tryz.prog 62 #[.agg #[.string x.sum, .int .i64 x.work, .int .i64 x.count], .agg #[.string y.sum, .int .i64 y.work, .int .i64 y.count]] w' fun e w'' => e = .returned (.agg #[.string (bothP x y).sum, .int .i64 (bothP x y).work, .int .i64 (bothP x y).count]) ∧ Below w'.heap.size w' w'') := fun w' hb => implPeakBoth x y w' hx hy (hK.below hb hK.lt) (TabP.below hP hb (Nat.le_refl _))
  have HQ : Hid (∀ (w' : World) (s' : List PeakV), s' = ss ++ noteN (x, true) (y, true) → Pf w0 w' gp s' ∧ Off gp w w' → BothRes w0 w gp ss (x, true) (y, true) (.returned (.agg #[.string (bothP x y).sum, .int .i64 (bothP x y).work, .int .i64 (bothP x y).count, .bool true])) w') := fun w' s' he h => ⟨rfl, he ▸ h.1, h.2⟩
  generalize BothRes w0 w gp ss (x, true) (y, true) = Q at HQ ⊢
  have B0 : Hid _ := BothW.enter h0 (x, true) (y, true)
  unfold nodeVal
  dsimp only at B0 ⊢
  clear h0 hm hx hy hK hP
  go_enter Tryz.func67, Tryz.ntmps67
  go_upto_region 1 with fail
  generalize ((w.alloc (.cells #[.string x.sum, .int .i64 x.work, .int .i64 x.count, .bool true] 119)).alloc (.cells #[.string y.sum, .int .i64 y.work, .int .i64 y.count, .bool true] 119)).alloc (.cells #[.string ⟨#[]⟩, .int .i64 0, .int .i64 0, .bool false] 119) = W0 at B0 ⊢
  obtain ⟨g0, hg0⟩ : ∃ g0, g0 = w.heap.size := ⟨_, rfl⟩
  rw [← hg0] at B0 ⊢
  clear hg0
  obtain ⟨⟨a0, a1, a2, a3⟩, b0, b1, b2, b3⟩ := B0.out.cells
  go_upto_region 2 with fail
  clear a0 a1 a2 a3 b0 b1 b2 b3
  have hx1 : ss.length + 1 ≤ maxLen := by have := Hss.out; unfold maxLen; omega
  have hx2 : (ss.length + 1) * 32 ≤ 140737488355328 := by have := Hss.out; omega
  have hu := pEnc_one y
  have hsz := B0.out.f.b.size
  have HRW : Hid (W0.ownsRow w0.heap.size 67 3 v0 ss.length (ss.flatMap pEnc)) := B0.out.f.row
  have HTW : Hid (∀ w4 : World, (∀ c, c < W0.heap.size → v0.ownBlock ≠ some c → w4.heap[c]? = W0.heap[c]?) → w4.cell? ⟨gp, 1, none⟩ = some v0 ∧ w4.frozen? ⟨gp, 1, none⟩ = false) := fun w4 h => B0.out.two h
  obtain ⟨⟨a0, a1, a2, a3⟩, b0, b1, b2, b3⟩ := B0.out.cells
  have p1 : W0.cell? ⟨gp, 1, none⟩ = some v0 := B0.out.f.k.cell 1
  go_upto_region 3 with (at_builtin; refine wp_appN rfl _ _ 31 rfl w0.heap.size 67 i0 (.agg #[.string ⟨#[]⟩, .int .i64 0, .int .i64 0]) 3 32 1 Tryz.underlying31 hi hz0 hz1 hz2 rfl (by decide) (by decide) _ _ _ rfl HRW.out (pEnc y) (by first | rfl | simp [Act.eval]) rfl hu hx1 hx2 hsz ?_; intro g1 c1 w1 hown1 hb1 hkeep1; obtain ⟨q1, z1⟩ := HTW.out _ hkeep1)
  have B1 : Hid (BothW w0 w _ gp g0 _ (ss ++ [y]) _ _) := B0.out.noted hown1 hb1 hkeep1
  clear a0 a1 a2 a3 b0 b1 b2 b3 p1 hx1 hx2 hu hsz HRW HTW q1 z1 hown1 hb1 hkeep1 B0
  generalize (.slice (some ⟨g1, 0, none⟩) (ss.length + 1) c1 : Value) = v1 at B1 ⊢
  generalize w1.setCell ⟨gp, 1, none⟩ v1 = W1 at B1 ⊢
  clear w1
  obtain ⟨s1, hs1⟩ : ∃ s1, s1 = ss ++ [y] := ⟨_, rfl⟩
  have Hs1 : Hid (s1.length ≤ 1048577) := by show _ ≤ _; have := Hss.out; rw [hs1, List.length_append, List.length_singleton]; omega
  have HE1 : Hid (s1 = ss ++ [y]) := hs1
  rw [← hs1] at B1
  clear hs1
  obtain ⟨⟨a0, a1, a2, a3⟩, b0, b1, b2, b3⟩ := B1.out.cells
  go_upto_region 4 with fail
  clear a0 a1 a2 a3 b0 b1 b2 b3
  have hx1 : s1.length + 1 ≤ maxLen := by have := Hs1.out; unfold maxLen; omega
  have hx2 : (s1.length + 1) * 32 ≤ 140737488355328 := by have := Hs1.out; omega
  have hu := pEnc_one x
  have hsz := B1.out.f.b.size
  have HRW : Hid (W1.ownsRow w0.heap.size 67 3 v1 s1.length (s1.flatMap pEnc)) := B1.out.f.row
  have HTW : Hid (∀ w4 : World, (∀ c, c < W1.heap.size → v1.ownBlock ≠ some c → w4.heap[c]? = W1.heap[c]?) → w4.cell? ⟨gp, 1, none⟩ = some v1 ∧ w4.frozen? ⟨gp, 1, none⟩ = false) := fun w4 h => B1.out.two h
  obtain ⟨⟨a0, a1, a2, a3⟩, b0, b1, b2, b3⟩ := B1.out.cells
  have p1 : W1.cell? ⟨gp, 1, none⟩ = some v1 := B1.out.f.k.cell 1
  go_upto_region 5 with (at_builtin; refine wp_appN rfl _ _ 31 rfl w0.heap.size 67 i0 (.agg #[.string ⟨#[]⟩, .int .i64 0, .int .i64 0]) 3 32 1 Tryz.underlying31 hi hz0 hz1 hz2 rfl (by decide) (by decide) _ _ _ rfl HRW.out (pEnc x) (by first | rfl | simp [Act.eval]) rfl hu hx1 hx2 hsz ?_; intro g2 c2 w2 hown2 hb2 hkeep2; obtain ⟨q2, z2⟩ := HTW.out _ hkeep2)
  have B2 : Hid (BothW w0 w _ gp g0 _ (s1 ++ [x]) _ _) := B1.out.noted hown2 hb2 hkeep2
  clear a0 a1 a2 a3 b0 b1 b2 b3 p1 hx1 hx2 hu hsz HRW HTW q2 z2 hown2 hb2 hkeep2 B1
  generalize (.slice (some ⟨g2, 0, none⟩) (s1.length + 1) c2 : Value) = v2 at B2 ⊢
  generalize w2.setCell ⟨gp, 1, none⟩ v2 = W2 at B2 ⊢
  clear w2
  obtain ⟨s2, hs2⟩ : ∃ s2, s2 = s1 ++ [x] := ⟨_, rfl⟩
  have Hs2 : Hid (s2.length ≤ 1048578) := by show _ ≤ _; have := Hs1.out; rw [hs2, List.length_append, List.length_singleton]; omega
  have HE2 : Hid (s2 = s1 ++ [x]) := hs2
  rw [← hs2] at B2
  clear hs2
  have HSF : Hid (s2 = ss ++ noteN (x, true) (y, true)) := by show _ = _; rw [HE2.out]; rw [HE1.out]; simp [noteN]
  have B5 : Hid (BothW w0 w W2.drew gp g0 v2 s2 _ _) := B2.out.drew
  have HB5 : Hid (Below w0.heap.size w0 W2.drew) := B5.out.f.b
  refine wp_region_noPanic ?_
  refine wp_region_held_drew (S := fun w' => (w'.cell? ⟨g0, 0, none⟩ = some (.string x.sum) ∧ w'.cell? ⟨g0, 1, none⟩ = some (.int .i64 x.work) ∧ w'.cell? ⟨g0, 2, none⟩ = some (.int .i64 x.count) ∧ w'.cell? ⟨g0, 3, none⟩ = some (.bool true)) ∧ (w'.cell? ⟨g0 + 1, 0, none⟩ = some (.string y.sum) ∧ w'.cell? ⟨g0 + 1, 1, none⟩ = some (.int .i64 y.work) ∧ w'.cell? ⟨g0 + 1, 2, none⟩ = some (.int .i64 y.count) ∧ w'.cell? ⟨g0 + 1, 3, none⟩ = some (.bool true))) (by kernel_rfl) (B5.out.cells) (fun hHeld => ?_)
  refine takeL 0 (v := ?_) rfl (by kernel_rfl) (by kernel_rfl) (by kernel_rfl) (fun _ _ _ h => h) (by kernel_rfl) ?_ (by assumption) ?_
  rotate_left
  · intro w hSw; (try dsimp only at hSw); first | (go_simp; done) | (go_simp; with_reducible rfl)
  try simp only [Act.put, List.setIfInBounds_toArray, List.set_cons_zero, List.set_cons_succ]
  refine takeL 1 (v := ?_) rfl (by kernel_rfl) (by kernel_rfl) (by kernel_rfl) (fun _ _ _ h => h) (by kernel_rfl) ?_ (by assumption) ?_
  rotate_left
  · intro w hSw; (try dsimp only at hSw); first | (go_simp; done) | (go_simp; with_reducible rfl)
  try simp only [Act.put, List.setIfInBounds_toArray, List.set_cons_zero, List.set_cons_succ]
  refine takeL 2 (v := ?_) rfl (by kernel_rfl) (by kernel_rfl) (by kernel_rfl) (fun _ _ _ h => h) (by kernel_rfl) ?_ (by assumption) ?_
  rotate_left
  · intro w hSw; (try dsimp only at hSw); first | (go_simp; done) | (go_simp; with_reducible rfl)
  try simp only [Act.put, List.setIfInBounds_toArray, List.set_cons_zero, List.set_cons_succ]
  refine takeL 3 (v := ?_) rfl (by kernel_rfl) (by kernel_rfl) (by kernel_rfl) (fun _ _ _ h => h) (by kernel_rfl) ?_ (by assumption) ?_
  rotate_left
  · intro w hSw; (try dsimp only at hSw); first | (go_simp; done) | (go_simp; with_reducible rfl)
  try simp only [Act.put, List.setIfInBounds_toArray, List.set_cons_zero, List.set_cons_succ]
  refine takeL 5 (v := ?_) rfl (by kernel_rfl) (by kernel_rfl) (by kernel_rfl) (fun _ _ _ h => h) (by kernel_rfl) ?_ (by assumption) ?_
  rotate_left
  · intro w hSw; (try dsimp only at hSw); first | (go_simp; done) | (go_simp; with_reducible rfl)
  try simp only [Act.put, List.setIfInBounds_toArray, List.set_cons_zero, List.set_cons_succ]
  refine takeL 6 (v := ?_) rfl (by kernel_rfl) (by kernel_rfl) (by kernel_rfl) (fun _ _ _ h => h) (by kernel_rfl) ?_ (by assumption) ?_
  rotate_left
  · intro w hSw; (try dsimp only at hSw); first | (go_simp; done) | (go_simp; with_reducible rfl)
  try simp only [Act.put, List.setIfInBounds_toArray, List.set_cons_zero, List.set_cons_succ]
  refine callL 4 rfl (by kernel_rfl) (fun K hK => ?_)
  go_simp
  refine (HBO.out _ HB5.out).mono ?_
  rintro e w6 ⟨rfl, b6⟩
  have B6 : Hid (BothW w0 w w6 gp g0 v2 s2 _ _) := B5.out.call b6
  obtain ⟨⟨r0, r1, r2, r3⟩, s0, s1, s2, s3⟩ := B6.out.ans
  clear b6
  generalize bothP x y = nq at HQ ⊢
  go_wp2_with fail
  refine hK.out _ _ ?_ (fun hHeld => ?_)
  · first | exact B6.out.cells | exact B6.out.cellsFin _ _ _ _
  clear hK K
  try simp only [Act.put, List.setIfInBounds_toArray, List.set_cons_zero, List.set_cons_succ]
  refine takeL 7 (v := ?_) rfl (by kernel_rfl) (by kernel_rfl) (by kernel_rfl) (fun _ _ _ h => h) (by kernel_rfl) ?_ (by assumption) ?_
  rotate_left
  · intro w hSw; (try dsimp only at hSw); first | (go_simp; done) | (go_simp; with_reducible rfl)
  try simp only [Act.put, List.setIfInBounds_toArray, List.set_cons_zero, List.set_cons_succ]
  refine skipL 8 rfl (by kernel_rfl) (by kernel_rfl) (by kernel_rfl) (fun _ _ _ h => h) (by kernel_rfl) (by assumption) ?_
  try simp only [Act.put, List.setIfInBounds_toArray, List.set_cons_zero, List.set_cons_succ]
  refine skipL 9 rfl (by kernel_rfl) (by kernel_rfl) (by kernel_rfl) (fun _ _ _ h => h) (by kernel_rfl) (by assumption) ?_
  try simp only [Act.put, List.setIfInBounds_toArray, List.set_cons_zero, List.set_cons_succ]
  refine takeL 10 (v := ?_) rfl (by kernel_rfl) (by kernel_rfl) (by kernel_rfl) (fun _ _ _ h => h) (by kernel_rfl) ?_ (by assumption) ?_
  rotate_left
  · intro w hSw; (try dsimp only at hSw); first | (go_simp; done) | (go_simp; with_reducible rfl)
  try simp only [Act.put, List.setIfInBounds_toArray, List.set_cons_zero, List.set_cons_succ]
  refine takeL 11 (v := ?_) rfl (by kernel_rfl) (by kernel_rfl) (by kernel_rfl) (fun _ _ _ h => h) (by kernel_rfl) ?_ (by assumption) ?_
  rotate_left
  · intro w hSw; (try dsimp only at hSw); first | (go_simp; done) | (go_simp; with_reducible rfl)
  try simp only [Act.put, List.setIfInBounds_toArray, List.set_cons_zero, List.set_cons_succ]
  refine callL 12 rfl (by kernel_rfl) (fun K hK => ?_)
  go_simp
  refine hK.out _ _ ?_ (fun hHeld => ?_)
  · first | exact B6.out.cells | exact B6.out.cellsFin _ _ _ _
  clear hK K
  try simp only [Act.put, List.setIfInBounds_toArray, List.set_cons_zero, List.set_cons_succ]
  refine wpAnyH_done (by kernel_rfl) ?_ _
  refine NoPanic.normal ?_
  have B7 := B6.out.fin (.string nq.sum) (.int .i64 nq.work) (.int .i64 nq.count) (.bool true)
  have T7 : Hid _ := B7.2.2
  have P7 : Hid _ := HQ.out _ _ HSF.out ⟨B7.1, B7.2.1⟩
  clear B7
  go_wp2_with fail
  exact bodyPost_ret (results_cell_row (p := 5) rfl _ _ (g0 + 1 + 1) 119 #[.string nq.sum, .int .i64 nq.work, .int .i64 nq.count, .bool true] (0, 0) _ rfl T7.out Tryz.underlying119 rfl (by kernel_rfl)) rfl P7.out

theorem implNodeBoth (w0 w : World) (gp : Nat) (ss : List PeakV) (a b : NodeV) (hs : Pf w0 w gp ss) (hm : ss.length ≤ 1048576) (hx : peakOkB a.1 = true) (hy : peakOkB b.1 = true) (hK : RowG w0 shaK) (hP : TabP w0) :
    Calls Tryz.prog 67 #[nodeVal a, nodeVal b, .pointer (some ⟨gp, 0, none⟩)] w fun e w' => BothRes w0 w gp ss a b e w' := by
  obtain ⟨x, xy⟩ := a
  obtain ⟨y, yy⟩ := b
  cases xy <;> cases yy
  · exact implNodeBothFF w0 w gp ss x y hs hm hx hy hK hP
  · exact implNodeBothFT w0 w gp ss x y hs hm hx hy hK hP
  · exact implNodeBothTF w0 w gp ss x y hs hm hx hy hK hP
  · exact implNodeBothTT w0 w gp ss x y hs hm hx hy hK hP

end Go.Proofs.YtkajpkfhedfmaaaGreatDoor

set_option linter.unusedVariables false
namespace Go.Proofs.YtkajpkfhedfmaaaGreatDoor
open Go.RowKit

section
variable {w w' : World} {B C g n k b : Nat} {e T : TypeId} {v : Value} {xs : List Value} {cs : Array Value}
theorem ownE_ne (h : w.ownsRow B e k v n xs) (hk : CBk w g T cs) (hT : T ≠ e) : v.ownBlock ≠ some g := by
  rcases h.2 with ⟨rfl, _⟩ | ⟨g', cap, cur, rfl, _, hg, _⟩
  · simp [Value.ownBlock]
  · intro he
    have he' : g' = g := by simpa [Value.ownBlock] using he
    subst he'
    have hk' : w.heap[g']? = some (.cells cs T (0, 0)) := hk
    rw [hg] at hk'
    simp only [Option.some.injEq, Obj.cells.injEq] at hk'
    exact hT hk'.2.1.symm
theorem ownE_is (h : w.ownsRow B e k v n xs) (hv : v.ownBlock = some b) : (∃ cur, CBk w b e cur) ∧ B ≤ b := by
  rcases h.2 with ⟨rfl, _⟩ | ⟨g', cap, cur, rfl, hB, hg, _⟩
  · simp [Value.ownBlock] at hv
  · have : g' = b := by simpa [Value.ownBlock] using hv
    subst this
    exact ⟨⟨cur, hg⟩, hB⟩
theorem ownE_keep (h : w.ownsRow B e k v n xs) (hb : ∀ b, v.ownBlock = some b → b < w.heap.size → w'.heap[b]? = w.heap[b]?) : w'.ownsRow B e k v n xs := by
  refine ⟨h.1, ?_⟩
  rcases h.2 with h1 | ⟨g', cap, cur, rfl, hB, hg, h4⟩
  · exact .inl h1
  · refine .inr ⟨g', cap, cur, rfl, hB, ?_, h4⟩
    rw [hb g' rfl (CBk.lt (cs := cur) (T := e) hg)]
    exact hg
theorem ownE_mono (h : w.ownsRow B e k v n xs) (hc : C ≤ B) : w.ownsRow C e k v n xs := by
  refine ⟨h.1, ?_⟩
  rcases h.2 with h1 | ⟨g', cap, cur, hv, hB, h4⟩
  · exact .inl h1
  · exact .inr ⟨g', cap, cur, hv, Nat.le_trans hc hB, h4⟩
theorem own_slice (h : w.ownsRow B e k v n xs) : ∃ a m c, v = .slice a m c := by
  rcases h.2 with ⟨rfl, _⟩ | ⟨g', cap, cur, rfl, _⟩
  · exact ⟨_, _, _, rfl⟩
  · exact ⟨_, _, _, rfl⟩
/-- Behind a store into a block of another type. -/
theorem ownE_set {j : Nat} {u : Value} (h : w.ownsRow B e k v n xs) (hk : CBk w g T cs) (hT : T ≠ e) : (w.setCell ⟨g, j, none⟩ u).ownsRow B e k v n xs := by
  have hne := ownE_ne h hk hT
  refine ownE_keep h (fun b hv _ => ?_)
  have : g ≠ b := by
    intro he
    subst he
    exact hne hv
  simp [World.setCell, Array.getElem?_modify, this]
theorem ownE_below (h : w.ownsRow B e k v n xs) (hb : Below w.heap.size w w') : w'.ownsRow B e k v n xs := ownE_keep h (fun b _ hlt => hb.block b hlt)
end
theorem cbk_ne {w : World} {g g' : Nat} {T T' : TypeId} {cs cs' : Array Value} (h : CBk w g T cs) (h' : CBk w g' T' cs') (hT : T ≠ T') : g ≠ g' := by
  intro he
  subst he
  have h1 : w.heap[g]? = some (.cells cs T (0, 0)) := h
  have h2 : w.heap[g]? = some (.cells cs' T' (0, 0)) := h'
  rw [h1] at h2
  simp only [Option.some.injEq, Obj.cells.injEq] at h2
  exact hT h2.2.1
theorem cbk_notT {w : World} {g : Nat} {T P : TypeId} {cs : Array Value} (h : CBk w g T cs) (hT : T ≠ P) : ∀ cur fr, w.heap[g]? ≠ some (.cells cur P fr) := by
  intro cur fr he
  have h1 : w.heap[g]? = some (.cells cs T (0, 0)) := h
  rw [h1] at he
  simp only [Option.some.injEq, Obj.cells.injEq] at he
  exact hT he.2.1
/-- No block but one, and those of one type, has changed. -/
def OffT (P : TypeId) (gp : Nat) (w w' : World) : Prop := w.heap.size ≤ w'.heap.size ∧ ∀ c, c < w.heap.size → c ≠ gp → (∀ cur fr, w.heap[c]? ≠ some (.cells cur P fr)) → w'.heap[c]? = w.heap[c]?
theorem OffT.refl (P : TypeId) (gp : Nat) (w : World) : OffT P gp w w := ⟨Nat.le_refl _, fun _ _ _ _ => rfl⟩
theorem OffT.trans {P : TypeId} {gp : Nat} {w w1 w2 : World} (h : OffT P gp w w1) (h2 : OffT P gp w1 w2) : OffT P gp w w2 :=
  ⟨Nat.le_trans h.1 h2.1, fun c hc hne hp => by
    have e := h.2 c hc hne hp
    rw [← e]
    exact h2.2 c (Nat.lt_of_lt_of_le hc h.1) hne (fun cur fr => by rw [e]; exact hp cur fr)⟩
theorem OffT.below {P : TypeId} {gp : Nat} {w w1 w2 : World} (h : OffT P gp w w1) (hb : Below w1.heap.size w1 w2) : OffT P gp w w2 :=
  h.trans ⟨hb.size, fun c hc _ _ => hb.block c hc⟩
theorem OffT.set {P : TypeId} {gp g j : Nat} {w w1 : World} (h : OffT P gp w w1) (hg : w.heap.size ≤ g ∨ g = gp) (v : Value) : OffT P gp w (w1.setCell ⟨g, j, none⟩ v) :=
  ⟨by simpa using h.1, fun c hc hne hp => by
    rw [← h.2 c hc hne hp]
    have : c ≠ g := by rcases hg with h' | h' <;> omega
    simp [World.setCell, Array.getElem?_modify, Ne.symm this]⟩
theorem OffT.cbk {P : TypeId} {gp g : Nat} {w w' : World} {T : TypeId} {cs : Array Value} (h : OffT P gp w w') (hk : CBk w g T cs) (hT : T ≠ P) (hne : g ≠ gp) : CBk w' g T cs := (h.2 g hk.lt hne (cbk_notT hk hT)).trans hk
/-- A row of another type stands. -/
theorem OffT.own {P : TypeId} {gp B n k : Nat} {w w' : World} {e T : TypeId} {v : Value} {xs : List Value} {cs : Array Value} (h : OffT P gp w w') (hr : w.ownsRow B e k v n xs) (he : e ≠ P) (hk : CBk w gp T cs) (hT : e ≠ T) : w'.ownsRow B e k v n xs :=
  ownE_keep hr (fun b hv hlt => by
    obtain ⟨⟨cur, hb⟩, _⟩ := ownE_is hr hv
    exact h.2 b hlt (cbk_ne hb hk hT) (cbk_notT hb he))
end Go.Proofs.YtkajpkfhedfmaaaGreatDoor

set_option linter.unusedVariables false
namespace Go.Proofs.YtkajpkfhedfmaaaGreatDoor
open Go.RowKit Go.Deep

def nEnc (a : NodeV) : List Value := [.string a.1.sum, .int .i64 a.1.work, .int .i64 a.1.count, .bool a.2]
theorem nEnc_len (a : NodeV) : (nEnc a).length = 4 := rfl
theorem nEnc_one (a : NodeV) : ∀ u ∈ nEnc a, u.oneCell' = true := by
  intro u hu
  simp only [nEnc, List.mem_cons, List.not_mem_nil, or_false] at hu
  rcases hu with rfl | rfl | rfl | rfl <;> rfl
theorem infoNode : (Tryz.prog.info? 119).map (fun i => (i.zero, i.size, i.bytes)) = some (some (.agg #[.string ⟨#[]⟩, .int .i64 0, .int .i64 0, .bool false]), 4, 40) := by kernel_rfl
/-- A node pushed, the first one first: the stack, what is noted. -/
def addS (l : List NodeV) (p : NodeV) : List NodeV := (addN l.reverse p).reverse
def noteS (l : List NodeV) (p : NodeV) : List PeakV := noteR l.reverse p
theorem addS_nil (p : NodeV) : addS [] p = [p] := rfl
theorem noteS_nil (p : NodeV) : noteS [] p = [] := rfl
theorem addS_yes {l : List NodeV} {t q : NodeV} (h : t.1.count = q.1.count) : addS (l ++ [t]) q = addS l (bothN t q) := by simp [addS, addN, h]
theorem addS_no {l : List NodeV} {t q : NodeV} (h : ¬ t.1.count = q.1.count) : addS (l ++ [t]) q = l ++ [t] ++ [q] := by simp [addS, addN, h]
theorem noteS_yes {l : List NodeV} {t q : NodeV} (h : t.1.count = q.1.count) : noteS (l ++ [t]) q = noteN t q ++ noteS l (bothN t q) := by simp [noteS, noteR, h]
theorem noteS_no {l : List NodeV} {t q : NodeV} (h : ¬ t.1.count = q.1.count) : noteS (l ++ [t]) q = [] := by simp [noteS, noteR, h]
theorem takeN_one {l : List NodeV} {m : Nat} (h : m < l.length) : l.take (m + 1) = l.take m ++ [l.getD m default] := by
  rw [List.take_add_one, List.getElem?_eq_getElem h]
  simp [List.getElem?_eq_getElem h]
theorem fst_at {l : List NodeV} {m : Nat} (h : m < l.length) : (l.map Prod.fst).getD m default = (l.getD m default).1 := by
  simp [List.getD_eq_getElem?_getD, List.getElem?_eq_getElem h]
theorem cbk_not {w : World} {g : Nat} {T : TypeId} {cs : Array Value} (h : CBk w g T cs) (hT : T ≠ 67) : ∀ cur fr, w.heap[g]? ≠ some (.cells cur 67 fr) := by
  intro cur fr he
  have h1 : w.heap[g]? = some (.cells cs T (0, 0)) := h
  rw [h1] at he
  simp only [Option.some.injEq, Obj.cells.injEq] at he
  exact hT he.2.1
theorem Off.cbk {gp g : Nat} {w w' : World} {T : TypeId} {cs : Array Value} (h : Off gp w w') (hk : CBk w g T cs) (hT : T ≠ 67) (hne : g ≠ gp) : CBk w' g T cs := (h.2 g hk.lt hne (cbk_not hk hT)).trans hk
theorem stp : (124 : TypeId) ≠ 67 := by decide
theorem stn : (124 : TypeId) ≠ 119 := by decide
theorem stf : (124 : TypeId) ≠ 44 := by decide
theorem ntf : (119 : TypeId) ≠ 44 := by decide
theorem ptn : (67 : TypeId) ≠ 119 := by decide
theorem ftn : (44 : TypeId) ≠ 119 := by decide
theorem Pf.b {w0 wr : World} {gp : Nat} {ss : List PeakV} (h : Pf w0 wr gp ss) : Below w0.heap.size w0 wr := by
  obtain ⟨vs, h⟩ := h
  exact h.b
theorem Pf.call {w0 wr w' : World} {gp : Nat} {ss : List PeakV} (h : Pf w0 wr gp ss) (hb : Below wr.heap.size wr w') : Pf w0 w' gp ss := by
  obtain ⟨vs, h⟩ := h
  exact ⟨vs, h.call hb⟩
theorem Pf.blk {w0 wr : World} {gp : Nat} {ss : List PeakV} (h : Pf w0 wr gp ss) : ∃ cs, CBk wr gp 44 cs := by
  obtain ⟨vs, h⟩ := h
  exact ⟨_, h.k⟩
theorem Pf.store {w0 wr : World} {gp g j : Nat} {T : TypeId} {ss : List PeakV} {cs : Array Value} (h : Pf w0 wr gp ss) (hk : CBk wr g T cs) (hT : T ≠ 67) (hF : T ≠ 44) (hlo : w0.heap.size ≤ g) (u : Value) : Pf w0 (wr.setCell ⟨g, j, none⟩ u) gp ss := by
  obtain ⟨vs, h⟩ := h
  exact ⟨vs, h.store hk hT (cbk_ne hk h.k hF) hlo u⟩
/-- A stack of nodes, and the proof beside it. -/
structure NSt (w0 wr : World) (gp g : Nat) (a : Option Addr) (n c : Nat) (l : List NodeV) (ss : List PeakV) : Prop where
  s : CBk wr g 124 #[.slice a n c, .func (.func 66) #[] #[], .func (.func 67) #[] #[.pointer (some ⟨gp, 0, none⟩)]]
  row : wr.ownsRow w0.heap.size 119 4 (.slice a n c) n (l.flatMap nEnc)
  len : l.length = n
  f : Pf w0 wr gp ss
  lo : w0.heap.size ≤ g
theorem NSt.call {w0 wr w' : World} {gp g n c : Nat} {a : Option Addr} {l : List NodeV} {ss : List PeakV} (h : NSt w0 wr gp g a n c l ss) (hb : Below wr.heap.size wr w') : NSt w0 w' gp g a n c l ss :=
  ⟨h.s.call hb, ownE_keep h.row (fun b _ hlt => hb.block b hlt), h.len, h.f.call hb, h.lo⟩
theorem NSt.off {w0 wr w' : World} {gp g n c : Nat} {a : Option Addr} {l : List NodeV} {ss ss' : List PeakV} (h : NSt w0 wr gp g a n c l ss) (ho : Off gp wr w') (hp : Pf w0 w' gp ss') : NSt w0 w' gp g a n c l ss' := by
  obtain ⟨cs, hk⟩ := h.f.blk
  refine ⟨ho.cbk h.s stp (cbk_ne h.s hk stf), ownE_keep h.row (fun b hv hlt => ?_), h.len, hp, h.lo⟩
  obtain ⟨⟨cur, hb⟩, _⟩ := ownE_is h.row hv
  exact ho.2 b hlt (cbk_ne hb hk ntf) (cbk_not hb ntne)
theorem NSt.store {w0 wr : World} {gp g g3 j n c : Nat} {a : Option Addr} {l : List NodeV} {ss : List PeakV} {cs : Array Value} (h : NSt w0 wr gp g a n c l ss) (hk : CBk wr g3 119 cs) (h1 : ∀ r, (Value.slice a n c).ownBlock = some r → r < g3) (h3 : w0.heap.size ≤ g3) (v : Value) : NSt w0 (wr.setCell ⟨g3, j, none⟩ v) gp g a n c l ss := by
  refine ⟨h.s.other (cbk_ne hk h.s (Ne.symm stn)) v, ownE_keep h.row (fun b hv hlt => ?_), h.len, h.f.store hk ntne ntf h3 v, h.lo⟩
  have := h1 b hv
  have hne : g3 ≠ b := by omega
  simp [World.setCell, Array.getElem?_modify, hne]
theorem NSt.at {w0 wr : World} {gp g r n c : Nat} {l : List NodeV} {ss : List PeakV} (h : NSt w0 wr gp g (some ⟨r, 0, none⟩) n c l ss) : AtF nEnc 4 wr r l ∧ n ≤ c := by
  have h1 := FRow.at nEnc_len (FRow.of h.row h.len.symm)
  exact ⟨h1.1, h1.2.2.2⟩
theorem NSt.outs {w0 wr : World} {gp g n c : Nat} {a : Option Addr} {l : List NodeV} {ss : List PeakV} (h : NSt w0 wr gp g a n c l ss) : wr.cell? ⟨g, 0, none⟩ = some (.slice a n c) ∧ wr.cell? ⟨g, 1, none⟩ = some (.func (.func 66) #[] #[]) ∧ wr.cell? ⟨g, 2, none⟩ = some (.func (.func 67) #[] #[.pointer (some ⟨gp, 0, none⟩)]) := ⟨h.s.cell 0, h.s.cell 1, h.s.cell 2⟩
/-- While one is pushed: the one's block beside it. -/
structure PushN (w0 wr : World) (gp g g3 : Nat) (a : Option Addr) (n c : Nat) (l : List NodeV) (q : NodeV) (ss : List PeakV) : Prop where
  k : NSt w0 wr gp g a n c l ss
  o : NBk wr g3 q
  n2 : ∀ r, (Value.slice a n c).ownBlock = some r → r < g3
  lo : w0.heap.size ≤ g3
section
variable {w0 wr w' : World} {gp g g3 n c : Nat} {a : Option Addr} {l : List NodeV} {q : NodeV} {ss ss' : List PeakV}
theorem PushN.enter {w : World} (h : NSt w0 w gp g a n c l ss) (q : NodeV) : PushN w0 (w.alloc (.cells #[.string q.1.sum, .int .i64 q.1.work, .int .i64 q.1.count, .bool q.2] 119)) gp g w.heap.size a n c l q ss := by
  refine ⟨h.call ((Below.refl _ w).alloc (Nat.le_refl _) _), CBk.new w _ _, fun r hr => ?_, h.f.b.size⟩
  obtain ⟨⟨cur, hb⟩, _⟩ := ownE_is h.row hr
  exact hb.lt
theorem PushN.call (h : PushN w0 wr gp g g3 a n c l q ss) (hb : Below wr.heap.size wr w') : PushN w0 w' gp g g3 a n c l q ss := ⟨h.k.call hb, CBk.call h.o hb, h.n2, h.lo⟩
theorem PushN.drew (h : PushN w0 wr gp g g3 a n c l q ss) : PushN w0 wr.drew gp g g3 a n c l q ss := h.call (Below.refl _ _).drew
theorem PushN.off (h : PushN w0 wr gp g g3 a n c l q ss) (ho : Off gp wr w') (hp : Pf w0 w' gp ss') : PushN w0 w' gp g g3 a n c l q ss' := by
  obtain ⟨cs, hk⟩ := h.k.f.blk
  exact ⟨h.k.off ho hp, ho.cbk h.o ntne (cbk_ne h.o hk ntf), h.n2, h.lo⟩
theorem PushN.two (h : PushN w0 wr gp g g3 a n c l q ss) : (wr.cell? ⟨g, 0, none⟩ = some (.slice a n c) ∧ wr.cell? ⟨g, 1, none⟩ = some (.func (.func 66) #[] #[]) ∧ wr.cell? ⟨g, 2, none⟩ = some (.func (.func 67) #[] #[.pointer (some ⟨gp, 0, none⟩)])) ∧ (wr.cell? ⟨g3, 0, none⟩ = some (.string q.1.sum) ∧ wr.cell? ⟨g3, 1, none⟩ = some (.int .i64 q.1.work) ∧ wr.cell? ⟨g3, 2, none⟩ = some (.int .i64 q.1.count) ∧ wr.cell? ⟨g3, 3, none⟩ = some (.bool q.2)) := ⟨h.k.outs, h.o.four⟩
theorem PushN.all {r m : Nat} {t : NodeV} (h : PushN w0 wr gp g g3 (some ⟨r, 0, none⟩) n c l q ss) (hm : m < l.length) (ht : l.getD m default = t) : (wr.cell? ⟨g, 0, none⟩ = some (.slice (some ⟨r, 0, none⟩) n c) ∧ wr.cell? ⟨g, 1, none⟩ = some (.func (.func 66) #[] #[]) ∧ wr.cell? ⟨g, 2, none⟩ = some (.func (.func 67) #[] #[.pointer (some ⟨gp, 0, none⟩)])) ∧ (wr.cell? ⟨r, m * 4, none⟩ = some (.string t.1.sum) ∧ wr.cell? ⟨r, m * 4 + 1, none⟩ = some (.int .i64 t.1.work) ∧ wr.cell? ⟨r, m * 4 + 2, none⟩ = some (.int .i64 t.1.count) ∧ wr.cell? ⟨r, m * 4 + 3, none⟩ = some (.bool t.2)) ∧ (wr.cell? ⟨g3, 0, none⟩ = some (.string q.1.sum) ∧ wr.cell? ⟨g3, 1, none⟩ = some (.int .i64 q.1.work) ∧ wr.cell? ⟨g3, 2, none⟩ = some (.int .i64 q.1.count) ∧ wr.cell? ⟨g3, 3, none⟩ = some (.bool q.2)) := by
  have h1 := h.k.at.1
  refine ⟨h.k.outs, ?_, h.o.four⟩
  rw [← ht]
  exact ⟨h1.2 m 0 hm (by decide), h1.2 m 1 hm (by decide), h1.2 m 2 hm (by decide), h1.2 m 3 hm (by decide)⟩
/-- Behind the store of another one. -/
theorem PushN.put (h : PushN w0 wr gp g g3 a n c l q ss) (x : NodeV) : PushN w0 ((((wr.setCell ⟨g3, 0, none⟩ (.string (x).1.sum)).setCell ⟨g3, 1, none⟩ (.int .i64 (x).1.work)).setCell ⟨g3, 2, none⟩ (.int .i64 (x).1.count)).setCell ⟨g3, 3, none⟩ (.bool (x).2)) gp g g3 a n c l x ss := by
  have hr1 := CBk.set h.o 0 (.string x.1.sum)
  have hr2 := hr1.set 1 (.int .i64 x.1.work)
  have hr3 := hr2.set 2 (.int .i64 x.1.count)
  exact ⟨(((h.k.store h.o h.n2 h.lo _).store hr1 h.n2 h.lo _).store hr2 h.n2 h.lo _).store hr3 h.n2 h.lo _, CBk.set4 h.o, h.n2, h.lo⟩
/-- Behind the store of a shorter row. -/
theorem PushN.pop {r m : Nat} (h : PushN w0 wr gp g g3 (some ⟨r, 0, none⟩) (m + 1) c l q ss) : PushN w0 (wr.setCell ⟨g, 0, none⟩ (.slice (some ⟨r, 0, none⟩) m c)) gp g g3 (some ⟨r, 0, none⟩) m c (l.take m) q ss := by
  have h4 := h.k.len
  have hml : m < l.length := by omega
  have e1 : l = l.take m ++ [l.getD m default] := by
    rw [← takeN_one hml, ← h4, List.take_length]
  have hl : ((l.take m).flatMap nEnc).length = m * 4 := by
    rw [flat_length 4 nEnc nEnc_len, List.length_take]
    omega
  have h5 : wr.ownsRow w0.heap.size 119 4 (.slice (some ⟨r, 0, none⟩) (m + 1) c) (m + 1) ((l.take m).flatMap nEnc ++ nEnc (l.getD m default)) := by
    have := h.k.row
    rw [e1, List.flatMap_append] at this
    have hmin : min m l.length = m := by omega
    simpa [List.take_append_of_le_length, List.length_take, hmin] using this
  have h6 := ownsRow_pop hl h5
  have hrg : (Value.slice (some ⟨r, 0, none⟩) (m + 1) c).ownBlock ≠ some g := ownE_ne h.k.row h.k.s stn
  have hrg' : r ≠ g := by simpa [Value.ownBlock] using hrg
  have hn2 := h.n2 r rfl
  refine ⟨⟨h.k.s.set 0 _, ownE_keep h6 (fun b hv hlt => ?_), by rw [List.length_take]; omega, h.k.f.store h.k.s stp stf h.k.lo _, h.k.lo⟩, h.o.other (cbk_ne h.k.s h.o stn) _, fun r' hr' => ?_, h.lo⟩
  · have : r = b := by simpa [Value.ownBlock] using hv
    subst this
    simp [World.setCell, Array.getElem?_modify, Ne.symm hrg']
  · have : r = r' := by simpa [Value.ownBlock] using hr'
    omega
/-- Behind the append of the one. -/
theorem PushN.grown {w6 : World} (h : PushN w0 wr gp g g3 a n c l q ss) (hg : wr.grownBy w6 (Value.slice a n c).ownBlock) : CBk w6 g 124 #[.slice a n c, .func (.func 66) #[] #[], .func (.func 67) #[] #[.pointer (some ⟨gp, 0, none⟩)]] :=
  (hg.block g h.k.s.lt (Ne.symm (ownE_ne h.k.row h.k.s stn))).trans h.k.s
theorem PushN.app {w6 : World} {g6 c6 : Nat} (h : PushN w0 wr gp g g3 a n c l q ss) (hown : w6.ownsRow w0.heap.size 119 4 (.slice (some ⟨g6, 0, none⟩) (n + 1) c6) (n + 1) (l.flatMap nEnc ++ nEnc q)) (hg : wr.grownBy w6 (Value.slice a n c).ownBlock) : NSt w0 (w6.setCell ⟨g, 0, none⟩ (.slice (some ⟨g6, 0, none⟩) (n + 1) c6)) gp g (some ⟨g6, 0, none⟩) (n + 1) c6 (l ++ [q]) ss := by
  have hs6 := h.grown hg
  have hne : (Value.slice (some ⟨g6, 0, none⟩) (n + 1) c6).ownBlock ≠ some g := ownE_ne hown hs6 stn
  have hne' : g6 ≠ g := by simpa [Value.ownBlock] using hne
  obtain ⟨vs, hf⟩ := h.k.f
  have hf6 : Pf w0 w6 gp ss := by
    refine ⟨vs, (hg.block gp hf.k.lt (Ne.symm (ownE_ne h.k.row hf.k ftn))).trans hf.k, ownE_keep hf.row (fun b hv hlt => ?_), ?_, hf.lo⟩
    · obtain ⟨⟨cur, hb⟩, _⟩ := ownE_is hf.row hv
      exact hg.block b hlt (Ne.symm (ownE_ne h.k.row hb ptn))
    · exact hf.b.grown hg hf.b.size (fun j hj => (ownE_is h.k.row hj).2)
  have hown' : w6.ownsRow w0.heap.size 119 4 (.slice (some ⟨g6, 0, none⟩) (n + 1) c6) (n + 1) ((l ++ [q]).flatMap nEnc) := by
    rw [List.flatMap_append]
    simpa using hown
  refine ⟨hs6.set 0 _, ownE_keep hown' (fun b hv hlt => ?_), by rw [List.length_append, h.k.len]; rfl, hf6.store hs6 stp stf h.k.lo _, h.k.lo⟩
  · have : g6 = b := by simpa [Value.ownBlock] using hv
    subst this
    simp [World.setCell, Array.getElem?_modify, Ne.symm hne']
end
def NPush (w0 : World) (gp g : Nat) (A : List NodeV) (N : List PeakV) (e : Ending) (w' : World) : Prop := e = .returned (.tuple #[]) ∧ ∃ a n c, NSt w0 w' gp g a n c A N
theorem npush_res {w0 w' : World} {gp g n c : Nat} {a : Option Addr} {A : List NodeV} {N : List PeakV} (h : NSt w0 w' gp g a n c A N) : NPush w0 gp g A N (.returned (.tuple #[])) w' := ⟨rfl, a, n, c, h⟩
end Go.Proofs.YtkajpkfhedfmaaaGreatDoor

set_option linter.unusedVariables false
namespace Go.Proofs.YtkajpkfhedfmaaaGreatDoor
open Go.RowKit Go.Deep

set_option maxHeartbeats 8000000 in
set_option maxRecDepth 100000 in
theorem implPushN (w0 : World) (gp g : Nat) (l : List NodeV) (p : NodeV) (ss : List PeakV) (w : World) (a : Option Addr) (n c : Nat) (h0 : NSt w0 w gp g a n c l ss) (hm : l.length ≤ 1048576) (hk : ∀ i, i < (l.map Prod.fst).length → peakOkB ((l.map Prod.fst).getD i default) = true) (hr : Room (l.map Prod.fst) (l.map Prod.fst).length p.1) (hss : (ss ++ noteS l p).length ≤ 1048576) (hK : RowG w0 shaK) (hP : TabP w0) :
    Calls Tryz.prog 68 #[.pointer (some ⟨g, 0, none⟩), nodeVal p] w fun e w' => NPush w0 gp g (addS l p) (ss ++ noteS l p) e w' := by
  obtain ⟨i0, hi, hz0, hz1, hz2⟩ := info3 infoNode
  have HN : Hid (n = l.length) := h0.len.symm
  have HM0 : Hid (n ≤ 1048576) := by show _ ≤ _; have := h0.len; omega
  have HBO : Hid (∀ (w' : World) (s' : List PeakV) (x y : NodeV), Pf w0 w' gp s' → s'.length ≤ 1048576 → peakOkB x.1 = true → peakOkB y.1 = true → Calls Tryz.prog 67 #[.agg #[.string x.1.sum, .int .i64 x.1.work, .int .i64 x.1.count, .bool x.2], .agg #[.string y.1.sum, .int .i64 y.1.work, .int .i64 y.1.count, .bool y.2], .pointer (some ⟨gp, 0, none⟩)] w' fun e w'' => e = .returned (.agg #[.string (bothN x y).1.sum, .int .i64 (bothN x y).1.work, .int .i64 (bothN x y).1.count, .bool (bothN x y).2]) ∧ Pf w0 w'' gp (s' ++ noteN x y) ∧ Off gp w' w'') := fun w' s' x y h1 h2 h3 h4 => implNodeBoth w0 w' gp s' x y h1 h2 h3 h4 hK hP
  have HKP : Hid (∀ i, i < (l.map Prod.fst).length → peakOkB ((l.map Prod.fst).getD i default) = true) := hk
  have HLM : Hid ((l.map Prod.fst).length = l.length) := List.length_map ..
  have HR0 : Hid (Room (l.map Prod.fst) n p.1) := by show Room _ _ _; rw [HN.out, ← HLM.out]; exact hr
  have HAD : Hid (addS (l.take n) p = addS l p) := by show _ = _; rw [HN.out, List.take_length]
  have HNO : Hid (ss ++ noteS (l.take n) p = ss ++ noteS l p) := by show _ = _; rw [HN.out, List.take_length]
  have HSS : Hid ((ss ++ noteS l p).length ≤ 1048576) := hss
  generalize addS l p = A at HAD ⊢
  generalize ss ++ noteS l p = N at HNO HSS ⊢
  have HQ : Hid (∀ w', NPush w0 gp g A N (.returned (.tuple #[])) w' → NPush w0 gp g A N (.returned (.tuple #[])) w') := fun w' h => h
  obtain ⟨Q, hQ⟩ : ∃ Q, Q = NPush w0 gp g A N := ⟨_, rfl⟩
  have HQ2 : Hid (Q = NPush w0 gp g A N) := hQ
  rw [← hQ]
  clear HQ hQ
  have PZ : Hid (PushN w0 (w.alloc (.cells #[.string p.1.sum, .int .i64 p.1.work, .int .i64 p.1.count, .bool p.2] 119)) gp g w.heap.size a n c (l.take n) p ss) := by
    have e : l.take n = l := by rw [HN.out, List.take_length]
    rw [e]
    exact PushN.enter h0 p
  unfold nodeVal
  clear hm hk hr hss hK hP h0
  obtain ⟨⟨a0, a1, a2⟩, x0⟩ := PZ.out.two
  have hw0 : IntKind.i64.wrap ((n : Int) - 1) = (n : Int) - 1 := by have := HM0.out; rw [IntKind.wrap_i64]; omega
  go_enter Tryz.func68, Tryz.ntmps68
  go_wp2_with fail
  clear a0 a1 a2 x0 hw0
  generalize w.alloc (.cells #[.string p.1.sum, .int .i64 p.1.work, .int .i64 p.1.count, .bool p.2] 119) = W0 at PZ ⊢
  obtain ⟨g3, hg3⟩ : ∃ g3, g3 = w.heap.size := ⟨_, rfl⟩
  rw [← hg3] at PZ ⊢
  clear hg3
  clear w
  go_loopw [4] (fun last wr => ∃ (m : Nat) (q : NodeV) (s' : List PeakV), m ≤ n ∧ last = .int .i64 ((m : Int) - 1) ∧ Hid (PushN w0 wr gp g g3 a m c (l.take m) q s') ∧ Hid (addS (l.take m) q = A) ∧ Hid (s' ++ noteS (l.take m) q = N) ∧ Hid (Room (l.map Prod.fst) m q.1)) (fun last _ => (intOf last + 1).toNat)
  case atStart => exact ⟨n, p, ss, Nat.le_refl _, rfl, PZ, HAD, HNO, HR0⟩
  case round =>
    clear PZ HAD HNO HR0
    obtain ⟨m, q, s', hmn, rfl, PW, HAD, HNO, HRM⟩ := hrel
    cases m with
    | zero =>
      have e0 : ((0 : Nat) : Int) - 1 = -1 := rfl
      rw [e0]
      have hd0 : decide ((0 : Int) ≤ -1) = false := by decide
      have HRV0 : Hid (A = l.take 0 ++ [q] ∧ N = s') := ⟨by rw [← HAD.out, List.take_zero, addS_nil]; rfl, by rw [← HNO.out, List.take_zero, noteS_nil, List.append_nil]⟩
      obtain ⟨M, hM⟩ : ∃ M, M = 0 := ⟨_, rfl⟩
      have HM : Hid (M = 0) := hM
      rw [← hM] at PW HRV0
      clear hM hmn HAD HNO HRM
      have HRV : Hid (∀ w', NPush w0 gp g (l.take M ++ [q]) s' (.returned (.tuple #[])) w' → Q (.returned (.tuple #[])) w') := fun w' h => by rw [HQ2.out, HRV0.out.1, HRV0.out.2]; exact h
      clear HRV0
      obtain ⟨⟨a0, a1, a2⟩, d0, d1, d2, d3⟩ := PW.out.two
      go_wp2_with fail
      go_big_region
      have PW1 : Hid (PushN w0 wr.drew gp g g3 a M c (l.take M) q s') := PW.out.drew
      clear a0 a1 a2 d0 d1 d2 d3 PW
      have HLA : Hid ((l.take M).length = M) := PW1.out.k.len
      have hx1 : M + 1 ≤ maxLen := by have h1 := HLA.out; rw [List.length_take] at h1; have h2 := HM0.out; have h3 := HN.out; unfold maxLen; omega
      have hx2 : (M + 1) * 40 ≤ 140737488355328 := by have h1 := HLA.out; rw [List.length_take] at h1; have h2 := HM0.out; have h3 := HN.out; omega
      have PX : Hid (PushN w0 wr.drew.drew gp g g3 a M c (l.take M) q s') := PW1.out.drew
      have PA : Hid (PushN w0 (wr.drew.drew.alloc (.cells (nEnc q).toArray 119)) gp g g3 a M c (l.take M) q s') := PX.out.call ((Below.refl _ _).alloc (Nat.le_refl _) _)
      have hu := nEnc_one q
      have HCN : Hid (∀ j u, (nEnc q)[j]? = some u → (wr.drew.drew.alloc (.cells (nEnc q).toArray 119)).cell? ((⟨wr.drew.heap.size, 0, none⟩ : Addr).add j) = some u) := cells_new wr.drew.drew 119 (nEnc q)
      have HFd : Hid ((wr.drew.drew.alloc (.cells (nEnc q).toArray 119)).ownsRow w0.heap.size 119 4 (.slice a M c) M ((l.take M).flatMap nEnc)) := PA.out.k.row
      have HBZ : Hid (w0.heap.size ≤ (wr.drew.drew.alloc (.cells (nEnc q).toArray 119)).heap.size) := PA.out.k.f.b.size
      have HGT6 : Hid (∀ w6, (wr.drew.drew.alloc (.cells (nEnc q).toArray 119)).grownBy w6 (Value.slice a M c).ownBlock → w6.cell? ⟨g, 0, none⟩ = some (.slice a M c) ∧ w6.frozen? ⟨g, 0, none⟩ = false) := fun w6 h => ⟨(PA.out.grown h).cell 0, (PA.out.grown h).frozen 0⟩
      have HAP : Hid (∀ (w6 : World) (g6 c6 : Nat), w6.ownsRow w0.heap.size 119 4 (.slice (some ⟨g6, 0, none⟩) (M + 1) c6) (M + 1) ((l.take M).flatMap nEnc ++ nEnc q) → (wr.drew.drew.alloc (.cells (nEnc q).toArray 119)).grownBy w6 (Value.slice a M c).ownBlock → Q (.returned (.tuple #[])) (w6.setCell ⟨g, 0, none⟩ (.slice (some ⟨g6, 0, none⟩) (M + 1) c6))) := fun w6 g6 c6 h1 h2 => HRV.out _ (npush_res (PA.out.app h1 h2))
      have ba0 : (wr.alloc (.cells #[.string q.1.sum, .int .i64 q.1.work, .int .i64 q.1.count, .bool q.2] 119)).cell? ⟨g, 0, none⟩ = some (.slice a M c) := (Below.cell ((Below.refl _ wr).alloc (Nat.le_refl _) _) (p := ⟨g, 0, none⟩) PW1.out.k.s.lt).trans PW1.out.k.outs.1
      clear PW1
      obtain ⟨⟨a0, a1, a2⟩, d0, d1, d2, d3⟩ := PX.out.two
      clear PX PA
      go_wp2_with fail
      go_region_law (refine step_append_lies _ rfl (.tmp 56) (.tmp 58) 122 rfl w0.heap.size 119 i0 (.agg #[.string ⟨#[]⟩, .int .i64 0, .int .i64 0, .bool false]) 4 40 Tryz.underlying122 hi hz0 hz1 hz2 rfl (by decide) (.slice a M c) M ((l.take M).flatMap nEnc) (by simp [Act.eval]) HFd.out ⟨wr.drew.heap.size, 0, none⟩ 1 1 (nEnc q) (by simp [Act.eval]) rfl HCN.out hu (by decide) hx1 hx2 HBZ.out _ rfl ?_; intro g6 c6 w6 hown6 hgrow6 hat6 hlt6; clear hat6 hlt6; have K6 : Hid _ := HAP.out w6 g6 c6 hown6 hgrow6; obtain ⟨q6, z6⟩ := HGT6.out w6 hgrow6; clear hown6 hgrow6)
      all_goals
        clear HFd HCN HBZ HGT6 HAP
        go_wp2_with fail
        exact bodyPost_ret (results_none rfl _ _ _) rfl K6.out
    | succ m =>
      have e0 : ((m + 1 : Nat) : Int) - 1 = (m : Int) := by omega
      rw [e0]
      obtain ⟨r, hr⟩ : ∃ r, a = some ⟨r, 0, none⟩ := by
        obtain ⟨r, cap, hv, _⟩ := PW.out.k.row.form (by omega)
        simp only [Value.slice.injEq] at hv
        exact ⟨r, hv.1⟩
      subst hr
      have hml : m < l.length := by rw [← HN.out]; omega
      have hgt : (l.take (m + 1)).getD m default = l.getD m default := by simp
      have hlen : m < (l.take (m + 1)).length := by rw [List.length_take]; omega
      have HKM : Hid (peakOkB (l.getD m default).1 = true) := by
        have := HKP.out m (by rw [HLM.out]; exact hml)
        rw [fst_at hml] at this
        exact this
      have HS : Hid ((l.getD m default).1.count = q.1.count → Room (l.map Prod.fst) m (bothN (l.getD m default) q).1) := fun he => by
        have := HRM.out.step HKP.out (m := m) (by rw [HLM.out]; exact hml) (by rw [fst_at hml]; exact he)
        rw [fst_at hml] at this
        exact this
      have HYES : Hid ((l.getD m default).1.count = q.1.count → addS (l.take m) (bothN (l.getD m default) q) = A ∧ (s' ++ noteN (l.getD m default) q) ++ noteS (l.take m) (bothN (l.getD m default) q) = N) := fun he => by
        rw [← HAD.out, ← HNO.out, takeN_one hml, addS_yes he, noteS_yes he]
        exact ⟨rfl, List.append_assoc ..⟩
      have HNOT : Hid (¬ (l.getD m default).1.count = q.1.count → A = l.take (m + 1) ++ [q] ∧ N = s') := fun he => by
        rw [← HAD.out, ← HNO.out, takeN_one hml, addS_no he, noteS_no he, List.append_nil]
        exact ⟨rfl, rfl⟩
      have HSL : Hid (s'.length ≤ 1048576) := by
        show _ ≤ _
        have h1 := HSS.out
        have h2 := congrArg List.length HNO.out
        rw [List.length_append] at h2
        omega
      have HTT : Hid ((l.take (m + 1)).take m = l.take m) := by show _ = _; rw [List.take_take]; congr 1; omega
      have HLL : Hid (m < (l.take (m + 1)).length) := hlen
      have HGT : Hid ((l.take (m + 1)).getD m default = l.getD m default) := hgt
      have hd0 : decide ((0 : Int) ≤ (m : Int)) = true := decide_eq_true (by omega)
      have hd1 : (0 : Int) ≤ (m : Int) := by omega
      have lm1 : (m : Int) < ((m + 1 : Nat) : Int) := by omega
      obtain ⟨M, hM⟩ : ∃ M, M = m + 1 := ⟨_, rfl⟩
      have HM : Hid (M = m + 1) := hM
      rw [← hM] at lm1
      rw [← hM] at PW HNOT HLL HGT hmn
      have HTT : Hid ((l.take M).take m = l.take m) := by rw [hM]; exact HTT.out
      have HMN : Hid (M ≤ n) := hmn
      have hdn : decide (0 ≤ m) = true := decide_eq_true (by omega)
      have ltm : m < M := by omega
      clear hM hlen hgt hml HAD HNO hmn
      generalize l.getD m default = t at HKM HS HYES HNOT HGT
      obtain ⟨⟨a0, a1, a2⟩, ⟨q0, q1, q2, q3⟩, d0, d1, d2, d3⟩ := PW.out.all HLL.out HGT.out
      have hal := fun w' => implNodeAlike t q w'
      unfold nodeVal at hal
      have PD : Hid (PushN w0 wr.drew gp g g3 (some ⟨r, 0, none⟩) M c (l.take M) q s') := PW.out.drew
      by_cases he : t.1.count = q.1.count
      · have heb : (t.1.count == q.1.count) = true := by simpa using he
        rw [heb] at hal
        have HRM2 : Hid (Room (l.map Prod.fst) m (bothN t q).1) := HS.out he
        have HAD2 : Hid (addS (l.take m) (bothN t q) = A) := (HYES.out he).1
        have HNO2 : Hid ((s' ++ noteN t q) ++ noteS (l.take m) (bothN t q) = N) := (HYES.out he).2
        have HBO2 : Hid (∀ w', Pf w0 w' gp s' → Calls Tryz.prog 67 #[.agg #[.string t.1.sum, .int .i64 t.1.work, .int .i64 t.1.count, .bool t.2], .agg #[.string q.1.sum, .int .i64 q.1.work, .int .i64 q.1.count, .bool q.2], .pointer (some ⟨gp, 0, none⟩)] w' fun e w'' => e = .returned (.agg #[.string (bothN t q).1.sum, .int .i64 (bothN t q).1.work, .int .i64 (bothN t q).1.count, .bool (bothN t q).2]) ∧ Pf w0 w'' gp (s' ++ noteN t q) ∧ Off gp w' w'') := fun w' hb => HBO.out w' s' t q hb HSL.out HKM.out HRM.out.ok
        clear HS HYES HNOT he heb HRM HKM HSL
        go_wp2_with fail
        go_region_held3 (fun w' => (w'.cell? ⟨g, 0, none⟩ = some (.slice (some ⟨r, 0, none⟩) M c) ∧ w'.cell? ⟨g, 1, none⟩ = some (.func (.func 66) #[] #[]) ∧ w'.cell? ⟨g, 2, none⟩ = some (.func (.func 67) #[] #[.pointer (some ⟨gp, 0, none⟩)])) ∧ (w'.cell? ⟨r, m * 4, none⟩ = some (.string t.1.sum) ∧ w'.cell? ⟨r, m * 4 + 1, none⟩ = some (.int .i64 t.1.work) ∧ w'.cell? ⟨r, m * 4 + 2, none⟩ = some (.int .i64 t.1.count) ∧ w'.cell? ⟨r, m * 4 + 3, none⟩ = some (.bool t.2)) ∧ (w'.cell? ⟨g3, 0, none⟩ = some (.string q.1.sum) ∧ w'.cell? ⟨g3, 1, none⟩ = some (.int .i64 q.1.work) ∧ w'.cell? ⟨g3, 2, none⟩ = some (.int .i64 q.1.count) ∧ w'.cell? ⟨g3, 3, none⟩ = some (.bool q.2)))
          (first | exact PW.out.all HLL.out HGT.out | exact PD.out.all HLL.out HGT.out | exact P5.out.all HLL.out HGT.out)
          (first | (go_at_call 66; refine (hal _).mono ?_; rintro e w5 ⟨rfl, b5⟩; have P5 : Hid (PushN w0 w5 gp g g3 (some ⟨r, 0, none⟩) M c (l.take M) q s') := PD.out.call b5))
        clear a0 a1 a2 q0 q1 q2 q3 d0 d1 d2 d3 PW PD b5
        obtain ⟨⟨a0, a1, a2⟩, ⟨q0, q1, q2, q3⟩, d0, d1, d2, d3⟩ := P5.out.all HLL.out HGT.out
        have hlt4 : (m : Int) < (M : Int) := lm1
        go_wp2_with fail
        go_region_with (go_at_call 67; refine (HBO2.out _ (P5.out.drew.k.f)).mono ?_; rintro e w6 ⟨rfl, p6, o6⟩; have P6 : Hid (PushN w0 w6 gp g g3 (some ⟨r, 0, none⟩) M c (l.take M) q (s' ++ noteN t q)) := P5.out.drew.off o6 p6; obtain ⟨m0, m1, m2, m3⟩ := P6.out.o.four; obtain ⟨f0, f1, f2, f3⟩ := CBk.free4 P6.out.o)
        all_goals
          have P7 : Hid _ := P6.out.put (bothN t q)
          generalize bothN t q = nq at P7 HRM2 HAD2 HNO2
          generalize s' ++ noteN t q = s2 at P7 HNO2
          clear a0 a1 a2 q0 q1 q2 q3 d0 d1 d2 d3 m0 m1 m2 m3 f0 f1 f2 f3 p6 o6 P6 P5 HBO2
          generalize ((((w6.setCell ⟨g3, 0, none⟩ (.string (nq).1.sum)).setCell ⟨g3, 1, none⟩ (.int .i64 (nq).1.work)).setCell ⟨g3, 2, none⟩ (.int .i64 (nq).1.count)).setCell ⟨g3, 3, none⟩ (.bool (nq).2)) = w7 at P7 ⊢
          clear w6
          obtain ⟨⟨a0, a1, a2⟩, d0, d1, d2, d3⟩ := P7.out.two
          have z0 := P7.out.k.s.frozen 0
          have lmc : (m : Int) ≤ (c : Int) := by have := P7.out.k.at.2; omega
          have hc0 : ¬ c = 0 := by have := P7.out.k.at.2; omega
          have P8 : Hid (PushN w0 (w7.setCell ⟨g, 0, none⟩ (.slice (some ⟨r, 0, none⟩) m c)) gp g g3 (some ⟨r, 0, none⟩) m c (l.take m) nq s2) := by
            have h1 := P7.out
            rw [HM.out] at h1
            have h2 := h1.pop
            rwa [show (l.take (m + 1)).take m = l.take m from by rw [← HM.out]; exact HTT.out] at h2
          have hw2 : IntKind.i64.wrap ((m : Int) - 1) = (m : Int) - 1 := by have := HMN.out; have := HM0.out; rw [IntKind.wrap_i64]; omega
          clear P7
          go_wp2_with fail
          go_roundw
          case rel => exact ⟨m, nq, s2, by have := HM.out; have := HMN.out; omega, rfl, P8, HAD2, HNO2, HRM2⟩
          case measure => have := HM.out; simp [intOf] <;> omega
      · have heb : (t.1.count == q.1.count) = false := by simpa using he
        rw [heb] at hal
        have HRV0 : Hid (A = l.take M ++ [q] ∧ N = s') := HNOT.out he
        have HRV : Hid (∀ w', NPush w0 gp g (l.take M ++ [q]) s' (.returned (.tuple #[])) w' → Q (.returned (.tuple #[])) w') := fun w' h => by rw [HQ2.out, HRV0.out.1, HRV0.out.2]; exact h
        clear HS HYES HNOT he heb HRM HKM HTT HRV0 HSL
        go_wp2_with fail
        go_region_held3 (fun w' => (w'.cell? ⟨g, 0, none⟩ = some (.slice (some ⟨r, 0, none⟩) M c) ∧ w'.cell? ⟨g, 1, none⟩ = some (.func (.func 66) #[] #[]) ∧ w'.cell? ⟨g, 2, none⟩ = some (.func (.func 67) #[] #[.pointer (some ⟨gp, 0, none⟩)])) ∧ (w'.cell? ⟨r, m * 4, none⟩ = some (.string t.1.sum) ∧ w'.cell? ⟨r, m * 4 + 1, none⟩ = some (.int .i64 t.1.work) ∧ w'.cell? ⟨r, m * 4 + 2, none⟩ = some (.int .i64 t.1.count) ∧ w'.cell? ⟨r, m * 4 + 3, none⟩ = some (.bool t.2)) ∧ (w'.cell? ⟨g3, 0, none⟩ = some (.string q.1.sum) ∧ w'.cell? ⟨g3, 1, none⟩ = some (.int .i64 q.1.work) ∧ w'.cell? ⟨g3, 2, none⟩ = some (.int .i64 q.1.count) ∧ w'.cell? ⟨g3, 3, none⟩ = some (.bool q.2)))
          (first | exact PW.out.all HLL.out HGT.out | exact PD.out.all HLL.out HGT.out | exact P5.out.all HLL.out HGT.out)
          (first | (go_at_call 66; refine (hal _).mono ?_; rintro e w5 ⟨rfl, b5⟩; have P5 : Hid (PushN w0 w5 gp g g3 (some ⟨r, 0, none⟩) M c (l.take M) q s') := PD.out.call b5))
        clear a0 a1 a2 q0 q1 q2 q3 d0 d1 d2 d3 PW PD b5
        have HLA : Hid ((l.take M).length = M) := P5.out.k.len
        have hx1 : M + 1 ≤ maxLen := by have h1 := HLA.out; rw [List.length_take] at h1; have h2 := HM0.out; have h3 := HN.out; unfold maxLen; omega
        have hx2 : (M + 1) * 40 ≤ 140737488355328 := by have h1 := HLA.out; rw [List.length_take] at h1; have h2 := HM0.out; have h3 := HN.out; omega
        have PX : Hid (PushN w0 w5.drew gp g g3 (some ⟨r, 0, none⟩) M c (l.take M) q s') := P5.out.drew
        have PA : Hid (PushN w0 (w5.drew.alloc (.cells (nEnc q).toArray 119)) gp g g3 (some ⟨r, 0, none⟩) M c (l.take M) q s') := PX.out.call ((Below.refl _ _).alloc (Nat.le_refl _) _)
        have hu := nEnc_one q
        have HCN : Hid (∀ j u, (nEnc q)[j]? = some u → (w5.drew.alloc (.cells (nEnc q).toArray 119)).cell? ((⟨w5.heap.size, 0, none⟩ : Addr).add j) = some u) := cells_new w5.drew 119 (nEnc q)
        have HFd : Hid ((w5.drew.alloc (.cells (nEnc q).toArray 119)).ownsRow w0.heap.size 119 4 (.slice (some ⟨r, 0, none⟩) M c) M ((l.take M).flatMap nEnc)) := PA.out.k.row
        have HBZ : Hid (w0.heap.size ≤ (w5.drew.alloc (.cells (nEnc q).toArray 119)).heap.size) := PA.out.k.f.b.size
        have HGT6 : Hid (∀ w6, (w5.drew.alloc (.cells (nEnc q).toArray 119)).grownBy w6 (Value.slice (some ⟨r, 0, none⟩) M c).ownBlock → w6.cell? ⟨g, 0, none⟩ = some (.slice (some ⟨r, 0, none⟩) M c) ∧ w6.frozen? ⟨g, 0, none⟩ = false) := fun w6 h => ⟨(PA.out.grown h).cell 0, (PA.out.grown h).frozen 0⟩
        have HAP : Hid (∀ (w6 : World) (g6 c6 : Nat), w6.ownsRow w0.heap.size 119 4 (.slice (some ⟨g6, 0, none⟩) (M + 1) c6) (M + 1) ((l.take M).flatMap nEnc ++ nEnc q) → (w5.drew.alloc (.cells (nEnc q).toArray 119)).grownBy w6 (Value.slice (some ⟨r, 0, none⟩) M c).ownBlock → Q (.returned (.tuple #[])) (w6.setCell ⟨g, 0, none⟩ (.slice (some ⟨g6, 0, none⟩) (M + 1) c6))) := fun w6 g6 c6 h1 h2 => HRV.out _ (npush_res (PA.out.app h1 h2))
        have ba0 : (w5.alloc (.cells #[.string q.1.sum, .int .i64 q.1.work, .int .i64 q.1.count, .bool q.2] 119)).cell? ⟨g, 0, none⟩ = some (.slice (some ⟨r, 0, none⟩) M c) := (Below.cell ((Below.refl _ w5).alloc (Nat.le_refl _) _) (p := ⟨g, 0, none⟩) P5.out.k.s.lt).trans P5.out.k.outs.1
        clear P5
        obtain ⟨⟨a0, a1, a2⟩, d0, d1, d2, d3⟩ := PX.out.two
        clear PX PA
        go_wp2_with fail
        go_region_law (refine step_append_lies _ rfl (.tmp 56) (.tmp 58) 122 rfl w0.heap.size 119 i0 (.agg #[.string ⟨#[]⟩, .int .i64 0, .int .i64 0, .bool false]) 4 40 Tryz.underlying122 hi hz0 hz1 hz2 rfl (by decide) (.slice (some ⟨r, 0, none⟩) M c) M ((l.take M).flatMap nEnc) (by simp [Act.eval]) HFd.out ⟨w5.heap.size, 0, none⟩ 1 1 (nEnc q) (by simp [Act.eval]) rfl HCN.out hu (by decide) hx1 hx2 HBZ.out _ rfl ?_; intro g6 c6 w6 hown6 hgrow6 hat6 hlt6; clear hat6 hlt6; have K6 : Hid _ := HAP.out w6 g6 c6 hown6 hgrow6; obtain ⟨q6, z6⟩ := HGT6.out w6 hgrow6; clear hown6 hgrow6)
        all_goals
          clear HFd HCN HBZ HGT6 HAP
          go_wp2_with fail
          exact bodyPost_ret (results_none rfl _ _ _) rfl K6.out

end Go.Proofs.YtkajpkfhedfmaaaGreatDoor



set_option linter.unusedVariables false
namespace Go.Proofs.YtkajpkfhedfmaaaGreatDoor
open Go.RowKit Go.Deep

set_option maxHeartbeats 1000000 in
set_option maxRecDepth 100000 in
theorem implCloneP (s : ByteArray) (w : World) (hs : s.size ≤ 281474976710656) :
    Calls Tryz.prog 43 #[.string s] w fun e w' => e = .returned (.string s) ∧ Below w.heap.size w w' := by
  go_enter Tryz.func43, Tryz.ntmps43
  go_wp2_with fail
  refine (Tryz.stringslite_Clone s w hs).mono ?_
  rintro e w1 ⟨rfl, b1⟩
  go_wp2_with fail
  go_ret
  exact ⟨rfl, b1⟩
theorem makeP0 (n : Nat) (hn : n ≤ 1048577) (w : World) : (Instr.makeSlice 31 (.int .i64 0) (.int .i64 (n : Int))).run Tryz.prog w = .ok (.slice (some ⟨w.heap.size, 0, none⟩) 0 n) (w.alloc (.cells (madeCells #[.string ⟨#[]⟩, .int .i64 0, .int .i64 0] (n * 3)) 67)) := by
  obtain ⟨i, hi, hz, hs, hb⟩ := info3 infoPeak
  have hb' : (i.bytes : Int) * (n : Int) ≤ 281474976710656 := by rw [hb]; omega
  have hr := run_make (P := Tryz.prog) w 31 67 i _ Tryz.underlying31 hi hz .i64 .i64 0 (n : Int) (by omega) (by omega) hb' (by omega)
  simp only [Int.toNat_natCast, hs, Value.cells] at hr
  exact hr
theorem StkW.lower {w0 w1 wr : World} {g r c M : Nat} {l : List PeakV} (h : StkW w1 wr g r c M l) (hb : Below w0.heap.size w0 w1) : StkW w0 wr g r c M l := by
  have h1 := (FRow.mono h.frow hb.size).2
  rw [h.len] at h1
  exact ⟨h.s, h1, h.len, hb.trans (h.b.mono hb.size), h.rg, Nat.le_trans hb.size h.lo⟩
theorem Stk.lower {w0 w1 wr : World} {g : Nat} {l : List PeakV} (h : Stk w1 wr g l) (hb : Below w0.heap.size w0 w1) : Stk w0 wr g l := by
  obtain ⟨r, c, M, h⟩ := h
  exact ⟨r, c, M, h.lower hb⟩
theorem Stk.call {w0 wr w' : World} {g : Nat} {l : List PeakV} (h : Stk w0 wr g l) (hb : Below wr.heap.size wr w') : Stk w0 w' g l := by
  obtain ⟨r, c, M, h⟩ := h
  exact ⟨r, c, M, h.call hb⟩
theorem Stk.b {w0 wr : World} {g : Nat} {l : List PeakV} (h : Stk w0 wr g l) : Below w0.heap.size w0 wr := by
  obtain ⟨r, c, M, h⟩ := h
  exact h.b
/-- The stack is new. -/
def StackRes (w : World) (l : List PeakV) (e : Ending) (w' : World) : Prop := ∃ g, e = .returned (.pointer (some ⟨g, 0, none⟩)) ∧ Stk w w' g l
theorem stack_new {w w1 : World} {v : Value} {l : List PeakV} (hR : PRow w.heap.size v l w1) (hb : Below w.heap.size w w1) : StackRes w l (.returned (.pointer (some ⟨w1.heap.size, 0, none⟩))) (w1.alloc (.cells #[v, .func (.func 61) #[] #[], .func (.func 62) #[] #[]] 79)) := by
  obtain ⟨g, c, cur, rfl, h1, h2, _⟩ := hR.block
  have h5 := (FRow.below hR ((Below.refl _ w1).alloc (Nat.le_refl _) (.cells #[.slice (some ⟨g, 0, none⟩) l.length c, .func (.func 61) #[] #[], .func (.func 62) #[] #[]] 79))).2
  exact ⟨_, rfl, g, c, l.length, CBk.new w1 _ _, h5, rfl, hb.alloc hb.size _, by omega, hb.size⟩

set_option maxHeartbeats 4000000 in
set_option maxRecDepth 100000 in
theorem implPeakStackNil (w : World) :
    Calls Tryz.prog 29 #[.slice none 0 0] w fun e w' => StackRes w [] e w' := by
  have hmk : (Instr.makeSlice 31 (.int .i64 0) (.int .i64 1)).run Tryz.prog w = _ := makeP0 1 (by omega) w
  have R0 : Hid (PRow w.heap.size (.slice (some ⟨w.heap.size, 0, none⟩) 0 1) [] (w.alloc (.cells (madeCells #[.string ⟨#[]⟩, .int .i64 0, .int .i64 0] (1 * 3)) 67))) :=
    ⟨⟨_, _, rfl⟩, by simp, .inr ⟨w.heap.size, 1, _, rfl, Nat.le_refl _, heap_alloc_new w _, Nat.zero_le _, by unfold maxLen; omega, by simp [madeCells], by simp⟩⟩
  have B0 : Hid (Below w.heap.size w (w.alloc (.cells (madeCells #[.string ⟨#[]⟩, .int .i64 0, .int .i64 0] (1 * 3)) 67))) := (Below.refl _ w).alloc (Nat.le_refl _) _
  generalize w.alloc (.cells (madeCells #[.string ⟨#[]⟩, .int .i64 0, .int .i64 0] (1 * 3)) 67) = wm at hmk R0 B0
  have HQ : Hid (∀ (w1 : World) (v : Value), PRow w.heap.size v [] w1 → Below w.heap.size w w1 → StackRes w [] (.returned (.pointer (some ⟨w1.heap.size, 0, none⟩))) (w1.alloc (.cells #[v, .func (.func 61) #[] #[], .func (.func 62) #[] #[]] 79))) := fun w1 v h1 h2 => stack_new h1 h2
  generalize StackRes w [] = Q at HQ ⊢
  go_enter Tryz.func29, Tryz.ntmps29
  go_wp2_with fail
  clear hmk
  go_loopw [3, 12] (fun v i wr => v = .slice (some ⟨w.heap.size, 0, none⟩) 0 1 ∧ i = .int .i64 0 ∧ Hid (wr = wm)) (fun _ _ _ => 0)
  case atStart => exact ⟨rfl, rfl, rfl⟩
  case round =>
    obtain ⟨rfl, rfl, HW⟩ := hrel
    go_wp2_with fail
    rw [HW.out]
    exact HQ.out _ _ R0.out B0.out

set_option maxHeartbeats 8000000 in
set_option maxRecDepth 100000 in
theorem implPeakStack (g n cap : Nat) (ps : List PeakV) (w : World) (h : AtP w g ps) (hn : n = ps.length) (hm : n ≤ 1048576) (hz : ∀ i, i < ps.length → (ps.getD i default).sum.size ≤ 281474976710656) :
    Calls Tryz.prog 29 #[.slice (some ⟨g, 0, none⟩) n cap] w fun e w' => StackRes w ps e w' := by
  obtain ⟨i0, hi, hz0, hz1, hz2⟩ := info3 infoPeak
  have hmk : (Instr.makeSlice 31 (.int .i64 0) (.int .i64 ((n : Int) + 1))).run Tryz.prog w = _ := makeP0 (n + 1) (by omega) w
  have HA : Hid (AtP w g ps) := h
  have HN : Hid (n = ps.length) := hn
  have HSZ : Hid (∀ i, i < ps.length → (ps.getD i default).sum.size ≤ 281474976710656) := hz
  have R0 : Hid (PRow w.heap.size (.slice (some ⟨w.heap.size, 0, none⟩) 0 (n + 1)) [] (w.alloc (.cells (madeCells #[.string ⟨#[]⟩, .int .i64 0, .int .i64 0] ((n + 1) * 3)) 67))) :=
    ⟨⟨_, _, rfl⟩, by simp, .inr ⟨w.heap.size, n + 1, _, rfl, Nat.le_refl _, heap_alloc_new w _, Nat.zero_le _, by unfold maxLen; omega, by simp [madeCells], by simp⟩⟩
  have B0 : Hid (Below w.heap.size w (w.alloc (.cells (madeCells #[.string ⟨#[]⟩, .int .i64 0, .int .i64 0] ((n + 1) * 3)) 67))) := (Below.refl _ w).alloc (Nat.le_refl _) _
  generalize (w.alloc (.cells (madeCells #[.string ⟨#[]⟩, .int .i64 0, .int .i64 0] ((n + 1) * 3)) 67)) = wm at hmk R0 B0
  have HQ : Hid (∀ (w1 : World) (v : Value), PRow w.heap.size v (ps.take n) w1 → Below w.heap.size w w1 → StackRes w ps (.returned (.pointer (some ⟨w1.heap.size, 0, none⟩))) (w1.alloc (.cells #[v, .func (.func 61) #[] #[], .func (.func 62) #[] #[]] 79))) := fun w1 v h1 h2 => by
    rw [hn, List.take_length] at h1
    exact stack_new h1 h2
  generalize StackRes w ps = Q at HQ ⊢
  clear h hn hz
  have hw1 : IntKind.i64.wrap ((n : Int) + 1) = (n : Int) + 1 := by rw [IntKind.wrap_i64]; omega
  go_enter Tryz.func29, Tryz.ntmps29
  go_wp2_with fail
  clear hmk hw1
  go_loopw [3, 12] (fun v i wr => ∃ (k g2 c2 : Nat), k ≤ n ∧ i = .int .i64 (k : Int) ∧ v = .slice (some ⟨g2, 0, none⟩) k c2 ∧ Hid (PRow w.heap.size (.slice (some ⟨g2, 0, none⟩) k c2) (ps.take k) wr) ∧ Hid (Below w.heap.size w wr)) (fun _ i _ => n - (intOf i).toNat)
  case atStart => exact ⟨0, w.heap.size, n + 1, by omega, rfl, rfl, R0, B0⟩
  case round =>
    clear R0 B0
    obtain ⟨k, g2, c2, hk, rfl, rfl, R, HB⟩ := hrel
    by_cases hlt : k < n
    · have hkl : k < ps.length := by rw [← HN.out]; exact hlt
      have HAr := HA.out.below HB.out HA.out.1
      have q0 := AtP.c0 HAr k hkl
      have q1 := AtP.c1 HAr k hkl
      have q2 := AtP.c2 HAr k hkl
      have lk : (k : Int) < (n : Int) := by omega
      have lk0 : (0 : Int) ≤ (k : Int) := by omega
      have wk : IntKind.i64.wrap ((k : Int) + 1) = (k : Int) + 1 := by rw [IntKind.wrap_i64]; omega
      have HK1 : Hid (k + 1 ≤ n) := hlt
      have HT : Hid (ps.take (k + 1) = ps.take k ++ [ps.getD k default]) := take_one hkl
      have hcl := fun w' => implCloneP (ps.getD k default).sum w' (HSZ.out k hkl)
      have HLT : Hid ((ps.take k).length = k) := by show _ = _; rw [List.length_take]; omega
      clear hkl HAr
      generalize ps.getD k default = t at q0 q1 q2 hcl HT
      have HG2 : Hid (g2 < wr.heap.size ∧ k ≤ c2) := ⟨(FRow.at pEnc_len R.out).1.1, (FRow.at pEnc_len R.out).2.2.2⟩
      have L0 : Hid (Below wr.heap.size wr (wr.alloc (.cells #[.string t.sum, .int .i64 t.work, .int .i64 t.count] 67))) := (Below.refl _ wr).alloc (Nat.le_refl _) _
      have T0 : Hid (CBk (wr.alloc (.cells #[.string t.sum, .int .i64 t.work, .int .i64 t.count] 67)) wr.heap.size 67 #[.string t.sum, .int .i64 t.work, .int .i64 t.count]) := CBk.new wr _ _
      go_wp2_with fail
      refine (hcl _).mono ?_
      rintro e w2 ⟨rfl, b2⟩
      obtain ⟨gs, hgs⟩ : ∃ gs, gs = wr.heap.size := ⟨_, rfl⟩
      have T2 : Hid (CBk w2 gs 67 #[.string t.sum, .int .i64 t.work, .int .i64 t.count]) := by rw [hgs]; exact T0.out.call b2
      have L2 : Hid (Below wr.heap.size wr w2) := L0.out.trans (b2.mono L0.out.size)
      have B2 : Hid (Below w.heap.size w w2) := HB.out.trans (L2.out.mono HB.out.size)
      have HG : Hid (gs = wr.heap.size) := hgs
      rw [← hgs]
      clear hgs L0 T0 b2 hcl q0 q1 q2
      obtain ⟨d0, d1, d2⟩ := T2.out.cells3
      obtain ⟨f0, f1, f2⟩ := T2.out.free3
      have B3 : Hid (Below w.heap.size w (w2.setCell ⟨gs, 0, none⟩ (.string t.sum))) := B2.out.setCell (p := ⟨gs, 0, none⟩) (by show w.heap.size ≤ gs; rw [HG.out]; exact HB.out.size) _
      have T3 : Hid (CBk (w2.setCell ⟨gs, 0, none⟩ (.string t.sum)) gs 67 #[.string t.sum, .int .i64 t.work, .int .i64 t.count]) := T2.out.set 0 _
      have HOW : Hid ((w2.setCell ⟨gs, 0, none⟩ (.string t.sum)).ownsRow w.heap.size 67 3 (.slice (some ⟨g2, 0, none⟩) k c2) k ((ps.take k).flatMap pEnc)) := by
        have h1 := (FRow.below R.out L2.out).2
        rw [HLT.out] at h1
        exact rowKeep h1 (by rw [HG.out]; have := HG2.out.1; omega)
      have hx1 : k + 1 ≤ maxLen := by unfold maxLen; omega
      have hx2 : (k + 1) * 32 ≤ 140737488355328 := by omega
      have hu := pEnc_one t
      have hsz := B3.out.size
      clear R L2 B2 HB
      clear T2
      go_wp2_with (at_builtin; refine wp_appN rfl _ _ 31 rfl w.heap.size 67 i0 (.agg #[.string ⟨#[]⟩, .int .i64 0, .int .i64 0]) 3 32 1 Tryz.underlying31 hi hz0 hz1 hz2 rfl (by decide) (by decide) _ _ _ rfl HOW.out (pEnc t) (by first | rfl | simp [Act.eval]) rfl hu hx1 hx2 hsz ?_; intro g4 c4 w4 hown4 hb4 hkeep4)
      have R4 : Hid (PRow w.heap.size (.slice (some ⟨g4, 0, none⟩) (k + 1) c4) (ps.take (k + 1)) w4) := by
        rw [HT.out]
        refine FRow.of ?_ ?_
        · rw [List.flatMap_append]
          simpa using hown4
        · rw [List.length_append, HLT.out]; rfl
      have B4 : Hid (Below w.heap.size w w4) := B3.out.trans hb4
      clear hown4 hb4 hkeep4 B3 T3 HOW d0 d1 d2 f0 f1 f2
      go_wp2_with fail
      go_roundw
      case rel => exact ⟨k + 1, g4, c4, HK1.out, by go_num, rfl, R4, B4⟩
      case measure => have := HK1.out; simp [intOf]; omega
    · obtain rfl : k = n := by omega
      go_wp2_with fail
      exact HQ.out _ _ R.out HB.out

end Go.Proofs.YtkajpkfhedfmaaaGreatDoor

set_option linter.unusedVariables false
namespace Go.Proofs.YtkajpkfhedfmaaaGreatDoor
open Go.RowKit Go.Deep

end Go.Proofs.YtkajpkfhedfmaaaGreatDoor

set_option linter.unusedVariables false
namespace Go.Proofs.YtkajpkfhedfmaaaGreatDoor
open Go.RowKit Go.Deep

theorem room_leaf {ps : List PeakV} {h : HeadV} (hk : headOkB h = true) (hc : cntTo ps ps.length ≤ 20) : Room ps ps.length (leafP h) := by
  refine ⟨fine_ok (fine_leaf hk) (by show (1 : Int) ≤ 20; decide), ?_⟩
  show (1 : Int) + _ ≤ 21
  omega
end Go.Proofs.YtkajpkfhedfmaaaGreatDoor

