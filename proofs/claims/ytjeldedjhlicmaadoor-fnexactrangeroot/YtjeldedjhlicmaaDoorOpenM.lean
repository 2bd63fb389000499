/-
  A slice of structs as it is handed in, element by element.
-/
import Derived.Test.YtjeldedjhlicmaaDoorFlatM
import Derived.ChangeArms
import Derived.WideShapes
import Derived.OpenShut
import Derived.Deep.Slices
import Derived.DataReads
set_option linter.unusedVariables false
namespace Go.Proofs.YtjeldedjhlicmaaDoor
open Go.RowKit Go.Deep

section
variable {α : Type} [Inhabited α]
/-- A slice of elements of k cells each. -/
def IsFlat (en : α → List Value) (wf : α → Prop) (k : Nat) (w : World) (a : Option Addr) (len cap : Nat) (l : List α) : Prop :=
  (a = none ∧ len = 0 ∧ cap = 0 ∧ l = []) ∨ ∃ x : Addr, a = some x ∧ len ≤ cap ∧ cap ≤ maxLen ∧ l.length = len ∧ (∀ i j, i < len → j < k → w.cell? ((x.add (i * k)).add j) = (en (l.getD i default))[j]?) ∧ ∀ i, i < len → wf (l.getD i default)
theorem IsFlat.len {en : α → List Value} {wf : α → Prop} {k : Nat} {w : World} {a : Option Addr} {len cap : Nat} {l : List α} (h : IsFlat en wf k w a len cap l) : l.length = len := by
  rcases h with ⟨_, h1, _, h2⟩ | ⟨x, _, _, _, h1, _⟩
  · rw [h1, h2]; rfl
  · exact h1
theorem IsFlat.max {en : α → List Value} {wf : α → Prop} {k : Nat} {w : World} {a : Option Addr} {len cap : Nat} {l : List α} (h : IsFlat en wf k w a len cap l) : len ≤ maxLen := by
  rcases h with ⟨_, h1, _, h2⟩ | ⟨x, _, h1, h2, _⟩
  · omega
  · omega
theorem cell_lt {w : World} {x : Addr} {v : Value} (h : w.cell? x = some v) : x.block < w.heap.size := by
  rcases Nat.lt_or_ge x.block w.heap.size with h' | h'
  · exact h'
  · exfalso
    unfold World.cell? at h
    simp [Array.getElem?_eq_none h'] at h
theorem add_block (x : Addr) (n : Nat) : (x.add n).block = x.block := by unfold Addr.add; split <;> rfl
theorem IsFlat.at {en : α → List Value} {wf : α → Prop} {k : Nat} (hk : ∀ a, (en a).length = k) {w w' : World} {a : Option Addr} {len cap : Nat} {l : List α} (h : IsFlat en wf k w a len cap l) (hb : Below w.heap.size w w') (i : Nat) (hi : i < len) :
    ∃ x : Addr, a = some x ∧ (∀ j, j < k → w'.cell? ((x.add (i * k)).add j) = (en (l.getD i default))[j]?) ∧ wf (l.getD i default) := by
  rcases h with ⟨_, h1, _, _⟩ | ⟨x, hx, _, _, _, h2, h3⟩
  · omega
  · refine ⟨x, hx, fun j hj => ?_, h3 i hi⟩
    have := h2 i j hi hj
    rw [← this]
    have hs : ∃ v, w.cell? ((x.add (i * k)).add j) = some v := by
      rw [this]
      exact ⟨_, List.getElem?_eq_getElem (by rw [hk]; exact hj)⟩
    obtain ⟨v, hv⟩ := hs
    exact hb.cell (cell_lt hv)
theorem open_flat {P : Program} {H : Type} {enc : TypeId × Value → H} {W : World} {base : Nat} {sp : Nat → Bool} {held : Bool} {t e : TypeId} {k : Nat} {a : Option Addr} {len cap : Nat} {d : DataW H} {p : List MemPlace}
    (en : α → List Value) (wf : α → Prop) (ht : P.underlying t = some (.slice e)) (hk : P.cellsOf e = k)
    (inv : ∀ n cs y, DataW.trod enc P W base sp held n e cs = some y → cs.length = k → ∃ v : α, cs = en v ∧ wf v)
    (h : DataW.Trod enc P W base sp held t (.slice a len cap) d p) : ∃ l : List α, IsFlat en wf k W a len cap l := by
  obtain ⟨fuel, hf⟩ := h
  rcases open_slice ht hf with ⟨hcs, _⟩ | ⟨x, l, c, m, n, D, Pl, hcs, _, hl, hm, hmm, _, hel⟩
  · simp [Value.cells] at hcs
    obtain ⟨rfl, rfl, rfl⟩ := hcs
    exact ⟨[], .inl ⟨rfl, rfl, rfl, rfl⟩⟩
  · simp [Value.cells] at hcs
    obtain ⟨rfl, rfl, rfl⟩ := hcs
    have hlm : len ≤ m := by rw [hmm]; split <;> omega
    have each : ∀ i : Nat, ∃ v : α, i < len → (∀ j, j < k → W.cell? ((x.add (i * k)).add j) = (en v)[j]?) ∧ wf v := by
      intro i
      by_cases hi : i < len
      · obtain ⟨cs', h1, h2⟩ := hel i (by omega)
        rw [hk] at h1
        obtain ⟨_, h3, h4⟩ := World.cells?_some h1
        obtain ⟨v, rfl, hv⟩ := inv _ _ _ h2 h3
        exact ⟨v, fun _ => ⟨h4, hv⟩⟩
      · exact ⟨default, fun h => absurd h hi⟩
    obtain ⟨f, hf⟩ := Classical.axiomOfChoice each
    have hg : ∀ i, i < len → ((List.range len).map f).getD i default = f i := by
      intro i hi
      simp [List.getD_eq_getElem?_getD, hi]
    refine ⟨(List.range len).map f, .inr ⟨x, rfl, hl, hm, by simp, fun i j hi hj => ?_, fun i hi => ?_⟩⟩
    · rw [hg i hi]
      exact (hf i hi).1 j hj
    · rw [hg i hi]
      exact (hf i hi).2
end

end Go.Proofs.YtjeldedjhlicmaaDoor
