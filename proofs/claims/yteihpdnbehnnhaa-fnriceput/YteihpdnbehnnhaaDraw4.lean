/-
  What the specification draws for RicePut.
-/
import Derived.Test.YteihpdnbehnnhaaDraw3
set_option linter.unusedVariables false
namespace Go.Proofs.Yteihpdnbehnnhaa
open Go.RowKit

def bits7 : List Int := [0, 2, 5, 5, 8, 9, -1]
set_option maxHeartbeats 1000000 in
set_option maxRecDepth 100000 in
theorem drawRicePut (a : Option Addr) (len cap : Nat) (zs : List Int) (w : World) (h : IsRow .u8 w a len cap zs) :
    Calls Try.prog 17 #[.slice a len cap] w fun e w' => ∃ (g n c : Nat) (ns : List Int) (k : Int), e = .returned (.tuple #[.slice (some ⟨g, 0, none⟩) n c, .int .i64 k]) ∧ At w' g ns ∧ n = ns.length ∧ n ≤ 21 ∧ Below w.heap.size w w' := by
  go_enter Try.func17, Try.ntmps17
  go_wp2_with fail
  refine (open_walk a len cap zs _ h).mono ?_
  rintro e w1 ⟨rfl, hr, b1, hs1⟩
  have hlt1 := hr.lt
  clear hs1
  go_wp2_with fail
  refine (drawNumbers w.heap.size w.heap.size 0 _ hr (by omega)).mono ?_
  rintro e w2 ⟨v, ns, q, rfl, hz, hl, hq, hr2, b2⟩
  obtain ⟨g, c, rfl⟩ := hz.1
  have hlt2 := hr2.lt
  have HAT : Hid (At w2 g ns) := hz.at.1
  have HGE : Hid (w1.heap.size ≤ g) := by obtain ⟨g', _, _, hv, h1, _⟩ := hz.block; cases hv; exact h1
  have HB : Hid (Below w.heap.size w w2) := b1.trans b2
  have HL : Hid (ns.length ≤ 21) := hl
  obtain ⟨nl, hnl⟩ : ∃ nl, nl = ns.length := ⟨_, rfl⟩
  have HNL : Hid (nl = ns.length) := hnl
  rw [← hnl]
  clear b1 b2 hr hz hl hnl
  have hbk := heap_alloc_new w2 (.cells (bits7.map (Value.int .i64)).toArray 3)
  have hone := one_walk w.heap.size w.heap.size q w2.heap.size 7 7 bits7 _ (hr2.keep ((Below.refl _ w2).alloc (by omega) _)) (by omega) (by omega) (by omega) (cells_ints hbk rfl 7 (by decide)) (by omega)
  clear hbk hr2
  go_wp2_with fail
  refine hone.mono ?_
  rintro e w3 ⟨y, hy, rfl, hr3, ho3⟩
  generalize bits7.getD y 0 = k
  have HB3 : Hid (Below w.heap.size w w3) := (HB.out.alloc (by omega) _).trans (ho3.below (Nat.le_refl _))
  have HAT3 : Hid (At w3 g ns) := by
    refine ⟨by rw [ho3.size]; simp; have := HAT.out.1; omega, fun i hi => ?_⟩
    rw [World.cell?_of_block (w := w2) (a := ⟨g, i, none⟩) ((ho3.block g (by have := HGE.out; omega)).trans (Below.heap_alloc _ _ _ HAT.out.1))]
    exact HAT.out.2 i hi
  clear ho3 hr3 hone
  go_wp2_with fail
  go_ret2
  exact ⟨g, nl, c, ns, k, rfl, HAT3.out, HNL.out, by rw [HNL.out]; exact HL.out, HB3.out⟩

end Go.Proofs.Yteihpdnbehnnhaa
