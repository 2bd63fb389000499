/-
  At every bytes the law that all places of an item are found and each can be proved, as they are drawn from them, is true. The package variables that the row lists are as the program's text lays them.
-/
import Derived.Test.YtkajpkfhedfmaaaGreatDoorPart1
import Derived.Test.YtkajpkfhedfmaaaGreatDoorPart2
import Derived.Test.YtkajpkfhedfmaaaGreatDoorPart3
import Derived.Test.YtkajpkfhedfmaaaGreatDoorPart4
import Derived.Test.YtkajpkfhedfmaaaGreatDoorPart5
import Derived.Test.YtkajpkfhedfmaaaGreatDoorPart6
import Derived.Test.YtkajpkfhedfmaaaGreatDoorPart7
import Derived.Test.YtkajpkfhedfmaaaGreatDoorPart8
import Derived.Test.YtkajpkfhedfmaaaGreatDoorPart9
import Derived.Test.YtkajpkfhedfmaaaGreatDoorPart10
import Derived.Test.YtkajpkfhedfmaaaGreatDoorPart11
import Derived.Test.YtkajpkfhedfmaaaGreatDoorPart12
import Derived.Test.YtkajpkfhedfmaaaGreatDoorPart13
import Derived.Test.YtkajpkfhedfmaaaGreatDoorPart14
import Derived.Test.YtkajpkfhedfmaaaGreatDoorPart15
import Derived.Test.YtkajpkfhedfmaaaGreatDoorPart16
import Derived.Deep.Cut
import Derived.BigRegion
import Derived.Test.YtkajpkfhedfmaaaGreatDoorCards
import Derived.Test.YtkajpkfhedfmaaaGreatDoorTie
import Derived.WalkKit
import Derived.ProofKit
import Derived.OpenShut
import Derived.ShutString
import Derived.ChangeOld
import Derived.ChangeVars
import Derived.Below
import Derived.Carry
import Derived.Deep.DeepHandedRow
import Derived.Lib.LaidTab
set_option linter.unusedVariables false
namespace Go.Proofs.YtkajpkfhedfmaaaGreatDoor
open Go.RowKit Go.Deep

theorem CBk.nineZ {w : World} {g : Nat} {T : TypeId} {cs : Array Value} (h : CBk w g T cs) : w.frozen? ⟨g, 0, none⟩ = false ∧ w.frozen? ⟨g, 1, none⟩ = false ∧ w.frozen? ⟨g, 2, none⟩ = false ∧ w.frozen? ⟨g, 3, none⟩ = false ∧ w.frozen? ⟨g, 4, none⟩ = false ∧ w.frozen? ⟨g, 5, none⟩ = false ∧ w.frozen? ⟨g, 6, none⟩ = false ∧ w.frozen? ⟨g, 7, none⟩ = false ∧ w.frozen? ⟨g, 8, none⟩ = false :=
  ⟨h.frozen 0, h.frozen 1, h.frozen 2, h.frozen 3, h.frozen 4, h.frozen 5, h.frozen 6, h.frozen 7, h.frozen 8⟩
theorem set9_blk {w : World} {g6 : Nat} {T : TypeId} {y0 y1 y2 y3 y4 y5 y6 y7 y8 : Value} (h : CBk w g6 T #[y0, y1, y2, y3, y4, y5, y6, y7, y8]) (x0 x1 x2 x3 x4 x5 x6 x7 x8 : Value) : CBk (((((((((w.setCell ⟨g6, 0, none⟩ x0).setCell ⟨g6, 1, none⟩ x1).setCell ⟨g6, 2, none⟩ x2).setCell ⟨g6, 3, none⟩ x3).setCell ⟨g6, 4, none⟩ x4).setCell ⟨g6, 5, none⟩ x5).setCell ⟨g6, 6, none⟩ x6).setCell ⟨g6, 7, none⟩ x7).setCell ⟨g6, 8, none⟩ x8) g6 T #[x0, x1, x2, x3, x4, x5, x6, x7, x8] := by
  have h0 : CBk (w.setCell ⟨g6, 0, none⟩ x0) g6 T #[x0, y1, y2, y3, y4, y5, y6, y7, y8] := CBk.set (g := g6) (T := T) (cs := #[y0, y1, y2, y3, y4, y5, y6, y7, y8]) h 0 x0
  have h1 : CBk ((w.setCell ⟨g6, 0, none⟩ x0).setCell ⟨g6, 1, none⟩ x1) g6 T #[x0, x1, y2, y3, y4, y5, y6, y7, y8] := CBk.set (g := g6) (T := T) (cs := #[x0, y1, y2, y3, y4, y5, y6, y7, y8]) h0 1 x1
  have h2 : CBk (((w.setCell ⟨g6, 0, none⟩ x0).setCell ⟨g6, 1, none⟩ x1).setCell ⟨g6, 2, none⟩ x2) g6 T #[x0, x1, x2, y3, y4, y5, y6, y7, y8] := CBk.set (g := g6) (T := T) (cs := #[x0, x1, y2, y3, y4, y5, y6, y7, y8]) h1 2 x2
  have h3 : CBk ((((w.setCell ⟨g6, 0, none⟩ x0).setCell ⟨g6, 1, none⟩ x1).setCell ⟨g6, 2, none⟩ x2).setCell ⟨g6, 3, none⟩ x3) g6 T #[x0, x1, x2, x3, y4, y5, y6, y7, y8] := CBk.set (g := g6) (T := T) (cs := #[x0, x1, x2, y3, y4, y5, y6, y7, y8]) h2 3 x3
  have h4 : CBk (((((w.setCell ⟨g6, 0, none⟩ x0).setCell ⟨g6, 1, none⟩ x1).setCell ⟨g6, 2, none⟩ x2).setCell ⟨g6, 3, none⟩ x3).setCell ⟨g6, 4, none⟩ x4) g6 T #[x0, x1, x2, x3, x4, y5, y6, y7, y8] := CBk.set (g := g6) (T := T) (cs := #[x0, x1, x2, x3, y4, y5, y6, y7, y8]) h3 4 x4
  have h5 : CBk ((((((w.setCell ⟨g6, 0, none⟩ x0).setCell ⟨g6, 1, none⟩ x1).setCell ⟨g6, 2, none⟩ x2).setCell ⟨g6, 3, none⟩ x3).setCell ⟨g6, 4, none⟩ x4).setCell ⟨g6, 5, none⟩ x5) g6 T #[x0, x1, x2, x3, x4, x5, y6, y7, y8] := CBk.set (g := g6) (T := T) (cs := #[x0, x1, x2, x3, x4, y5, y6, y7, y8]) h4 5 x5
  have h6 : CBk (((((((w.setCell ⟨g6, 0, none⟩ x0).setCell ⟨g6, 1, none⟩ x1).setCell ⟨g6, 2, none⟩ x2).setCell ⟨g6, 3, none⟩ x3).setCell ⟨g6, 4, none⟩ x4).setCell ⟨g6, 5, none⟩ x5).setCell ⟨g6, 6, none⟩ x6) g6 T #[x0, x1, x2, x3, x4, x5, x6, y7, y8] := CBk.set (g := g6) (T := T) (cs := #[x0, x1, x2, x3, x4, x5, y6, y7, y8]) h5 6 x6
  have h7 : CBk ((((((((w.setCell ⟨g6, 0, none⟩ x0).setCell ⟨g6, 1, none⟩ x1).setCell ⟨g6, 2, none⟩ x2).setCell ⟨g6, 3, none⟩ x3).setCell ⟨g6, 4, none⟩ x4).setCell ⟨g6, 5, none⟩ x5).setCell ⟨g6, 6, none⟩ x6).setCell ⟨g6, 7, none⟩ x7) g6 T #[x0, x1, x2, x3, x4, x5, x6, x7, y8] := CBk.set (g := g6) (T := T) (cs := #[x0, x1, x2, x3, x4, x5, x6, y7, y8]) h6 7 x7
  have h8 : CBk (((((((((w.setCell ⟨g6, 0, none⟩ x0).setCell ⟨g6, 1, none⟩ x1).setCell ⟨g6, 2, none⟩ x2).setCell ⟨g6, 3, none⟩ x3).setCell ⟨g6, 4, none⟩ x4).setCell ⟨g6, 5, none⟩ x5).setCell ⟨g6, 6, none⟩ x6).setCell ⟨g6, 7, none⟩ x7).setCell ⟨g6, 8, none⟩ x8) g6 T #[x0, x1, x2, x3, x4, x5, x6, x7, x8] := CBk.set (g := g6) (T := T) (cs := #[x0, x1, x2, x3, x4, x5, x6, x7, y8]) h7 8 x8
  exact h8
theorem set9_other {w : World} {g g6 : Nat} (h : g ≠ g6) (x0 x1 x2 x3 x4 x5 x6 x7 x8 : Value) : (((((((((w.setCell ⟨g6, 0, none⟩ x0).setCell ⟨g6, 1, none⟩ x1).setCell ⟨g6, 2, none⟩ x2).setCell ⟨g6, 3, none⟩ x3).setCell ⟨g6, 4, none⟩ x4).setCell ⟨g6, 5, none⟩ x5).setCell ⟨g6, 6, none⟩ x6).setCell ⟨g6, 7, none⟩ x7).setCell ⟨g6, 8, none⟩ x8).heap[g]? = w.heap[g]? := by
  simp [World.setCell, Array.getElem?_modify, Ne.symm h]
theorem set9_size {w : World} {g6 : Nat} (x0 x1 x2 x3 x4 x5 x6 x7 x8 : Value) : w.heap.size = (((((((((w.setCell ⟨g6, 0, none⟩ x0).setCell ⟨g6, 1, none⟩ x1).setCell ⟨g6, 2, none⟩ x2).setCell ⟨g6, 3, none⟩ x3).setCell ⟨g6, 4, none⟩ x4).setCell ⟨g6, 5, none⟩ x5).setCell ⟨g6, 6, none⟩ x6).setCell ⟨g6, 7, none⟩ x7).setCell ⟨g6, 8, none⟩ x8).heap.size := by
  simp [World.setCell]
theorem set9_below {w0 w : World} {g6 : Nat} (hb : Below w0.heap.size w0 w) (hg : w0.heap.size ≤ g6) (x0 x1 x2 x3 x4 x5 x6 x7 x8 : Value) : Below w0.heap.size w0 (((((((((w.setCell ⟨g6, 0, none⟩ x0).setCell ⟨g6, 1, none⟩ x1).setCell ⟨g6, 2, none⟩ x2).setCell ⟨g6, 3, none⟩ x3).setCell ⟨g6, 4, none⟩ x4).setCell ⟨g6, 5, none⟩ x5).setCell ⟨g6, 6, none⟩ x6).setCell ⟨g6, 7, none⟩ x7).setCell ⟨g6, 8, none⟩ x8) :=
  ((((((((hb.setCell (p := ⟨g6, 0, none⟩) hg x0).setCell (p := ⟨g6, 1, none⟩) hg x1).setCell (p := ⟨g6, 2, none⟩) hg x2).setCell (p := ⟨g6, 3, none⟩) hg x3).setCell (p := ⟨g6, 4, none⟩) hg x4).setCell (p := ⟨g6, 5, none⟩) hg x5).setCell (p := ⟨g6, 6, none⟩) hg x6).setCell (p := ⟨g6, 7, none⟩) hg x7).setCell (p := ⟨g6, 8, none⟩) hg x8
/-- What is to be shown of the nine cells of the answer. -/
def Pd9 (w : World) (v : PdV) (dis : Prop) (e : Ending) (w' : World) : Prop := PdPost w.heap.size v w e w' ∧ (dis → Dis3 v e)
theorem pd_zero {w w' : World} {dis : Prop} (hb : Below w.heap.size w w') : Pd9 w zeroPd dis (.returned (.agg #[.int .i64 0, .string ⟨#[]⟩, .string ⟨#[]⟩, .int .i64 0, .int .i64 0, .int .i64 0, .slice none 0 0, .slice none 0 0, .slice none 0 0])) w' := by
  refine ⟨⟨.slice none 0 0, .slice none 0 0, .slice none 0 0, rfl, .inl ⟨rfl, rfl⟩, .inl ⟨rfl, rfl⟩, .inl ⟨rfl, rfl⟩, hb⟩, fun _ vp vs vd b he => ?_⟩
  simp only [pdCells, zeroPd, Ending.returned.injEq, Value.agg.injEq, Array.mk.injEq, List.cons.injEq, and_true, true_and] at he
  obtain ⟨rfl, rfl, rfl⟩ := he
  exact ⟨fun h => absurd h (by simp [blkOf]), fun h => absurd h (by simp [blkOf])⟩
theorem pd_fin {w w5 : World} {g6 : Nat} {v : PdV} {vp vs vd : Value} {dis : Prop} {B : Nat} (hp : Pks B vp v.pk w5) (hs : Pks B vs v.st w5) (hd : Sds B vd v.sd w5) (hB : g6 < B) (hg : w.heap.size ≤ g6) (hb : Below w.heap.size w w5) (hdis : dis → ∀ b, blkOf vp b → ¬ blkOf vs b) (x0 x1 x2 x3 x4 x5 x6 x7 x8 : Value) : Pd9 w v dis (.returned (.agg (pdCells v vp vs vd))) (((((((((w5.setCell ⟨g6, 0, none⟩ x0).setCell ⟨g6, 1, none⟩ x1).setCell ⟨g6, 2, none⟩ x2).setCell ⟨g6, 3, none⟩ x3).setCell ⟨g6, 4, none⟩ x4).setCell ⟨g6, 5, none⟩ x5).setCell ⟨g6, 6, none⟩ x6).setCell ⟨g6, 7, none⟩ x7).setCell ⟨g6, 8, none⟩ x8) := by
  have hk : ∀ b, B ≤ b → (((((((((w5.setCell ⟨g6, 0, none⟩ x0).setCell ⟨g6, 1, none⟩ x1).setCell ⟨g6, 2, none⟩ x2).setCell ⟨g6, 3, none⟩ x3).setCell ⟨g6, 4, none⟩ x4).setCell ⟨g6, 5, none⟩ x5).setCell ⟨g6, 6, none⟩ x6).setCell ⟨g6, 7, none⟩ x7).setCell ⟨g6, 8, none⟩ x8).heap[b]? = w5.heap[b]? := fun b hb => set9_other (by omega) x0 x1 x2 x3 x4 x5 x6 x7 x8
  have hsz : w5.heap.size ≤ (((((((((w5.setCell ⟨g6, 0, none⟩ x0).setCell ⟨g6, 1, none⟩ x1).setCell ⟨g6, 2, none⟩ x2).setCell ⟨g6, 3, none⟩ x3).setCell ⟨g6, 4, none⟩ x4).setCell ⟨g6, 5, none⟩ x5).setCell ⟨g6, 6, none⟩ x6).setCell ⟨g6, 7, none⟩ x7).setCell ⟨g6, 8, none⟩ x8).heap.size := Nat.le_of_eq (set9_size x0 x1 x2 x3 x4 x5 x6 x7 x8)
  have hp' := (hp.keep hsz (fun b hb => hk b (hp.blk hb).2)).mono (C := w.heap.size) (by omega)
  have hs' := (hs.keep hsz (fun b hb => hk b (hs.blk hb).2)).mono (C := w.heap.size) (by omega)
  have hd' := (hd.keep hsz (fun b hb => hk b (hd.blk hb).2)).mono (C := w.heap.size) (by omega)
  refine ⟨⟨vp, vs, vd, rfl, hp', hs', hd', set9_below hb hg x0 x1 x2 x3 x4 x5 x6 x7 x8⟩, fun hdd vp' vs' vd' b he => ?_⟩
  simp only [pdCells, Ending.returned.injEq, Value.agg.injEq, Array.mk.injEq, List.cons.injEq, and_true, true_and] at he
  obtain ⟨rfl, rfl, rfl⟩ := he
  exact ⟨fun h => ⟨hdis hdd b h, sd_pk hp hd b h⟩, fun h => sd_pk hs hd b h⟩
set_option maxHeartbeats 8000000 in
set_option maxRecDepth 100000 in
theorem implPaidOfNo (g n cap : Nat) (bs : List BlkV) (x y : Int) (w : World) (h : BlksS g n cap bs w) (hc : ¬ inPd (ptsOf bs) x y) (hK : RowG w shaK) (hP : TabP w) (hE : ErrT w) :
    Calls Tryz.prog 13 #[.slice (some ⟨g, 0, none⟩) n cap, .int .i64 x, .int .i64 y] w fun e w' => Pd9 w zeroPd True e w' := by
  have L0 : Hid (Below w.heap.size w (w.alloc (.cells #[.int .i64 0, .string ⟨#[]⟩, .string ⟨#[]⟩, .int .i64 0, .int .i64 0, .int .i64 0, .slice none 0 0, .slice none 0 0, .slice none 0 0] 47))) := (Below.refl _ w).alloc (Nat.le_refl _) _
  have hok := implChainOk g n cap bs _ (h.b.below L0.out) (hK.below L0.out hK.lt) (TabP.below hP L0.out (Nat.le_refl _)) (hE.below L0.out hE.lt)
  have T0 : Hid (CBk (w.alloc (.cells #[.int .i64 0, .string ⟨#[]⟩, .string ⟨#[]⟩, .int .i64 0, .int .i64 0, .int .i64 0, .slice none 0 0, .slice none 0 0, .slice none 0 0] 47)) w.heap.size 47 #[.int .i64 0, .string ⟨#[]⟩, .string ⟨#[]⟩, .int .i64 0, .int .i64 0, .int .i64 0, .slice none 0 0, .slice none 0 0, .slice none 0 0]) := CBk.new w _ _
  have HN : Hid (n = bs.length ∧ n ≤ 1048576) := ⟨h.b.len, h.b.max⟩
  have HA : Hid (AtBlk w g bs) := h.b.at_
  have HIT : Hid (∀ k, k < bs.length → (bs.getD k default).n = (bs.getD k default).ss.length) := fun k hk => (h.b.items _ (blk_mem hk)).2
  have HC : Hid (okP (ptsOf bs) = true → ∀ X : Nat, x = (X : Int) → X < n → ¬ y < 0 → ¬ y < ((bs.getD X default).n : Int)) := fun h1 X h2 h3 h4 h5 => hc ⟨h1, ⟨by omega, by rw [pd_len]; have := h.b.len; omega⟩, by omega, by
    have hX : X < bs.length := by have := h.b.len; omega
    have e1 : x.toNat = X := by omega
    rw [e1, pd_at hX]
    show y < ((bs.getD X default).ss.length : Int)
    rw [← (h.b.items _ (blk_mem hX)).2]
    exact h5⟩
  have HQ : Hid (∀ w', Below w.heap.size w w' → Pd9 w zeroPd True (.returned (.agg #[.int .i64 0, .string ⟨#[]⟩, .string ⟨#[]⟩, .int .i64 0, .int .i64 0, .int .i64 0, .slice none 0 0, .slice none 0 0, .slice none 0 0])) w') := fun w' hb => pd_zero hb
  generalize Pd9 w zeroPd True = Q at HQ ⊢
  obtain ⟨g6, hg6⟩ : ∃ g6, g6 = w.heap.size := ⟨_, rfl⟩
  have HG6 : Hid (w.heap.size ≤ g6) := Nat.le_of_eq hg6.symm
  clear h hc hK hP hE
  go_enter Tryz.func13, Tryz.ntmps13
  go_wp2_with fail
  rw [← hg6] at T0 ⊢
  clear hg6
  refine hok.mono ?_
  rintro e w1 ⟨rfl, b1⟩
  have B1 : Hid (Below w.heap.size w w1) := L0.out.trans (b1.mono L0.out.size)
  have T1 : Hid (CBk w1 g6 47 #[.int .i64 0, .string ⟨#[]⟩, .string ⟨#[]⟩, .int .i64 0, .int .i64 0, .int .i64 0, .slice none 0 0, .slice none 0 0, .slice none 0 0]) := T0.out.call b1
  have TE : Hid (CBk (((((((((w1.setCell ⟨g6, 0, none⟩ (.int .i64 0)).setCell ⟨g6, 1, none⟩ (.string ⟨#[]⟩)).setCell ⟨g6, 2, none⟩ (.string ⟨#[]⟩)).setCell ⟨g6, 3, none⟩ (.int .i64 0)).setCell ⟨g6, 4, none⟩ (.int .i64 0)).setCell ⟨g6, 5, none⟩ (.int .i64 0)).setCell ⟨g6, 6, none⟩ (.slice none 0 0)).setCell ⟨g6, 7, none⟩ (.slice none 0 0)).setCell ⟨g6, 8, none⟩ (.slice none 0 0)) g6 47 #[.int .i64 0, .string ⟨#[]⟩, .string ⟨#[]⟩, .int .i64 0, .int .i64 0, .int .i64 0, .slice none 0 0, .slice none 0 0, .slice none 0 0]) := set9_blk T1.out (.int .i64 0) (.string ⟨#[]⟩) (.string ⟨#[]⟩) (.int .i64 0) (.int .i64 0) (.int .i64 0) (.slice none 0 0) (.slice none 0 0) (.slice none 0 0)
  have HQF : Hid (Q (.returned (.agg #[.int .i64 0, .string ⟨#[]⟩, .string ⟨#[]⟩, .int .i64 0, .int .i64 0, .int .i64 0, .slice none 0 0, .slice none 0 0, .slice none 0 0])) (((((((((w1.setCell ⟨g6, 0, none⟩ (.int .i64 0)).setCell ⟨g6, 1, none⟩ (.string ⟨#[]⟩)).setCell ⟨g6, 2, none⟩ (.string ⟨#[]⟩)).setCell ⟨g6, 3, none⟩ (.int .i64 0)).setCell ⟨g6, 4, none⟩ (.int .i64 0)).setCell ⟨g6, 5, none⟩ (.int .i64 0)).setCell ⟨g6, 6, none⟩ (.slice none 0 0)).setCell ⟨g6, 7, none⟩ (.slice none 0 0)).setCell ⟨g6, 8, none⟩ (.slice none 0 0))) := HQ.out _ (set9_below B1.out HG6.out (.int .i64 0) (.string ⟨#[]⟩) (.string ⟨#[]⟩) (.int .i64 0) (.int .i64 0) (.int .i64 0) (.slice none 0 0) (.slice none 0 0) (.slice none 0 0))
  obtain ⟨e0, e1, e2, e3, e4, e5, e6, e7, e8⟩ := T1.out.nineP
  obtain ⟨f0, f1, f2, f3, f4, f5, f6, f7, f8⟩ := T1.out.nineZ
  clear hok b1 T0 L0 HQ T1
  cases hokk : okP (ptsOf bs) with
  | false =>
    clear HC
    go_wp2_with fail
    exact bodyPost_ret (results_cell_row (p := 6) rfl _ _ g6 47 #[.int .i64 0, .string ⟨#[]⟩, .string ⟨#[]⟩, .int .i64 0, .int .i64 0, .int .i64 0, .slice none 0 0, .slice none 0 0, .slice none 0 0] (0, 0) _ rfl TE.out Tryz.underlying47 rfl (by kernel_rfl)) rfl HQF.out
  | true =>
    have HC1 : Hid (∀ X : Nat, x = (X : Int) → X < n → ¬ y < 0 → ¬ y < ((bs.getD X default).n : Int)) := fun X h1 h2 h3 => by have h4 := HC.out hokk X h1 h2 (by omega); omega
    clear HC hokk
    by_cases hx : x < 0
    · clear HC1
      go_wp2_with fail
      exact bodyPost_ret (results_cell_row (p := 6) rfl _ _ g6 47 #[.int .i64 0, .string ⟨#[]⟩, .string ⟨#[]⟩, .int .i64 0, .int .i64 0, .int .i64 0, .slice none 0 0, .slice none 0 0, .slice none 0 0] (0, 0) _ rfl TE.out Tryz.underlying47 rfl (by kernel_rfl)) rfl HQF.out
    · obtain ⟨X, hX⟩ : ∃ X : Nat, x = (X : Int) := ⟨x.toNat, by omega⟩
      subst hX
      by_cases hxn : X < n
      · by_cases hy : y < 0
        · have lx1 : (X : Int) < (n : Int) := by omega
          have hx3 : ¬ n ≤ X := by omega
          clear HC1
          go_wp2_with fail
          exact bodyPost_ret (results_cell_row (p := 6) rfl _ _ g6 47 #[.int .i64 0, .string ⟨#[]⟩, .string ⟨#[]⟩, .int .i64 0, .int .i64 0, .int .i64 0, .slice none 0 0, .slice none 0 0, .slice none 0 0] (0, 0) _ rfl TE.out Tryz.underlying47 rfl (by kernel_rfl)) rfl HQF.out
        · have hy2 := HC1.out X rfl hxn (by omega)
          have hXl : X < bs.length := by rw [← HN.out.1]; exact hxn
          have c5 := AtBlk.c5 (HA.out.below B1.out HA.out.1) X hXl
          have lx1 : (X : Int) < (n : Int) := by omega
          have lx0 : (0 : Int) ≤ (X : Int) := by omega
          have hx3 : ¬ n ≤ X := by omega
          generalize bs.getD X default = bb at c5 hy2
          clear HC1 HIT hXl
          go_wp2_with fail
          exact bodyPost_ret (results_cell_row (p := 6) rfl _ _ g6 47 #[.int .i64 0, .string ⟨#[]⟩, .string ⟨#[]⟩, .int .i64 0, .int .i64 0, .int .i64 0, .slice none 0 0, .slice none 0 0, .slice none 0 0] (0, 0) _ rfl TE.out Tryz.underlying47 rfl (by kernel_rfl)) rfl HQF.out
      · have lx1 : ¬ (X : Int) < (n : Int) := by omega
        have hx3 : n ≤ X := by omega
        clear HC1
        go_wp2_with fail
        exact bodyPost_ret (results_cell_row (p := 6) rfl _ _ g6 47 #[.int .i64 0, .string ⟨#[]⟩, .string ⟨#[]⟩, .int .i64 0, .int .i64 0, .int .i64 0, .slice none 0 0, .slice none 0 0, .slice none 0 0] (0, 0) _ rfl TE.out Tryz.underlying47 rfl (by kernel_rfl)) rfl HQF.out
end Go.Proofs.YtkajpkfhedfmaaaGreatDoor

set_option linter.unusedVariables false
namespace Go.Proofs.YtkajpkfhedfmaaaGreatDoor
open Go.RowKit Go.Deep

theorem addR_ne : ∀ (r : List PeakV) (p : PeakV), addR r p ≠ []
  | [], p => by simp [addR]
  | x :: r, p => by
    unfold addR
    split
    · exact addR_ne r _
    · simp
theorem ofP_ne (l : List HeadV) {k : Nat} (h : 0 < k) : ofP l k ≠ [] := by
  obtain ⟨j, rfl⟩ : ∃ j, k = j + 1 := ⟨k - 1, by omega⟩
  rw [ofP, addP]
  intro he
  exact addR_ne _ _ (List.reverse_eq_nil_iff.1 he)
theorem SdE.of {B : Nat} {w : World} {sa : Option Addr} {n c : Nat} {ps : List SideV} (h : Sds B (.slice sa n c) ps w) : SdE w sa n ps ∧ n = ps.length := by
  rcases h with ⟨hv, rfl⟩ | ⟨g, c2, hv, ha, _⟩
  · simp only [Value.slice.injEq] at hv
    exact ⟨fun k hk => absurd hk (by omega), hv.2.1⟩
  · simp only [Value.slice.injEq] at hv
    exact ⟨fun k hk => ⟨g, hv.1, ha⟩, hv.2.1⟩
theorem Pks.slice {B : Nat} {v : Value} {l : List PeakV} {w : World} (h : Pks B v l w) : ∃ a n c, v = .slice a n c := by
  rcases h with ⟨rfl, _⟩ | ⟨g, c, rfl, _⟩
  · exact ⟨_, _, _, rfl⟩
  · exact ⟨_, _, _, rfl⟩
theorem Sds.slice {B : Nat} {v : Value} {l : List SideV} {w : World} (h : Sds B v l w) : ∃ a n c, v = .slice a n c := by
  rcases h with ⟨rfl, _⟩ | ⟨g, c, rfl, _⟩
  · exact ⟨_, _, _, rfl⟩
  · exact ⟨_, _, _, rfl⟩
/-- The root of the range of the heads of blocks. -/
def rootOfL (ps : List (HeadV × List ByteArray)) : ByteArray := ⟨(rangeRoot (ofP (ps.map (·.1)) ps.length)).toArray⟩
theorem check_of {ps : List (HeadV × List ByteArray)} {X Y : Nat} {w0 w1 : World} {e : Ending} (hin : inPd ps (X : Int) (Y : Int)) (hp : Pd9 w0 (paidOfL ps (X : Int) (Y : Int)) True e w1) :
    ∃ v, e = .returned v ∧ Below w0.heap.size w0 w1 ∧ ∀ w2, Below w1.heap.size w1 w2 → RowG w2 shaK → TabP w2 → Calls Tryz.prog 12 #[.string (rootOfL ps), .string ((ps.getD X default).2.getD Y ByteArray.empty), v] w2 fun e w3 => e = .returned (.bool true) ∧ Below w2.heap.size w2 w3 := by
  have hck := paid_ok hin
  obtain ⟨⟨vp, vs, vd, rfl, h1, h2, h3, hb⟩, _⟩ := hp
  refine ⟨_, rfl, hb, fun w2 b2 hK hP => ?_⟩
  obtain ⟨hhs, his⟩ := inPd_facts hin
  have h20 := heads_len hhs
  rw [List.length_map] at h20
  have hX : X < ps.length := by have := hin.2.1.2; omega
  have hpk : (paidOfL ps (X : Int) (Y : Int)).pk ≠ [] ∧ (paidOfL ps (X : Int) (Y : Int)).pk.length ≤ 20 := by
    rw [paidOfL_yes hin]
    exact ⟨ofP_ne _ (by omega), by have := ofP_len_le (ps.map (·.1)) ps.length; show (ofP _ _).length ≤ 20; omega⟩
  have hst : (paidOfL ps (X : Int) (Y : Int)).st.length ≤ 1048576 := by
    rw [paidOfL_yes hin]
    have := notes_len (l := ps.map (·.1)) (heads_at hhs) (heads_len hhs) X ps.length (by rw [List.length_map]; exact Nat.le_refl _)
    show (notesN _ _ _).length ≤ _
    omega
  have ha : (paidOfL ps (X : Int) (Y : Int)).a = (X : Int) := by rw [paidOfL_yes hin]
  have hsd : (paidOfL ps (X : Int) (Y : Int)).sd.length ≤ 8 := by
    rw [paidB, rootCheckB, Bool.and_eq_true, Bool.and_eq_true, Bool.and_eq_true, sidesOkB, Bool.and_eq_true, decide_eq_true_eq] at hck
    exact hck.2.2.1.1
  generalize paidOfL ps (X : Int) (Y : Int) = V at h1 h2 h3 hck hpk hst ha hsd ⊢
  generalize (ps.getD X default).2.getD Y ByteArray.empty = item at hck ⊢
  obtain ⟨sa, sn, sc, rfl⟩ := h2.slice
  obtain ⟨da, dn, dc, rfl⟩ := h3.slice
  obtain ⟨hds, hdn⟩ := SdE.of (h3)
  obtain ⟨_, hsn⟩ := StE.of h2
  rcases h1.below b2 with ⟨_, hn⟩ | ⟨pg, pc, rfl, hat, _⟩
  · exact absurd hn hpk.1
  · have hc := implPaidCheckG V.a V.h pg V.pk.length pc V.pk sa sn sc V.st da dn dc V.sd (rootOfL ps) item w2 (by rw [ha]; omega) ⟨hat, rfl, by omega, (h2.below b2).mono (Nat.zero_le _), hsn, by omega⟩ (hds.below b2) hdn (by omega) hK hP
    rw [ha] at hc
    rw [rootOfL] at hc ⊢
    rw [hck] at hc
    unfold paidG at hc
    unfold pdCells
    rw [ha]
    exact hc

end Go.Proofs.YtkajpkfhedfmaaaGreatDoor

set_option linter.unusedVariables false
namespace Go.Proofs.YtkajpkfhedfmaaaGreatDoor
open Go.RowKit Go.Deep

theorem fieldsHit : (Tryz.prog.fieldsOf 41).toList.map (fun f => (f.name != "_", f.type, f.offset)) = [(true, 3, 0), (true, 9, 1)] := by kernel_rfl
theorem eqHitT : Tryz.prog.underlying 41 = some (.struct (Tryz.prog.fieldsOf 41)) := by kernel_rfl
theorem eqHitS : Tryz.prog.stoodInHeld 41 = false := by kernel_rfl
theorem eqHitG : Tryz.prog.eqGuardType Tryz.prog.depth 41 = false := by kernel_rfl
def sameHitB (p q : HitV) : Bool := (p.pos == q.pos) && (p.text.toList == q.text.toList)
theorem sameHitB_self (p : HitV) : sameHitB p p = true := by simp [sameHitB]
theorem runSameHit (p q : HitV) (w : World) : (Op.equalIn 10000 41 (.agg #[.int .i64 p.pos, .string p.text]) (.agg #[.int .i64 q.pos, .string q.text])).run Tryz.prog w = .ok (sameHitB p q) w := by
  rw [run_equalIn_struct w 9999 _ _ _ eqHitT eqHitS]
  have hf := fieldsHit
  generalize (Tryz.prog.fieldsOf 41).toList = fs at hf
  rcases fs with _ | ⟨f0, _ | ⟨f1, _ | ⟨f2, fs⟩⟩⟩
  all_goals try (simp at hf; done)
  simp only [List.map_cons, List.map_nil, List.cons.injEq, Prod.mk.injEq, and_true] at hf
  obtain ⟨⟨n0, t0, o0⟩, n1, t1, o1⟩ := hf
  refine eqStep n0 t0 o0 (by kernel_rfl) (by kernel_rfl) (run_equalIn_int w 9998 _ .i64 _ _ _ Tryz.underlying3) ?_
  have h4 := eqStep (d := 9999) (xs := #[.int .i64 p.pos, .string p.text]) (ys := #[.int .i64 q.pos, .string q.text]) (fs := []) (w := w) (P := Tryz.prog) (r2 := true) n1 t1 o1 (by kernel_rfl) (by kernel_rfl) (run_equalIn_string w 9998 _ p.text q.text Tryz.underlying9) (by simp [Op.eqFields])
  rw [Bool.and_true] at h4
  exact h4

theorem coHits0 (a b : Option Addr) (ca cb : Nat) (w : World) : Calls Tryz.prog 6 #[.slice a 0 ca, .slice b 0 cb] w fun e w' => e = .returned (.bool true) ∧ Below w.heap.size w w' := by
  go_enter Tryz.func6, Tryz.ntmps6
  go_wp2_with fail
  go_loopw [5] (fun i wr => i = .int .i64 0 ∧ Hid (wr = w)) (fun _ _ => 0)
  case atStart => exact ⟨rfl, rfl⟩
  case round =>
    obtain ⟨rfl, HW⟩ := hrel
    go_wp2_with fail
    go_ret
    exact ⟨rfl, by rw [HW.out]; exact Below.refl _ _⟩

set_option maxHeartbeats 2000000 in
set_option maxRecDepth 100000 in
theorem coHitsSame (g1 c1 g2 c2 n : Nat) (l : List HitV) (w : World) (h1 : AtHit w g1 l) (h2 : AtHit w g2 l) (hn : n = l.length) (hm : n ≤ 1099511627776) :
    Calls Tryz.prog 6 #[.slice (some ⟨g1, 0, none⟩) n c1, .slice (some ⟨g2, 0, none⟩) n c2] w fun e w' => e = .returned (.bool true) ∧ Below w.heap.size w w' := by
  have H1 : Hid (AtHit w g1 l) := h1
  have H2 : Hid (AtHit w g2 l) := h2
  have HN : Hid (n = l.length) := hn
  clear h1 h2 hn
  go_enter Tryz.func6, Tryz.ntmps6
  go_wp2_with fail
  go_loopw [5] (fun i wr => ∃ k : Nat, k ≤ n ∧ i = .int .i64 (k : Int) ∧ Hid (Below w.heap.size w wr)) (fun i _ => n - (intOf i).toNat)
  case atStart => exact ⟨0, by omega, rfl, Below.refl _ _⟩
  case round =>
    obtain ⟨k, hk, rfl, HB⟩ := hrel
    by_cases hlt : k < n
    · have hkl : k < l.length := by rw [← HN.out]; exact hlt
      have HA1 : Hid (AtHit wr g1 l) := H1.out.below HB.out H1.out.1
      have HA2 : Hid (AtHit wr g2 l) := H2.out.below HB.out H2.out.1
      have a0 := AtHit.c0 HA1.out k hkl
      have a1 := AtHit.c1 HA1.out k hkl
      have b0 := AtHit.c0 HA2.out k hkl
      have b1 := AtHit.c1 HA2.out k hkl
      have lk0 : (0 : Int) ≤ (k : Int) := by omega
      have lk1 : (k : Int) < (n : Int) := by omega
      have HK1 : Hid (k + 1 ≤ n) := hlt
      have wk : IntKind.i64.wrap ((k : Int) + 1) = (k : Int) + 1 := by rw [IntKind.wrap_i64]; omega
      generalize l.getD k default = p at a0 a1 b0 b1
      have hse := runSameHit p p
      rw [sameHitB_self] at hse
      have hgd := eqHitG
      clear hkl HA1 HA2
      go_wp2_with fail
      go_big_region
      go_wp2_with fail
      go_roundw
      case rel => exact ⟨k + 1, HK1.out, by go_num, HB.out.drew⟩
      case measure => have := HK1.out; simp [intOf]; omega
    · obtain rfl : k = n := by omega
      go_wp2_with fail
      go_ret
      exact ⟨rfl, HB.out⟩
theorem coHts {B C : Nat} {u v : Value} {l : List HitV} {w : World} (h1 : HtRow B u l w) (h2 : HtRow C v l w) (hm : l.length ≤ 1099511627776) : Calls Tryz.prog 6 #[u, v] w fun e w' => e = .returned (.bool true) ∧ Below w.heap.size w w' := by
  rcases h1.forms with ⟨rfl, hl⟩ | ⟨g1, c1, rfl, hB, hg, hc⟩
  · subst hl
    rcases h2.forms with ⟨rfl, _⟩ | ⟨g2, c2, rfl, _, _, _⟩
    · exact coHits0 _ _ _ _ w
    · exact coHits0 _ _ _ _ w
  · rcases h2.forms with ⟨rfl, hl⟩ | ⟨g2, c2, rfl, _, _, _⟩
    · subst hl
      exact coHits0 _ _ _ _ w
    · exact coHitsSame g1 c1 g2 c2 l.length l w h1.at h2.at rfl hm

end Go.Proofs.YtkajpkfhedfmaaaGreatDoor

set_option linter.unusedVariables false
namespace Go.Proofs.YtkajpkfhedfmaaaGreatDoor
open Go.RowKit Go.Deep

set_option maxHeartbeats 2000000 in
set_option maxRecDepth 100000 in
theorem lawCoHeads (g n cap : Nat) (bs : List BlkV) (w : World) (h : AtBlk w g bs) (hn : n = bs.length) (hm : n ≤ 1048576) :
    Calls Tryz.prog 11 #[.slice (some ⟨g, 0, none⟩) n cap] w fun e w' => ∃ v, e = .returned v ∧ HRow w.heap.size v (bs.map (·.h)) w' ∧ Below w.heap.size w w' := by
  obtain ⟨i0, hi, hz0, hz1, hz2⟩ := info3 infoHead
  have HA : Hid (AtBlk w g bs) := h
  have HN : Hid (n = bs.length) := hn
  have HE : Hid (bs.map (·.h) = (bs.take n).map (·.h)) := by show _ = _; rw [hn, List.take_length]
  have R0 : Hid (HRow w.heap.size (.slice (some ⟨w.heap.size, 0, none⟩) 0 0) [] (w.alloc (.cells #[] 36))) := frow_new _ _ _ w
  have B0 : Hid (Below w.heap.size w (w.alloc (.cells #[] 36))) := (Below.refl _ w).alloc (Nat.le_refl _) _
  clear h hn
  go_enter Tryz.func11, Tryz.ntmps11
  go_wp2_with fail
  go_loopw [3, 4] (fun v i wr => ∃ k g2 c2 : Nat, k ≤ n ∧ i = .int .i64 (k : Int) ∧ v = .slice (some ⟨g2, 0, none⟩) k c2 ∧ Hid (HRow w.heap.size v ((bs.take k).map (·.h)) wr) ∧ Hid (Below w.heap.size w wr)) (fun _ i _ => n - (intOf i).toNat)
  case atStart => exact ⟨0, w.heap.size, 0, by omega, rfl, rfl, R0, B0⟩
  case round =>
    clear R0 B0
    obtain ⟨k, g2, c2, hk, rfl, rfl, R, HB⟩ := hrel
    by_cases hlt : k < n
    · have hkl : k < bs.length := by rw [← HN.out]; exact hlt
      have HAr : Hid (AtBlk wr g bs) := HA.out.below HB.out HA.out.1
      have q0 := AtBlk.c0 HAr.out k hkl
      have q1 := AtBlk.c1 HAr.out k hkl
      have q2 := AtBlk.c2 HAr.out k hkl
      have q3 := AtBlk.c3 HAr.out k hkl
      have q4 := AtBlk.c4 HAr.out k hkl
      have lk : (k : Int) < (n : Int) := by omega
      have lk0 : (0 : Int) ≤ (k : Int) := by omega
      have wk : IntKind.i64.wrap ((k : Int) + 1) = (k : Int) + 1 := by rw [IntKind.wrap_i64]; omega
      have HK : Hid (k + 1 ≤ n) := hlt
      have HL : Hid ((bs.take k).length = k) := by show _ = _; rw [List.length_take]; omega
      have HT : Hid ((bs.take (k + 1)).map (·.h) = (bs.take k).map (·.h) ++ [(bs.getD k default).h]) := take_map hkl
      have HOW : Hid (wr.ownsRow w.heap.size 36 5 (.slice (some ⟨g2, 0, none⟩) k c2) k (((bs.take k).map (·.h)).flatMap enHead)) := by
        have := R.out.2
        rw [List.length_map, HL.out] at this
        exact this
      have hsz := HB.out.size
      generalize (bs.getD k default).h = p at q0 q1 q2 q3 q4 HT
      have hu := enHead_one p
      have hx1 : k + 1 ≤ maxLen := by unfold maxLen; omega
      have hx2 : (k + 1) * 56 ≤ 140737488355328 := by omega
      clear hkl R
      go_wp2_with (at_builtin; refine wp_appN rfl _ _ 33 rfl w.heap.size 36 i0 (.agg #[.string ⟨#[]⟩, .string ⟨#[]⟩, .int .i64 0, .int .i64 0, .int .i64 0]) 5 56 1 Tryz.underlying33 hi hz0 hz1 hz2 rfl (by decide) (by decide) _ _ _ rfl HOW.out (enHead p) rfl rfl hu hx1 hx2 hsz ?_; intro g4 c4 w4 hown4 hb4 hkeep4)
      have R4 : Hid (HRow w.heap.size (.slice (some ⟨g4, 0, none⟩) (k + 1) c4) ((bs.take (k + 1)).map (·.h)) w4) := by
        refine FRow.of ?_ ?_
        · rw [HT.out, List.flatMap_append]
          simpa using hown4
        · rw [HT.out, List.length_append, List.length_map, HL.out]; rfl
      have B4 : Hid (Below w.heap.size w w4) := HB.out.trans hb4
      clear hown4 hb4 hkeep4
      go_wp2_with fail
      go_roundw
      case rel => exact ⟨k + 1, g4, c4, HK.out, by go_num, rfl, R4, B4⟩
      case measure => have := HK.out; simp [intOf]; omega
    · obtain rfl : k = n := by omega
      go_wp2_with fail
      go_ret
      exact ⟨_, rfl, by rw [HE.out]; exact R.out, HB.out⟩

end Go.Proofs.YtkajpkfhedfmaaaGreatDoor

set_option linter.unusedVariables false
namespace Go.Proofs.YtkajpkfhedfmaaaGreatDoor
open Go.RowKit Go.Deep

def RowPost (l : List HeadV) (w : World) (e : Ending) (w' : World) : Prop := ∃ v, e = .returned v ∧ (headsB l = true → PRow w.heap.size v (ofP l l.length) w') ∧ Below w.heap.size w w'
theorem row_no {l : List HeadV} {w w' : World} (h : headsB l = false) (hb : Below w.heap.size w w') : RowPost l w (.returned (.slice none 0 0)) w' := ⟨_, rfl, fun h2 => absurd h2 (by rw [h]; decide), hb⟩
theorem row_yes {l : List HeadV} {w w' : World} {v : Value} (hr : PRow w.heap.size v (ofP l l.length) w') (hb : Below w.heap.size w w') : RowPost l w (.returned v) w' := ⟨_, rfl, fun _ => hr, hb⟩

set_option maxHeartbeats 4000000 in
set_option maxRecDepth 100000 in
theorem implRangeOfRow (g n cap : Nat) (l : List HeadV) (w : World) (hA : AtHead w g l) (hn : n = l.length) (hm : n ≤ 1048576) (hK : RowG w shaK) (hP : TabP w) :
    Calls Tryz.prog 10 #[.slice (some ⟨g, 0, none⟩) n cap] w fun e w' => RowPost l w e w' := by
  have hhs := implRangeHeadsOk g n cap l w hA hn hm
  have HA : Hid (AtHead w g l) := hA
  have HN : Hid (n = l.length) := hn
  have HNO : Hid (∀ w', headsB l = false → Below w.heap.size w w' → RowPost l w (.returned (.slice none 0 0)) w') := fun w' h1 h2 => row_no h1 h2
  have HYES : Hid (∀ w' v, headsB l = true → PRow w.heap.size v (ofP l n) w' → Below w.heap.size w w' → RowPost l w (.returned v) w') := fun w' v h1 h2 h3 => row_yes (by rw [← hn]; exact h2) h3
  generalize RowPost l w = Q at HNO HYES ⊢
  cases hk : headsB l with
  | false =>
    have HV : Hid (∀ w', Below w.heap.size w w' → Q (.returned (.slice none 0 0)) w') := fun w' h => HNO.out w' hk h
    rw [hk] at hhs
    clear HNO HYES hA hn hK hP
    go_enter Tryz.func10, Tryz.ntmps10
    go_wp2_with fail
    refine hhs.mono ?_
    rintro e w1 ⟨rfl, b1⟩
    go_wp2_with fail
    exact HV.out _ b1
  | true =>
  have HV : Hid (∀ w' v, PRow w.heap.size v (ofP l n) w' → Below w.heap.size w w' → Q (.returned v) w') := fun w' v h2 h3 => HYES.out w' v hk h2 h3
  have HM : Hid (n ≤ 20) := by show _ ≤ _; have := heads_len hk; omega
  have HPU : Hid (∀ k, k < n → ∀ (w' : World) (g4 : Nat), Stk w w' g4 (ofP l k) → Calls Tryz.prog 30 #[.pointer (some ⟨g4, 0, none⟩), peakVal (leafP (l.getD k default))] w' fun e w'' => PushRes w g4 (ofP l (k + 1)) e w'') := fun k hkn w' g4 hs => by
    obtain ⟨h1, h2, h3⟩ := ofP_ok (heads_at hk) (heads_len hk) k (by omega)
    have hh := heads_at hk k (by omega)
    exact implPush w g4 (ofP l k) _ w' hs (by have := heads_len hk; omega) (fun i hi => getD_all (C := fun q => peakOkB q = true) h1 i hi) (room_leaf hh (by rw [h2]; have := heads_len hk; omega)) hK hP
  have HPH : Hid (∀ k, k < n → ∀ (w' : World), Below w.heap.size w w' → Calls Tryz.prog 31 #[headVal (l.getD k default)] w' fun e w'' => e = .returned (peakVal (leafP (l.getD k default))) ∧ Below w'.heap.size w' w'') := fun k hkn w' hb => implPeakHead _ w' (heads_at hk k (by omega)) (hK.below hb hK.lt) (TabP.below hP hb (Nat.le_refl _))
  rw [hk] at hhs
  clear HNO HYES hA hn hK hP hk
  unfold headVal at HPH
  unfold peakVal at HPH HPU
  go_enter Tryz.func10, Tryz.ntmps10
  go_wp2_with fail
  refine hhs.mono ?_
  rintro e w1 ⟨rfl, b1⟩
  have B1 : Hid (Below w.heap.size w w1) := b1
  clear b1 hhs
  go_wp2_with fail
  refine Calls.mono (implPeakStackNil w1) ?_
  rintro e w2 ⟨g4, rfl, hs2⟩
  have S2 : Hid (Stk w w2 g4 (ofP l 0)) := hs2.lower B1.out
  clear hs2 B1
  go_wp2_with fail
  go_loopw [12] (fun i wr => ∃ k : Nat, k ≤ n ∧ i = .int .i64 (k : Int) ∧ Hid (Stk w wr g4 (ofP l k))) (fun i _ => n - (intOf i).toNat)
  case atStart => exact ⟨0, by omega, rfl, S2⟩
  case round =>
    clear S2
    obtain ⟨k, hk, rfl, SK⟩ := hrel
    by_cases hlt : k < n
    · have hkl : k < l.length := by rw [← HN.out]; exact hlt
      have HAr := HA.out.below SK.out.b HA.out.1
      have c0 := AtHead.c0 HAr k hkl
      have c1 := AtHead.c1 HAr k hkl
      have c2 := AtHead.c2 HAr k hkl
      have c3 := AtHead.c3 HAr k hkl
      have c4 := AtHead.c4 HAr k hkl
      have lk : (k : Int) < (n : Int) := by omega
      have lk0 : (0 : Int) ≤ (k : Int) := by omega
      have wk : IntKind.i64.wrap ((k : Int) + 1) = (k : Int) + 1 := by have := HM.out; rw [IntKind.wrap_i64]; omega
      have HK1 : Hid (k + 1 ≤ n) := hlt
      have HPUk := HPU.out k hlt
      have HPHk := HPH.out k hlt
      have HPUk : Hid _ := HPUk
      have HPHk : Hid _ := HPHk
      clear hkl HAr
      generalize leafP (l.getD k default) = p at HPUk HPHk
      generalize l.getD k default = h at c0 c1 c2 c3 c4 HPHk
      have L0 : Hid (Below wr.heap.size wr (wr.alloc (.cells #[.string h.prev, .string h.root, .int .i64 h.time, .int .i64 h.diff, .int .i64 h.nonce] 36))) := (Below.refl _ wr).alloc (Nat.le_refl _) _
      have SA : Hid (Stk w (wr.alloc (.cells #[.string h.prev, .string h.root, .int .i64 h.time, .int .i64 h.diff, .int .i64 h.nonce] 36)) g4 (ofP l k)) := SK.out.call L0.out
      have hph := HPHk.out _ SA.out.b
      clear SK HPHk
      go_wp2_with fail
      refine hph.mono ?_
      rintro e w3 ⟨rfl, b3⟩
      have S3 : Hid (Stk w w3 g4 (ofP l k)) := SA.out.call b3
      have hpu := HPUk.out _ _ S3.out
      clear SA b3 hph HPUk c0 c1 c2 c3 c4 L0
      go_wp2_with fail
      refine Calls.mono hpu ?_
      rintro e w4 ⟨rfl, hs4⟩
      have S4 : Hid (Stk w w4 g4 (ofP l (k + 1))) := hs4
      clear hs4 hpu S3
      go_wp2_with fail
      go_roundw
      case rel => exact ⟨k + 1, HK1.out, by go_num, S4⟩
      case measure => have := HK1.out; simp [intOf]; omega
    · obtain rfl : k = n := by omega
      obtain ⟨r, c, M, hw⟩ := id SK.out
      have SW : Hid (StkW w wr g4 r c M (ofP l k)) := hw
      clear hw SK HPU HPH
      obtain ⟨a0, a1, a2⟩ := SW.out.outs
      go_wp2_with fail
      exact HV.out _ _ SW.out.frow SW.out.b

end Go.Proofs.YtkajpkfhedfmaaaGreatDoor

set_option linter.unusedVariables false
namespace Go.Proofs.YtkajpkfhedfmaaaGreatDoor
open Go.RowKit Go.Deep

set_option maxHeartbeats 8000000 in
set_option maxRecDepth 100000 in
theorem implPaidOfYes (g n cap : Nat) (bs : List BlkV) (X Y : Nat) (w : World) (h0 : BlksS g n cap bs w) (hin : inPd (ptsOf bs) (X : Int) (Y : Int)) (hK : RowG w shaK) (hP : TabP w) (hE : ErrT w) :
    Calls Tryz.prog 13 #[.slice (some ⟨g, 0, none⟩) n cap, .int .i64 (X : Int), .int .i64 (Y : Int)] w fun e w' => Pd9 w (paidOfL (ptsOf bs) (X : Int) (Y : Int)) True e w' := by
  have hXn : X < n := by have h1 := hin.2.1.2; rw [pd_len] at h1; have h2 := h0.b.len; omega
  have hXl : X < bs.length := by have h2 := h0.b.len; omega
  obtain ⟨hhs, hits⟩ := inPd_facts hin
  rw [pts_heads] at hhs
  have hio : itemsOkB (bs.getD X default).ss = true := hits _ (List.mem_map.2 ⟨_, blk_mem hXl, rfl⟩)
  have hbn : (bs.getD X default).n = (bs.getD X default).ss.length := (h0.b.items _ (blk_mem hXl)).2
  have hYn : Y < (bs.getD X default).n := by
    have h1 := hin.2.2.2
    rw [show ((X : Int)).toNat = X from rfl, pd_at hXl] at h1
    have h2 : (Y : Int) < ((bs.getD X default).ss.length : Int) := h1
    omega
  have hhl : (bs.map (·.h)).length = n := by rw [List.length_map]; exact h0.b.len.symm
  have hho := heads_at hhs X (by omega)
  have hgd : (bs.map (·.h)).getD X default = (bs.getD X default).h := by
    simp [List.getD_eq_getElem?_getD, List.getElem?_eq_getElem hXl]
  rw [hgd] at hho
  have hv : paidOfL (ptsOf bs) (X : Int) (Y : Int) = ⟨(X : Int), (bs.getD X default).h, (proofL (bs.map (·.h)) (X : Int)).1, (proofL (bs.map (·.h)) (X : Int)).2, rproofL (bs.getD X default).ss (Y : Int)⟩ := by
    rw [paidOfL_yes hin, pd_at hXl, pts_heads, pd_len, proofL, if_pos ⟨hhs, by omega, by omega⟩, rproof_yes hio (by omega), hhl, h0.b.len]
    rfl
  rw [hv]
  have L0 : Hid (Below w.heap.size w (w.alloc (.cells #[.int .i64 0, .string ⟨#[]⟩, .string ⟨#[]⟩, .int .i64 0, .int .i64 0, .int .i64 0, .slice none 0 0, .slice none 0 0, .slice none 0 0] 47))) := (Below.refl _ w).alloc (Nat.le_refl _) _
  have hok := implChainOk g n cap bs _ (h0.b.below L0.out) (hK.below L0.out hK.lt) (TabP.below hP L0.out (Nat.le_refl _)) (hE.below L0.out hE.lt)
  rw [hin.1] at hok
  have T0 : Hid (CBk (w.alloc (.cells #[.int .i64 0, .string ⟨#[]⟩, .string ⟨#[]⟩, .int .i64 0, .int .i64 0, .int .i64 0, .slice none 0 0, .slice none 0 0, .slice none 0 0] 47)) w.heap.size 47 #[.int .i64 0, .string ⟨#[]⟩, .string ⟨#[]⟩, .int .i64 0, .int .i64 0, .int .i64 0, .slice none 0 0, .slice none 0 0, .slice none 0 0]) := CBk.new w _ _
  have HAT : Hid (AtBlk w g bs) := h0.b.at_
  have HBH : Hid (∀ w', Below w.heap.size w w' → Calls Tryz.prog 21 #[.slice (some ⟨g, 0, none⟩) n cap] w' fun e w'' => ∃ v, e = .returned v ∧ HRow w'.heap.size v (bs.map (·.h)) w'' ∧ Below w'.heap.size w' w'') := fun w' hb => implBlockHeads g n cap bs w' (h0.b.at_.below hb h0.b.at_.1) h0.b.len h0.b.max
  have HRP : Hid (∀ (g3 c3 : Nat) (w' : World), Below w.heap.size w w' → (∃ B, HRow B (.slice (some ⟨g3, 0, none⟩) (bs.map (·.h)).length c3) (bs.map (·.h)) w') → Calls Tryz.prog 35 #[.slice (some ⟨g3, 0, none⟩) (bs.map (·.h)).length c3, .int .i64 (X : Int)] w' fun e w'' => PrfPost (bs.map (·.h)) (X : Int) w' e w'' ∧ Dis e) := fun g3 c3 w' hb hr => by
    obtain ⟨B, hr⟩ := hr
    exact implRangeProof g3 _ c3 (bs.map (·.h)) (X : Int) w' (FRow.at enHead_len hr).1 rfl (by rw [hhl]; exact h0.b.max) (hK.below hb hK.lt) (TabP.below hP hb (Nat.le_refl _))
  have HRT : Hid (∀ w', Below w.heap.size w w' → Calls Tryz.prog 36 #[.slice (some ⟨(bs.getD X default).g, 0, none⟩) (bs.getD X default).n (bs.getD X default).cap, .int .i64 (Y : Int)] w' fun e w'' => RpPost (bs.getD X default).ss (Y : Int) w' e w'') := fun w' hb => by
    have h1 := (h0.b.items _ (blk_mem hXl)).1
    exact implRootProof _ _ _ (bs.getD X default).ss (Y : Int) w' (h1.below hb h1.1) hbn (hK.below hb hK.lt)
  unfold PrfPost at HRP
  unfold RpPost at HRT
  have HHC : Hid (∀ w', Calls Tryz.prog 34 #[headVal (bs.getD X default).h] w' fun e w'' => e = .returned (headVal (bs.getD X default).h) ∧ Below w'.heap.size w' w'') := fun w' => implHeadCopy _ w' (by have h1 := sum_size (headOk_in hho).1; omega) (by have h1 := sum_size (headOk_in hho).2.1; omega)
  unfold headVal at HHC
  have hyn2 : (Y : Int) < ((bs.getD X default).n : Int) := by omega
  have HQ : Hid (∀ (w5 : World) (g6 : Nat) (vp vs vd : Value) (x0 x1 x2 x3 x4 x5 x6 x7 x8 : Value), Pks (g6 + 1) vp (proofL (bs.map (·.h)) (X : Int)).1 w5 → Pks (g6 + 1) vs (proofL (bs.map (·.h)) (X : Int)).2 w5 → Sds (g6 + 1) vd (rproofL (bs.getD X default).ss (Y : Int)) w5 → w.heap.size ≤ g6 → Below w.heap.size w w5 → (∀ b, blkOf vp b → ¬ blkOf vs b) → Pd9 w ⟨(X : Int), (bs.getD X default).h, (proofL (bs.map (·.h)) (X : Int)).1, (proofL (bs.map (·.h)) (X : Int)).2, rproofL (bs.getD X default).ss (Y : Int)⟩ True (.returned (.agg #[.int .i64 (X : Int), .string (bs.getD X default).h.prev, .string (bs.getD X default).h.root, .int .i64 (bs.getD X default).h.time, .int .i64 (bs.getD X default).h.diff, .int .i64 (bs.getD X default).h.nonce, vp, vs, vd])) (((((((((w5.setCell ⟨g6, 0, none⟩ x0).setCell ⟨g6, 1, none⟩ x1).setCell ⟨g6, 2, none⟩ x2).setCell ⟨g6, 3, none⟩ x3).setCell ⟨g6, 4, none⟩ x4).setCell ⟨g6, 5, none⟩ x5).setCell ⟨g6, 6, none⟩ x6).setCell ⟨g6, 7, none⟩ x7).setCell ⟨g6, 8, none⟩ x8)) := fun w5 g6 vp vs vd x0 x1 x2 x3 x4 x5 x6 x7 x8 h1 h2 h3 h4 h5 h6 => pd_fin (v := ⟨(X : Int), (bs.getD X default).h, (proofL (bs.map (·.h)) (X : Int)).1, (proofL (bs.map (·.h)) (X : Int)).2, rproofL (bs.getD X default).ss (Y : Int)⟩) h1 h2 h3 (Nat.lt_succ_self _) h4 h5 (fun _ => h6) x0 x1 x2 x3 x4 x5 x6 x7 x8
  generalize Pd9 w ⟨(X : Int), (bs.getD X default).h, (proofL (bs.map (·.h)) (X : Int)).1, (proofL (bs.map (·.h)) (X : Int)).2, rproofL (bs.getD X default).ss (Y : Int)⟩ True = Q at HQ ⊢
  generalize (proofL (bs.map (·.h)) (X : Int)).1 = PK at HRP HQ
  generalize (proofL (bs.map (·.h)) (X : Int)).2 = STP at HRP HQ
  generalize rproofL (bs.getD X default).ss (Y : Int) = SD at HRT HQ
  have HCW : Hid (∀ w' : World, w'.heap[g]? = w.heap[g]? → (w'.cell? ⟨g, X * 6, none⟩ = some (.string (bs.getD X default).h.prev) ∧ w'.cell? ⟨g, X * 6 + 1, none⟩ = some (.string (bs.getD X default).h.root) ∧ w'.cell? ⟨g, X * 6 + 2, none⟩ = some (.int .i64 (bs.getD X default).h.time) ∧ w'.cell? ⟨g, X * 6 + 3, none⟩ = some (.int .i64 (bs.getD X default).h.diff) ∧ w'.cell? ⟨g, X * 6 + 4, none⟩ = some (.int .i64 (bs.getD X default).h.nonce) ∧ w'.cell? ⟨g, X * 6 + 5, none⟩ = some (.slice (some ⟨(bs.getD X default).g, 0, none⟩) (bs.getD X default).n (bs.getD X default).cap))) := fun w' hw => by
    have h1 := h0.b.at_
    exact ⟨(World.cell?_of_block (a := ⟨g, X * 6, none⟩) hw).trans (AtBlk.c0 h1 X hXl), (World.cell?_of_block (a := ⟨g, X * 6 + 1, none⟩) hw).trans (AtBlk.c1 h1 X hXl), (World.cell?_of_block (a := ⟨g, X * 6 + 2, none⟩) hw).trans (AtBlk.c2 h1 X hXl), (World.cell?_of_block (a := ⟨g, X * 6 + 3, none⟩) hw).trans (AtBlk.c3 h1 X hXl), (World.cell?_of_block (a := ⟨g, X * 6 + 4, none⟩) hw).trans (AtBlk.c4 h1 X hXl), (World.cell?_of_block (a := ⟨g, X * 6 + 5, none⟩) hw).trans (AtBlk.c5 h1 X hXl)⟩
  have HGW : Hid (g < w.heap.size) := h0.b.at_.1
  obtain ⟨g6, hg6⟩ : ∃ g6, g6 = w.heap.size := ⟨_, rfl⟩
  have HG6 : Hid (w.heap.size ≤ g6) := Nat.le_of_eq hg6.symm
  have HGN : Hid (g ≠ g6) := by have := HGW.out; show _ ≠ _; omega
  have HN : Hid (n ≤ 1048576) := h0.b.max
  clear hv hhs hits hio hbn hYn hho hgd hin hK hP hE h0 hXl hhl
  generalize bs.map (·.h) = hs at HBH HRP
  generalize bs.getD X default = bb at HRT HHC HQ HCW hyn2
  obtain ⟨h, bg, bn, bc, bss⟩ := bb
  dsimp only at HRT HHC HQ HCW hyn2
  have HCL : Hid (∀ w' : World, Below w.heap.size w w' → (w'.cell? ⟨g, X * 6, none⟩ = some (.string h.prev) ∧ w'.cell? ⟨g, X * 6 + 1, none⟩ = some (.string h.root) ∧ w'.cell? ⟨g, X * 6 + 2, none⟩ = some (.int .i64 h.time) ∧ w'.cell? ⟨g, X * 6 + 3, none⟩ = some (.int .i64 h.diff) ∧ w'.cell? ⟨g, X * 6 + 4, none⟩ = some (.int .i64 h.nonce) ∧ w'.cell? ⟨g, X * 6 + 5, none⟩ = some (.slice (some ⟨bg, 0, none⟩) bn bc))) := fun w' hb => HCW.out w' (hb.block g HGW.out)
  have HCS : Hid (∀ w0 w' : World, w'.heap[g]? = w0.heap[g]? → (w0.cell? ⟨g, X * 6, none⟩ = some (.string h.prev) ∧ w0.cell? ⟨g, X * 6 + 1, none⟩ = some (.string h.root) ∧ w0.cell? ⟨g, X * 6 + 2, none⟩ = some (.int .i64 h.time) ∧ w0.cell? ⟨g, X * 6 + 3, none⟩ = some (.int .i64 h.diff) ∧ w0.cell? ⟨g, X * 6 + 4, none⟩ = some (.int .i64 h.nonce) ∧ w0.cell? ⟨g, X * 6 + 5, none⟩ = some (.slice (some ⟨bg, 0, none⟩) bn bc)) → (w'.cell? ⟨g, X * 6, none⟩ = some (.string h.prev) ∧ w'.cell? ⟨g, X * 6 + 1, none⟩ = some (.string h.root) ∧ w'.cell? ⟨g, X * 6 + 2, none⟩ = some (.int .i64 h.time) ∧ w'.cell? ⟨g, X * 6 + 3, none⟩ = some (.int .i64 h.diff) ∧ w'.cell? ⟨g, X * 6 + 4, none⟩ = some (.int .i64 h.nonce) ∧ w'.cell? ⟨g, X * 6 + 5, none⟩ = some (.slice (some ⟨bg, 0, none⟩) bn bc))) := fun w0 w' hw hs => ⟨(World.cell?_of_block (a := ⟨g, X * 6, none⟩) hw).trans hs.1, (World.cell?_of_block (a := ⟨g, X * 6 + 1, none⟩) hw).trans hs.2.1, (World.cell?_of_block (a := ⟨g, X * 6 + 2, none⟩) hw).trans hs.2.2.1, (World.cell?_of_block (a := ⟨g, X * 6 + 3, none⟩) hw).trans hs.2.2.2.1, (World.cell?_of_block (a := ⟨g, X * 6 + 4, none⟩) hw).trans hs.2.2.2.2.1, (World.cell?_of_block (a := ⟨g, X * 6 + 5, none⟩) hw).trans hs.2.2.2.2.2⟩
  have lx1 : (X : Int) < (n : Int) := by omega
  have lx0 : (0 : Int) ≤ (X : Int) := by omega
  have lx2 : ¬ (X : Int) < 0 := by omega
  have ly2 : ¬ (Y : Int) < 0 := by omega
  go_enter Tryz.func13, Tryz.ntmps13
  go_wp2_with fail
  rw [← hg6] at T0 ⊢
  refine hok.mono ?_
  rintro e w1 ⟨rfl, b1⟩
  have B1 : Hid (Below w.heap.size w w1) := L0.out.trans (b1.mono L0.out.size)
  have HT1 : Hid (∀ w', Below w1.heap.size w1 w' → CBk w' g6 47 #[.int .i64 0, .string ⟨#[]⟩, .string ⟨#[]⟩, .int .i64 0, .int .i64 0, .int .i64 0, .slice none 0 0, .slice none 0 0, .slice none 0 0]) := fun w' hb => (T0.out.call b1).call hb
  have HS1 : Hid (g6 < w1.heap.size) := (T0.out.call b1).lt
  have HGB : Hid (∀ w', Below w1.heap.size w1 w' → g6 + 1 ≤ w'.heap.size) := fun w' hb => Nat.le_trans HS1.out hb.size
  clear hok b1 T0 L0 hg6
  obtain ⟨q0, q1, q2, q3, q4, q5⟩ := HCL.out w1 B1.out
  go_upto_region 3 with fail
  clear q0 q1 q2 q3 q4 q5
  have S1d := HCL.out w1.drew B1.out.drew
  refine wp_region_noPanic ?_
  refine wp_region_held_drew (S := fun w' => (w'.cell? ⟨g, X * 6, none⟩ = some (.string h.prev) ∧ w'.cell? ⟨g, X * 6 + 1, none⟩ = some (.string h.root) ∧ w'.cell? ⟨g, X * 6 + 2, none⟩ = some (.int .i64 h.time) ∧ w'.cell? ⟨g, X * 6 + 3, none⟩ = some (.int .i64 h.diff) ∧ w'.cell? ⟨g, X * 6 + 4, none⟩ = some (.int .i64 h.nonce) ∧ w'.cell? ⟨g, X * 6 + 5, none⟩ = some (.slice (some ⟨bg, 0, none⟩) bn bc))) (by kernel_rfl) (S1d) (fun hHeld => ?_)
  refine takeL 0 (v := ?_) rfl (by kernel_rfl) (by kernel_rfl) (by kernel_rfl) (fun _ _ _ h => h) (by kernel_rfl) ?_ (by assumption) ?_
  rotate_left
  · intro w hSw; (try dsimp only at hSw); first | (go_simp; done) | (go_simp; with_reducible rfl)
  try simp only [Act.put, List.setIfInBounds_toArray, List.set_cons_zero, List.set_cons_succ]
  refine takeL 1 (v := ?_) rfl (by kernel_rfl) (by kernel_rfl) (by kernel_rfl) (fun _ _ _ h => h) (by kernel_rfl) ?_ (by assumption) ?_
  rotate_left
  · intro w hSw; (try dsimp only at hSw); first | (go_simp; done) | (go_simp; with_reducible rfl)
  try simp only [Act.put, List.setIfInBounds_toArray, List.set_cons_zero, List.set_cons_succ]
  refine takeL 2 (v := ?_) rfl (by kernel_rfl) (by kernel_rfl) (by kernel_rfl) (fun _ _ _ h => h) (by kernel_rfl) ?_ (by assumption) ?_
  rotate_left
  · intro w hSw; (try dsimp only at hSw); first | (go_simp; done) | (go_simp; with_reducible rfl)
  try simp only [Act.put, List.setIfInBounds_toArray, List.set_cons_zero, List.set_cons_succ]
  refine takeL 3 (v := ?_) rfl (by kernel_rfl) (by kernel_rfl) (by kernel_rfl) (fun _ _ _ h => h) (by kernel_rfl) ?_ (by assumption) ?_
  rotate_left
  · intro w hSw; (try dsimp only at hSw); first | (go_simp; done) | (go_simp; with_reducible rfl)
  try simp only [Act.put, List.setIfInBounds_toArray, List.set_cons_zero, List.set_cons_succ]
  refine takeL 4 (v := ?_) rfl (by kernel_rfl) (by kernel_rfl) (by kernel_rfl) (fun _ _ _ h => h) (by kernel_rfl) ?_ (by assumption) ?_
  rotate_left
  · intro w hSw; (try dsimp only at hSw); first | (go_simp; done) | (go_simp; with_reducible rfl)
  try simp only [Act.put, List.setIfInBounds_toArray, List.set_cons_zero, List.set_cons_succ]
  refine takeL 5 (v := ?_) rfl (by kernel_rfl) (by kernel_rfl) (by kernel_rfl) (fun _ _ _ h => h) (by kernel_rfl) ?_ (by assumption) ?_
  rotate_left
  · intro w hSw; (try dsimp only at hSw); first | (go_simp; done) | (go_simp; with_reducible rfl)
  try simp only [Act.put, List.setIfInBounds_toArray, List.set_cons_zero, List.set_cons_succ]
  refine takeL 7 (v := ?_) rfl (by kernel_rfl) (by kernel_rfl) (by kernel_rfl) (fun _ _ _ h => h) (by kernel_rfl) ?_ (by assumption) ?_
  rotate_left
  · intro w hSw; (try dsimp only at hSw); first | (go_simp; done) | (go_simp; with_reducible rfl)
  try simp only [Act.put, List.setIfInBounds_toArray, List.set_cons_zero, List.set_cons_succ]
  refine takeL 9 (v := ?_) rfl (by kernel_rfl) (by kernel_rfl) (by kernel_rfl) (fun _ _ _ h => h) (by kernel_rfl) ?_ (by assumption) ?_
  rotate_left
  · intro w hSw; (try dsimp only at hSw); first | (go_simp; done) | (go_simp; with_reducible rfl)
  try simp only [Act.put, List.setIfInBounds_toArray, List.set_cons_zero, List.set_cons_succ]
  refine takeL 11 (v := ?_) rfl (by kernel_rfl) (by kernel_rfl) (by kernel_rfl) (fun _ _ _ h => h) (by kernel_rfl) ?_ (by assumption) ?_
  rotate_left
  · intro w hSw; (try dsimp only at hSw); first | (go_simp; done) | (go_simp; with_reducible rfl)
  try simp only [Act.put, List.setIfInBounds_toArray, List.set_cons_zero, List.set_cons_succ]
  refine takeL 12 (v := ?_) rfl (by kernel_rfl) (by kernel_rfl) (by kernel_rfl) (fun _ _ _ h => h) (by kernel_rfl) ?_ (by assumption) ?_
  rotate_left
  · intro w hSw; (try dsimp only at hSw); first | (go_simp; done) | (go_simp; with_reducible rfl)
  try simp only [Act.put, List.setIfInBounds_toArray, List.set_cons_zero, List.set_cons_succ]
  refine takeL 13 (v := ?_) rfl (by kernel_rfl) (by kernel_rfl) (by kernel_rfl) (fun _ _ _ h => h) (by kernel_rfl) ?_ (by assumption) ?_
  rotate_left
  · intro w hSw; (try dsimp only at hSw); first | (go_simp; done) | (go_simp; with_reducible rfl)
  try simp only [Act.put, List.setIfInBounds_toArray, List.set_cons_zero, List.set_cons_succ]
  refine takeL 14 (v := ?_) rfl (by kernel_rfl) (by kernel_rfl) (by kernel_rfl) (fun _ _ _ h => h) (by kernel_rfl) ?_ (by assumption) ?_
  rotate_left
  · intro w hSw; (try dsimp only at hSw); first | (go_simp; done) | (go_simp; with_reducible rfl)
  try simp only [Act.put, List.setIfInBounds_toArray, List.set_cons_zero, List.set_cons_succ]
  refine takeL 15 (v := ?_) rfl (by kernel_rfl) (by kernel_rfl) (by kernel_rfl) (fun _ _ _ h => h) (by kernel_rfl) ?_ (by assumption) ?_
  rotate_left
  · intro w hSw; (try dsimp only at hSw); first | (go_simp; done) | (go_simp; with_reducible rfl)
  try simp only [Act.put, List.setIfInBounds_toArray, List.set_cons_zero, List.set_cons_succ]
  refine takeL 16 (v := ?_) rfl (by kernel_rfl) (by kernel_rfl) (by kernel_rfl) (fun _ _ _ h => h) (by kernel_rfl) ?_ (by assumption) ?_
  rotate_left
  · intro w hSw; (try dsimp only at hSw); first | (go_simp; done) | (go_simp; with_reducible rfl)
  try simp only [Act.put, List.setIfInBounds_toArray, List.set_cons_zero, List.set_cons_succ]
  refine callL 6 rfl (by kernel_rfl) (fun K hK => ?_)
  go_simp
  refine (HHC.out _).mono ?_
  rintro e w2 ⟨rfl, b2⟩
  have B2 : Hid (Below w.heap.size w w2) := B1.out.drew.trans (b2.mono B1.out.size)
  have C2 : Hid (Below w1.heap.size w1 w2) := ((Below.refl w1.heap.size w1).drew).trans b2
  have S2 := HCL.out w2 B2.out
  clear b2
  go_wp2_with fail
  refine hK.out _ _ ?_ (fun hHeld => ?_)
  · first | (with_reducible exact S2) | (with_reducible exact S3) | (with_reducible exact S4) | (with_reducible exact S5) | exact HCS.out w5 _ (set9_other HGN.out (.int .i64 (X : Int)) (.string h.prev) (.string h.root) (.int .i64 h.time) (.int .i64 h.diff) (.int .i64 h.nonce) (.slice pa pn pc) (.slice sa sn sc) (.slice da dn dc)) S5
  clear hK K
  try simp only [Act.put, List.setIfInBounds_toArray, List.set_cons_zero, List.set_cons_succ]
  refine callL 8 rfl (by kernel_rfl) (fun K hK => ?_)
  go_simp
  refine (HBH.out _ B2.out).mono ?_
  rintro e w3 ⟨v3, rfl, r3, b3⟩
  obtain ⟨⟨g3, c3, rfl⟩, -⟩ := id r3
  have B3 : Hid (Below w.heap.size w w3) := B2.out.trans (b3.mono B2.out.size)
  have C3 : Hid (Below w1.heap.size w1 w3) := C2.out.trans (b3.mono C2.out.size)
  have S3 := HCL.out w3 B3.out
  have hrp := HRP.out g3 c3 w3 B3.out ⟨_, r3⟩
  clear b3 r3
  go_wp2_with fail
  refine hK.out _ _ ?_ (fun hHeld => ?_)
  · first | (with_reducible exact S2) | (with_reducible exact S3) | (with_reducible exact S4) | (with_reducible exact S5) | exact HCS.out w5 _ (set9_other HGN.out (.int .i64 (X : Int)) (.string h.prev) (.string h.root) (.int .i64 h.time) (.int .i64 h.diff) (.int .i64 h.nonce) (.slice pa pn pc) (.slice sa sn sc) (.slice da dn dc)) S5
  clear hK K
  try simp only [Act.put, List.setIfInBounds_toArray, List.set_cons_zero, List.set_cons_succ]
  refine callL 10 rfl (by kernel_rfl) (fun K hK => ?_)
  go_simp
  refine hrp.mono ?_
  rintro e w4 ⟨⟨vp, vs, rfl, k1, k2, b4⟩, d4⟩
  obtain ⟨pa, pn, pc, rfl⟩ := pks_slice k1
  obtain ⟨sa, sn, sc, rfl⟩ := pks_slice k2
  have B4 : Hid (Below w.heap.size w w4) := B3.out.trans (b4.mono B3.out.size)
  have K1 : Hid (Pks (g6 + 1) (.slice pa pn pc) PK w4) := k1.mono (HGB.out _ C3.out)
  have K2 : Hid (Pks (g6 + 1) (.slice sa sn sc) STP w4) := k2.mono (HGB.out _ C3.out)
  have D4 : Hid (∀ b, blkOf (.slice pa pn pc) b → ¬ blkOf (.slice sa sn sc) b) := fun b hb => d4 _ _ b rfl hb
  have C4 : Hid (Below w1.heap.size w1 w4) := C3.out.trans (b4.mono C3.out.size)
  have S4 := HCL.out w4 B4.out
  clear hrp d4 k1 k2 b4
  go_wp2_with fail
  refine hK.out _ _ ?_ (fun hHeld => ?_)
  · first | (with_reducible exact S2) | (with_reducible exact S3) | (with_reducible exact S4) | (with_reducible exact S5) | exact HCS.out w5 _ (set9_other HGN.out (.int .i64 (X : Int)) (.string h.prev) (.string h.root) (.int .i64 h.time) (.int .i64 h.diff) (.int .i64 h.nonce) (.slice pa pn pc) (.slice sa sn sc) (.slice da dn dc)) S5
  clear hK K
  try simp only [Act.put, List.setIfInBounds_toArray, List.set_cons_zero, List.set_cons_succ]
  refine callL 17 rfl (by kernel_rfl) (fun K hK => ?_)
  go_simp
  refine (HRT.out _ B4.out).mono ?_
  rintro e w5 ⟨vd, rfl, k3, b5⟩
  obtain ⟨da, dn, dc, rfl⟩ := sds_slice k3
  have B5 : Hid (Below w.heap.size w w5) := B4.out.trans (b5.mono B4.out.size)
  have K3 : Hid (Sds (g6 + 1) (.slice da dn dc) SD w5) := k3.mono (HGB.out _ C4.out)
  have T5 : Hid (CBk w5 g6 47 #[.int .i64 0, .string ⟨#[]⟩, .string ⟨#[]⟩, .int .i64 0, .int .i64 0, .int .i64 0, .slice none 0 0, .slice none 0 0, .slice none 0 0]) := HT1.out _ (C4.out.trans (b5.mono C4.out.size))
  have K15 : Hid (Pks (g6 + 1) (.slice pa pn pc) PK w5) := K1.out.below b5
  have K25 : Hid (Pks (g6 + 1) (.slice sa sn sc) STP w5) := K2.out.below b5
  have S5 := HCL.out w5 B5.out
  obtain ⟨e0, e1, e2, e3, e4, e5, e6, e7, e8⟩ := T5.out.nineP
  obtain ⟨f0, f1, f2, f3, f4, f5, f6, f7, f8⟩ := T5.out.nineZ
  clear b5 k3
  go_wp2_with fail
  refine hK.out _ _ ?_ (fun hHeld => ?_)
  · first | (with_reducible exact S2) | (with_reducible exact S3) | (with_reducible exact S4) | (with_reducible exact S5) | exact HCS.out w5 _ (set9_other HGN.out (.int .i64 (X : Int)) (.string h.prev) (.string h.root) (.int .i64 h.time) (.int .i64 h.diff) (.int .i64 h.nonce) (.slice pa pn pc) (.slice sa sn sc) (.slice da dn dc)) S5
  clear hK K
  try simp only [Act.put, List.setIfInBounds_toArray, List.set_cons_zero, List.set_cons_succ]
  refine takeL 18 (v := ?_) rfl (by kernel_rfl) (by kernel_rfl) (by kernel_rfl) (fun _ _ _ h => h) (by kernel_rfl) ?_ (by assumption) ?_
  rotate_left
  · intro w hSw; (try dsimp only at hSw); first | (go_simp; done) | (go_simp; with_reducible rfl)
  try simp only [Act.put, List.setIfInBounds_toArray, List.set_cons_zero, List.set_cons_succ]
  refine callL 19 rfl (by kernel_rfl) (fun K hK => ?_)
  go_simp
  refine hK.out _ _ ?_ (fun hHeld => ?_)
  · first | (with_reducible exact S2) | (with_reducible exact S3) | (with_reducible exact S4) | (with_reducible exact S5) | exact HCS.out w5 _ (set9_other HGN.out (.int .i64 (X : Int)) (.string h.prev) (.string h.root) (.int .i64 h.time) (.int .i64 h.diff) (.int .i64 h.nonce) (.slice pa pn pc) (.slice sa sn sc) (.slice da dn dc)) S5
  clear hK K
  try simp only [Act.put, List.setIfInBounds_toArray, List.set_cons_zero, List.set_cons_succ]
  refine wpAnyH_done (by kernel_rfl) ?_ _
  refine NoPanic.normal ?_
  have HFIN : Hid (CBk (((((((((w5.setCell ⟨g6, 0, none⟩ (.int .i64 (X : Int))).setCell ⟨g6, 1, none⟩ (.string h.prev)).setCell ⟨g6, 2, none⟩ (.string h.root)).setCell ⟨g6, 3, none⟩ (.int .i64 h.time)).setCell ⟨g6, 4, none⟩ (.int .i64 h.diff)).setCell ⟨g6, 5, none⟩ (.int .i64 h.nonce)).setCell ⟨g6, 6, none⟩ (.slice pa pn pc)).setCell ⟨g6, 7, none⟩ (.slice sa sn sc)).setCell ⟨g6, 8, none⟩ (.slice da dn dc)) g6 47 #[.int .i64 (X : Int), .string h.prev, .string h.root, .int .i64 h.time, .int .i64 h.diff, .int .i64 h.nonce, .slice pa pn pc, .slice sa sn sc, .slice da dn dc]) := set9_blk T5.out (.int .i64 (X : Int)) (.string h.prev) (.string h.root) (.int .i64 h.time) (.int .i64 h.diff) (.int .i64 h.nonce) (.slice pa pn pc) (.slice sa sn sc) (.slice da dn dc)
  have HFQ : Hid (Q (.returned (.agg #[.int .i64 (X : Int), .string h.prev, .string h.root, .int .i64 h.time, .int .i64 h.diff, .int .i64 h.nonce, .slice pa pn pc, .slice sa sn sc, .slice da dn dc])) (((((((((w5.setCell ⟨g6, 0, none⟩ (.int .i64 (X : Int))).setCell ⟨g6, 1, none⟩ (.string h.prev)).setCell ⟨g6, 2, none⟩ (.string h.root)).setCell ⟨g6, 3, none⟩ (.int .i64 h.time)).setCell ⟨g6, 4, none⟩ (.int .i64 h.diff)).setCell ⟨g6, 5, none⟩ (.int .i64 h.nonce)).setCell ⟨g6, 6, none⟩ (.slice pa pn pc)).setCell ⟨g6, 7, none⟩ (.slice sa sn sc)).setCell ⟨g6, 8, none⟩ (.slice da dn dc))) := HQ.out w5 g6 _ _ _ (.int .i64 (X : Int)) (.string h.prev) (.string h.root) (.int .i64 h.time) (.int .i64 h.diff) (.int .i64 h.nonce) (.slice pa pn pc) (.slice sa sn sc) (.slice da dn dc) K15.out K25.out K3.out HG6.out B5.out D4.out
  clear S1d
  go_wp2_with fail
  exact bodyPost_ret (results_cell_row (p := 6) rfl _ _ g6 47 #[.int .i64 (X : Int), .string h.prev, .string h.root, .int .i64 h.time, .int .i64 h.diff, .int .i64 h.nonce, .slice pa pn pc, .slice sa sn sc, .slice da dn dc] (0, 0) _ rfl HFIN.out Tryz.underlying47 rfl (by kernel_rfl)) rfl HFQ.out
theorem implPaidOf (g n cap : Nat) (bs : List BlkV) (x y : Int) (w : World) (h : BlksS g n cap bs w) (hK : RowG w shaK) (hP : TabP w) (hE : ErrT w) :
    Calls Tryz.prog 13 #[.slice (some ⟨g, 0, none⟩) n cap, .int .i64 x, .int .i64 y] w fun e w' => Pd9 w (paidOfL (ptsOf bs) x y) True e w' := by
  by_cases hc : inPd (ptsOf bs) x y
  · obtain ⟨X, rfl⟩ : ∃ X : Nat, x = (X : Int) := ⟨x.toNat, by have := hc.2.1.1; omega⟩
    obtain ⟨Y, rfl⟩ : ∃ Y : Nat, y = (Y : Int) := ⟨y.toNat, by have := hc.2.2.1; omega⟩
    exact implPaidOfYes g n cap bs X Y w h hc hK hP hE
  · rw [paidOfL_no hc]
    exact implPaidOfNo g n cap bs x y w h hc hK hP hE
end Go.Proofs.YtkajpkfhedfmaaaGreatDoor

set_option linter.unusedVariables false
namespace Go.Proofs.YtkajpkfhedfmaaaGreatDoor
open Go.RowKit Go.Deep

/-- What the law's calls answer. -/
structure FdAns (w1 : World) (g c : Nat) (bs : List BlkV) (it : ByteArray) : Prop where
  im : ∀ w', Below w1.heap.size w1 w' → Calls Tryz.prog 5 #[.slice (some ⟨g, 0, none⟩) bs.length c, .string it] w' fun e w'' => FindPost it (ptsOf bs) w' e w''
  sp : ∀ w', Below w1.heap.size w1 w' → Calls Tryz.prog 7 #[.slice (some ⟨g, 0, none⟩) bs.length c, .string it] w' fun e w'' => FindPost it (ptsOf bs) w' e w''
  ok : ∀ w', Below w1.heap.size w1 w' → Calls Tryz.prog 8 #[.slice (some ⟨g, 0, none⟩) bs.length c] w' fun e w'' => e = .returned (.bool (okP (ptsOf bs))) ∧ Below w'.heap.size w' w''
  rt : okP (ptsOf bs) = true → ∀ w', Below w1.heap.size w1 w' → Calls Tryz.prog 11 #[.slice (some ⟨g, 0, none⟩) bs.length c] w' fun e w'' => ∃ v, e = .returned v ∧ Below w'.heap.size w' w'' ∧ Calls Tryz.prog 10 #[v] w'' fun e w3 => ∃ u, e = .returned u ∧ Below w''.heap.size w'' w3 ∧ Calls Tryz.prog 9 #[u] w3 fun e w4 => e = .returned (.string (rootOfL (ptsOf bs))) ∧ Below w3.heap.size w3 w4
  pd : ∀ (X Y : Nat), inPd (ptsOf bs) (X : Int) (Y : Int) → ∀ w', Below w1.heap.size w1 w' → Calls Tryz.prog 13 #[.slice (some ⟨g, 0, none⟩) bs.length c, .int .i64 (X : Int), .int .i64 (Y : Int)] w' fun e w2 => ∃ v, e = .returned v ∧ Below w'.heap.size w' w2 ∧ Calls Tryz.prog 12 #[.string (rootOfL (ptsOf bs)), .string (((ptsOf bs).getD X default).2.getD Y ByteArray.empty), v] w2 fun e w3 => e = .returned (.bool true) ∧ Below w2.heap.size w2 w3
theorem okP_heads {ps : List (HeadV × List ByteArray)} (h : okP ps = true) : headsB (ps.map (·.1)) = true := by
  rw [okP, Bool.and_eq_true, decide_eq_true_eq] at h
  exact heads_good (ck_len h.1) (ck_ok h.1)
set_option maxHeartbeats 1000000 in
set_option maxRecDepth 100000 in
theorem fdAns {w1 : World} {g c : Nat} {bs : List BlkV} {it : ByteArray} (h : BlksS g bs.length c bs w1) (hK : RowG w1 shaK) (hP : TabP w1) (hE : ErrT w1) : FdAns w1 g c bs it := by
  refine ⟨fun w' hb => ?_, fun w' hb => ?_, fun w' hb => ?_, fun hok w' hb => ?_, fun X Y hin w' hb => ?_⟩
  · exact implPaidFind g bs.length c bs it w' (h.below hb) (hK.below hb hK.lt) (TabP.below hP hb (Nat.le_refl _)) (hE.below hb hE.lt)
  · exact specPaidFind g bs.length c bs it w' (h.below hb)
  · exact implChainOk g bs.length c bs w' (h.b.below hb) (hK.below hb hK.lt) (TabP.below hP hb (Nat.le_refl _)) (hE.below hb hE.lt)
  · have hm := h.b.max
    have hh := okP_heads hok
    rw [pts_heads] at hh
    refine (lawCoHeads g bs.length c bs w' (h.b.below hb).at_ rfl hm).mono ?_
    rintro e w2 ⟨v, rfl, hr, b2⟩
    have B2 := hb.trans (b2.mono hb.size)
    refine ⟨v, rfl, b2, ?_⟩
    obtain ⟨g2, c2, rfl⟩ := hr.1
    obtain ⟨hat, hn, _, _⟩ := FRow.at enHead_len hr
    have hm2 : (bs.map (·.h)).length ≤ 1048576 := by rw [List.length_map]; exact hm
    have hro := implRangeOfRow g2 (bs.map (·.h)).length c2 (bs.map (·.h)) w2 hat rfl hm2 (hK.below B2 hK.lt) (TabP.below hP B2 (Nat.le_refl _))
    generalize hLg : bs.map (·.h) = L at hro hh hm2 ⊢
    refine Calls.mono hro ?_
    rintro e w3 ⟨u, rfl, hp, b3⟩
    have B3 := B2.trans (b3.mono B2.size)
    refine ⟨u, rfl, b3, ?_⟩
    have hp := hp hh
    obtain ⟨g3, c3, rfl⟩ := hp.1
    obtain ⟨hat3, _, _, _⟩ := FRow.at pEnc_len hp
    have h20 := heads_len hh
    have hm3 : (ofP L L.length).length ≤ 1048576 := by have := ofP_len_le L L.length; omega
    have hr3 := implRangeRoot g3 (ofP L L.length).length c3 (ofP L L.length) w3 hat3 rfl hm3 (hK.below B3 hK.lt) (TabP.below hP B3 (Nat.le_refl _))
    have hroot : rootOfL (ptsOf bs) = ⟨(rangeRoot (ofP L L.length)).toArray⟩ := by rw [rootOfL, pts_heads, pts_len, ← hLg, List.length_map]
    rw [hroot]
    exact hr3
  · refine (implPaidOf g bs.length c bs X Y w' (h.below hb) (hK.below hb hK.lt) (TabP.below hP hb (Nat.le_refl _)) (hE.below hb hE.lt)).mono ?_
    intro e w2 hp
    obtain ⟨v, rfl, b2, hc⟩ := check_of hin hp
    have B2 := hb.trans (b2.mono hb.size)
    exact ⟨v, rfl, b2, hc w2 (Below.refl _ _) (hK.below B2 hK.lt) (TabP.below hP B2 (Nat.le_refl _))⟩

/-- A list of places, or none: whatever stands in it can be read. -/
def HtE (w : World) (a : Option Addr) (F : List HitV) : Prop := ∀ k, k < F.length → ∃ g, a = some ⟨g, 0, none⟩ ∧ AtHit w g F
theorem HtE.below {w w' : World} {a : Option Addr} {F : List HitV} (h : HtE w a F) (hb : Below w.heap.size w w') : HtE w' a F := fun k hk => by
  obtain ⟨g, h1, h2⟩ := h k hk
  exact ⟨g, h1, h2.below hb h2.1⟩
theorem htE {B : Nat} {v : Value} {F : List HitV} {w : World} (h : HtRow B v F w) : ∃ a c, v = .slice a F.length c ∧ HtE w a F := by
  rcases h.forms with ⟨rfl, rfl⟩ | ⟨g, c, rfl, _, _, _⟩
  · exact ⟨none, 0, rfl, fun k hk => absurd hk (by simp)⟩
  · exact ⟨_, _, rfl, fun k hk => ⟨g, rfl, h.at⟩⟩
/-- The numbers of the walk. -/
structure FdNum (bs : List BlkV) (it : ByteArray) (F : List HitV) (T : Nat → Nat → Nat) : Prop where
  zero : T 0 0 = 0
  all : T bs.length 0 = F.length
  few : F.length ≤ 20971520
  end_ : ∀ x, x < bs.length → T x (bs.getD x default).ss.length = T (x + 1) 0
  yes : ∀ x k, x < bs.length → k < (bs.getD x default).ss.length → (bs.getD x default).ss.getD k ByteArray.empty = it → T x (k + 1) = T x k + 1 ∧ T x k < F.length ∧ F.getD (T x k) default = ⟨(x : Int), it⟩
  no : ∀ x k, x < bs.length → ¬ (bs.getD x default).ss.getD k ByteArray.empty = it → T x (k + 1) = T x k
theorem fdFew {bs : List BlkV} {it : ByteArray} (h20 : bs.length ≤ 20) (hs : ∀ b ∈ bs, b.ss.length ≤ 1048576) : (findL it (ptsOf bs)).length ≤ 20971520 := by
  rw [findL]
  split
  · have := fdT_len (it := it) (ps := ptsOf bs) (fun p hp => by
      simp only [ptsOf, List.mem_map] at hp
      obtain ⟨b, hb, rfl⟩ := hp
      exact hs b hb) (ptsOf bs).length (Nat.le_refl _)
    rw [pts_len] at this ⊢
    omega
  · simp
theorem fdNum {bs : List BlkV} {it : ByteArray} (hok : okP (ptsOf bs) = true) (h20 : bs.length ≤ 20) (hs : ∀ b ∈ bs, b.ss.length ≤ 1048576) : ∃ T, FdNum bs it (findL it (ptsOf bs)) T := by
  refine ⟨fun x k => (passed it (ptsOf bs) x k).length, ?_, ?_, fdFew h20 hs, fun x hx => ?_, fun x k hx hk he => ?_, fun x k hx he => ?_⟩
  · show (passed it (ptsOf bs) 0 0).length = 0
    rw [passed_start]
    rfl
  · show (passed it (ptsOf bs) bs.length 0).length = _
    rw [← passed_all (it := it) hok, pts_len]
  · have := passed_end (it := it) (ps := ptsOf bs) (x := x)
    rw [pts_at hx] at this
    exact congrArg List.length this
  · have h1 : ((ptsOf bs).getD x default).2.getD k ByteArray.empty = it := by rw [pts_at hx]; exact he
    have h2 := passed_at (it := it) hok (x := x) (i := k) (by rw [pts_len]; exact hx) (by rw [pts_at hx]; exact hk) h1
    exact ⟨by show (passed _ _ _ _).length = _; rw [passed_yes h1]; simp, h2⟩
  · have h1 : ¬ ((ptsOf bs).getD x default).2.getD k ByteArray.empty = it := by rw [pts_at hx]; exact he
    exact congrArg List.length (passed_no h1)
theorem fd_in {bs : List BlkV} (hok : okP (ptsOf bs) = true) {x k : Nat} (hx : x < bs.length) (hk : k < (bs.getD x default).ss.length) : inPd (ptsOf bs) (x : Int) (k : Int) := by
  refine ⟨hok, ⟨by omega, by rw [pts_len]; omega⟩, by omega, ?_⟩
  rw [Int.toNat_natCast, pts_at hx]
  exact Int.ofNat_lt.2 hk

end Go.Proofs.YtkajpkfhedfmaaaGreatDoor

set_option linter.unusedVariables false
namespace Go.Proofs.YtkajpkfhedfmaaaGreatDoor
open Go.RowKit Go.Deep

set_option maxHeartbeats 4000000 in
set_option maxRecDepth 100000 in
theorem walk_FnPaidFind (a0 : Option Addr) (len cap : Nat) (zs : List Int) (w : World) (h0 : IsRow .u8 w a0 len cap zs) (hK : RowG w shaK) (hP : TabP w) (hE : ErrT w) :
    Calls Tryz.prog 3 #[.slice a0 len cap] w fun e w' => e = .returned (.bool true) ∧ Below w.heap.size w w' := by
  by_cases hl : (1048576 : Int) < (len : Int)
  · clear hK hP hE
    go_enter Tryz.func3, Tryz.ntmps3
    go_wp2
    go_ret
    exact ⟨rfl, Below.refl _ _⟩
  have hdr := drawPaidFind a0 len cap zs w h0
  have HK : Hid (RowG w shaK) := hK
  have HE : Hid (ErrT w) := hE
  have HP : Hid (∀ w', Below w.heap.size w w' → TabP w') := fun w' hb => TabP.below hP hb (Nat.le_refl _)
  clear hK hP hE h0
  go_enter Tryz.func3, Tryz.ntmps3
  go_wp2_with fail
  refine Calls.mono hdr ?_
  rintro e w1 ⟨g, c, bs, it, rfl, hbs, hc, h20, h5, hit, b1⟩
  have HB1 : Hid (Below w.heap.size w w1) := b1
  have HA : Hid (FdAns w1 g c bs it) := fdAns hbs (HK.out.below b1 HK.out.lt) (HP.out w1 b1) (HE.out.below b1 HE.out.lt)
  have HS : Hid (BlksS g bs.length c bs w1) := hbs
  have hsm : ∀ b ∈ bs, b.ss.length ≤ 1048576 := fun b hb => by have h1 := h5 b hb; have h2 := (hbs.b.items b hb).2; omega
  have HF : Hid ((findL it (ptsOf bs)).length ≤ 20971520) := fdFew h20 hsm
  have HT : Hid (okP (ptsOf bs) = true → ∃ T, FdNum bs it (findL it (ptsOf bs)) T) := fun h => fdNum h h20 hsm
  have HIN : Hid (okP (ptsOf bs) = true → ∀ x k, x < bs.length → k < (bs.getD x default).ss.length → inPd (ptsOf bs) (x : Int) (k : Int)) := fun h x k => fd_in h
  have H20 : Hid (bs.length ≤ 20) := h20
  have H5 : Hid (∀ b ∈ bs, b.n ≤ 5) := h5
  clear hdr HK HP HE hbs b1 hc h20 h5 hit hsm
  have him := HA.out.im _ (Below.refl _ _)
  go_wp2_with fail
  refine Calls.mono him ?_
  rintro e w2 ⟨v5, rfl, hr2, b2⟩
  have L2 : Hid (Below w1.heap.size w1 w2) := b2
  have HR2 : Hid (HtRow w1.heap.size v5 (findL it (ptsOf bs)) w2) := hr2
  clear him hr2 b2
  have hsp := HA.out.sp _ L2.out
  go_wp2_with fail
  refine Calls.mono hsp ?_
  rintro e w3 ⟨v6, rfl, hr3, b3⟩
  have L3 : Hid (Below w1.heap.size w1 w3) := L2.out.trans (b3.mono L2.out.size)
  have HR3 : Hid (HtRow w1.heap.size v5 (findL it (ptsOf bs)) w3) := HR2.out.below b3
  have hco := coHts HR3.out hr3 (by have := HF.out; omega)
  clear hsp hr3 b3 HR2 L2
  go_wp2_with fail
  refine Calls.mono hco ?_
  rintro e w4 ⟨rfl, b4⟩
  have L4 : Hid (Below w1.heap.size w1 w4) := L3.out.trans (b4.mono L3.out.size)
  have HR4 : Hid (HtRow w1.heap.size v5 (findL it (ptsOf bs)) w4) := HR3.out.below b4
  clear hco b4 HR3 L3
  have hck := HA.out.ok _ L4.out
  go_wp2_with fail
  refine Calls.mono hck ?_
  rintro e w5 ⟨rfl, b5⟩
  have L5 : Hid (Below w1.heap.size w1 w5) := L4.out.trans (b5.mono L4.out.size)
  have HR5 : Hid (HtRow w1.heap.size v5 (findL it (ptsOf bs)) w5) := HR4.out.below b5
  clear hck b5 HR4 L4
  cases hok : okP (ptsOf bs) with
  | false =>
    have hsp := HA.out.sp _ L5.out
    clear HT HIN hok
    go_wp2_with fail
    refine Calls.mono hsp ?_
    rintro e w6 ⟨v7, rfl, hr6, b6⟩
    have L6 : Hid (Below w1.heap.size w1 w6) := L5.out.trans (b6.mono L5.out.size)
    have hco := coHts (HR5.out.below b6) hr6 (by have := HF.out; omega)
    clear hsp hr6 b6 HR5 L5
    go_wp2_with fail
    refine Calls.mono hco ?_
    rintro e w7 ⟨rfl, b7⟩
    have L7 : Hid (Below w1.heap.size w1 w7) := L6.out.trans (b7.mono L6.out.size)
    clear hco b7 L6
    go_wp2_with fail
    go_ret
    exact ⟨rfl, HB1.out.trans (L7.out.mono HB1.out.size)⟩
  | true =>
  obtain ⟨T, hT⟩ := HT.out hok
  have HIN' : Hid _ := HIN.out hok
  have HN : Hid (FdNum bs it (findL it (ptsOf bs)) T) := hT
  have HPD : Hid _ := HA.out.pd
  have hrt := HA.out.rt hok _ L5.out
  clear HT HIN hok hT HA
  obtain ⟨ha, hc, rfl, hte⟩ := htE HR5.out
  have HTE5 : Hid (HtE w5 ha (findL it (ptsOf bs))) := hte
  clear HR5 hte
  generalize findL it (ptsOf bs) = F at HN HTE5 HF ⊢
  go_wp2_with fail
  refine Calls.mono hrt ?_
  rintro e w6 ⟨v7, rfl, b6, hro⟩
  have L6 : Hid (Below w1.heap.size w1 w6) := L5.out.trans (b6.mono L5.out.size)
  have HTE6 : Hid (HtE w6 ha F) := HTE5.out.below b6
  clear hrt b6 L5 HTE5
  go_wp2_with fail
  refine Calls.mono hro ?_
  rintro e w7 ⟨v8, rfl, b7, hrr⟩
  have L7 : Hid (Below w1.heap.size w1 w7) := L6.out.trans (b7.mono L6.out.size)
  have HTE7 : Hid (HtE w7 ha F) := HTE6.out.below b7
  clear hro b7 L6 HTE6
  go_wp2_with fail
  refine Calls.mono hrr ?_
  rintro e w8 ⟨rfl, b8⟩
  have L8 : Hid (Below w1.heap.size w1 w8) := L7.out.trans (b8.mono L7.out.size)
  have HTE8 : Hid (HtE w8 ha F) := HTE7.out.below b8
  clear hrr b8 L7 HTE7
  go_wp2_with fail
  obtain ⟨R, hR⟩ : ∃ R, R = rootOfL (ptsOf bs) := ⟨_, rfl⟩
  rw [← hR] at HPD ⊢
  clear hR
  have H0 : Hid (T 0 0 = 0) := HN.out.zero
  go_loopw [7, 8] (fun q a wr => ∃ x : Nat, x ≤ bs.length ∧ a = .int .i64 (x : Int) ∧ q = .int .i64 (T x 0 : Int) ∧ Hid (Below w1.heap.size w1 wr) ∧ Hid (HtE wr ha F)) (fun _ a _ => bs.length - (intOf a).toNat)
  case atStart => exact ⟨0, by omega, rfl, by rw [H0.out]; rfl, L8, HTE8⟩
  case round =>
    clear L8 HTE8 H0
    obtain ⟨x, hx, rfl, rfl, LB, HTE⟩ := hrel
    by_cases hlt : x < bs.length
    · have HSr : Hid (BlksS g bs.length c bs wr) := HS.out.below LB.out
      have c5 := AtBlk.c5 HSr.out.b.at_ x hlt
      have HMB : Hid (bs.getD x default ∈ bs) := by show _ ∈ _; rw [List.getD_eq_getElem?_getD, List.getElem?_eq_getElem hlt]; exact List.getElem_mem hlt
      have HIT : Hid (ItemsAt wr (bs.getD x default)) := HSr.out.b.items _ HMB.out
      have HB5 : Hid ((bs.getD x default).n ≤ 5) := H5.out _ HMB.out
      have HPX : Hid (∀ k, k < (bs.getD x default).ss.length → inPd (ptsOf bs) (x : Int) (k : Int)) := fun k => HIN'.out x k hlt
      have HPI : Hid ((ptsOf bs).getD x default = ((bs.getD x default).h, (bs.getD x default).ss)) := pts_at hlt
      have HEN : Hid (T x (bs.getD x default).ss.length = T (x + 1) 0) := HN.out.end_ x hlt
      have HYE : Hid (∀ k, k < (bs.getD x default).ss.length → (bs.getD x default).ss.getD k ByteArray.empty = it → T x (k + 1) = T x k + 1 ∧ T x k < F.length ∧ F.getD (T x k) default = ⟨(x : Int), it⟩) := fun k => HN.out.yes x k hlt
      have HNO : Hid (∀ k, ¬ (bs.getD x default).ss.getD k ByteArray.empty = it → T x (k + 1) = T x k) := fun k => HN.out.no x k hlt
      have lk : (x : Int) < (bs.length : Int) := by omega
      have lk0 : (0 : Int) ≤ (x : Int) := by omega
      have wk : IntKind.i64.wrap ((x : Int) + 1) = (x : Int) + 1 := by have := H20.out; rw [IntKind.wrap_i64]; omega
      have HX1 : Hid (x + 1 ≤ bs.length) := hlt
      have HSB : Hid (g < wr.heap.size) := HSr.out.b.at_.1
      clear HMB HSr
      generalize bs.getD x default = b at c5 HIT HB5 HPX HPI HEN HYE HNO
      obtain ⟨bh, bg, bn, bc, ss⟩ := b
      dsimp only at c5 HIT HB5 HPX HPI HEN HYE HNO
      have HBN : Hid (bn = ss.length) := HIT.out.2
      have HAT : Hid (AtS wr bg ss) := HIT.out.1
      clear HIT
      go_wp2_with fail
      go_loopw [7, 9] (fun q a wi => ∃ k : Nat, k ≤ bn ∧ a = .int .i64 (k : Int) ∧ q = .int .i64 (T x k : Int) ∧ Hid (Below w1.heap.size w1 wi) ∧ Hid (HtE wi ha F) ∧ Hid (Below wr.heap.size wr wi)) (fun _ a _ => bn - (intOf a).toNat)
      case atStart => exact ⟨0, by omega, rfl, rfl, LB, HTE, Below.refl _ _⟩
      case round =>
        obtain ⟨k, hk, rfl, rfl, LC, HTI, LW⟩ := hrel
        replace c5 := (LW.out.cell (p := ⟨g, x * 6 + 5, none⟩) (HSB.out)).trans c5
        by_cases hki : k < bn
        · have hkl : k < ss.length := by rw [← HBN.out]; exact hki
          have d0 := (HAT.out.below LW.out HAT.out.1).2 k hkl
          have mk : (k : Int) < (bn : Int) := by omega
          have mk0 : (0 : Int) ≤ (k : Int) := by omega
          have wk2 : IntKind.i64.wrap ((k : Int) + 1) = (k : Int) + 1 := by have := HB5.out; rw [IntKind.wrap_i64]; omega
          have HK1 : Hid (k + 1 ≤ bn) := hki
          have HIK : Hid (inPd (ptsOf bs) (x : Int) (k : Int)) := HPX.out k hkl
          have HY : Hid _ := HYE.out k hkl
          have HNK : Hid _ := HNO.out k
          have HEK : Hid (((ptsOf bs).getD x default).2.getD k ByteArray.empty = ss.getD k ByteArray.empty) := by show _ = _; rw [HPI.out]
          clear hkl
          generalize ss.getD k ByteArray.empty = s at d0 HY HNK HEK
          have hst := sameT s it
          by_cases hs : s = it
          · obtain ⟨t1, t2, t3⟩ := HY.out hs
            have HT1 : Hid (T x (k + 1) = T x k + 1) := t1
            obtain ⟨gh, rfl, hah⟩ := HTI.out _ t2
            have e0 := AtHit.c0 hah _ t2
            have e1 := AtHit.c1 hah _ t2
            rw [t3] at e0 e1
            dsimp only at e0 e1
            subst hs
            rw [decide_eq_true rfl] at hst
            have hse := runSameHit ⟨(x : Int), s⟩ ⟨(x : Int), s⟩
            rw [sameHitB_self] at hse
            dsimp only at hse
            have hgd := eqHitG
            have ln : ((T x k : Nat) : Int) < (F.length : Int) := by omega
            have ln0 : (0 : Int) ≤ ((T x k : Nat) : Int) := by omega
            have wn : IntKind.i64.wrap (((T x k : Nat) : Int) + 1) = ((T x k : Nat) : Int) + 1 := by have := HF.out; rw [IntKind.wrap_i64]; omega
            have hpd := HPD.out x k HIK.out _ LC.out
            rw [HEK.out] at hpd
            clear HY HNK t1 t2 t3 hah HNO HYE HPX
            generalize T x k = q at e0 e1 ln ln0 wn HT1
            go_wp2_with fail
            refine Calls.mono hpd ?_
            rintro e wa ⟨v, rfl, ba, hpc⟩
            have LA : Hid (Below w1.heap.size w1 wa) := LC.out.trans (ba.mono LC.out.size)
            have HTA : Hid (HtE wa (some ⟨gh, 0, none⟩) F) := HTI.out.below ba
            have LWA : Hid (Below _ _ wa) := LW.out.trans (ba.mono LW.out.size)
            clear hpd ba LC HTI LW
            go_wp2_with fail
            refine Calls.mono hpc ?_
            rintro e wb ⟨rfl, bb⟩
            have LB' : Hid (Below w1.heap.size w1 wb) := LA.out.trans (bb.mono LA.out.size)
            have HTB : Hid (HtE wb (some ⟨gh, 0, none⟩) F) := HTA.out.below bb
            have LWB : Hid (Below _ _ wb) := LWA.out.trans (bb.mono LWA.out.size)
            clear hpc bb LA HTA LWA
            go_wp2_with fail
            exact ⟨⟨k + 1, HK1.out, by go_num, by rw [HT1.out]; go_num, LB'.out, HTB.out, LWB.out⟩, by have := HK1.out; simp [intOf]; omega⟩
          · have HT1 : Hid (T x (k + 1) = T x k) := HNK.out hs
            rw [decide_eq_false hs] at hst
            clear HY HNK
            go_wp2_with fail
            exact ⟨⟨k + 1, HK1.out, by go_num, by rw [HT1.out], LC.out, HTI.out, LW.out⟩, by have := HK1.out; simp [intOf]; omega⟩
        · obtain rfl : k = bn := by omega
          have hen : T x k = T (x + 1) 0 := by rw [← HEN.out, HBN.out]
          rw [hen]
          go_wp2_with fail
          go_roundw
          case rel => exact ⟨x + 1, HX1.out, by go_num, rfl, LC.out, HTI.out⟩
          case measure => have := HX1.out; simp [intOf]; omega
    · obtain rfl : x = bs.length := by omega
      have hall : T bs.length 0 = F.length := HN.out.all
      rw [hall]
      go_wp2_with fail
      go_ret
      exact ⟨by simp, HB1.out.trans (LB.out.mono HB1.out.size)⟩

end Go.Proofs.YtkajpkfhedfmaaaGreatDoor

namespace Go.Proofs.YtkajpkfhedfmaaaGreatDoor
open Go.ChangeShapes Go.WideShapes Go.ChangeAt Go.RowKit
open Go.ChangeMaps (open_string shut_string)
set_option linter.unusedVariables false

theorem own_fnPaidFind : ownKnob Tryz.prog.godebug = none := by kernel_rfl
theorem laid_fnPaidFind : laidOutB Tryz.prog = true := by kernel_rfl
theorem table_fnPaidFind {W : World} (h : laidMetH Tryz.prog Rows.fnPaidFindRow.laid W) : RowG W shaK ∧ TabP W ∧ ErrT W := tabs_of_laidE h

theorem met_fnPaidFind (os : Os) : laidMetH Tryz.prog Rows.fnPaidFindRow.laid ((laidWorldE os).forCall (fun _ _ => 0) ⟨#[], #[.slice none 0 0], []⟩).memory :=
  laidMetH_of_parts (laidMet_of_run' 8 (by kernel_rfl) (by kernel_rfl)) (by kernel_rfl)
theorem reads_fnPaidFind (os : Os) {H : Type} (enc : TypeId × Value → H) : ∃ places, DataW.whole enc Tryz.prog ((laidWorldE os).forCall (fun _ _ => 0) ⟨#[], #[.slice none 0 0], []⟩).memory Tryz.f3.params.toList Rows.fnPaidFindSpec.vars false (#[.slice none 0 0] : Array Value).toList 8 = some ([.nil], [Rows.laid_loop_example_cordillera_impl_sumRounds], places) :=
  ⟨MemPlace.row ⟨1, 0, none⟩ 64, by kernel_rfl⟩

set_option maxRecDepth 100000 in
theorem lifted_fnPaidFind (os : Os) (started : os.Started) (H : Type) (enc : TypeId × Value → H) (F : Stop.Interp) :
    ReturnsInHanded {} Tryz.checked os 3 .any ((OpenSpec.ofChange Rows.fnPaidFindSpec).preRow enc Tryz.prog Tryz.f3 Rows.fnPaidFindRow.domain false Rows.fnPaidFindRow.laid) (((OpenSpec.ofChange Rows.fnPaidFindSpec).at F).post enc Tryz.prog Tryz.f3 false true false false) := by
  obtain ⟨places, hx⟩ := reads_fnPaidFind os enc
  refine returnsInHanded_of_row (C := Tryz.checked) (s := OpenSpec.ofChange Rows.fnPaidFindSpec) own_fnPaidFind started (by kernel_rfl) Tryz.func3
    (witness_row_at (enc := enc) (C := Tryz.checked) false (laidWorldE os) #[.slice none 0 0] rfl (by kernel_rfl) (by kernel_rfl) (by kernel_rfl)
      (OpenSpec.preRow_of_cond 8 hx (by kernel_rfl) (fun k hk => by cases hk) (by kernel_rfl) (met_fnPaidFind os))) ?_
  intro W base args ds gs before hval0 hW _ _ _ hL _ _
  have hval : ∀ (j : Nat) t v, Tryz.f3.params[j]? = some t → args[j]? = some v → Value.okWide Tryz.prog W .any base t v := hval0
  have hW' := hW
  obtain ⟨p, q, hA0, hV, rfl, hfz, hnd⟩ := hW
  have hA : DataW.TrodAll enc Tryz.prog W 0 (fun _ => true) true Tryz.f3.params.toList args.toList ds p := hA0
  rw [Tryz.params3] at hA hval
  obtain ⟨v0, vs0, d0, ds0, p0, q0, hargs, rfl, rfl, h0, r0⟩ := trodAll_cons hA
  obtain ⟨rfl, rfl, rfl⟩ := trodAll_nil r0
  obtain rfl : args = #[v0] := by cases args; simp_all
  obtain ⟨gv, tv, cv, fv, dv, pv, rfl, hgv, htv, hvv, hdv, rfl⟩ := trodVars_one hV
  obtain ⟨a0, len0, cap0, rfl⟩ := okWide_slice Tryz.underlying22 (hval 0 22 v0 rfl rfl)
  have k0 := h0
  have lt0 : ∀ x ∈ p0, x.block < W.heap.size := by obtain ⟨m, hm⟩ := k0; exact DataW.trod_lt m _ _ _ hm
  obtain ⟨z0, w0⟩ : ∃ zs, IsRow .u8 W a0 len0 cap0 zs := by
    obtain ⟨fuel, hf⟩ := h0
    rcases open_ints Tryz.underlying22 Tryz.underlying5 (by kernel_rfl) hf with ⟨hcs, _⟩ | ⟨x, l, c, zs, hcs, _, hl, hm, hz, _, hcell, hwz⟩
    · simp [Value.cells] at hcs
      obtain ⟨rfl, rfl, rfl⟩ := hcs
      exact ⟨[], .inl ⟨rfl, rfl, rfl, rfl⟩⟩
    · simp [Value.cells] at hcs
      obtain ⟨rfl, rfl, rfl⟩ := hcs
      exact ⟨zs, .inr ⟨_, rfl, hl, hm, by simpa using hz, hcell, hwz⟩⟩
  clear hA0 hval0
  refine (walk_FnPaidFind a0 len0 cap0 z0 W w0 (table_fnPaidFind hL).1 (table_fnPaidFind hL).2.1 (table_fnPaidFind hL).2.2).mono fun e W' ⟨he, bel⟩ => ?_
  subst he
  obtain ⟨pv', hpv⟩ := varsBack laid_fnPaidFind hgv htv hvv hdv bel
  exact ⟨_, rfl, _, _, _, [], _, pv', hW', trodAll_mk1 (shut_bool Tryz.underlying4 _), (trodAll_cons_mk (Below.trod laid_fnPaidFind (by kernel_rfl) (of_decide_eq_true (by kernel_rfl)) k0 bel lt0) trodAll_mk0), hpv, bel.frame _, fun h => by cases h⟩

theorem fnPaidFind_said : Rows.FnPaidFindSaid :=
  OpenClaim.holds_of_cond 3 Tryz.f3 rfl rfl rfl rfl rfl rfl rfl ⟨rfl, rfl, rfl, rfl, rfl⟩ rfl rfl rfl rfl rfl (by kernel_rfl) Tryz.func3 (by kernel_rfl)
    (of_decide_eq_true (by kernel_rfl)) (by unfold Func.isWrapper; first | (rw [if_pos (by decide +kernel)]; kernel_rfl) | (rw [if_neg (by decide +kernel)]; exact ⟨rfl, rfl⟩))
    (fun os started H enc _ F => by rw [OpenClaim.pre_eq_preRow]; exact lifted_fnPaidFind os started H enc F)
theorem plain_fnPaidFind (f : FuncId) (fn : Func) (hf : Tryz.pinned.checked.prog.funcNamed "loop.example/cordillera/laws.FnPaidFind" = some f) (hfn : Tryz.pinned.checked.prog.funcs[f]? = some fn) :
    true = Tryz.pinned.checked.prog.looks [] ∧ ∀ (j : Nat) t, fn.params[j]? = some t → Tryz.pinned.checked.prog.wantsStandIn t = false := by
  obtain rfl : f = 3 := Option.some.inj ((show Tryz.prog.funcNamed "loop.example/cordillera/laws.FnPaidFind" = some 3 by kernel_rfl).symm.trans hf) |>.symm
  obtain rfl : fn = Tryz.f3 := (Option.some.inj (Tryz.func3.symm.trans hfn)).symm
  refine ⟨by kernel_rfl, fun j t ht => ?_⟩
  rw [Tryz.params3] at ht
  have hall : ∀ t ∈ (#[22] : Array TypeId), Tryz.prog.wantsStandIn t = false := by
    intro t ht
    simp only [List.mem_toArray, List.mem_cons, List.not_mem_nil, or_false] at ht
    subst ht; kernel_rfl
  exact hall t (Array.mem_of_getElem? ht)
theorem fnPaidFind_holds : Rows.FnPaidFindCardSaid :=
  Claim7.holds_tied_plain_at .later [] _ _ _ _ fnPaidFind_said (fun _ h => by cases h) (by kernel_rfl) (fun _ h => by cases h) fnPaidFind_row_tie rfl ⟨rfl, rfl⟩ (by kernel_rfl) rfl plain_fnPaidFind (by kernel_rfl)
#print axioms fnPaidFind_holds
end Go.Proofs.YtkajpkfhedfmaaaGreatDoor

