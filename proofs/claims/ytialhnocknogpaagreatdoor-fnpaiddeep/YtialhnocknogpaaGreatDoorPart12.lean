/-
  At every bytes the law that with each block more an item is deeper, as it is drawn from them, is true. The package variables that the row lists are as the program's text lays them.
-/
import Derived.Test.YtialhnocknogpaaGreatDoorPart1
import Derived.Test.YtialhnocknogpaaGreatDoorPart2
import Derived.Test.YtialhnocknogpaaGreatDoorPart3
import Derived.Test.YtialhnocknogpaaGreatDoorPart4
import Derived.Test.YtialhnocknogpaaGreatDoorPart5
import Derived.Test.YtialhnocknogpaaGreatDoorPart6
import Derived.Test.YtialhnocknogpaaGreatDoorPart7
import Derived.Test.YtialhnocknogpaaGreatDoorPart8
import Derived.Test.YtialhnocknogpaaGreatDoorPart9
import Derived.Test.YtialhnocknogpaaGreatDoorPart10
import Derived.Test.YtialhnocknogpaaGreatDoorPart11
import Derived.Deep.RegionHeld3
import Derived.Test.YtialhnocknogpaaGreatDoorCards
import Derived.Test.YtialhnocknogpaaGreatDoorTie
import Derived.WalkKit
import Derived.ProofKit
import Derived.OpenShut
import Derived.ShutString
import Derived.ChangeOld
import Derived.ChangeVars
import Derived.Below
import Derived.Carry
import Derived.Deep.DeepHandedRow
import Derived.Lib.LaidTab
set_option linter.unusedVariables false
namespace Go.Proofs.YtialhnocknogpaaGreatDoor
open Go.RowKit Go.Deep

def DpPost (w : World) (e : Ending) (w' : World) : Prop := ∃ (a : Int) (h : HeadV) (pa : Option Addr) (pn pc : Nat) (sa : Option Addr) (sn sc : Nat) (da : Option Addr) (dn dc : Nat) (ps : List PeakV), e = .returned (.agg #[.int .i64 a, .string h.prev, .string h.root, .int .i64 h.time, .int .i64 h.diff, .int .i64 h.nonce, .slice pa pn pc, .slice sa sn sc, .slice da dn dc]) ∧ PdDrew w.heap.size a h pa pn pc ps w' ∧ Below w.heap.size w w'
theorem nine_kg {k : Nat} {w0 w : World} {g6 : Nat} (hb : Below k w0 w) (hg : k ≤ g6) (x0 x1 x2 x3 x4 x5 x6 x7 x8 : Value) : Below k w0 (((((((((w.setCell ⟨g6, 0, none⟩ x0).setCell ⟨g6, 1, none⟩ x1).setCell ⟨g6, 2, none⟩ x2).setCell ⟨g6, 3, none⟩ x3).setCell ⟨g6, 4, none⟩ x4).setCell ⟨g6, 5, none⟩ x5).setCell ⟨g6, 6, none⟩ x6).setCell ⟨g6, 7, none⟩ x7).setCell ⟨g6, 8, none⟩ x8) := nine_k hb hg x0 x1 x2 x3 x4 x5 x6 x7 x8
theorem rowBelowE {k : IntKind} {w w' : World} {a : Option Addr} {len cap : Nat} {zs : List Int} (h : IsRow k w a len cap zs) (hb : Below w.heap.size w w') : IsRow k w' a len cap zs := by
  rcases h with h | ⟨x, h1, h2, h3, h4, h5, h6⟩
  · exact .inl h
  · exact .inr ⟨x, h1, h2, h3, h4, fun i hi => (hb.cell (World.block_lt_of_cell? w _ (h5 i hi))).trans (h5 i hi), h6⟩
def deep2 : List Int := [-1, 30]
theorem deep2_in : ∀ i : Fin 2, -1 ≤ deep2.getD i.val 0 ∧ deep2.getD i.val 0 ≤ 30 := by decide

set_option maxHeartbeats 4000000 in
set_option maxRecDepth 100000 in
theorem drawPaidDeep (a0 : Option Addr) (len cap : Nat) (zs : List Int) (w : World) (h0 : IsRow .u8 w a0 len cap zs) :
    Calls Tryz.prog 4 #[.slice a0 len cap] w fun e w' => DpPost w e w' := by
  have HQ : Hid (∀ (a : Int) (h : HeadV) (pa : Option Addr) (pn pc : Nat) (sa : Option Addr) (sn sc : Nat) (da : Option Addr) (dn dc : Nat) (ps : List PeakV) (w' : World), PdDrew w.heap.size a h pa pn pc ps w' → Below w.heap.size w w' → DpPost w (.returned (.agg #[.int .i64 a, .string h.prev, .string h.root, .int .i64 h.time, .int .i64 h.diff, .int .i64 h.nonce, .slice pa pn pc, .slice sa sn sc, .slice da dn dc])) w') := fun a h pa pn pc sa sn sc da dn dc ps w' h1 h2 => ⟨a, h, pa, pn, pc, sa, sn, sc, da, dn, dc, ps, rfl, h1, h2⟩
  generalize DpPost w = Q at HQ ⊢
  have L0 : Hid (Below w.heap.size w (w.alloc (.cells #[.int .i64 0, .string ⟨#[]⟩, .string ⟨#[]⟩, .int .i64 0, .int .i64 0, .int .i64 0, .slice none 0 0, .slice none 0 0, .slice none 0 0] 30))) := (Below.refl _ w).alloc (Nat.le_refl _) _
  have T0 : Hid (CBk (w.alloc (.cells #[.int .i64 0, .string ⟨#[]⟩, .string ⟨#[]⟩, .int .i64 0, .int .i64 0, .int .i64 0, .slice none 0 0, .slice none 0 0, .slice none 0 0] 30)) w.heap.size 30 #[.int .i64 0, .string ⟨#[]⟩, .string ⟨#[]⟩, .int .i64 0, .int .i64 0, .int .i64 0, .slice none 0 0, .slice none 0 0, .slice none 0 0]) := CBk.new w _ _
  have hop := open_walk a0 len cap zs (w.alloc (.cells #[.int .i64 0, .string ⟨#[]⟩, .string ⟨#[]⟩, .int .i64 0, .int .i64 0, .int .i64 0, .slice none 0 0, .slice none 0 0, .slice none 0 0] 30)) (rowBelowE h0 L0.out)
  have hs0 : (w.alloc (.cells #[.int .i64 0, .string ⟨#[]⟩, .string ⟨#[]⟩, .int .i64 0, .int .i64 0, .int .i64 0, .slice none 0 0, .slice none 0 0, .slice none 0 0] 30)).heap.size = w.heap.size + 1 := by simp
  clear h0
  go_enter Tryz.func4, Tryz.ntmps4
  go_wp2_with fail
  generalize w.alloc (.cells #[.int .i64 0, .string ⟨#[]⟩, .string ⟨#[]⟩, .int .i64 0, .int .i64 0, .int .i64 0, .slice none 0 0, .slice none 0 0, .slice none 0 0] 30) = W1 at T0 L0 hop hs0 ⊢
  obtain ⟨g2, hg2⟩ : ∃ g2, g2 = w.heap.size := ⟨_, rfl⟩
  have HG2a : Hid (g2 = w.heap.size) := hg2
  rw [← hg2] at T0 ⊢
  obtain ⟨b, hb⟩ : ∃ b, b = W1.heap.size := ⟨_, rfl⟩
  have HBB : Hid (b = W1.heap.size ∧ b = g2 + 1) := ⟨hb, by omega⟩
  rw [← hb] at hop
  clear hg2 hs0
  refine hop.mono ?_
  rintro e w2 ⟨rfl, hr2, b2, hs2⟩
  have hlt2 := hr2.lt
  have HLT2 : Hid (b < w2.heap.size) := hlt2
  have B2 : Hid (Below w.heap.size w w2) := L0.out.trans (b2.mono (by have := HBB.out; have := HG2a.out; omega))
  have T2 : Hid (CBk w2 g2 30 #[.int .i64 0, .string ⟨#[]⟩, .string ⟨#[]⟩, .int .i64 0, .int .i64 0, .int .i64 0, .slice none 0 0, .slice none 0 0, .slice none 0 0]) := T0.out.call (by rw [← HBB.out.1]; exact b2)
  have hdp := drawPaid b b 0 w2 hr2 (by omega)
  clear hop hr2 b2 hs2 L0 T0 hb hlt2
  go_wp2_with fail
  refine Calls.mono hdp ?_
  rintro e w3 ⟨a, h, pa, pn, pc, sa, sn, sc, da, dn, dc, ps, s1, s2, q, rfl, hpd, hq, hr3, b3, u3⟩
  have HAB : Hid (-1 ≤ a ∧ a ≤ 30) := hpd.at_
  have PF : Hid ((∀ i, i < ps.length → (ps.getD i default).sum.size ≤ maxLen) ∧ ps.length ≤ 20) := ⟨hpd.sz, hpd.few⟩
  have KP3 : Hid (Pks w2.heap.size (.slice pa pn pc) ps w3) := hpd.pk
  have T3 : Hid (CBk w3 g2 30 #[.int .i64 0, .string ⟨#[]⟩, .string ⟨#[]⟩, .int .i64 0, .int .i64 0, .int .i64 0, .slice none 0 0, .slice none 0 0, .slice none 0 0]) := (b3.block g2 (by have := HBB.out.2; omega)).trans T2.out
  have B3 : Hid (Below w.heap.size w w3) := B2.out.trans (b3.mono (by have := HBB.out; have := HG2a.out; omega))
  have HR3 : Hid (Rd b b q w3) := hr3
  have HG2 : Hid (g2 < w2.heap.size ∧ g2 = w.heap.size ∧ g2 < b) := ⟨T2.out.lt, HG2a.out, by have := HBB.out.2; omega⟩
  have C4 : Hid (CBk (w3.alloc (.cells #[.int .i64 a, .string h.prev, .string h.root, .int .i64 h.time, .int .i64 h.diff, .int .i64 h.nonce, .slice pa pn pc, .slice sa sn sc, .slice da dn dc] 30)) w3.heap.size 30 #[.int .i64 a, .string h.prev, .string h.root, .int .i64 h.time, .int .i64 h.diff, .int .i64 h.nonce, .slice pa pn pc, .slice sa sn sc, .slice da dn dc]) := CBk.new w3 _ _
  have L4 : Hid (Below w3.heap.size w3 (w3.alloc (.cells #[.int .i64 a, .string h.prev, .string h.root, .int .i64 h.time, .int .i64 h.diff, .int .i64 h.nonce, .slice pa pn pc, .slice sa sn sc, .slice da dn dc] 30))) := (Below.refl _ w3).alloc (Nat.le_refl _) _
  have HG4 : Hid (g2 < w3.heap.size ∧ b < w3.heap.size ∧ w2.heap.size ≤ w3.heap.size) := ⟨T3.out.lt, hr3.lt, b3.size⟩
  have hpk := pick_walk b b q 4 (w3.alloc (.cells #[.int .i64 a, .string h.prev, .string h.root, .int .i64 h.time, .int .i64 h.diff, .int .i64 h.nonce, .slice pa pn pc, .slice sa sn sc, .slice da dn dc] 30)) (HR3.out.keep (L4.out.mono hr3.lt)) (by omega) (by omega)
  obtain ⟨g4, hg4⟩ : ∃ g4, g4 = w3.heap.size := ⟨_, rfl⟩
  have HG4 : Hid (g2 < g4 ∧ b < g4 ∧ w2.heap.size ≤ g4) := by rw [hg4]; exact HG4.out
  have HKB : Hid (∀ g9, blkOf (.slice pa pn pc) g9 → g9 < g4) := fun g9 hg9 => by rw [hg4]; exact (KP3.out.blk hg9).1
  clear hdp hpd hr3 b3 u3 T2 B2
  go_wp2_with fail
  have T4 : Hid (CBk (w3.alloc (.cells #[.int .i64 a, .string h.prev, .string h.root, .int .i64 h.time, .int .i64 h.diff, .int .i64 h.nonce, .slice pa pn pc, .slice sa sn sc, .slice da dn dc] 30)) g2 30 #[.int .i64 0, .string ⟨#[]⟩, .string ⟨#[]⟩, .int .i64 0, .int .i64 0, .int .i64 0, .slice none 0 0, .slice none 0 0, .slice none 0 0]) := T3.out.call L4.out
  have KP4 : Hid (Pks w2.heap.size (.slice pa pn pc) ps (w3.alloc (.cells #[.int .i64 a, .string h.prev, .string h.root, .int .i64 h.time, .int .i64 h.diff, .int .i64 h.nonce, .slice pa pn pc, .slice sa sn sc, .slice da dn dc] 30))) := KP3.out.below L4.out
  have B4 : Hid (Below w.heap.size w (w3.alloc (.cells #[.int .i64 a, .string h.prev, .string h.root, .int .i64 h.time, .int .i64 h.diff, .int .i64 h.nonce, .slice pa pn pc, .slice sa sn sc, .slice da dn dc] 30))) := B3.out.trans (L4.out.mono B3.out.size)
  generalize w3.alloc (.cells #[.int .i64 a, .string h.prev, .string h.root, .int .i64 h.time, .int .i64 h.diff, .int .i64 h.nonce, .slice pa pn pc, .slice sa sn sc, .slice da dn dc] 30) = W4 at C4 hpk T4 KP4 B4 ⊢
  rw [← hg4] at C4 ⊢
  clear hg4 L4 T3 KP3 B3 HR3
  refine hpk.mono ?_
  rintro e w5 ⟨x, rfl, hx1, _, hr5, o5⟩
  have HR5 : Hid (Rd b b (q + 1) w5) := hr5
  have C4_w5 : Hid (CBk w5 g4 30 #[.int .i64 a, .string h.prev, .string h.root, .int .i64 h.time, .int .i64 h.diff, .int .i64 h.nonce, .slice pa pn pc, .slice sa sn sc, .slice da dn dc]) := (o5.block g4 (by have := HG4.out; omega)).trans C4.out
  have G2_w5 : Hid (CBk w5 g2 30 #[.int .i64 0, .string ⟨#[]⟩, .string ⟨#[]⟩, .int .i64 0, .int .i64 0, .int .i64 0, .slice none 0 0, .slice none 0 0, .slice none 0 0]) := (o5.block g2 (by have := HG2.out; omega)).trans T4.out
  have KP_w5 : Hid (Pks w2.heap.size (.slice pa pn pc) ps w5) := KP4.out.keep (Nat.le_of_eq o5.size.symm) (fun g9 hg9 => o5.block g9 (by have := (KP4.out.blk hg9).2; have := HLT2.out; omega))
  have BW_w5 : Hid (Below w.heap.size w w5) := B4.out.trans (o5.below (by have := HG2.out; omega))
  clear hpk hx1 hr5 o5 C4 T4 KP4 B4
  by_cases hx0 : x = 0
  · subst hx0
    have hxz : ((0 : Nat) : Int) = 0 := rfl
    have hbk := heap_alloc_new w5 (.cells (deep2.map (Value.int .i64)).toArray 3)
    have LA : Hid (Below w5.heap.size w5 (w5.alloc (.cells (deep2.map (Value.int .i64)).toArray 3))) := (Below.refl _ w5).alloc (Nat.le_refl _) _
    have hone := one_walk b b (q + 1) w5.heap.size 2 2 deep2 _ (HR5.out.keep (LA.out.mono HR5.out.lt)) (by omega) (by omega) (by omega) (cells_ints hbk rfl 2 (by decide)) (by have := HR5.out.lt; omega)
    have C4a : Hid (CBk (w5.alloc (.cells (deep2.map (Value.int .i64)).toArray 3)) g4 30 #[.int .i64 a, .string h.prev, .string h.root, .int .i64 h.time, .int .i64 h.diff, .int .i64 h.nonce, .slice pa pn pc, .slice sa sn sc, .slice da dn dc]) := C4_w5.out.call LA.out
    have G2a : Hid (CBk (w5.alloc (.cells (deep2.map (Value.int .i64)).toArray 3)) g2 30 #[.int .i64 0, .string ⟨#[]⟩, .string ⟨#[]⟩, .int .i64 0, .int .i64 0, .int .i64 0, .slice none 0 0, .slice none 0 0, .slice none 0 0]) := G2_w5.out.call LA.out
    have KPa : Hid (Pks w2.heap.size (.slice pa pn pc) ps (w5.alloc (.cells (deep2.map (Value.int .i64)).toArray 3))) := KP_w5.out.below LA.out
    have BWa : Hid (Below w.heap.size w (w5.alloc (.cells (deep2.map (Value.int .i64)).toArray 3))) := BW_w5.out.trans (LA.out.mono BW_w5.out.size)
    clear hbk LA C4_w5 G2_w5 KP_w5 BW_w5
    go_wp2_with fail
    refine hone.mono ?_
    rintro e w6 ⟨y, hy, rfl, hr6, o6⟩
    have hab := deep2_in ⟨y, hy⟩
    dsimp only at hab
    generalize deep2.getD y 0 = a1 at hab ⊢
    have C4b : Hid (CBk w6 g4 30 #[.int .i64 a, .string h.prev, .string h.root, .int .i64 h.time, .int .i64 h.diff, .int .i64 h.nonce, .slice pa pn pc, .slice sa sn sc, .slice da dn dc]) := (o6.block g4 (by have := HG4.out; omega)).trans C4a.out
    have f4 := C4b.out.frozen 0
    have c4 : w6.cell? ⟨g4, 0, none⟩ = some (.int .i64 a) := C4b.out.cell 0
    have C4_w7 : Hid (CBk (w6.setCell ⟨g4, 0, none⟩ (.int .i64 a1)) g4 30 #[.int .i64 a1, .string h.prev, .string h.root, .int .i64 h.time, .int .i64 h.diff, .int .i64 h.nonce, .slice pa pn pc, .slice sa sn sc, .slice da dn dc]) := C4b.out.set 0 _
    have G2b : Hid (CBk w6 g2 30 #[.int .i64 0, .string ⟨#[]⟩, .string ⟨#[]⟩, .int .i64 0, .int .i64 0, .int .i64 0, .slice none 0 0, .slice none 0 0, .slice none 0 0]) := (o6.block g2 (by have := HG2.out; omega)).trans G2a.out
    have G2_w7 : Hid (CBk (w6.setCell ⟨g4, 0, none⟩ (.int .i64 a1)) g2 30 #[.int .i64 0, .string ⟨#[]⟩, .string ⟨#[]⟩, .int .i64 0, .int .i64 0, .int .i64 0, .slice none 0 0, .slice none 0 0, .slice none 0 0]) := G2b.out.other (by have := HG4.out; omega) _
    have KPb : Hid (Pks w2.heap.size (.slice pa pn pc) ps w6) := KPa.out.keep (Nat.le_of_eq o6.size.symm) (fun g9 hg9 => o6.block g9 (by have := (KPa.out.blk hg9).2; have := HLT2.out; omega))
    have KP_w7 : Hid (Pks w2.heap.size (.slice pa pn pc) ps (w6.setCell ⟨g4, 0, none⟩ (.int .i64 a1))) := KPb.out.keep (by simp [World.setCell]) (fun g9 hg9 => by
      have h1 := HKB.out g9 hg9
      have h2 : g4 ≠ g9 := by omega
      simp [World.setCell, Array.getElem?_modify, h2])
    have BW_w7 : Hid (Below w.heap.size w (w6.setCell ⟨g4, 0, none⟩ (.int .i64 a1))) := (BWa.out.trans (o6.below (by have := HG2.out; omega))).setCell (p := ⟨g4, 0, none⟩) (by show w.heap.size ≤ g4; have := HG4.out; have := HG2.out; omega) _
    clear hone hr6 o6 C4a G2a KPa BWa KPb G2b C4b
    go_upto_region 5 with fail
    generalize (w6.setCell ⟨g4, 0, none⟩ (.int .i64 a1)) = w7 at C4_w7 G2_w7 KP_w7 BW_w7 ⊢
    clear f4 c4
    have C9 : Hid (CBk w7 g2 30 #[.int .i64 0, .string ⟨#[]⟩, .string ⟨#[]⟩, .int .i64 0, .int .i64 0, .int .i64 0, .slice none 0 0, .slice none 0 0, .slice none 0 0]) := G2_w7.out
    have TE : Hid (CBk (((((((((w7.setCell ⟨g2, 0, none⟩ (.int .i64 a1)).setCell ⟨g2, 1, none⟩ (.string h.prev)).setCell ⟨g2, 2, none⟩ (.string h.root)).setCell ⟨g2, 3, none⟩ (.int .i64 h.time)).setCell ⟨g2, 4, none⟩ (.int .i64 h.diff)).setCell ⟨g2, 5, none⟩ (.int .i64 h.nonce)).setCell ⟨g2, 6, none⟩ (.slice pa pn pc)).setCell ⟨g2, 7, none⟩ (.slice sa sn sc)).setCell ⟨g2, 8, none⟩ (.slice da dn dc)) g2 30 #[.int .i64 a1, .string h.prev, .string h.root, .int .i64 h.time, .int .i64 h.diff, .int .i64 h.nonce, .slice pa pn pc, .slice sa sn sc, .slice da dn dc]) := set9_blk C9.out (.int .i64 a1) (.string h.prev) (.string h.root) (.int .i64 h.time) (.int .i64 h.diff) (.int .i64 h.nonce) (.slice pa pn pc) (.slice sa sn sc) (.slice da dn dc)
    have HQF : Hid (Q (.returned (.agg #[.int .i64 a1, .string h.prev, .string h.root, .int .i64 h.time, .int .i64 h.diff, .int .i64 h.nonce, .slice pa pn pc, .slice sa sn sc, .slice da dn dc])) (((((((((w7.setCell ⟨g2, 0, none⟩ (.int .i64 a1)).setCell ⟨g2, 1, none⟩ (.string h.prev)).setCell ⟨g2, 2, none⟩ (.string h.root)).setCell ⟨g2, 3, none⟩ (.int .i64 h.time)).setCell ⟨g2, 4, none⟩ (.int .i64 h.diff)).setCell ⟨g2, 5, none⟩ (.int .i64 h.nonce)).setCell ⟨g2, 6, none⟩ (.slice pa pn pc)).setCell ⟨g2, 7, none⟩ (.slice sa sn sc)).setCell ⟨g2, 8, none⟩ (.slice da dn dc))) := HQ.out a1 h pa pn pc sa sn sc da dn dc ps _ ⟨hab, (KP_w7.out.keep (Nat.le_of_eq (set9_size (.int .i64 a1) (.string h.prev) (.string h.root) (.int .i64 h.time) (.int .i64 h.diff) (.int .i64 h.nonce) (.slice pa pn pc) (.slice sa sn sc) (.slice da dn dc))) (fun g9 hg9 => set9_other (show g9 ≠ g2 by have := (KP_w7.out.blk hg9).2; have := HG2.out; omega) (.int .i64 a1) (.string h.prev) (.string h.root) (.int .i64 h.time) (.int .i64 h.diff) (.int .i64 h.nonce) (.slice pa pn pc) (.slice sa sn sc) (.slice da dn dc))).mono (by have := HG2.out; omega), PF.out.1, PF.out.2⟩ (nine_kg BW_w7.out (by have := HG2.out; omega) (.int .i64 a1) (.string h.prev) (.string h.root) (.int .i64 h.time) (.int .i64 h.diff) (.int .i64 h.nonce) (.slice pa pn pc) (.slice sa sn sc) (.slice da dn dc))
    obtain ⟨e0, e1, e2, e3, e4, e5, e6, e7, e8⟩ := C9.out.nineP
    obtain ⟨f0, f1, f2, f3, f4, f5, f6, f7, f8⟩ := C9.out.nineZ
    obtain ⟨d0, d1, d2, d3, d4, d5, d6, d7, d8⟩ := C4_w7.out.nineP
    have hn24 : ¬ g2 = g4 := by have := HG4.out; omega
    have hn42 : ¬ g4 = g2 := fun h => hn24 h.symm
    go_wp2_with fail
    exact bodyPost_ret (results_cell_row (p := 2) rfl _ _ g2 30 #[.int .i64 a1, .string h.prev, .string h.root, .int .i64 h.time, .int .i64 h.diff, .int .i64 h.nonce, .slice pa pn pc, .slice sa sn sc, .slice da dn dc] (0, 0) _ rfl TE.out Tryz.underlying30 rfl (by kernel_rfl)) rfl HQF.out
  · have hxi : ¬ (x : Int) = 0 := by omega
    have hxn : ¬ x = 0 := hx0
    go_upto_region 5 with fail
    clear hxi hxn hx0
    have C9 : Hid (CBk w5 g2 30 #[.int .i64 0, .string ⟨#[]⟩, .string ⟨#[]⟩, .int .i64 0, .int .i64 0, .int .i64 0, .slice none 0 0, .slice none 0 0, .slice none 0 0]) := G2_w5.out
    have TE : Hid (CBk (((((((((w5.setCell ⟨g2, 0, none⟩ (.int .i64 a)).setCell ⟨g2, 1, none⟩ (.string h.prev)).setCell ⟨g2, 2, none⟩ (.string h.root)).setCell ⟨g2, 3, none⟩ (.int .i64 h.time)).setCell ⟨g2, 4, none⟩ (.int .i64 h.diff)).setCell ⟨g2, 5, none⟩ (.int .i64 h.nonce)).setCell ⟨g2, 6, none⟩ (.slice pa pn pc)).setCell ⟨g2, 7, none⟩ (.slice sa sn sc)).setCell ⟨g2, 8, none⟩ (.slice da dn dc)) g2 30 #[.int .i64 a, .string h.prev, .string h.root, .int .i64 h.time, .int .i64 h.diff, .int .i64 h.nonce, .slice pa pn pc, .slice sa sn sc, .slice da dn dc]) := set9_blk C9.out (.int .i64 a) (.string h.prev) (.string h.root) (.int .i64 h.time) (.int .i64 h.diff) (.int .i64 h.nonce) (.slice pa pn pc) (.slice sa sn sc) (.slice da dn dc)
    have HQF : Hid (Q (.returned (.agg #[.int .i64 a, .string h.prev, .string h.root, .int .i64 h.time, .int .i64 h.diff, .int .i64 h.nonce, .slice pa pn pc, .slice sa sn sc, .slice da dn dc])) (((((((((w5.setCell ⟨g2, 0, none⟩ (.int .i64 a)).setCell ⟨g2, 1, none⟩ (.string h.prev)).setCell ⟨g2, 2, none⟩ (.string h.root)).setCell ⟨g2, 3, none⟩ (.int .i64 h.time)).setCell ⟨g2, 4, none⟩ (.int .i64 h.diff)).setCell ⟨g2, 5, none⟩ (.int .i64 h.nonce)).setCell ⟨g2, 6, none⟩ (.slice pa pn pc)).setCell ⟨g2, 7, none⟩ (.slice sa sn sc)).setCell ⟨g2, 8, none⟩ (.slice da dn dc))) := HQ.out a h pa pn pc sa sn sc da dn dc ps _ ⟨HAB.out, (KP_w5.out.keep (Nat.le_of_eq (set9_size (.int .i64 a) (.string h.prev) (.string h.root) (.int .i64 h.time) (.int .i64 h.diff) (.int .i64 h.nonce) (.slice pa pn pc) (.slice sa sn sc) (.slice da dn dc))) (fun g9 hg9 => set9_other (show g9 ≠ g2 by have := (KP_w5.out.blk hg9).2; have := HG2.out; omega) (.int .i64 a) (.string h.prev) (.string h.root) (.int .i64 h.time) (.int .i64 h.diff) (.int .i64 h.nonce) (.slice pa pn pc) (.slice sa sn sc) (.slice da dn dc))).mono (by have := HG2.out; omega), PF.out.1, PF.out.2⟩ (nine_kg BW_w5.out (by have := HG2.out; omega) (.int .i64 a) (.string h.prev) (.string h.root) (.int .i64 h.time) (.int .i64 h.diff) (.int .i64 h.nonce) (.slice pa pn pc) (.slice sa sn sc) (.slice da dn dc))
    obtain ⟨e0, e1, e2, e3, e4, e5, e6, e7, e8⟩ := C9.out.nineP
    obtain ⟨f0, f1, f2, f3, f4, f5, f6, f7, f8⟩ := C9.out.nineZ
    obtain ⟨d0, d1, d2, d3, d4, d5, d6, d7, d8⟩ := C4_w5.out.nineP
    have hn24 : ¬ g2 = g4 := by have := HG4.out; omega
    have hn42 : ¬ g4 = g2 := fun h => hn24 h.symm
    go_wp2_with fail
    exact bodyPost_ret (results_cell_row (p := 2) rfl _ _ g2 30 #[.int .i64 a, .string h.prev, .string h.root, .int .i64 h.time, .int .i64 h.diff, .int .i64 h.nonce, .slice pa pn pc, .slice sa sn sc, .slice da dn dc] (0, 0) _ rfl TE.out Tryz.underlying30 rfl (by kernel_rfl)) rfl HQF.out

end Go.Proofs.YtialhnocknogpaaGreatDoor

set_option linter.unusedVariables false
namespace Go.Proofs.YtialhnocknogpaaGreatDoor
open Go.ChangeShapes Go.WideShapes Go.ChangeAt Go.RowKit Go.Deep Go.Joins

theorem CBk.nineC {w : World} {g : Nat} {T : TypeId} {a b c d e f x y z : Value} (h : CBk w g T #[a, b, c, d, e, f, x, y, z]) : w.cell? ⟨g, 0, none⟩ = some a ∧ w.cell? ⟨g, 1, none⟩ = some b ∧ w.cell? ⟨g, 2, none⟩ = some c ∧ w.cell? ⟨g, 3, none⟩ = some d ∧ w.cell? ⟨g, 4, none⟩ = some e ∧ w.cell? ⟨g, 5, none⟩ = some f ∧ w.cell? ⟨g, 6, none⟩ = some x ∧ w.cell? ⟨g, 7, none⟩ = some y ∧ w.cell? ⟨g, 8, none⟩ = some z :=
  ⟨h.cell 0, h.cell 1, h.cell 2, h.cell 3, h.cell 4, h.cell 5, h.cell 6, h.cell 7, h.cell 8⟩
theorem CBk.nineF {w : World} {g : Nat} {T : TypeId} {cs : Array Value} (h : CBk w g T cs) : w.frozen? ⟨g, 0, none⟩ = false ∧ w.frozen? ⟨g, 1, none⟩ = false ∧ w.frozen? ⟨g, 2, none⟩ = false ∧ w.frozen? ⟨g, 3, none⟩ = false ∧ w.frozen? ⟨g, 4, none⟩ = false ∧ w.frozen? ⟨g, 5, none⟩ = false ∧ w.frozen? ⟨g, 6, none⟩ = false ∧ w.frozen? ⟨g, 7, none⟩ = false ∧ w.frozen? ⟨g, 8, none⟩ = false :=
  ⟨h.frozen 0, h.frozen 1, h.frozen 2, h.frozen 3, h.frozen 4, h.frozen 5, h.frozen 6, h.frozen 7, h.frozen 8⟩
/-- A proof that an item is there, of the laws. -/
structure LPaid where
  a : Int
  h : HeadV
  r : LPrf
  da : Option Addr
  dn : Nat
  dc : Nat
  dl : List SideV
def lpaidVal (L : LPaid) : Value := .agg #[.int .i64 L.a, .string L.h.prev, .string L.h.root, .int .i64 L.h.time, .int .i64 L.h.diff, .int .i64 L.h.nonce, .slice L.r.pa L.r.pn L.r.pc, .slice L.r.sa L.r.sn L.r.sc, .slice L.da L.dn L.dc]
structure IsPaid (w : World) (L : LPaid) : Prop where
  a : (Lit.int .i64 L.a).wf = true
  h : wfHead L.h
  r : IsPrf w L.r
  d : IsSides w L.da L.dn L.dc L.dl
theorem sides_below {w w' : World} {a : Option Addr} {len cap : Nat} {ps : List SideV} (h : IsSides w a len cap ps) (hb : Below w.heap.size w w') : IsSides w' a len cap ps := by
  have hat := fun i hi => h.at enSide_len hb i hi
  rcases h with h1 | ⟨x, hx, h1, h2, h3, h4, h5⟩
  · exact .inl h1
  · refine .inr ⟨x, hx, h1, h2, h3, fun i j hi hj => ?_, h5⟩
    obtain ⟨y, hy, hc, _⟩ := hat i hi
    rw [hx] at hy
    obtain rfl := Option.some.inj hy
    exact hc j hj
theorem IsPaid.below {w w' : World} {L : LPaid} (h : IsPaid w L) (hb : Below w.heap.size w w') : IsPaid w' L := ⟨h.a, h.h, h.r.below hb, sides_below h.d hb⟩
theorem cellsInt2 : Tryz.prog.cellsOf 3 = 1 := by kernel_rfl
theorem nine_parts {cs : Array Value} {a b c d e f x y z : Value} (hl : cs.toList.length = 9) (h0 : (cs.toList.drop 0).take 1 = [a]) (h1 : (cs.toList.drop 1).take 5 = [b, c, d, e, f]) (h2 : (cs.toList.drop 6).take 2 = [x, y]) (h3 : (cs.toList.drop 8).take 1 = [z]) : cs = #[a, b, c, d, e, f, x, y, z] := by
  refine Array.ext' ?_
  match hx : cs.toList, hl with
  | [x0, x1, x2, x3, x4, x5, x6, x7, x8], _ =>
    rw [hx] at h0 h1 h2 h3
    simp at h0 h1 h2 h3
    obtain ⟨rfl, rfl, rfl, rfl, rfl⟩ := h1
    obtain ⟨rfl, rfl⟩ := h2
    subst h0 h3
    rfl
theorem one_of {l : List Value} (h : l.length = 1) : ∃ v, l = [v] := by
  match l, h with
  | [v], _ => exact ⟨v, rfl⟩
structure SmallPaid (L : LPaid) : Prop where
  h : smallHead L.h
  r : SmallPrf L.r
  dn : L.dn ≤ 1048576
  ds : ∀ i, i < L.dn → smallSide (L.dl.getD i default)
/-- A proof that an item is there, in memory of its own. -/
structure PaidV where
  s : PrfV
  g : Nat
  n : Nat
  c : Nat
def paidVal (L : LPaid) (v : PaidV) : Value := .agg #[.int .i64 L.a, .string L.h.prev, .string L.h.root, .int .i64 L.h.time, .int .i64 L.h.diff, .int .i64 L.h.nonce, .slice (some ⟨v.s.g, 0, none⟩) v.s.n v.s.c, .slice (some ⟨v.s.sg, 0, none⟩) v.s.sn v.s.sc, .slice (some ⟨v.g, 0, none⟩) v.n v.c]
structure CopyPaid (B : Nat) (L : LPaid) (v : PaidV) (w : World) : Prop where
  r : CopyPrf B L.r v.s w
  d : RowSide w v.g L.dl
  dn : v.n = L.dn
  dc : v.c = v.n
  lo : v.s.sg < v.g
theorem CopyPaid.below {B : Nat} {L : LPaid} {v : PaidV} {w w' : World} (h : CopyPaid B L v w) (hb : Below w.heap.size w w') : CopyPaid B L v w' :=
  ⟨h.r.below hb, h.d.below hb h.d.lt, h.dn, h.dc, h.lo⟩
theorem rowSd_other {w : World} {g g' : Nat} {l : List SideV} (h : RowSide w g l) (hg : g' ≠ g) (j : Nat) (v : Value) : RowSide (w.setCell ⟨g', j, none⟩ v) g l := by
  unfold RowSide RowF at h ⊢; simp [World.setCell, Array.getElem?_modify, h, hg]
theorem copyPrf_other {B : Nat} {L : LPrf} {s : PrfV} {w : World} (h : CopyPrf B L s w) {g' : Nat} (hg : g' < B) (j : Nat) (v : Value) : CopyPrf B L s (w.setCell ⟨g', j, none⟩ v) := by
  have h1 := h.lo
  have h2 := h.up
  exact ⟨rowP_other h.p (by omega) j v, h.ps, h.pn, h.pc, rowP_other h.st (by omega) j v, h.ss, h.sn, h.sc, h.lo, h.up⟩
theorem copyPrf_lo {B C : Nat} {L : LPrf} {s : PrfV} {w : World} (h : CopyPrf B L s w) (hc : C ≤ B) : CopyPrf C L s w :=
  ⟨h.p, h.ps, h.pn, h.pc, h.st, h.ss, h.sn, h.sc, Nat.le_trans hc h.lo, h.up⟩
theorem copyPaid_other {B : Nat} {L : LPaid} {v : PaidV} {w : World} (h : CopyPaid B L v w) {g' : Nat} (hg : g' < B) (j : Nat) (x : Value) : CopyPaid B L v (w.setCell ⟨g', j, none⟩ x) := by
  have h1 := h.r.lo
  have h2 := h.r.up
  have h3 := h.lo
  exact ⟨copyPrf_other h.r hg j x, rowSd_other h.d (by omega) j x, h.dn, h.dc, h.lo⟩
theorem copyPaid_lo {B C : Nat} {L : LPaid} {v : PaidV} {w : World} (h : CopyPaid B L v w) (hc : C ≤ B) : CopyPaid C L v w := ⟨copyPrf_lo h.r hc, h.d, h.dn, h.dc, h.lo⟩

theorem CopyPaid.len {B : Nat} {L : LPaid} {v : PaidV} {w : World} (h : CopyPaid B L v w) : v.n = L.dn := h.dn
structure LenPaid (L : LPaid) : Prop where
  p : L.r.pl.length = L.r.pn
  s : L.r.sl.length = L.r.sn
  d : L.dl.length = L.dn
theorem IsPaid.lens {w : World} {L : LPaid} (h : IsPaid w L) : LenPaid L := ⟨h.r.p.len, h.r.s.len, h.d.len⟩
end Go.Proofs.YtialhnocknogpaaGreatDoor

set_option linter.unusedVariables false
namespace Go.Proofs.YtialhnocknogpaaGreatDoor
open Go.RowKit Go.Deep

theorem CBk.drewP {w : World} {g : Nat} {T : TypeId} {cs : Array Value} (h : CBk w g T cs) : CBk w.drew g T cs := h
def pheadVal (L : LPaid) (v : PaidV) : Value := .agg #[.int .i64 L.a, .string L.h.prev, .string L.h.root, .int .i64 L.h.time, .int .i64 L.h.diff, .int .i64 L.h.nonce, .slice (some ⟨v.s.g, 0, none⟩) v.s.n v.s.c, .slice (some ⟨v.s.sg, 0, none⟩) v.s.sn v.s.sc]
theorem at_new2 (w : World) (o1 o2 : Obj) : ((w.alloc o1).alloc o2).heap[w.heap.size + 1]? = some o2 := by
  have := heap_alloc_new (w.alloc o1) o2
  rwa [show (w.alloc o1).heap.size = w.heap.size + 1 from by simp] at this
set_option maxRecDepth 100000 in
theorem runHeadPart (L : LPaid) (v : PaidV) (w : World) : (Instr.field 48 (.agg #[.int .i64 L.a, .string L.h.prev, .string L.h.root, .int .i64 L.h.time, .int .i64 L.h.diff, .int .i64 L.h.nonce, .slice (some ⟨v.s.g, 0, none⟩) v.s.n v.s.c, .slice (some ⟨v.s.sg, 0, none⟩) v.s.sn v.s.sc, .slice (some ⟨v.g, 0, none⟩) v.n v.c]) 0).run Tryz.prog w = .ok (.agg #[.int .i64 L.a, .string L.h.prev, .string L.h.root, .int .i64 L.h.time, .int .i64 L.h.diff, .int .i64 L.h.nonce, .slice (some ⟨v.s.g, 0, none⟩) v.s.n v.s.c, .slice (some ⟨v.s.sg, 0, none⟩) v.s.sn v.s.sc]) w := by kernel_rfl
set_option maxHeartbeats 1000000 in
set_option maxRecDepth 100000 in
theorem implPaidOpen (L : LPaid) (v : PaidV) (w : World) :
    Calls Tryz.prog 13 #[paidVal L v] w fun e w' => e = .returned (paidVal L v) ∧ Below w.heap.size w w' := by
  unfold paidVal
  go_enter Tryz.func13, Tryz.ntmps13
  go_wp2_with fail
  exact bodyPost_ret (results_cell_row (p := 2) rfl _ _ (w.heap.size + 1) 48 #[.int .i64 L.a, .string L.h.prev, .string L.h.root, .int .i64 L.h.time, .int .i64 L.h.diff, .int .i64 L.h.nonce, .slice (some ⟨v.s.g, 0, none⟩) v.s.n v.s.c, .slice (some ⟨v.s.sg, 0, none⟩) v.s.sn v.s.sc, .slice (some ⟨v.g, 0, none⟩) v.n v.c] (0, 0) _ rfl (at_new2 _ _ _) Tryz.underlying48 rfl (by kernel_rfl)) rfl ⟨rfl, ((Below.refl _ w).alloc (Nat.le_refl _) _).alloc (by simp) _⟩

end Go.Proofs.YtialhnocknogpaaGreatDoor

set_option linter.unusedVariables false
namespace Go.Proofs.YtialhnocknogpaaGreatDoor
open Go.RowKit Go.Deep

/-- How many heads a range has behind a place. -/
def deepV (ps : List PeakV) (a : Int) : Int := if 0 ≤ a ∧ a < (rangeMany ps).1 then (rangeMany ps).1 - 1 - a else -1
theorem many_in (ps : List PeakV) : -1 ≤ (rangeMany ps).1 ∧ (rangeMany ps).1 ≤ 20 := by
  cases h : rangeOkB ps with
  | false => rw [many_no h]; exact ⟨by decide, by decide⟩
  | true =>
    rw [many_yes h]
    have h2 := h
    rw [rangeOkB, Bool.and_eq_true, decide_eq_true_eq] at h2
    refine ⟨?_, h2.2⟩
    have : ∀ k, k ≤ ps.length → 0 ≤ cntTo ps k := by
      intro k
      induction k with
      | zero => intro _; exact Int.le_refl _
      | succ k ih =>
        intro hk
        have h3 := ih (by omega)
        have h4 := rangeOk_at h k (by omega)
        rw [cntTo]
        omega
    have h5 := this ps.length (Nat.le_refl _)
    show (-1 : Int) ≤ cntTo ps ps.length
    omega

set_option maxHeartbeats 4000000 in
set_option maxRecDepth 100000 in
theorem implDeep (L : LPaid) (v : PaidV) (ps : List PeakV) (w : World) (h : AtP w v.s.g ps) (hn : v.s.n = ps.length) (hm : v.s.n ≤ 1048576) :
    Calls Tryz.prog 14 #[pheadVal L v] w fun e w' => e = .returned (.int .i64 (deepV ps L.a)) ∧ Below w.heap.size w w' := by
  have L0 : Hid (Below w.heap.size w (w.alloc (.cells #[.int .i64 L.a, .string L.h.prev, .string L.h.root, .int .i64 L.h.time, .int .i64 L.h.diff, .int .i64 L.h.nonce, .slice (some ⟨v.s.g, 0, none⟩) v.s.n v.s.c, .slice (some ⟨v.s.sg, 0, none⟩) v.s.sn v.s.sc] 46))) := (Below.refl _ w).alloc (Nat.le_refl _) _
  have C0 : Hid (CBk (w.alloc (.cells #[.int .i64 L.a, .string L.h.prev, .string L.h.root, .int .i64 L.h.time, .int .i64 L.h.diff, .int .i64 L.h.nonce, .slice (some ⟨v.s.g, 0, none⟩) v.s.n v.s.c, .slice (some ⟨v.s.sg, 0, none⟩) v.s.sn v.s.sc] 46)) w.heap.size 46 #[.int .i64 L.a, .string L.h.prev, .string L.h.root, .int .i64 L.h.time, .int .i64 L.h.diff, .int .i64 L.h.nonce, .slice (some ⟨v.s.g, 0, none⟩) v.s.n v.s.c, .slice (some ⟨v.s.sg, 0, none⟩) v.s.sn v.s.sc]) := CBk.new w _ _
  have hmy := implRangeMany v.s.g v.s.n v.s.c ps _ (h.below L0.out h.1) hn hm
  have HV : Hid (deepV ps L.a = if 0 ≤ L.a ∧ L.a < (rangeMany ps).1 then (rangeMany ps).1 - 1 - L.a else -1) := rfl
  have HB := many_in ps
  generalize (rangeMany ps).2 = y at hmy
  generalize (rangeMany ps).1 = m at hmy HV HB
  generalize deepV ps L.a = R at HV ⊢
  clear h hn hm
  unfold pheadVal
  have hw1 : IntKind.i64.wrap (m - 1) = m - 1 := by rw [IntKind.wrap_i64]; omega
  go_enter Tryz.func14, Tryz.ntmps14
  go_wp2_with fail
  refine hmy.mono ?_
  rintro e w1 ⟨rfl, b1⟩
  have C1 : Hid (CBk w1 w.heap.size 46 #[.int .i64 L.a, .string L.h.prev, .string L.h.root, .int .i64 L.h.time, .int .i64 L.h.diff, .int .i64 L.h.nonce, .slice (some ⟨v.s.g, 0, none⟩) v.s.n v.s.c, .slice (some ⟨v.s.sg, 0, none⟩) v.s.sn v.s.sc]) := C0.out.call b1
  have L1 : Hid (Below w.heap.size w w1) := L0.out.trans (b1.mono L0.out.size)
  have c0 := C1.out.cell 0
  clear C0 L0 b1 hmy
  replace c0 : w1.cell? ⟨w.heap.size, 0, none⟩ = some (.int .i64 L.a) := c0
  by_cases h0 : L.a < 0
  · have HR : Hid (R = -1) := by show _ = _; rw [HV.out, if_neg (by omega)]
    clear HV HB hw1
    go_wp2_with fail
    go_ret
    exact ⟨by rw [HR.out]; rfl, L1.out⟩
  by_cases h1 : m ≤ L.a
  · have HR : Hid (R = -1) := by show _ = _; rw [HV.out, if_neg (by omega)]
    clear HV HB hw1
    go_wp2_with fail
    go_ret
    exact ⟨by rw [HR.out]; rfl, L1.out⟩
  have HR : Hid (R = m - 1 - L.a) := by show _ = _; rw [HV.out, if_pos (by omega)]
  have hw2 : IntKind.i64.wrap (m - 1 - L.a) = m - 1 - L.a := by rw [IntKind.wrap_i64]; omega
  clear HV HB
  go_wp2_with fail
  go_ret
  exact ⟨by rw [HR.out]; rfl, L1.out⟩

set_option maxHeartbeats 4000000 in
set_option maxRecDepth 100000 in
theorem specPaidDeep (L : LPaid) (v : PaidV) (ps : List PeakV) (w : World) (h : AtP w v.s.g ps) (hn : v.s.n = ps.length) (hm : v.s.n ≤ 1048576) (hz : ∀ i, i < ps.length → (ps.getD i default).sum.size ≤ maxLen) :
    Calls Tryz.prog 6 #[paidVal L v] w fun e w' => e = .returned (.int .i64 (deepV ps L.a)) ∧ Below w.heap.size w w' := by
  have L0 : Hid (Below w.heap.size w (w.alloc (.cells #[.int .i64 L.a, .string L.h.prev, .string L.h.root, .int .i64 L.h.time, .int .i64 L.h.diff, .int .i64 L.h.nonce, .slice (some ⟨v.s.g, 0, none⟩) v.s.n v.s.c, .slice (some ⟨v.s.sg, 0, none⟩) v.s.sn v.s.sc, .slice (some ⟨v.g, 0, none⟩) v.n v.c] 30))) := (Below.refl _ w).alloc (Nat.le_refl _) _
  have C0 : Hid (CBk (w.alloc (.cells #[.int .i64 L.a, .string L.h.prev, .string L.h.root, .int .i64 L.h.time, .int .i64 L.h.diff, .int .i64 L.h.nonce, .slice (some ⟨v.s.g, 0, none⟩) v.s.n v.s.c, .slice (some ⟨v.s.sg, 0, none⟩) v.s.sn v.s.sc, .slice (some ⟨v.g, 0, none⟩) v.n v.c] 30)) w.heap.size 30 #[.int .i64 L.a, .string L.h.prev, .string L.h.root, .int .i64 L.h.time, .int .i64 L.h.diff, .int .i64 L.h.nonce, .slice (some ⟨v.s.g, 0, none⟩) v.s.n v.s.c, .slice (some ⟨v.s.sg, 0, none⟩) v.s.sn v.s.sc, .slice (some ⟨v.g, 0, none⟩) v.n v.c]) := CBk.new w _ _
  have hmy := specRangeMany v.s.g v.s.n v.s.c ps _ (h.below L0.out h.1) hn hm hz
  have HV : Hid (deepV ps L.a = if 0 ≤ L.a ∧ L.a < (rangeMany ps).1 then (rangeMany ps).1 - 1 - L.a else -1) := rfl
  have HB := many_in ps
  generalize (rangeMany ps).2 = y at hmy
  generalize (rangeMany ps).1 = m at hmy HV HB
  generalize deepV ps L.a = R at HV ⊢
  have hin := fun w' => specIn L.a 0 (m - 1) w'
  clear h hn hm hz
  unfold paidVal
  have hw1 : IntKind.i64.wrap (m - 1) = m - 1 := by rw [IntKind.wrap_i64]; omega
  go_enter Tryz.func6, Tryz.ntmps6
  go_wp2_with fail
  refine hmy.mono ?_
  rintro e w1 ⟨rfl, b1⟩
  have C1 : Hid (CBk w1 w.heap.size 30 #[.int .i64 L.a, .string L.h.prev, .string L.h.root, .int .i64 L.h.time, .int .i64 L.h.diff, .int .i64 L.h.nonce, .slice (some ⟨v.s.g, 0, none⟩) v.s.n v.s.c, .slice (some ⟨v.s.sg, 0, none⟩) v.s.sn v.s.sc, .slice (some ⟨v.g, 0, none⟩) v.n v.c]) := C0.out.call b1
  have L1 : Hid (Below w.heap.size w w1) := L0.out.trans (b1.mono L0.out.size)
  have c0 := C1.out.cell 0
  clear C0 L0 b1 hmy
  replace c0 : w1.cell? ⟨w.heap.size, 0, none⟩ = some (.int .i64 L.a) := c0
  by_cases h0 : m < 0
  · have HR : Hid (R = -1) := by show _ = _; rw [HV.out, if_neg (by omega)]
    clear HV HB hw1 hin
    go_wp2_with fail
    go_ret
    exact ⟨by rw [HR.out]; rfl, L1.out⟩
  by_cases h1 : 0 ≤ L.a ∧ L.a ≤ m - 1
  · have HR : Hid (R = m - 1 - L.a) := by show _ = _; rw [HV.out, if_pos (by omega)]
    have hw2 : IntKind.i64.wrap (m - 1 - L.a) = m - 1 - L.a := by rw [IntKind.wrap_i64]; omega
    rw [inB_yes h1] at hin
    clear HV HB h1
    go_wp2_with fail
    refine (hin _).mono ?_
    rintro e w2 ⟨rfl, rfl⟩
    go_wp2_with fail
    go_ret
    exact ⟨by rw [HR.out]; rfl, L1.out⟩
  · have HR : Hid (R = -1) := by show _ = _; rw [HV.out, if_neg (by omega)]
    rw [inB_no h1] at hin
    clear HV HB h1
    go_wp2_with fail
    refine (hin _).mono ?_
    rintro e w2 ⟨rfl, rfl⟩
    go_wp2_with fail
    go_ret
    exact ⟨by rw [HR.out]; rfl, L1.out⟩

set_option maxHeartbeats 1000000 in
set_option maxRecDepth 100000 in
theorem implPaidDeep (L : LPaid) (v : PaidV) (ps : List PeakV) (w : World) (h : AtP w v.s.g ps) (hn : v.s.n = ps.length) (hm : v.s.n ≤ 1048576) :
    Calls Tryz.prog 5 #[paidVal L v] w fun e w' => e = .returned (.int .i64 (deepV ps L.a)) ∧ Below w.heap.size w w' := by
  have L0 : Hid (Below w.heap.size w (w.alloc (.cells #[.int .i64 L.a, .string L.h.prev, .string L.h.root, .int .i64 L.h.time, .int .i64 L.h.diff, .int .i64 L.h.nonce, .slice (some ⟨v.s.g, 0, none⟩) v.s.n v.s.c, .slice (some ⟨v.s.sg, 0, none⟩) v.s.sn v.s.sc, .slice (some ⟨v.g, 0, none⟩) v.n v.c] 30))) := (Below.refl _ w).alloc (Nat.le_refl _) _
  have hop := implPaidOpen L v
  have HD : Hid (∀ w', Below w.heap.size w w' → Calls Tryz.prog 14 #[pheadVal L v] w' fun e w'' => e = .returned (.int .i64 (deepV ps L.a)) ∧ Below w'.heap.size w' w'') := fun w' hb => implDeep L v ps w' (h.below hb h.1) hn hm
  generalize deepV ps L.a = R at HD ⊢
  clear h hn hm
  unfold pheadVal at HD
  unfold paidVal at hop ⊢
  go_enter Tryz.func5, Tryz.ntmps5
  go_wp2_with fail
  refine (hop _).mono ?_
  rintro e w1 ⟨rfl, b1⟩
  have L1 : Hid (Below w.heap.size w w1) := L0.out.trans (b1.mono L0.out.size)
  have hfl := runHeadPart L v w1
  clear L0 b1 hop
  go_wp2_with fail
  refine (HD.out _ L1.out).mono ?_
  rintro e w2 ⟨rfl, b2⟩
  go_wp2_with fail
  go_ret
  exact ⟨rfl, L1.out.trans (b2.mono L1.out.size)⟩

theorem CopyPaid.atP {B : Nat} {L : LPaid} {v : PaidV} {w : World} (h : CopyPaid B L v w) : AtP w v.s.g L.r.pl := h.r.p.at 3 pEnc_len
end Go.Proofs.YtialhnocknogpaaGreatDoor

set_option linter.unusedVariables false
namespace Go.Proofs.YtialhnocknogpaaGreatDoor
open Go.RowKit Go.Deep

theorem rangeOk_nil : rangeOkB [] = true := rfl
theorem implRangeOkNil (ps : List PeakV) (hps : ps = []) (w : World) : Calls Tryz.prog 17 #[.slice none 0 0] w fun e w' => e = .returned (.bool (rangeOkB ps)) ∧ Below w.heap.size w w' := by
  rw [hps, rangeOk_nil]
  clear hps
  go_enter Tryz.func17, Tryz.ntmps17
  go_wp2_with fail
  go_loopw [3, 8] (fun m i wr => m = .int .i64 0 ∧ i = .int .i64 0 ∧ Hid (wr = w)) (fun _ _ _ => 0)
  case atStart => exact ⟨rfl, rfl, rfl⟩
  case round =>
    obtain ⟨rfl, rfl, HW⟩ := hrel
    go_wp2_with fail
    go_ret
    exact ⟨rfl, by rw [HW.out]; exact Below.refl _ _⟩
theorem implRangeManyNil (w : World) : Calls Tryz.prog 7 #[.slice none 0 0] w fun e w' => e = .returned (.tuple #[.int .i64 0, .int .i64 0]) ∧ Below w.heap.size w w' := by
  have hok := implRangeOkNil [] rfl w
  rw [rangeOk_nil] at hok
  go_enter Tryz.func7, Tryz.ntmps7
  go_wp2_with fail
  refine hok.mono ?_
  rintro e w1 ⟨rfl, b1⟩
  have B1 : Hid (Below w.heap.size w w1) := b1
  clear b1 hok
  go_wp2_with fail
  go_loopw [4, 5, 13] (fun m v i wr => m = .int .i64 0 ∧ v = .int .i64 0 ∧ i = .int .i64 0 ∧ Hid (wr = w1)) (fun _ _ _ _ => 0)
  case atStart => exact ⟨rfl, rfl, rfl, rfl⟩
  case round =>
    obtain ⟨rfl, rfl, rfl, HW⟩ := hrel
    go_wp2_with fail
    go_ret2
    exact ⟨rfl, by rw [HW.out]; exact B1.out⟩
theorem specL5OkNil (w : World) : Calls Tryz.prog 27 #[.slice none 0 0] w fun e w' => e = .returned (.bool true) ∧ Below w.heap.size w w' := by
  go_enter Tryz.func27, Tryz.ntmps27
  go_wp2_with fail
  go_loopw [3, 4] (fun m i wr => m = .int .i64 0 ∧ i = .int .i64 0 ∧ Hid (wr = w)) (fun _ _ _ => 0)
  case atStart => exact ⟨rfl, rfl, rfl⟩
  case round =>
    obtain ⟨rfl, rfl, HW⟩ := hrel
    go_wp2_with fail
    go_ret
    exact ⟨rfl, by rw [HW.out]; exact Below.refl _ _⟩

set_option linter.unusedSimpArgs false in
set_option maxHeartbeats 8000000 in
set_option maxRecDepth 100000 in
theorem implRangeAddNil (ps : List PeakV) (hps : ps = []) (h : HeadV) (w : World) (hK : RowG w shaK) (hP : TabP w) :
    Calls Tryz.prog 8 #[.slice none 0 0, headVal h] w fun e w' => AddPost w.heap.size ps h e w' ∧ Below w.heap.size w w' := by
  have HK : Hid (RowG w shaK) := hK
  have HP : Hid (TabP w) := hP
  have hok := fun (w' : World) (hb : Below w.heap.size w w') => implRangeOkNil ps hps w'
  have hho := fun w' => implHeadOk h w'
  have HST : Hid (rangeOkB ps = true → ∀ (w' : World), Below w.heap.size w w' → Calls Tryz.prog 19 #[.slice none 0 0] w' fun e w'' => StackRes w' ps e w'') := fun hr w' hb => by rw [hps]; exact implPeakStackNil w'
  have HPU : Hid (rangeOkB ps = true → headOkB h = true → ∀ (w' : World) (g4 : Nat), Stk w w' g4 ps → Calls Tryz.prog 20 #[.pointer (some ⟨g4, 0, none⟩), peakVal (leafP h)] w' fun e w'' => PushRes w g4 (addP ps (leafP h)) e w'') := fun hr hk w' g4 hs => implPush w g4 ps (leafP h) w' hs (by rw [hps]; decide) (fun i hi => peaks_ok hr i hi) (room_leaf hk (range_cnt hr)) HK.out HP.out
  have HPH : Hid (headOkB h = true → ∀ (w' : World), Below w.heap.size w w' → Calls Tryz.prog 21 #[headVal h] w' fun e w'' => e = .returned (peakVal (leafP h)) ∧ Below w'.heap.size w' w'') := fun hk w' hb => implPeakHead h w' hk (HK.out.below hb HK.out.lt) (TabP.below HP.out hb (Nat.le_refl _))
  have HLN : Hid (rangeOkB ps = true → (addP ps (leafP h)).length ≤ 1048576) := fun hr => by
    have h1 := addP_len ps (leafP h)
    have h2 := range_len hr
    omega
  have HBAD : Hid (∀ (e : Ending) (w' : World), (rangeOkB ps && headOkB h) = false → e = .returned (.tuple #[.slice none 0 0, .bool false]) → AddPost w.heap.size ps h e w') := fun e w' h1 h2 => .inl ⟨h1, h2⟩
  have HGOOD : Hid (∀ (e : Ending) (w' : World) (v : Value), rangeOkB ps = true → headOkB h = true → e = .returned (.tuple #[v, .bool (rangeOkB (addP ps (leafP h)))]) → PRow w.heap.size v (if rangeOkB (addP ps (leafP h)) then addP ps (leafP h) else ps) w' → AddPost w.heap.size ps h e w') := fun e w' v h1 h2 h3 h4 => .inr ⟨by rw [h1, h2]; rfl, v, h3, h4⟩
  generalize AddPost w.heap.size ps h = Q at HBAD HGOOD ⊢
  generalize leafP h = p at HPU HPH HLN HGOOD
  generalize addP ps p = A at HPU HLN HGOOD
  clear hK hP hps
  unfold headVal at hho HPH ⊢
  unfold peakVal at HPU HPH
  have C0 : Hid (CBk (w.alloc (.cells #[.string h.prev, .string h.root, .int .i64 h.time, .int .i64 h.diff, .int .i64 h.nonce] 24)) w.heap.size 24 #[.string h.prev, .string h.root, .int .i64 h.time, .int .i64 h.diff, .int .i64 h.nonce]) := CBk.new w _ _
  have B0 : Hid (Below w.heap.size w (w.alloc (.cells #[.string h.prev, .string h.root, .int .i64 h.time, .int .i64 h.diff, .int .i64 h.nonce] 24))) := (Below.refl _ w).alloc (Nat.le_refl _) _
  go_enter Tryz.func8, Tryz.ntmps8
  have h0 := hok _ B0.out
  clear hok
  go_wp2_with fail
  generalize w.alloc (.cells #[.string h.prev, .string h.root, .int .i64 h.time, .int .i64 h.diff, .int .i64 h.nonce] 24) = W0 at C0 B0 h0 ⊢
  obtain ⟨g0, hg0⟩ : ∃ g0, g0 = w.heap.size := ⟨_, rfl⟩
  rw [← hg0] at C0 ⊢
  clear hg0
  cases hrk : rangeOkB ps with
  | false =>
    have HV : Hid (∀ e w', e = .returned (.tuple #[.slice none 0 0, .bool false]) → Q e w') := fun e w' he => HBAD.out e w' (by rw [hrk]; rfl) he
    rw [hrk] at h0
    clear hho HBAD HGOOD hrk HST HPU HPH HLN
    refine Calls.mono h0 ?_
    rintro e w1 ⟨rfl, b1⟩
    go_wp2_with fail
    go_ret2
    have h9 := HV.out
    exact ⟨h9 _ _ rfl, B0.out.trans (b1.mono B0.out.size)⟩
  | true =>
  have HRK : Hid (rangeOkB ps = true) := hrk
  rw [hrk] at h0
  clear hrk
  refine Calls.mono h0 ?_
  rintro e w1 ⟨rfl, b1⟩
  have C1 : Hid (CBk w1 g0 24 #[.string h.prev, .string h.root, .int .i64 h.time, .int .i64 h.diff, .int .i64 h.nonce]) := C0.out.call b1
  have B1 : Hid (Below w.heap.size w w1) := B0.out.trans (b1.mono B0.out.size)
  clear C0 B0 b1 h0
  obtain ⟨e0, e1, e2, e3, e4⟩ := C1.out.cells5
  cases hhk : headOkB h with
  | false =>
    have HV : Hid (∀ e w', e = .returned (.tuple #[.slice none 0 0, .bool false]) → Q e w') := fun e w' he => HBAD.out e w' (by rw [hhk, HRK.out]; rfl) he
    rw [hhk] at hho
    clear HBAD HGOOD hhk HST HPU HPH HLN
    go_wp2_with fail
    refine (hho _).mono ?_
    rintro e w2 ⟨rfl, b2⟩
    go_wp2_with fail
    go_ret2
    have h9 := HV.out
    exact ⟨h9 _ _ rfl, B1.out.trans (b2.mono B1.out.size)⟩
  | true =>
  have HHK : Hid (headOkB h = true) := hhk
  rw [hhk] at hho
  clear hhk HBAD
  go_wp2_with fail
  refine (hho _).mono ?_
  rintro e w2 ⟨rfl, b2⟩
  have C2 : Hid (CBk w2 g0 24 #[.string h.prev, .string h.root, .int .i64 h.time, .int .i64 h.diff, .int .i64 h.nonce]) := C1.out.call b2
  have B2 : Hid (Below w.heap.size w w2) := B1.out.trans (b2.mono B1.out.size)
  have hst := HST.out HRK.out _ B2.out
  clear C1 B1 b2 hho e0 e1 e2 e3 e4
  go_wp2_with fail
  refine Calls.mono hst ?_
  rintro e w3 ⟨g4, rfl, hs3⟩
  have S3 : Hid (Stk w w3 g4 ps) := hs3.lower B2.out
  have C3 : Hid (CBk w3 g0 24 #[.string h.prev, .string h.root, .int .i64 h.time, .int .i64 h.diff, .int .i64 h.nonce]) := C2.out.call hs3.b
  clear C2 B2 hst hs3
  obtain ⟨e0, e1, e2, e3, e4⟩ := C3.out.cells5
  have hph := HPH.out HHK.out _ S3.out.b
  clear HPH
  go_wp2_with fail
  refine hph.mono ?_
  rintro e w4 ⟨rfl, b4⟩
  have S4 : Hid (Stk w w4 g4 ps) := S3.out.call b4
  have hpu := HPU.out HRK.out HHK.out _ _ S4.out
  clear HPU S3 C3 b4 hph e0 e1 e2 e3 e4
  go_wp2_with fail
  refine Calls.mono hpu ?_
  rintro e w5 ⟨rfl, r, c, M, hs5⟩
  have S5 : Hid (StkW w w5 g4 r c M A) := hs5
  have HM5 : Hid (M = A.length) := hs5.len.symm
  clear hpu hs5 S4
  obtain ⟨a0, a1, a2⟩ := S5.out.outs
  have hok5 := implRangeOk r M c A w5 S5.out.at.1 S5.out.at.2.1 (by rw [HM5.out]; have := HLN.out HRK.out; omega)
  go_wp2_with fail
  cases hra : rangeOkB A with
  | true =>
    have HV : Hid (∀ e w' v, e = .returned (.tuple #[v, .bool true]) → PRow w.heap.size v A w' → Q e w') := fun e w' v he hR => HGOOD.out e w' v HRK.out HHK.out (by rw [hra]; exact he) (by rw [hra]; exact hR)
    rw [hra] at hok5
    clear hra HGOOD HST HLN
    refine hok5.mono ?_
    rintro e w6 ⟨rfl, b6⟩
    have S6 : Hid (StkW w w6 g4 r c M A) := S5.out.call b6
    clear S5 b6 hok5 a0 a1 a2
    obtain ⟨a0, a1, a2⟩ := S6.out.outs
    go_wp2_with fail
    go_ret2
    have h9 := HV.out
    exact ⟨h9 _ _ _ rfl S6.out.frow, S6.out.b⟩
  | false =>
    have HV : Hid (∀ e w' v, e = .returned (.tuple #[v, .bool false]) → PRow w.heap.size v ps w' → Q e w') := fun e w' v he hR => HGOOD.out e w' v HRK.out HHK.out (by rw [hra]; exact he) (by rw [hra]; exact hR)
    rw [hra] at hok5
    clear hra HGOOD HLN
    refine hok5.mono ?_
    rintro e w6 ⟨rfl, b6⟩
    have B6 : Hid (Below w.heap.size w w6) := S5.out.b.trans (b6.mono S5.out.b.size)
    have hst := HST.out HRK.out _ B6.out
    clear S5 b6 hok5 a0 a1 a2 HST
    go_wp2_with fail
    refine Calls.mono hst ?_
    rintro e w7 ⟨g8, rfl, r8, c8, M8, hs7⟩
    have S7 : Hid (StkW w w7 g8 r8 c8 M8 ps) := hs7.lower B6.out
    clear hst hs7 B6
    obtain ⟨a0, a1, a2⟩ := S7.out.outs
    go_wp2_with fail
    go_ret2
    have h9 := HV.out
    exact ⟨h9 _ _ _ rfl S7.out.frow, S7.out.b⟩

end Go.Proofs.YtialhnocknogpaaGreatDoor

set_option linter.unusedVariables false
namespace Go.Proofs.YtialhnocknogpaaGreatDoor
open Go.RowKit Go.Deep

section
variable {P : Program} {w : World}
theorem run_append_nil (t ty e : TypeId) (i : TypeInfo) (ht : P.underlying t = some (.slice e)) (hi : P.info? e = some i) {base size n : Nat} {v : Value} {xs : List Value} (hown : w.ownsRow base e size v n xs) :
    (Builtin.append_ #[t, t] ty #[v, .slice none 0 0]).run P w = .ok v w := by
  rcases hown.2 with ⟨rfl, _⟩ | ⟨g, cap, cur, rfl, _, _, hc, _⟩
  · simp [Builtin.append_, run_underlying ht, sizeOf, typeInfo, hi, Builtin.lenOf, run_firstCells_none]
  · simp [Builtin.append_, run_underlying ht, sizeOf, typeInfo, hi, Builtin.lenOf, run_firstCells_none, hc, storeCells]
theorem wpList_append_nil {ops : Array Oper} {rest : List Oper} {o : Oper} {a : Act} {Q : Exit → Act → World → Prop} (hgd : o.guard = none) (s x : Operand) (t : TypeId)
    (ho : o.op = .call { callee := .builtin .append, args := #[s, x], argTypes := #[t, t] })
    (base : Nat) (e : TypeId) (i : TypeInfo) (size : Nat) (ht : P.underlying t = some (.slice e)) (hi : P.info? e = some i)
    (v : Value) (n : Nat) (xs : List Value) (hs : a.eval s = v) (hown : w.ownsRow base e size v n xs) (hx : a.eval x = .slice none 0 0)
    (h : wpList P ops Q rest (a.put o.dst v) w) : wpList P ops Q (o :: rest) a w := by
  have hr := run_append_nil (P := P) (w := w) t o.type e i ht hi hown
  refine wpList_plain hgd fun K hK => ?_
  unfold Oper.wp execOp
  simp only [ho, resolve, invoke, builtin, Sem.run_bind, Sem.run_pure, Result.andThen_ok, List.map_toArray, List.map_cons, List.map_nil, hs, hx, hr]
  exact hK _ _ h
end

set_option maxHeartbeats 8000000 in
set_option maxRecDepth 100000 in
theorem specL5AddNil (p : PeakV) (w : World) :
    Calls Tryz.prog 41 #[.slice none 0 0, peakVal p] w fun e w' => ∃ v, e = .returned v ∧ PRow w.heap.size v (addP [] p) w' ∧ Below w.heap.size w w' := by
  obtain ⟨i0, hi, hz0, hz1, hz2⟩ := info3 infoPeak
  have HAD : Hid (addP [] p = [p]) := addP_nil p
  generalize addP [] p = A at HAD ⊢
  unfold peakVal
  have C0 : Hid (CBk ((w.alloc (.cells #[.string p.sum, .int .i64 p.work, .int .i64 p.count] 54)).alloc (.cells #[] 54)) w.heap.size 54 #[.string p.sum, .int .i64 p.work, .int .i64 p.count]) := (CBk.new w _ _).alloc _
  have L0 : Hid (Below w.heap.size w ((w.alloc (.cells #[.string p.sum, .int .i64 p.work, .int .i64 p.count] 54)).alloc (.cells #[] 54))) := ((Below.refl _ w).alloc (Nat.le_refl _) _).alloc (by simp) _
  have R0 : Hid (((w.alloc (.cells #[.string p.sum, .int .i64 p.work, .int .i64 p.count] 54)).alloc (.cells #[] 54)).ownsRow (w.heap.size + 1) 54 3 (.slice (some ⟨w.heap.size + 1, 0, none⟩) 0 0) 0 []) := by
    have := (frow_new pEnc 54 3 (w.alloc (.cells #[.string p.sum, .int .i64 p.work, .int .i64 p.count] 54))).2
    rwa [show (w.alloc (.cells #[.string p.sum, .int .i64 p.work, .int .i64 p.count] 54)).heap.size = w.heap.size + 1 from by simp] at this
  have HZ : Hid (((w.alloc (.cells #[.string p.sum, .int .i64 p.work, .int .i64 p.count] 54)).alloc (.cells #[] 54)).heap.size = w.heap.size + 2) := by show _ = _; simp
  go_enter Tryz.func41, Tryz.ntmps41
  obtain ⟨g3, hg3⟩ : ∃ g3, g3 = w.heap.size := ⟨_, rfl⟩
  have HG3 : Hid (g3 = w.heap.size) := hg3
  go_wp2_with (at_builtin; refine wpList_append_nil rfl _ _ 25 rfl (w.heap.size + 1) 54 i0 3 Tryz.underlying25 hi _ 0 [] (by rfl) R0.out (by rfl) ?_)
  generalize ((w.alloc (.cells #[.string p.sum, .int .i64 p.work, .int .i64 p.count] 54)).alloc (.cells #[] 54)) = W1 at C0 L0 R0 HZ ⊢
  rw [show w.heap.size = g3 from hg3.symm] at C0 ⊢
  clear hg3
  go_wp2_with fail
  go_loopw [5] (fun out wr => out = .slice (some ⟨g3 + 1, 0, none⟩) 0 0 ∧ Hid (wr = W1)) (fun _ _ => 0)
  case atStart => exact ⟨rfl, rfl⟩
  case round =>
    obtain ⟨rfl, HW⟩ := hrel
    have hx1 : 0 + 1 ≤ maxLen := by unfold maxLen; omega
    have hx2 : (0 + 1) * 32 ≤ 140737488355328 := by omega
    have hu := pEnc_one p
    have CR : Hid (CBk wr g3 54 #[.string p.sum, .int .i64 p.work, .int .i64 p.count]) := by rw [HW.out]; exact C0.out
    have HB : Hid (Below w.heap.size w wr) := by rw [HW.out]; exact L0.out
    have hsz : w.heap.size + 1 ≤ wr.heap.size := by rw [HW.out]; have := HZ.out; omega
    have HRW : Hid (wr.drew.ownsRow (w.heap.size + 1) 54 3 (.slice (some ⟨g3 + 1, 0, none⟩) 0 0) 0 []) := by rw [HW.out, HG3.out]; exact R0.out
    clear C0 L0 R0 HZ HW
    obtain ⟨d0, d1, d2⟩ := CR.out.cells3
    go_wp2_with fail
    go_big_region
    obtain ⟨d0, d1, d2⟩ := CR.out.cells3
    go_wp2_with (at_builtin; rw [drewAlloc]; refine wp_appN rfl _ _ 25 rfl (w.heap.size + 1) 54 i0 (.agg #[.string ⟨#[]⟩, .int .i64 0, .int .i64 0]) 3 32 1 Tryz.underlying25 hi hz0 hz1 hz2 rfl (by decide) (by decide) (.slice (some ⟨g3 + 1, 0, none⟩) 0 0) 0 _ rfl HRW.out (pEnc p) (by first | rfl | simp [Act.eval]) rfl hu hx1 hx2 hsz ?_; intro g6 c6 w6 hown6 hb6 hkeep6)
    have R6 : Hid (PRow w.heap.size (.slice (some ⟨g6, 0, none⟩) (0 + 1) c6) A w6) := by
      have hv : A = [p] := HAD.out
      have : PRow (w.heap.size + 1) (.slice (some ⟨g6, 0, none⟩) (0 + 1) c6) [p] w6 := FRow.of (by simpa using hown6) rfl
      rw [hv]
      exact this.mono (Nat.le_succ _)
    have B6 : Hid (Below w.heap.size w w6) := HB.out.drew.trans (hb6.mono (Nat.le_succ _))
    clear hown6 hb6 hkeep6
    go_wp2_with fail
    go_ret
    exact ⟨_, rfl, R6.out, B6.out⟩

theorem leaf_range {p : PeakV} (hk : peakOkB p = true) (h1 : p.count = 1) : rangeOkB [p] = true := by
  have h2 : twoB 1 = true := by decide
  simp [rangeOkB, stepOk, cntTo, hk, h2, h1, List.range_succ]

end Go.Proofs.YtialhnocknogpaaGreatDoor

set_option linter.unusedVariables false
namespace Go.Proofs.YtialhnocknogpaaGreatDoor
open Go.RowKit Go.Deep

def paidG (a : Int) (h : HeadV) (pa : Option Addr) (pn pc : Nat) (sa : Option Addr) (sn sc : Nat) (da : Option Addr) (dn dc : Nat) : Value := .agg #[.int .i64 a, .string h.prev, .string h.root, .int .i64 h.time, .int .i64 h.diff, .int .i64 h.nonce, .slice pa pn pc, .slice sa sn sc, .slice da dn dc]
def pheadG (a : Int) (h : HeadV) (pa : Option Addr) (pn pc : Nat) (sa : Option Addr) (sn sc : Nat) (da : Option Addr) (dn dc : Nat) : Value := .agg #[.int .i64 a, .string h.prev, .string h.root, .int .i64 h.time, .int .i64 h.diff, .int .i64 h.nonce, .slice pa pn pc, .slice sa sn sc]
theorem many_nil : rangeMany [] = (0, 0) := rfl
theorem implRangeManyG {B : Nat} {pa : Option Addr} {pn pc : Nat} {ps : List PeakV} {w : World} (hp : Pks B (.slice pa pn pc) ps w) (hm : ps.length ≤ 1048576) :
    Calls Tryz.prog 7 #[.slice pa pn pc] w fun e w' => e = .returned (.tuple #[.int .i64 (rangeMany ps).1, .int .i64 (rangeMany ps).2]) ∧ Below w.heap.size w w' := by
  rcases hp with ⟨hv, rfl⟩ | ⟨g, c, hv, ha, _⟩
  · rw [hv]
    exact implRangeManyNil w
  · rw [hv]
    exact implRangeMany g ps.length c ps w ha rfl hm
theorem specRangeManyNil (w : World) : Calls Tryz.prog 15 #[.slice none 0 0] w fun e w' => e = .returned (.tuple #[.int .i64 0, .int .i64 0]) ∧ Below w.heap.size w w' := by
  have hmn : ∀ w1 : World, Calls Tryz.prog 28 #[.slice none 0 0] w1 fun e w' => e = .returned (.tuple #[.int .i64 0, .int .i64 0]) ∧ Below w1.heap.size w1 w' := fun w1 => by
    go_enter Tryz.func28, Tryz.ntmps28
    go_wp2_with fail
    go_loopw [4, 5, 6] (fun n k i wr => n = .int .i64 0 ∧ k = .int .i64 0 ∧ i = .int .i64 0 ∧ Hid (wr = w1)) (fun _ _ _ _ => 0)
    case atStart => exact ⟨rfl, rfl, rfl, rfl⟩
    case round =>
      obtain ⟨rfl, rfl, rfl, HW⟩ := hrel
      go_wp2_with fail
      go_ret2
      exact ⟨rfl, by rw [HW.out]; exact Below.refl _ _⟩
  go_enter Tryz.func15, Tryz.ntmps15
  go_wp2_with fail
  refine (specL5OkNil w).mono ?_
  rintro e w1 ⟨rfl, b1⟩
  go_wp2_with fail
  refine (hmn w1).mono ?_
  rintro e w2 ⟨rfl, b2⟩
  go_wp2_with fail
  go_ret2
  exact ⟨rfl, b1.trans (b2.mono b1.size)⟩
theorem specRangeManyG {B : Nat} {pa : Option Addr} {pn pc : Nat} {ps : List PeakV} {w : World} (hp : Pks B (.slice pa pn pc) ps w) (hm : ps.length ≤ 1048576) (hz : ∀ i, i < ps.length → (ps.getD i default).sum.size ≤ maxLen) :
    Calls Tryz.prog 15 #[.slice pa pn pc] w fun e w' => e = .returned (.tuple #[.int .i64 (rangeMany ps).1, .int .i64 (rangeMany ps).2]) ∧ Below w.heap.size w w' := by
  rcases hp with ⟨hv, rfl⟩ | ⟨g, c, hv, ha, _⟩
  · rw [hv]
    exact specRangeManyNil w
  · rw [hv]
    exact specRangeMany g ps.length c ps w ha rfl hm hz
theorem runHeadPartG (a : Int) (h : HeadV) (pa : Option Addr) (pn pc : Nat) (sa : Option Addr) (sn sc : Nat) (da : Option Addr) (dn dc : Nat) (w : World) : (Instr.field 48 (.agg #[.int .i64 a, .string h.prev, .string h.root, .int .i64 h.time, .int .i64 h.diff, .int .i64 h.nonce, .slice pa pn pc, .slice sa sn sc, .slice da dn dc]) 0).run Tryz.prog w = .ok (.agg #[.int .i64 a, .string h.prev, .string h.root, .int .i64 h.time, .int .i64 h.diff, .int .i64 h.nonce, .slice pa pn pc, .slice sa sn sc]) w := by kernel_rfl
set_option maxHeartbeats 1000000 in
set_option maxRecDepth 100000 in
theorem implPaidOpenG (a : Int) (h : HeadV) (pa : Option Addr) (pn pc : Nat) (sa : Option Addr) (sn sc : Nat) (da : Option Addr) (dn dc : Nat) (w : World) :
    Calls Tryz.prog 13 #[paidG a h pa pn pc sa sn sc da dn dc] w fun e w' => e = .returned (paidG a h pa pn pc sa sn sc da dn dc) ∧ Below w.heap.size w w' := by
  unfold paidG
  go_enter Tryz.func13, Tryz.ntmps13
  go_wp2_with fail
  exact bodyPost_ret (results_cell_row (p := 2) rfl _ _ (w.heap.size + 1) 48 #[.int .i64 a, .string h.prev, .string h.root, .int .i64 h.time, .int .i64 h.diff, .int .i64 h.nonce, .slice pa pn pc, .slice sa sn sc, .slice da dn dc] (0, 0) _ rfl (at_new2 _ _ _) Tryz.underlying48 rfl (by kernel_rfl)) rfl ⟨rfl, ((Below.refl _ w).alloc (Nat.le_refl _) _).alloc (by simp) _⟩

set_option maxHeartbeats 4000000 in
set_option maxRecDepth 100000 in
theorem implDeepG (a : Int) (h : HeadV) (pa : Option Addr) (pn pc : Nat) (sa : Option Addr) (sn sc : Nat) (da : Option Addr) (dn dc : Nat) (ps : List PeakV) (w : World) (B : Nat) (hp : Pks B (.slice pa pn pc) ps w) (hm : ps.length ≤ 1048576) :
    Calls Tryz.prog 14 #[pheadG a h pa pn pc sa sn sc da dn dc] w fun e w' => e = .returned (.int .i64 (deepV ps a)) ∧ Below w.heap.size w w' := by
  have L0 : Hid (Below w.heap.size w (w.alloc (.cells #[.int .i64 a, .string h.prev, .string h.root, .int .i64 h.time, .int .i64 h.diff, .int .i64 h.nonce, .slice pa pn pc, .slice sa sn sc] 46))) := (Below.refl _ w).alloc (Nat.le_refl _) _
  have C0 : Hid (CBk (w.alloc (.cells #[.int .i64 a, .string h.prev, .string h.root, .int .i64 h.time, .int .i64 h.diff, .int .i64 h.nonce, .slice pa pn pc, .slice sa sn sc] 46)) w.heap.size 46 #[.int .i64 a, .string h.prev, .string h.root, .int .i64 h.time, .int .i64 h.diff, .int .i64 h.nonce, .slice pa pn pc, .slice sa sn sc]) := CBk.new w _ _
  have hmy := implRangeManyG (hp.below L0.out) hm
  have HV : Hid (deepV ps a = if 0 ≤ a ∧ a < (rangeMany ps).1 then (rangeMany ps).1 - 1 - a else -1) := rfl
  have HB := many_in ps
  generalize (rangeMany ps).2 = y at hmy
  generalize (rangeMany ps).1 = m at hmy HV HB
  generalize deepV ps a = R at HV ⊢
  clear hp hm
  unfold pheadG
  have hw1 : IntKind.i64.wrap (m - 1) = m - 1 := by rw [IntKind.wrap_i64]; omega
  go_enter Tryz.func14, Tryz.ntmps14
  go_wp2_with fail
  refine hmy.mono ?_
  rintro e w1 ⟨rfl, b1⟩
  have C1 : Hid (CBk w1 w.heap.size 46 #[.int .i64 a, .string h.prev, .string h.root, .int .i64 h.time, .int .i64 h.diff, .int .i64 h.nonce, .slice pa pn pc, .slice sa sn sc]) := C0.out.call b1
  have L1 : Hid (Below w.heap.size w w1) := L0.out.trans (b1.mono L0.out.size)
  have c0 := C1.out.cell 0
  clear C0 L0 b1 hmy
  replace c0 : w1.cell? ⟨w.heap.size, 0, none⟩ = some (.int .i64 a) := c0
  by_cases h0 : a < 0
  · have HR : Hid (R = -1) := by show _ = _; rw [HV.out, if_neg (by omega)]
    clear HV HB hw1
    go_wp2_with fail
    go_ret
    exact ⟨by rw [HR.out]; rfl, L1.out⟩
  by_cases h1 : m ≤ a
  · have HR : Hid (R = -1) := by show _ = _; rw [HV.out, if_neg (by omega)]
    clear HV HB hw1
    go_wp2_with fail
    go_ret
    exact ⟨by rw [HR.out]; rfl, L1.out⟩
  have HR : Hid (R = m - 1 - a) := by show _ = _; rw [HV.out, if_pos (by omega)]
  have hw2 : IntKind.i64.wrap (m - 1 - a) = m - 1 - a := by rw [IntKind.wrap_i64]; omega
  clear HV HB
  go_wp2_with fail
  go_ret
  exact ⟨by rw [HR.out]; rfl, L1.out⟩

set_option maxHeartbeats 4000000 in
set_option maxRecDepth 100000 in
theorem specPaidDeepG (a : Int) (h : HeadV) (pa : Option Addr) (pn pc : Nat) (sa : Option Addr) (sn sc : Nat) (da : Option Addr) (dn dc : Nat) (ps : List PeakV) (w : World) (B : Nat) (hp : Pks B (.slice pa pn pc) ps w) (hm : ps.length ≤ 1048576) (hz : ∀ i, i < ps.length → (ps.getD i default).sum.size ≤ maxLen) :
    Calls Tryz.prog 6 #[paidG a h pa pn pc sa sn sc da dn dc] w fun e w' => e = .returned (.int .i64 (deepV ps a)) ∧ Below w.heap.size w w' := by
  have L0 : Hid (Below w.heap.size w (w.alloc (.cells #[.int .i64 a, .string h.prev, .string h.root, .int .i64 h.time, .int .i64 h.diff, .int .i64 h.nonce, .slice pa pn pc, .slice sa sn sc, .slice da dn dc] 30))) := (Below.refl _ w).alloc (Nat.le_refl _) _
  have C0 : Hid (CBk (w.alloc (.cells #[.int .i64 a, .string h.prev, .string h.root, .int .i64 h.time, .int .i64 h.diff, .int .i64 h.nonce, .slice pa pn pc, .slice sa sn sc, .slice da dn dc] 30)) w.heap.size 30 #[.int .i64 a, .string h.prev, .string h.root, .int .i64 h.time, .int .i64 h.diff, .int .i64 h.nonce, .slice pa pn pc, .slice sa sn sc, .slice da dn dc]) := CBk.new w _ _
  have hmy := specRangeManyG (hp.below L0.out) hm hz
  have HV : Hid (deepV ps a = if 0 ≤ a ∧ a < (rangeMany ps).1 then (rangeMany ps).1 - 1 - a else -1) := rfl
  have HB := many_in ps
  generalize (rangeMany ps).2 = y at hmy
  generalize (rangeMany ps).1 = m at hmy HV HB
  generalize deepV ps a = R at HV ⊢
  have hin := fun w' => specIn a 0 (m - 1) w'
  clear hp hm hz
  unfold paidG
  have hw1 : IntKind.i64.wrap (m - 1) = m - 1 := by rw [IntKind.wrap_i64]; omega
  go_enter Tryz.func6, Tryz.ntmps6
  go_wp2_with fail
  refine hmy.mono ?_
  rintro e w1 ⟨rfl, b1⟩
  have C1 : Hid (CBk w1 w.heap.size 30 #[.int .i64 a, .string h.prev, .string h.root, .int .i64 h.time, .int .i64 h.diff, .int .i64 h.nonce, .slice pa pn pc, .slice sa sn sc, .slice da dn dc]) := C0.out.call b1
  have L1 : Hid (Below w.heap.size w w1) := L0.out.trans (b1.mono L0.out.size)
  have c0 := C1.out.cell 0
  clear C0 L0 b1 hmy
  replace c0 : w1.cell? ⟨w.heap.size, 0, none⟩ = some (.int .i64 a) := c0
  by_cases h0 : m < 0
  · have HR : Hid (R = -1) := by show _ = _; rw [HV.out, if_neg (by omega)]
    clear HV HB hw1 hin
    go_wp2_with fail
    go_ret
    exact ⟨by rw [HR.out]; rfl, L1.out⟩
  by_cases h1 : 0 ≤ a ∧ a ≤ m - 1
  · have HR : Hid (R = m - 1 - a) := by show _ = _; rw [HV.out, if_pos (by omega)]
    have hw2 : IntKind.i64.wrap (m - 1 - a) = m - 1 - a := by rw [IntKind.wrap_i64]; omega
    rw [inB_yes h1] at hin
    clear HV HB h1
    go_wp2_with fail
    refine (hin _).mono ?_
    rintro e w2 ⟨rfl, rfl⟩
    go_wp2_with fail
    go_ret
    exact ⟨by rw [HR.out]; rfl, L1.out⟩
  · have HR : Hid (R = -1) := by show _ = _; rw [HV.out, if_neg (by omega)]
    rw [inB_no h1] at hin
    clear HV HB h1
    go_wp2_with fail
    refine (hin _).mono ?_
    rintro e w2 ⟨rfl, rfl⟩
    go_wp2_with fail
    go_ret
    exact ⟨by rw [HR.out]; rfl, L1.out⟩

set_option maxHeartbeats 1000000 in
set_option maxRecDepth 100000 in
theorem implPaidDeepG (a : Int) (h : HeadV) (pa : Option Addr) (pn pc : Nat) (sa : Option Addr) (sn sc : Nat) (da : Option Addr) (dn dc : Nat) (ps : List PeakV) (w : World) (B : Nat) (hp : Pks B (.slice pa pn pc) ps w) (hm : ps.length ≤ 1048576) :
    Calls Tryz.prog 5 #[paidG a h pa pn pc sa sn sc da dn dc] w fun e w' => e = .returned (.int .i64 (deepV ps a)) ∧ Below w.heap.size w w' := by
  have L0 : Hid (Below w.heap.size w (w.alloc (.cells #[.int .i64 a, .string h.prev, .string h.root, .int .i64 h.time, .int .i64 h.diff, .int .i64 h.nonce, .slice pa pn pc, .slice sa sn sc, .slice da dn dc] 30))) := (Below.refl _ w).alloc (Nat.le_refl _) _
  have hop := implPaidOpenG a h pa pn pc sa sn sc da dn dc
  have HD : Hid (∀ w', Below w.heap.size w w' → Calls Tryz.prog 14 #[pheadG a h pa pn pc sa sn sc da dn dc] w' fun e w'' => e = .returned (.int .i64 (deepV ps a)) ∧ Below w'.heap.size w' w'') := fun w' hb => implDeepG a h pa pn pc sa sn sc da dn dc ps w' B (hp.below hb) hm
  generalize deepV ps a = R at HD ⊢
  clear hp hm
  unfold pheadG at HD
  unfold paidG at hop ⊢
  go_enter Tryz.func5, Tryz.ntmps5
  go_wp2_with fail
  refine (hop _).mono ?_
  rintro e w1 ⟨rfl, b1⟩
  have L1 : Hid (Below w.heap.size w w1) := L0.out.trans (b1.mono L0.out.size)
  have hfl := runHeadPartG a h pa pn pc sa sn sc da dn dc w1
  clear L0 b1 hop
  go_wp2_with fail
  refine (HD.out _ L1.out).mono ?_
  rintro e w2 ⟨rfl, b2⟩
  go_wp2_with fail
  go_ret
  exact ⟨rfl, L1.out.trans (b2.mono L1.out.size)⟩

end Go.Proofs.YtialhnocknogpaaGreatDoor

set_option linter.unusedVariables false
namespace Go.Proofs.YtialhnocknogpaaGreatDoor
open Go.RowKit Go.Deep

theorem deep_in {ps : List PeakV} {a : Int} (h : 0 ≤ deepV ps a) : 0 ≤ a ∧ a < (rangeMany ps).1 ∧ deepV ps a = (rangeMany ps).1 - 1 - a := by
  unfold deepV at h ⊢
  by_cases hc : 0 ≤ a ∧ a < (rangeMany ps).1
  · rw [if_pos hc]
    exact ⟨hc.1, hc.2, rfl⟩
  · rw [if_neg hc] at h
    omega
theorem many_add {ps : List PeakV} (x : HeadV) (hn : 0 ≤ (rangeMany ps).1) (hk : rangeOkB (addP ps (leafP x)) = true) : (rangeMany (addP ps (leafP x))).1 = (rangeMany ps).1 + 1 := by
  cases h : rangeOkB ps with
  | false =>
    rw [many_no h] at hn
    exact absurd hn (by decide)
  | true =>
    rw [many_yes h, many_yes hk]
    exact addP_cnt ps (leafP x)
theorem deep_add {ps : List PeakV} {a : Int} (x : HeadV) (h : 0 ≤ deepV ps a) (hk : rangeOkB (addP ps (leafP x)) = true) : deepV (addP ps (leafP x)) a = deepV ps a + 1 := by
  obtain ⟨h1, h2, h3⟩ := deep_in h
  have h4 := many_add x (by omega) hk
  rw [h3]
  unfold deepV
  rw [h4, if_pos ⟨h1, by omega⟩]
  omega
end Go.Proofs.YtialhnocknogpaaGreatDoor

set_option linter.unusedVariables false
namespace Go.Proofs.YtialhnocknogpaaGreatDoor
open Go.RowKit Go.Deep

theorem deep_few {ps : List PeakV} {a : Int} : -1 ≤ deepV ps a ∧ deepV ps a ≤ 20 := by
  have h1 := many_in ps
  unfold deepV
  split <;> omega
theorem deep_ok {ps : List PeakV} {a : Int} (h : 0 ≤ deepV ps a) : rangeOkB ps = true ∧ ps ≠ [] := by
  obtain ⟨h1, h2, _⟩ := deep_in h
  refine ⟨?_, fun he => ?_⟩
  · cases hr : rangeOkB ps with
    | true => rfl
    | false => rw [many_no hr] at h2; have : a < -1 := h2; omega
  · rw [he] at h2
    have : a < 0 := h2
    omega
/-- What the law's calls answer. -/
structure DlAns (w1 : World) (a : Int) (h : HeadV) (pa : Option Addr) (pn pc : Nat) (sa : Option Addr) (sn sc : Nat) (da : Option Addr) (dn dc : Nat) (ps : List PeakV) : Prop where
  im : ∀ w', Below w1.heap.size w1 w' → Calls Tryz.prog 5 #[.agg #[.int .i64 a, .string h.prev, .string h.root, .int .i64 h.time, .int .i64 h.diff, .int .i64 h.nonce, .slice pa pn pc, .slice sa sn sc, .slice da dn dc]] w' fun e w'' => e = .returned (.int .i64 (deepV ps a)) ∧ Below w'.heap.size w' w''
  sp : ∀ w', Below w1.heap.size w1 w' → Calls Tryz.prog 6 #[.agg #[.int .i64 a, .string h.prev, .string h.root, .int .i64 h.time, .int .i64 h.diff, .int .i64 h.nonce, .slice pa pn pc, .slice sa sn sc, .slice da dn dc]] w' fun e w'' => e = .returned (.int .i64 (deepV ps a)) ∧ Below w'.heap.size w' w''
  mn : ∀ w', Below w1.heap.size w1 w' → Calls Tryz.prog 7 #[.slice pa pn pc] w' fun e w'' => e = .returned (.tuple #[.int .i64 (rangeMany ps).1, .int .i64 (rangeMany ps).2]) ∧ Below w'.heap.size w' w''
  ad : 0 ≤ deepV ps a → ∀ w', Below w1.heap.size w1 w' → Calls Tryz.prog 8 #[.slice pa pn pc, .agg #[.string h.prev, .string h.root, .int .i64 h.time, .int .i64 h.diff, .int .i64 h.nonce]] w' fun e w'' => (∃ v, e = .returned (.tuple #[v, .bool false]) ∧ (∃ qa qn qc, v = .slice qa qn qc) ∧ Below w'.heap.size w' w'') ∨ (∃ g9 n9 c9, e = .returned (.tuple #[.slice (some ⟨g9, 0, none⟩) n9 c9, .bool true]) ∧ Pks w'.heap.size (.slice (some ⟨g9, 0, none⟩) n9 c9) (addP ps (leafP h)) w'' ∧ rangeOkB (addP ps (leafP h)) = true ∧ Below w'.heap.size w' w'')
theorem dlAns {B : Nat} {w1 : World} {a : Int} {h : HeadV} {pa : Option Addr} {pn pc : Nat} {sa : Option Addr} {sn sc : Nat} {da : Option Addr} {dn dc : Nat} {ps : List PeakV} (hd : PdDrew B a h pa pn pc ps w1) (hK : RowG w1 shaK) (hP : TabP w1) : DlAns w1 a h pa pn pc sa sn sc da dn dc ps := by
  have hm : ps.length ≤ 1048576 := by have := hd.few; omega
  refine ⟨fun w' hb => ?_, fun w' hb => ?_, fun w' hb => implRangeManyG (hd.pk.below hb) hm, fun h0 w' hb => ?_⟩
  · have := implPaidDeepG a h pa pn pc sa sn sc da dn dc ps w' B (hd.pk.below hb) hm
    unfold paidG at this
    exact this
  · have := specPaidDeepG a h pa pn pc sa sn sc da dn dc ps w' B (hd.pk.below hb) hm hd.sz
    unfold paidG at this
    exact this
  · obtain ⟨hok, hne⟩ := deep_ok h0
    rcases hd.pk.below hb with ⟨_, hn⟩ | ⟨g, c, hv, ha, _⟩
    · exact absurd hn hne
    · rw [hv]
      have h1 := implRangeAdd g ps.length c ps h w' ha rfl hm (hK.below hb hK.lt) (TabP.below hP hb (Nat.le_refl _))
      unfold headVal at h1
      refine h1.mono ?_
      rintro e w'' ⟨hp, hb2⟩
      rcases hp with ⟨_, rfl⟩ | ⟨_, v, rfl, hr⟩
      · exact .inl ⟨_, rfl, ⟨_, _, _, rfl⟩, hb2⟩
      · cases hro : rangeOkB (addP ps (leafP h)) with
        | false =>
          obtain ⟨⟨g9, c9, hv9⟩, -⟩ := id hr
          exact .inl ⟨v, rfl, ⟨_, _, _, hv9⟩, hb2⟩
        | true =>
          rw [hro, if_pos rfl] at hr
          obtain ⟨⟨g9, c9, rfl⟩, -⟩ := id hr
          exact .inr ⟨g9, _, c9, rfl, .inr (PBk.frow hr), rfl, hb2⟩

set_option maxHeartbeats 4000000 in
set_option maxRecDepth 100000 in
theorem walk_FnPaidDeep (a0 : Option Addr) (len cap : Nat) (zs : List Int) (w : World) (h0 : IsRow .u8 w a0 len cap zs) (hK : RowG w shaK) (hP : TabP w) :
    Calls Tryz.prog 3 #[.slice a0 len cap] w fun e w' => e = .returned (.bool true) ∧ Below w.heap.size w w' := by
  by_cases hl : (1048576 : Int) < (len : Int)
  · clear hK hP
    go_enter Tryz.func3, Tryz.ntmps3
    go_wp2
    go_ret
    exact ⟨rfl, Below.refl _ _⟩
  have hdr := drawPaidDeep a0 len cap zs w h0
  have HK : Hid (RowG w shaK) := hK
  have HP : Hid (∀ w', Below w.heap.size w w' → TabP w') := fun w' hb => TabP.below hP hb (Nat.le_refl _)
  clear hK hP h0
  go_enter Tryz.func3, Tryz.ntmps3
  go_wp2_with fail
  refine Calls.mono hdr ?_
  rintro e w1 ⟨a, h, pa, pn, pc, sa, sn, sc, da, dn, dc, ps, rfl, hpd, b1⟩
  have HB1 : Hid (Below w.heap.size w w1) := b1
  have HAB : Hid (-1 ≤ a ∧ a ≤ 30) := hpd.at_
  have HA : Hid (DlAns w1 a h pa pn pc sa sn sc da dn dc ps) := dlAns hpd (HK.out.below b1 HK.out.lt) (HP.out w1 b1)
  have HPF : Hid (ps.length ≤ 20) := hpd.few
  clear hdr HK HP hpd b1
  have C1 : Hid (CBk (w1.alloc (.cells #[.int .i64 a, .string h.prev, .string h.root, .int .i64 h.time, .int .i64 h.diff, .int .i64 h.nonce, .slice pa pn pc, .slice sa sn sc, .slice da dn dc] 30)) w1.heap.size 30 #[.int .i64 a, .string h.prev, .string h.root, .int .i64 h.time, .int .i64 h.diff, .int .i64 h.nonce, .slice pa pn pc, .slice sa sn sc, .slice da dn dc]) := CBk.new w1 _ _
  have B1 : Hid (Below w1.heap.size w1 (w1.alloc (.cells #[.int .i64 a, .string h.prev, .string h.root, .int .i64 h.time, .int .i64 h.diff, .int .i64 h.nonce, .slice pa pn pc, .slice sa sn sc, .slice da dn dc] 30))) := (Below.refl _ w1).alloc (Nat.le_refl _) _
  have hdf := @deep_few ps a
  have HDR : Hid (0 ≤ deepV ps a → 0 ≤ a ∧ a < (rangeMany ps).1 ∧ deepV ps a = (rangeMany ps).1 - 1 - a) := deep_in
  have HDA : Hid (0 ≤ deepV ps a → rangeOkB (addP ps (leafP h)) = true → deepV (addP ps (leafP h)) a = deepV ps a + 1) := fun h1 h2 => deep_add h h1 h2
  have HMI : Hid (-1 ≤ (rangeMany ps).1 ∧ (rangeMany ps).1 ≤ 20) := many_in ps
  have HIM : Hid _ := HA.out.im
  have HSP : Hid _ := HA.out.sp
  have HMN : Hid _ := HA.out.mn
  have HAD : Hid _ := HA.out.ad
  have HLA : Hid ((addP ps (leafP h)).length ≤ 1048576) := by have := addP_len ps (leafP h); show _ ≤ _; have := HPF.out; omega
  clear HA
  generalize (rangeMany ps).2 = wk at HMN
  generalize (rangeMany ps).1 = m at HMN HDR HMI
  generalize addP ps (leafP h) = A at HAD HDA HLA
  generalize deepV ps a = R at HIM HSP HAD HDR HDA hdf
  have him := HIM.out _ B1.out
  obtain ⟨g3, hg3⟩ : ∃ g3, g3 = w1.heap.size := ⟨_, rfl⟩
  have HG3 : Hid (g3 = w1.heap.size) := hg3
  go_upto_region 4 with fail
  rw [← hg3] at C1 ⊢
  clear hg3 HIM
  generalize w1.alloc (.cells #[.int .i64 a, .string h.prev, .string h.root, .int .i64 h.time, .int .i64 h.diff, .int .i64 h.nonce, .slice pa pn pc, .slice sa sn sc, .slice da dn dc] 30) = W1 at C1 B1 him ⊢
  obtain ⟨e0, e1, e2, e3, e4, e5, e6, e7, e8⟩ := C1.out.nineP
  go_wp2_with fail
  refine him.mono ?_
  rintro e w2 ⟨rfl, b2⟩
  have C2 : Hid (CBk w2 g3 30 #[.int .i64 a, .string h.prev, .string h.root, .int .i64 h.time, .int .i64 h.diff, .int .i64 h.nonce, .slice pa pn pc, .slice sa sn sc, .slice da dn dc]) := C1.out.call b2
  have B2 : Hid (Below w1.heap.size w1 w2) := B1.out.trans (b2.mono B1.out.size)
  have hsp := HSP.out w2 B2.out
  clear him b2 C1 B1 e0 e1 e2 e3 e4 e5 e6 e7 e8
  obtain ⟨e0, e1, e2, e3, e4, e5, e6, e7, e8⟩ := C2.out.nineP
  have hbb : (R != R) = false := by simp
  go_wp2_with fail
  refine hsp.mono ?_
  rintro e w3 ⟨rfl, b3⟩
  have C3 : Hid (CBk w3 g3 30 #[.int .i64 a, .string h.prev, .string h.root, .int .i64 h.time, .int .i64 h.diff, .int .i64 h.nonce, .slice pa pn pc, .slice sa sn sc, .slice da dn dc]) := C2.out.call b3
  have B3 : Hid (Below w1.heap.size w1 w3) := B2.out.trans (b3.mono B2.out.size)
  clear hsp b3 C2 B2 e0 e1 e2 e3 e4 e5 e6 e7 e8
  obtain ⟨e0, e1, e2, e3, e4, e5, e6, e7, e8⟩ := C3.out.nineP
  by_cases hneg : R < 0
  · have hsp := HSP.out w3 B3.out
    clear HMN HAD HDR HDA HMI HSP
    go_wp2_with fail
    refine hsp.mono ?_
    rintro e w4 ⟨rfl, b4⟩
    have B4 : Hid (Below w1.heap.size w1 w4) := B3.out.trans (b4.mono B3.out.size)
    clear hsp b4 C3 B3 e0 e1 e2 e3 e4 e5 e6 e7 e8
    go_wp2_with fail
    go_ret
    exact ⟨rfl, HB1.out.trans (B4.out.mono HB1.out.size)⟩
  have hR0 : 0 ≤ R := by omega
  obtain ⟨ha0, ha1, hRe⟩ := HDR.out hR0
  have hmn := HMN.out w3 B3.out
  have HAD2 : Hid _ := HAD.out hR0
  have HDA2 : Hid _ := HDA.out hR0
  have hw1 : IntKind.i64.wrap (m - 1) = m - 1 := by have := HMI.out; rw [IntKind.wrap_i64]; omega
  have hw2 : IntKind.i64.wrap (m - 1 - a) = R := by have := HMI.out; rw [IntKind.wrap_i64]; omega
  have hw3 : IntKind.i64.wrap (R + 1) = R + 1 := by rw [IntKind.wrap_i64]; omega
  clear HSP HMN HAD HDA HDR hRe
  go_wp2_with fail
  refine hmn.mono ?_
  rintro e w4 ⟨rfl, b4⟩
  have C4 : Hid (CBk w4 g3 30 #[.int .i64 a, .string h.prev, .string h.root, .int .i64 h.time, .int .i64 h.diff, .int .i64 h.nonce, .slice pa pn pc, .slice sa sn sc, .slice da dn dc]) := C3.out.call b4
  have B4 : Hid (Below w1.heap.size w1 w4) := B3.out.trans (b4.mono B3.out.size)
  have had := HAD2.out w4 B4.out
  clear hmn b4 C3 B3 e0 e1 e2 e3 e4 e5 e6 e7 e8 HAD2
  obtain ⟨e0, e1, e2, e3, e4, e5, e6, e7, e8⟩ := C4.out.nineP
  go_wp2_with fail
  refine had.mono ?_
  rintro e w5 (⟨v, rfl, ⟨qa, qn, qc, rfl⟩, b5⟩ | ⟨g9, n9, c9, rfl, k9, hro, b5⟩)
  · have C5 : Hid (CBk w5 g3 30 #[.int .i64 a, .string h.prev, .string h.root, .int .i64 h.time, .int .i64 h.diff, .int .i64 h.nonce, .slice pa pn pc, .slice sa sn sc, .slice da dn dc]) := C4.out.call b5
    have B5 : Hid (Below w1.heap.size w1 w5) := B4.out.trans (b5.mono B4.out.size)
    clear had b5 C4 B4 e0 e1 e2 e3 e4 e5 e6 e7 e8 HDA2
    have CX : Hid (CBk (w5.alloc (.cells #[.int .i64 a, .string h.prev, .string h.root, .int .i64 h.time, .int .i64 h.diff, .int .i64 h.nonce, .slice pa pn pc, .slice sa sn sc, .slice da dn dc] 30)) w5.heap.size 30 #[.int .i64 a, .string h.prev, .string h.root, .int .i64 h.time, .int .i64 h.diff, .int .i64 h.nonce, .slice pa pn pc, .slice sa sn sc, .slice da dn dc]) := CBk.new w5 _ _
    have CY : Hid (CBk (w5.alloc (.cells #[.int .i64 a, .string h.prev, .string h.root, .int .i64 h.time, .int .i64 h.diff, .int .i64 h.nonce, .slice pa pn pc, .slice sa sn sc, .slice da dn dc] 30)) g3 30 #[.int .i64 a, .string h.prev, .string h.root, .int .i64 h.time, .int .i64 h.diff, .int .i64 h.nonce, .slice pa pn pc, .slice sa sn sc, .slice da dn dc]) := C5.out.call ((Below.refl _ w5).alloc (Nat.le_refl _) _)
    have BX : Hid (Below w1.heap.size w1 (w5.alloc (.cells #[.int .i64 a, .string h.prev, .string h.root, .int .i64 h.time, .int .i64 h.diff, .int .i64 h.nonce, .slice pa pn pc, .slice sa sn sc, .slice da dn dc] 30))) := B5.out.alloc B5.out.size _
    have HNE : Hid (g3 < w5.heap.size) := C5.out.lt
    obtain ⟨e0, e1, e2, e3, e4, e5, e6, e7, e8⟩ := C5.out.nineP
    go_upto_region 10 with fail
    obtain ⟨gx, hgx⟩ : ∃ gx, gx = w5.heap.size := ⟨_, rfl⟩
    have HNX : Hid (g3 < gx ∧ w1.heap.size ≤ gx) := ⟨by rw [hgx]; exact HNE.out, by rw [hgx]; exact B5.out.size⟩
    rw [← hgx] at CX ⊢
    generalize w5.alloc (.cells #[.int .i64 a, .string h.prev, .string h.root, .int .i64 h.time, .int .i64 h.diff, .int .i64 h.nonce, .slice pa pn pc, .slice sa sn sc, .slice da dn dc] 30) = W5 at CX CY BX ⊢
    clear C5 B5 HNE hgx e0 e1 e2 e3 e4 e5 e6 e7 e8
    have d6 : W5.cell? ⟨gx, 6, none⟩ = some (.slice pa pn pc) := CX.out.cell 6
    have f6 := CX.out.frozen 6
    have BZ : Hid (Below w1.heap.size w1 (W5.setCell ⟨gx, 6, none⟩ (.slice qa qn qc))) := BX.out.setCell (p := ⟨gx, 6, none⟩) HNX.out.2 _
    have CZ : Hid (CBk (W5.setCell ⟨gx, 6, none⟩ (.slice qa qn qc)) g3 30 #[.int .i64 a, .string h.prev, .string h.root, .int .i64 h.time, .int .i64 h.diff, .int .i64 h.nonce, .slice pa pn pc, .slice sa sn sc, .slice da dn dc]) := CY.out.other (by have := HNX.out.1; omega) _
    go_upto_region 11 with fail
    generalize W5.setCell ⟨gx, 6, none⟩ (.slice qa qn qc) = W6 at BZ CZ ⊢
    clear d6 f6 CX CY BX
    have z0 : W6.cell? ⟨g3, 0, none⟩ = some (.int .i64 a) := CZ.out.cell 0
    go_wp2_with fail
    go_ret
    exact ⟨rfl, HB1.out.trans (BZ.out.mono HB1.out.size)⟩
  · have C5 : Hid (CBk w5 g3 30 #[.int .i64 a, .string h.prev, .string h.root, .int .i64 h.time, .int .i64 h.diff, .int .i64 h.nonce, .slice pa pn pc, .slice sa sn sc, .slice da dn dc]) := C4.out.call b5
    have B5 : Hid (Below w1.heap.size w1 w5) := B4.out.trans (b5.mono B4.out.size)
    have HD9 : Hid (deepV A a = R + 1) := HDA2.out hro
    have K5 : Hid (Pks w4.heap.size (.slice (some ⟨g9, 0, none⟩) n9 c9) A w5) := k9
    clear had b5 C4 B4 e0 e1 e2 e3 e4 e5 e6 e7 e8 HDA2 k9
    have LX : Hid (Below w5.heap.size w5 (w5.alloc (.cells #[.int .i64 a, .string h.prev, .string h.root, .int .i64 h.time, .int .i64 h.diff, .int .i64 h.nonce, .slice pa pn pc, .slice sa sn sc, .slice da dn dc] 30))) := (Below.refl _ w5).alloc (Nat.le_refl _) _
    have CX : Hid (CBk (w5.alloc (.cells #[.int .i64 a, .string h.prev, .string h.root, .int .i64 h.time, .int .i64 h.diff, .int .i64 h.nonce, .slice pa pn pc, .slice sa sn sc, .slice da dn dc] 30)) w5.heap.size 30 #[.int .i64 a, .string h.prev, .string h.root, .int .i64 h.time, .int .i64 h.diff, .int .i64 h.nonce, .slice pa pn pc, .slice sa sn sc, .slice da dn dc]) := CBk.new w5 _ _
    have CY : Hid (CBk (w5.alloc (.cells #[.int .i64 a, .string h.prev, .string h.root, .int .i64 h.time, .int .i64 h.diff, .int .i64 h.nonce, .slice pa pn pc, .slice sa sn sc, .slice da dn dc] 30)) g3 30 #[.int .i64 a, .string h.prev, .string h.root, .int .i64 h.time, .int .i64 h.diff, .int .i64 h.nonce, .slice pa pn pc, .slice sa sn sc, .slice da dn dc]) := C5.out.call LX.out
    have KX : Hid (Pks w4.heap.size (.slice (some ⟨g9, 0, none⟩) n9 c9) A (w5.alloc (.cells #[.int .i64 a, .string h.prev, .string h.root, .int .i64 h.time, .int .i64 h.diff, .int .i64 h.nonce, .slice pa pn pc, .slice sa sn sc, .slice da dn dc] 30))) := K5.out.below LX.out
    have BX : Hid (Below w1.heap.size w1 (w5.alloc (.cells #[.int .i64 a, .string h.prev, .string h.root, .int .i64 h.time, .int .i64 h.diff, .int .i64 h.nonce, .slice pa pn pc, .slice sa sn sc, .slice da dn dc] 30))) := B5.out.alloc B5.out.size _
    have HNE : Hid (g3 < w5.heap.size ∧ g9 < w5.heap.size) := ⟨C5.out.lt, (K5.out.blk (g := g9) rfl).1⟩
    obtain ⟨e0, e1, e2, e3, e4, e5, e6, e7, e8⟩ := C5.out.nineP
    go_upto_region 10 with fail
    obtain ⟨gx, hgx⟩ : ∃ gx, gx = w5.heap.size := ⟨_, rfl⟩
    have HNX : Hid (g3 < gx ∧ w1.heap.size ≤ gx ∧ g9 < gx) := ⟨by rw [hgx]; exact HNE.out.1, by rw [hgx]; exact B5.out.size, by rw [hgx]; exact HNE.out.2⟩
    rw [← hgx] at CX ⊢
    generalize w5.alloc (.cells #[.int .i64 a, .string h.prev, .string h.root, .int .i64 h.time, .int .i64 h.diff, .int .i64 h.nonce, .slice pa pn pc, .slice sa sn sc, .slice da dn dc] 30) = W5 at CX CY BX KX ⊢
    clear C5 B5 HNE hgx e0 e1 e2 e3 e4 e5 e6 e7 e8 LX K5
    have d6 : W5.cell? ⟨gx, 6, none⟩ = some (.slice pa pn pc) := CX.out.cell 6
    have f6 := CX.out.frozen 6
    have BZ : Hid (Below w1.heap.size w1 (W5.setCell ⟨gx, 6, none⟩ (.slice (some ⟨g9, 0, none⟩) n9 c9))) := BX.out.setCell (p := ⟨gx, 6, none⟩) HNX.out.2.1 _
    have CZ : Hid (CBk (W5.setCell ⟨gx, 6, none⟩ (.slice (some ⟨g9, 0, none⟩) n9 c9)) g3 30 #[.int .i64 a, .string h.prev, .string h.root, .int .i64 h.time, .int .i64 h.diff, .int .i64 h.nonce, .slice pa pn pc, .slice sa sn sc, .slice da dn dc]) := CY.out.other (by have := HNX.out.1; omega) _
    have CW : Hid (CBk (W5.setCell ⟨gx, 6, none⟩ (.slice (some ⟨g9, 0, none⟩) n9 c9)) gx 30 #[.int .i64 a, .string h.prev, .string h.root, .int .i64 h.time, .int .i64 h.diff, .int .i64 h.nonce, .slice (some ⟨g9, 0, none⟩) n9 c9, .slice sa sn sc, .slice da dn dc]) := CX.out.set 6 _
    have KZ : Hid (Pks w4.heap.size (.slice (some ⟨g9, 0, none⟩) n9 c9) A (W5.setCell ⟨gx, 6, none⟩ (.slice (some ⟨g9, 0, none⟩) n9 c9))) := KX.out.keep (by simp [World.setCell]) (fun b9 hb9 => by
      have h1 : g9 = b9 := hb9
      have h2 : gx ≠ b9 := by have := HNX.out.2.2; omega
      simp [World.setCell, Array.getElem?_modify, h2])
    go_upto_region 11 with fail
    generalize W5.setCell ⟨gx, 6, none⟩ (.slice (some ⟨g9, 0, none⟩) n9 c9) = W6 at BZ CZ CW KZ ⊢
    clear d6 f6 CX CY BX KX
    have z0 : W6.cell? ⟨g3, 0, none⟩ = some (.int .i64 a) := CZ.out.cell 0
    have hx := implPaidDeepG a h (some ⟨g9, 0, none⟩) n9 c9 sa sn sc da dn dc A W6 w4.heap.size KZ.out HLA.out
    unfold paidG at hx
    rw [HD9.out] at hx
    obtain ⟨e0, e1, e2, e3, e4, e5, e6, e7, e8⟩ := CW.out.nineP
    go_wp2_with fail
    refine hx.mono ?_
    rintro e w7 ⟨rfl, b7⟩
    have B7 : Hid (Below w1.heap.size w1 w7) := BZ.out.trans (b7.mono BZ.out.size)
    clear hx b7 BZ CZ CW KZ z0 e0 e1 e2 e3 e4 e5 e6 e7 e8
    go_wp2_with fail
    go_ret
    exact ⟨rfl, HB1.out.trans (B7.out.mono HB1.out.size)⟩

end Go.Proofs.YtialhnocknogpaaGreatDoor

namespace Go.Proofs.YtialhnocknogpaaGreatDoor
open Go.ChangeShapes Go.WideShapes Go.ChangeAt Go.RowKit
open Go.ChangeMaps (open_string shut_string)
set_option linter.unusedVariables false

theorem own_fnPaidDeep : ownKnob Tryz.prog.godebug = none := by kernel_rfl
theorem laid_fnPaidDeep : laidOutB Tryz.prog = true := by kernel_rfl
theorem table_fnPaidDeep {W : World} (h : laidMetH Tryz.prog Rows.fnPaidDeepRow.laid W) : RowG W shaK ∧ TabP W := tabs_of_laid h

theorem met_fnPaidDeep (os : Os) : laidMet Tryz.prog Rows.fnPaidDeepRow.laid ((laidWorld os).forCall (fun _ _ => 0) ⟨#[], #[.slice none 0 0], []⟩).memory :=
  laidMet_of_run' 8 (by kernel_rfl) (by kernel_rfl)
theorem reads_fnPaidDeep (os : Os) {H : Type} (enc : TypeId × Value → H) : ∃ places, DataW.whole enc Tryz.prog ((laidWorld os).forCall (fun _ _ => 0) ⟨#[], #[.slice none 0 0], []⟩).memory Tryz.f3.params.toList Rows.fnPaidDeepSpec.vars false (#[.slice none 0 0] : Array Value).toList 8 = some ([.nil], [Rows.laid_loop_example_cordillera_impl_sumRounds], places) :=
  ⟨MemPlace.row ⟨0, 0, none⟩ 64, by kernel_rfl⟩

set_option maxRecDepth 100000 in
theorem lifted_fnPaidDeep (os : Os) (started : os.Started) (H : Type) (enc : TypeId × Value → H) (F : Stop.Interp) :
    ReturnsInHanded {} Tryz.checked os 3 .any ((OpenSpec.ofChange Rows.fnPaidDeepSpec).preRow enc Tryz.prog Tryz.f3 Rows.fnPaidDeepRow.domain false Rows.fnPaidDeepRow.laid) (((OpenSpec.ofChange Rows.fnPaidDeepSpec).at F).post enc Tryz.prog Tryz.f3 false true false false) := by
  obtain ⟨places, hx⟩ := reads_fnPaidDeep os enc
  refine returnsInHanded_of_row (C := Tryz.checked) (s := OpenSpec.ofChange Rows.fnPaidDeepSpec) own_fnPaidDeep started (by kernel_rfl) Tryz.func3
    (witness_row_at (enc := enc) (C := Tryz.checked) false (laidWorld os) #[.slice none 0 0] rfl (by kernel_rfl) (by kernel_rfl) (by kernel_rfl)
      (OpenSpec.preRow_of_cond 8 hx (by kernel_rfl) (fun k hk => by cases hk) (by kernel_rfl) (met_fnPaidDeep os))) ?_
  intro W base args ds gs before hval0 hW _ _ _ hL _ _
  have hval : ∀ (j : Nat) t v, Tryz.f3.params[j]? = some t → args[j]? = some v → Value.okWide Tryz.prog W .any base t v := hval0
  have hW' := hW
  obtain ⟨p, q, hA0, hV, rfl, hfz, hnd⟩ := hW
  have hA : DataW.TrodAll enc Tryz.prog W 0 (fun _ => true) true Tryz.f3.params.toList args.toList ds p := hA0
  rw [Tryz.params3] at hA hval
  obtain ⟨v0, vs0, d0, ds0, p0, q0, hargs, rfl, rfl, h0, r0⟩ := trodAll_cons hA
  obtain ⟨rfl, rfl, rfl⟩ := trodAll_nil r0
  obtain rfl : args = #[v0] := by cases args; simp_all
  obtain ⟨gv, tv, cv, fv, dv, pv, rfl, hgv, htv, hvv, hdv, rfl⟩ := trodVars_one hV
  obtain ⟨a0, len0, cap0, rfl⟩ := okWide_slice Tryz.underlying22 (hval 0 22 v0 rfl rfl)
  have k0 := h0
  have lt0 : ∀ x ∈ p0, x.block < W.heap.size := by obtain ⟨m, hm⟩ := k0; exact DataW.trod_lt m _ _ _ hm
  obtain ⟨z0, w0⟩ : ∃ zs, IsRow .u8 W a0 len0 cap0 zs := by
    obtain ⟨fuel, hf⟩ := h0
    rcases open_ints Tryz.underlying22 Tryz.underlying5 (by kernel_rfl) hf with ⟨hcs, _⟩ | ⟨x, l, c, zs, hcs, _, hl, hm, hz, _, hcell, hwz⟩
    · simp [Value.cells] at hcs
      obtain ⟨rfl, rfl, rfl⟩ := hcs
      exact ⟨[], .inl ⟨rfl, rfl, rfl, rfl⟩⟩
    · simp [Value.cells] at hcs
      obtain ⟨rfl, rfl, rfl⟩ := hcs
      exact ⟨zs, .inr ⟨_, rfl, hl, hm, by simpa using hz, hcell, hwz⟩⟩
  clear hA0 hval0
  refine (walk_FnPaidDeep a0 len0 cap0 z0 W w0 (table_fnPaidDeep hL).1 (table_fnPaidDeep hL).2).mono fun e W' ⟨he, bel⟩ => ?_
  subst he
  obtain ⟨pv', hpv⟩ := varsBack laid_fnPaidDeep hgv htv hvv hdv bel
  exact ⟨_, rfl, _, _, _, [], _, pv', hW', trodAll_mk1 (shut_bool Tryz.underlying4 _), (trodAll_cons_mk (Below.trod laid_fnPaidDeep (by kernel_rfl) (of_decide_eq_true (by kernel_rfl)) k0 bel lt0) trodAll_mk0), hpv, bel.frame _, fun h => by cases h⟩

theorem fnPaidDeep_said : Rows.FnPaidDeepSaid :=
  OpenClaim.holds_of_cond 3 Tryz.f3 rfl rfl rfl rfl rfl rfl rfl ⟨rfl, rfl, rfl, rfl, rfl⟩ rfl rfl rfl rfl rfl (by kernel_rfl) Tryz.func3 (by kernel_rfl)
    (of_decide_eq_true (by kernel_rfl)) (by unfold Func.isWrapper; first | (rw [if_pos (by decide +kernel)]; kernel_rfl) | (rw [if_neg (by decide +kernel)]; exact ⟨rfl, rfl⟩))
    (fun os started H enc _ F => by rw [OpenClaim.pre_eq_preRow]; exact lifted_fnPaidDeep os started H enc F)
theorem plain_fnPaidDeep (f : FuncId) (fn : Func) (hf : Tryz.pinned.checked.prog.funcNamed "loop.example/cordillera/laws.FnPaidDeep" = some f) (hfn : Tryz.pinned.checked.prog.funcs[f]? = some fn) :
    false = Tryz.pinned.checked.prog.looks [] ∧ ∀ (j : Nat) t, fn.params[j]? = some t → Tryz.pinned.checked.prog.wantsStandIn t = false := by
  obtain rfl : f = 3 := Option.some.inj ((show Tryz.prog.funcNamed "loop.example/cordillera/laws.FnPaidDeep" = some 3 by kernel_rfl).symm.trans hf) |>.symm
  obtain rfl : fn = Tryz.f3 := (Option.some.inj (Tryz.func3.symm.trans hfn)).symm
  refine ⟨by kernel_rfl, fun j t ht => ?_⟩
  rw [Tryz.params3] at ht
  have hall : ∀ t ∈ (#[22] : Array TypeId), Tryz.prog.wantsStandIn t = false := by
    intro t ht
    simp only [List.mem_toArray, List.mem_cons, List.not_mem_nil, or_false] at ht
    subst ht; kernel_rfl
  exact hall t (Array.mem_of_getElem? ht)
theorem fnPaidDeep_holds : Rows.FnPaidDeepCardSaid :=
  Claim7.holds_tied_plain_at .later [] _ _ _ _ fnPaidDeep_said (fun _ h => by cases h) (by kernel_rfl) (fun _ h => by cases h) fnPaidDeep_row_tie rfl ⟨rfl, rfl⟩ (by kernel_rfl) rfl plain_fnPaidDeep (by kernel_rfl)
#print axioms fnPaidDeep_holds
end Go.Proofs.YtialhnocknogpaaGreatDoor

