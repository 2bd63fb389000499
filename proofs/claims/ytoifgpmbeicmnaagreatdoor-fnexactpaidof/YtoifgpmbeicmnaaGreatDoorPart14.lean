/-
  Texts that the last part needs, joined.
-/
import Derived.Test.YtoifgpmbeicmnaaGreatDoorPart1
import Derived.Test.YtoifgpmbeicmnaaGreatDoorPart2
import Derived.Test.YtoifgpmbeicmnaaGreatDoorPart3
import Derived.Test.YtoifgpmbeicmnaaGreatDoorPart4
import Derived.Test.YtoifgpmbeicmnaaGreatDoorPart5
import Derived.Test.YtoifgpmbeicmnaaGreatDoorPart6
import Derived.Test.YtoifgpmbeicmnaaGreatDoorPart7
import Derived.Test.YtoifgpmbeicmnaaGreatDoorPart8
import Derived.Test.YtoifgpmbeicmnaaGreatDoorPart9
import Derived.Test.YtoifgpmbeicmnaaGreatDoorPart10
import Derived.Test.YtoifgpmbeicmnaaGreatDoorPart11
import Derived.Test.YtoifgpmbeicmnaaGreatDoorPart12
import Derived.Test.YtoifgpmbeicmnaaGreatDoorPart13
import Derived.WalkKit
import Derived.Below
import Derived.ProofKit
import Derived.OpenShut
import Derived.ShutString
import Derived.ChangeOld
import Derived.ChangeArms
import Derived.WideShapes
import Derived.BigRegion
import Derived.Deep.RegionWith
import Derived.Deep.OwnRows
import Derived.Laws.Rows
import Derived.Lib.SmallJoins
set_option linter.unusedVariables false
namespace Go.Proofs.YtoifgpmbeicmnaaGreatDoor
open Go.RowKit Go.Deep

set_option maxHeartbeats 8000000 in
set_option maxRecDepth 100000 in
theorem implPaidOfYes (g n cap : Nat) (bs : List BlkV) (X Y : Nat) (w : World) (h0 : BlksS g n cap bs w) (hin : inPd (ptsOf bs) (X : Int) (Y : Int)) (hK : RowG w shaK) (hP : TabP w) (hE : ErrT w) :
    Calls Tryz.prog 7 #[.slice (some ⟨g, 0, none⟩) n cap, .int .i64 (X : Int), .int .i64 (Y : Int)] w fun e w' => Pd9 w (paidOfL (ptsOf bs) (X : Int) (Y : Int)) True e w' := by
  have hXn : X < n := by have h1 := hin.2.1.2; rw [pd_len] at h1; have h2 := h0.b.len; omega
  have hXl : X < bs.length := by have h2 := h0.b.len; omega
  obtain ⟨hhs, hits⟩ := inPd_facts hin
  rw [pts_heads] at hhs
  have hio : itemsOkB (bs.getD X default).ss = true := hits _ (List.mem_map.2 ⟨_, blk_mem hXl, rfl⟩)
  have hbn : (bs.getD X default).n = (bs.getD X default).ss.length := (h0.b.items _ (blk_mem hXl)).2
  have hYn : Y < (bs.getD X default).n := by
    have h1 := hin.2.2.2
    rw [show ((X : Int)).toNat = X from rfl, pd_at hXl] at h1
    have h2 : (Y : Int) < ((bs.getD X default).ss.length : Int) := h1
    omega
  have hhl : (bs.map (·.h)).length = n := by rw [List.length_map]; exact h0.b.len.symm
  have hho := heads_at hhs X (by omega)
  have hgd : (bs.map (·.h)).getD X default = (bs.getD X default).h := by
    simp [List.getD_eq_getElem?_getD, List.getElem?_eq_getElem hXl]
  rw [hgd] at hho
  have hv : paidOfL (ptsOf bs) (X : Int) (Y : Int) = ⟨(X : Int), (bs.getD X default).h, (proofL (bs.map (·.h)) (X : Int)).1, (proofL (bs.map (·.h)) (X : Int)).2, rproofL (bs.getD X default).ss (Y : Int)⟩ := by
    rw [paidOfL_yes hin, pd_at hXl, pts_heads, pd_len, proofL, if_pos ⟨hhs, by omega, by omega⟩, rproof_yes hio (by omega), hhl, h0.b.len]
    rfl
  rw [hv]
  have L0 : Hid (Below w.heap.size w (w.alloc (.cells #[.int .i64 0, .string ⟨#[]⟩, .string ⟨#[]⟩, .int .i64 0, .int .i64 0, .int .i64 0, .slice none 0 0, .slice none 0 0, .slice none 0 0] 31))) := (Below.refl _ w).alloc (Nat.le_refl _) _
  have hok := implChainOk g n cap bs _ (h0.b.below L0.out) (hK.below L0.out hK.lt) (TabP.below hP L0.out (Nat.le_refl _)) (hE.below L0.out hE.lt)
  rw [hin.1] at hok
  have T0 : Hid (CBk (w.alloc (.cells #[.int .i64 0, .string ⟨#[]⟩, .string ⟨#[]⟩, .int .i64 0, .int .i64 0, .int .i64 0, .slice none 0 0, .slice none 0 0, .slice none 0 0] 31)) w.heap.size 31 #[.int .i64 0, .string ⟨#[]⟩, .string ⟨#[]⟩, .int .i64 0, .int .i64 0, .int .i64 0, .slice none 0 0, .slice none 0 0, .slice none 0 0]) := CBk.new w _ _
  have HAT : Hid (AtBlk w g bs) := h0.b.at_
  have HBH : Hid (∀ w', Below w.heap.size w w' → Calls Tryz.prog 21 #[.slice (some ⟨g, 0, none⟩) n cap] w' fun e w'' => ∃ v, e = .returned v ∧ HRow w'.heap.size v (bs.map (·.h)) w'' ∧ Below w'.heap.size w' w'') := fun w' hb => implBlockHeads g n cap bs w' (h0.b.at_.below hb h0.b.at_.1) h0.b.len h0.b.max
  have HRP : Hid (∀ (g3 c3 : Nat) (w' : World), Below w.heap.size w w' → (∃ B, HRow B (.slice (some ⟨g3, 0, none⟩) (bs.map (·.h)).length c3) (bs.map (·.h)) w') → Calls Tryz.prog 20 #[.slice (some ⟨g3, 0, none⟩) (bs.map (·.h)).length c3, .int .i64 (X : Int)] w' fun e w'' => PrfPost (bs.map (·.h)) (X : Int) w' e w'' ∧ Dis e) := fun g3 c3 w' hb hr => by
    obtain ⟨B, hr⟩ := hr
    exact implRangeProof g3 _ c3 (bs.map (·.h)) (X : Int) w' (FRow.at enHead_len hr).1 rfl (by rw [hhl]; exact h0.b.max) (hK.below hb hK.lt) (TabP.below hP hb (Nat.le_refl _))
  have HRT : Hid (∀ w', Below w.heap.size w w' → Calls Tryz.prog 22 #[.slice (some ⟨(bs.getD X default).g, 0, none⟩) (bs.getD X default).n (bs.getD X default).cap, .int .i64 (Y : Int)] w' fun e w'' => RpPost (bs.getD X default).ss (Y : Int) w' e w'') := fun w' hb => by
    have h1 := (h0.b.items _ (blk_mem hXl)).1
    exact implRootProof _ _ _ (bs.getD X default).ss (Y : Int) w' (h1.below hb h1.1) hbn (hK.below hb hK.lt)
  unfold PrfPost at HRP
  unfold RpPost at HRT
  have HHC : Hid (∀ w', Calls Tryz.prog 19 #[headVal (bs.getD X default).h] w' fun e w'' => e = .returned (headVal (bs.getD X default).h) ∧ Below w'.heap.size w' w'') := fun w' => implHeadCopy _ w' (by have h1 := sum_size (headOk_in hho).1; omega) (by have h1 := sum_size (headOk_in hho).2.1; omega)
  unfold headVal at HHC
  have hyn2 : (Y : Int) < ((bs.getD X default).n : Int) := by omega
  have HQ : Hid (∀ (w5 : World) (g6 : Nat) (vp vs vd : Value) (x0 x1 x2 x3 x4 x5 x6 x7 x8 : Value), Pks (g6 + 1) vp (proofL (bs.map (·.h)) (X : Int)).1 w5 → Pks (g6 + 1) vs (proofL (bs.map (·.h)) (X : Int)).2 w5 → Sds (g6 + 1) vd (rproofL (bs.getD X default).ss (Y : Int)) w5 → w.heap.size ≤ g6 → Below w.heap.size w w5 → (∀ b, blkOf vp b → ¬ blkOf vs b) → Pd9 w ⟨(X : Int), (bs.getD X default).h, (proofL (bs.map (·.h)) (X : Int)).1, (proofL (bs.map (·.h)) (X : Int)).2, rproofL (bs.getD X default).ss (Y : Int)⟩ True (.returned (.agg #[.int .i64 (X : Int), .string (bs.getD X default).h.prev, .string (bs.getD X default).h.root, .int .i64 (bs.getD X default).h.time, .int .i64 (bs.getD X default).h.diff, .int .i64 (bs.getD X default).h.nonce, vp, vs, vd])) (((((((((w5.setCell ⟨g6, 0, none⟩ x0).setCell ⟨g6, 1, none⟩ x1).setCell ⟨g6, 2, none⟩ x2).setCell ⟨g6, 3, none⟩ x3).setCell ⟨g6, 4, none⟩ x4).setCell ⟨g6, 5, none⟩ x5).setCell ⟨g6, 6, none⟩ x6).setCell ⟨g6, 7, none⟩ x7).setCell ⟨g6, 8, none⟩ x8)) := fun w5 g6 vp vs vd x0 x1 x2 x3 x4 x5 x6 x7 x8 h1 h2 h3 h4 h5 h6 => pd_fin (v := ⟨(X : Int), (bs.getD X default).h, (proofL (bs.map (·.h)) (X : Int)).1, (proofL (bs.map (·.h)) (X : Int)).2, rproofL (bs.getD X default).ss (Y : Int)⟩) h1 h2 h3 (Nat.lt_succ_self _) h4 h5 (fun _ => h6) x0 x1 x2 x3 x4 x5 x6 x7 x8
  generalize Pd9 w ⟨(X : Int), (bs.getD X default).h, (proofL (bs.map (·.h)) (X : Int)).1, (proofL (bs.map (·.h)) (X : Int)).2, rproofL (bs.getD X default).ss (Y : Int)⟩ True = Q at HQ ⊢
  generalize (proofL (bs.map (·.h)) (X : Int)).1 = PK at HRP HQ
  generalize (proofL (bs.map (·.h)) (X : Int)).2 = STP at HRP HQ
  generalize rproofL (bs.getD X default).ss (Y : Int) = SD at HRT HQ
  have HCW : Hid (∀ w' : World, w'.heap[g]? = w.heap[g]? → (w'.cell? ⟨g, X * 6, none⟩ = some (.string (bs.getD X default).h.prev) ∧ w'.cell? ⟨g, X * 6 + 1, none⟩ = some (.string (bs.getD X default).h.root) ∧ w'.cell? ⟨g, X * 6 + 2, none⟩ = some (.int .i64 (bs.getD X default).h.time) ∧ w'.cell? ⟨g, X * 6 + 3, none⟩ = some (.int .i64 (bs.getD X default).h.diff) ∧ w'.cell? ⟨g, X * 6 + 4, none⟩ = some (.int .i64 (bs.getD X default).h.nonce) ∧ w'.cell? ⟨g, X * 6 + 5, none⟩ = some (.slice (some ⟨(bs.getD X default).g, 0, none⟩) (bs.getD X default).n (bs.getD X default).cap))) := fun w' hw => by
    have h1 := h0.b.at_
    exact ⟨(World.cell?_of_block (a := ⟨g, X * 6, none⟩) hw).trans (AtBlk.c0 h1 X hXl), (World.cell?_of_block (a := ⟨g, X * 6 + 1, none⟩) hw).trans (AtBlk.c1 h1 X hXl), (World.cell?_of_block (a := ⟨g, X * 6 + 2, none⟩) hw).trans (AtBlk.c2 h1 X hXl), (World.cell?_of_block (a := ⟨g, X * 6 + 3, none⟩) hw).trans (AtBlk.c3 h1 X hXl), (World.cell?_of_block (a := ⟨g, X * 6 + 4, none⟩) hw).trans (AtBlk.c4 h1 X hXl), (World.cell?_of_block (a := ⟨g, X * 6 + 5, none⟩) hw).trans (AtBlk.c5 h1 X hXl)⟩
  have HGW : Hid (g < w.heap.size) := h0.b.at_.1
  obtain ⟨g6, hg6⟩ : ∃ g6, g6 = w.heap.size := ⟨_, rfl⟩
  have HG6 : Hid (w.heap.size ≤ g6) := Nat.le_of_eq hg6.symm
  have HGN : Hid (g ≠ g6) := by have := HGW.out; show _ ≠ _; omega
  have HN : Hid (n ≤ 1048576) := h0.b.max
  clear hv hhs hits hio hbn hYn hho hgd hin hK hP hE h0 hXl hhl
  generalize bs.map (·.h) = hs at HBH HRP
  generalize bs.getD X default = bb at HRT HHC HQ HCW hyn2
  obtain ⟨h, bg, bn, bc, bss⟩ := bb
  dsimp only at HRT HHC HQ HCW hyn2
  have HCL : Hid (∀ w' : World, Below w.heap.size w w' → (w'.cell? ⟨g, X * 6, none⟩ = some (.string h.prev) ∧ w'.cell? ⟨g, X * 6 + 1, none⟩ = some (.string h.root) ∧ w'.cell? ⟨g, X * 6 + 2, none⟩ = some (.int .i64 h.time) ∧ w'.cell? ⟨g, X * 6 + 3, none⟩ = some (.int .i64 h.diff) ∧ w'.cell? ⟨g, X * 6 + 4, none⟩ = some (.int .i64 h.nonce) ∧ w'.cell? ⟨g, X * 6 + 5, none⟩ = some (.slice (some ⟨bg, 0, none⟩) bn bc))) := fun w' hb => HCW.out w' (hb.block g HGW.out)
  have HCS : Hid (∀ w0 w' : World, w'.heap[g]? = w0.heap[g]? → (w0.cell? ⟨g, X * 6, none⟩ = some (.string h.prev) ∧ w0.cell? ⟨g, X * 6 + 1, none⟩ = some (.string h.root) ∧ w0.cell? ⟨g, X * 6 + 2, none⟩ = some (.int .i64 h.time) ∧ w0.cell? ⟨g, X * 6 + 3, none⟩ = some (.int .i64 h.diff) ∧ w0.cell? ⟨g, X * 6 + 4, none⟩ = some (.int .i64 h.nonce) ∧ w0.cell? ⟨g, X * 6 + 5, none⟩ = some (.slice (some ⟨bg, 0, none⟩) bn bc)) → (w'.cell? ⟨g, X * 6, none⟩ = some (.string h.prev) ∧ w'.cell? ⟨g, X * 6 + 1, none⟩ = some (.string h.root) ∧ w'.cell? ⟨g, X * 6 + 2, none⟩ = some (.int .i64 h.time) ∧ w'.cell? ⟨g, X * 6 + 3, none⟩ = some (.int .i64 h.diff) ∧ w'.cell? ⟨g, X * 6 + 4, none⟩ = some (.int .i64 h.nonce) ∧ w'.cell? ⟨g, X * 6 + 5, none⟩ = some (.slice (some ⟨bg, 0, none⟩) bn bc))) := fun w0 w' hw hs => ⟨(World.cell?_of_block (a := ⟨g, X * 6, none⟩) hw).trans hs.1, (World.cell?_of_block (a := ⟨g, X * 6 + 1, none⟩) hw).trans hs.2.1, (World.cell?_of_block (a := ⟨g, X * 6 + 2, none⟩) hw).trans hs.2.2.1, (World.cell?_of_block (a := ⟨g, X * 6 + 3, none⟩) hw).trans hs.2.2.2.1, (World.cell?_of_block (a := ⟨g, X * 6 + 4, none⟩) hw).trans hs.2.2.2.2.1, (World.cell?_of_block (a := ⟨g, X * 6 + 5, none⟩) hw).trans hs.2.2.2.2.2⟩
  have lx1 : (X : Int) < (n : Int) := by omega
  have lx0 : (0 : Int) ≤ (X : Int) := by omega
  have lx2 : ¬ (X : Int) < 0 := by omega
  have ly2 : ¬ (Y : Int) < 0 := by omega
  go_enter Tryz.func7, Tryz.ntmps7
  go_wp2_with fail
  rw [← hg6] at T0 ⊢
  refine hok.mono ?_
  rintro e w1 ⟨rfl, b1⟩
  have B1 : Hid (Below w.heap.size w w1) := L0.out.trans (b1.mono L0.out.size)
  have HT1 : Hid (∀ w', Below w1.heap.size w1 w' → CBk w' g6 31 #[.int .i64 0, .string ⟨#[]⟩, .string ⟨#[]⟩, .int .i64 0, .int .i64 0, .int .i64 0, .slice none 0 0, .slice none 0 0, .slice none 0 0]) := fun w' hb => (T0.out.call b1).call hb
  have HS1 : Hid (g6 < w1.heap.size) := (T0.out.call b1).lt
  have HGB : Hid (∀ w', Below w1.heap.size w1 w' → g6 + 1 ≤ w'.heap.size) := fun w' hb => Nat.le_trans HS1.out hb.size
  clear hok b1 T0 L0 hg6
  obtain ⟨q0, q1, q2, q3, q4, q5⟩ := HCL.out w1 B1.out
  go_upto_region 3 with fail
  clear q0 q1 q2 q3 q4 q5
  have S1d := HCL.out w1.drew B1.out.drew
  refine wp_region_noPanic ?_
  refine wp_region_held_drew (S := fun w' => (w'.cell? ⟨g, X * 6, none⟩ = some (.string h.prev) ∧ w'.cell? ⟨g, X * 6 + 1, none⟩ = some (.string h.root) ∧ w'.cell? ⟨g, X * 6 + 2, none⟩ = some (.int .i64 h.time) ∧ w'.cell? ⟨g, X * 6 + 3, none⟩ = some (.int .i64 h.diff) ∧ w'.cell? ⟨g, X * 6 + 4, none⟩ = some (.int .i64 h.nonce) ∧ w'.cell? ⟨g, X * 6 + 5, none⟩ = some (.slice (some ⟨bg, 0, none⟩) bn bc))) (by kernel_rfl) (S1d) (fun hHeld => ?_)
  refine takeL 0 (v := ?_) rfl (by kernel_rfl) (by kernel_rfl) (by kernel_rfl) (fun _ _ _ h => h) (by kernel_rfl) ?_ (by assumption) ?_
  rotate_left
  · intro w hSw; (try dsimp only at hSw); first | (go_simp; done) | (go_simp; with_reducible rfl)
  try simp only [Act.put, List.setIfInBounds_toArray, List.set_cons_zero, List.set_cons_succ]
  refine takeL 1 (v := ?_) rfl (by kernel_rfl) (by kernel_rfl) (by kernel_rfl) (fun _ _ _ h => h) (by kernel_rfl) ?_ (by assumption) ?_
  rotate_left
  · intro w hSw; (try dsimp only at hSw); first | (go_simp; done) | (go_simp; with_reducible rfl)
  try simp only [Act.put, List.setIfInBounds_toArray, List.set_cons_zero, List.set_cons_succ]
  refine takeL 2 (v := ?_) rfl (by kernel_rfl) (by kernel_rfl) (by kernel_rfl) (fun _ _ _ h => h) (by kernel_rfl) ?_ (by assumption) ?_
  rotate_left
  · intro w hSw; (try dsimp only at hSw); first | (go_simp; done) | (go_simp; with_reducible rfl)
  try simp only [Act.put, List.setIfInBounds_toArray, List.set_cons_zero, List.set_cons_succ]
  refine takeL 3 (v := ?_) rfl (by kernel_rfl) (by kernel_rfl) (by kernel_rfl) (fun _ _ _ h => h) (by kernel_rfl) ?_ (by assumption) ?_
  rotate_left
  · intro w hSw; (try dsimp only at hSw); first | (go_simp; done) | (go_simp; with_reducible rfl)
  try simp only [Act.put, List.setIfInBounds_toArray, List.set_cons_zero, List.set_cons_succ]
  refine takeL 4 (v := ?_) rfl (by kernel_rfl) (by kernel_rfl) (by kernel_rfl) (fun _ _ _ h => h) (by kernel_rfl) ?_ (by assumption) ?_
  rotate_left
  · intro w hSw; (try dsimp only at hSw); first | (go_simp; done) | (go_simp; with_reducible rfl)
  try simp only [Act.put, List.setIfInBounds_toArray, List.set_cons_zero, List.set_cons_succ]
  refine takeL 5 (v := ?_) rfl (by kernel_rfl) (by kernel_rfl) (by kernel_rfl) (fun _ _ _ h => h) (by kernel_rfl) ?_ (by assumption) ?_
  rotate_left
  · intro w hSw; (try dsimp only at hSw); first | (go_simp; done) | (go_simp; with_reducible rfl)
  try simp only [Act.put, List.setIfInBounds_toArray, List.set_cons_zero, List.set_cons_succ]
  refine takeL 7 (v := ?_) rfl (by kernel_rfl) (by kernel_rfl) (by kernel_rfl) (fun _ _ _ h => h) (by kernel_rfl) ?_ (by assumption) ?_
  rotate_left
  · intro w hSw; (try dsimp only at hSw); first | (go_simp; done) | (go_simp; with_reducible rfl)
  try simp only [Act.put, List.setIfInBounds_toArray, List.set_cons_zero, List.set_cons_succ]
  refine takeL 9 (v := ?_) rfl (by kernel_rfl) (by kernel_rfl) (by kernel_rfl) (fun _ _ _ h => h) (by kernel_rfl) ?_ (by assumption) ?_
  rotate_left
  · intro w hSw; (try dsimp only at hSw); first | (go_simp; done) | (go_simp; with_reducible rfl)
  try simp only [Act.put, List.setIfInBounds_toArray, List.set_cons_zero, List.set_cons_succ]
  refine takeL 11 (v := ?_) rfl (by kernel_rfl) (by kernel_rfl) (by kernel_rfl) (fun _ _ _ h => h) (by kernel_rfl) ?_ (by assumption) ?_
  rotate_left
  · intro w hSw; (try dsimp only at hSw); first | (go_simp; done) | (go_simp; with_reducible rfl)
  try simp only [Act.put, List.setIfInBounds_toArray, List.set_cons_zero, List.set_cons_succ]
  refine takeL 12 (v := ?_) rfl (by kernel_rfl) (by kernel_rfl) (by kernel_rfl) (fun _ _ _ h => h) (by kernel_rfl) ?_ (by assumption) ?_
  rotate_left
  · intro w hSw; (try dsimp only at hSw); first | (go_simp; done) | (go_simp; with_reducible rfl)
  try simp only [Act.put, List.setIfInBounds_toArray, List.set_cons_zero, List.set_cons_succ]
  refine takeL 13 (v := ?_) rfl (by kernel_rfl) (by kernel_rfl) (by kernel_rfl) (fun _ _ _ h => h) (by kernel_rfl) ?_ (by assumption) ?_
  rotate_left
  · intro w hSw; (try dsimp only at hSw); first | (go_simp; done) | (go_simp; with_reducible rfl)
  try simp only [Act.put, List.setIfInBounds_toArray, List.set_cons_zero, List.set_cons_succ]
  refine takeL 14 (v := ?_) rfl (by kernel_rfl) (by kernel_rfl) (by kernel_rfl) (fun _ _ _ h => h) (by kernel_rfl) ?_ (by assumption) ?_
  rotate_left
  · intro w hSw; (try dsimp only at hSw); first | (go_simp; done) | (go_simp; with_reducible rfl)
  try simp only [Act.put, List.setIfInBounds_toArray, List.set_cons_zero, List.set_cons_succ]
  refine takeL 15 (v := ?_) rfl (by kernel_rfl) (by kernel_rfl) (by kernel_rfl) (fun _ _ _ h => h) (by kernel_rfl) ?_ (by assumption) ?_
  rotate_left
  · intro w hSw; (try dsimp only at hSw); first | (go_simp; done) | (go_simp; with_reducible rfl)
  try simp only [Act.put, List.setIfInBounds_toArray, List.set_cons_zero, List.set_cons_succ]
  refine takeL 16 (v := ?_) rfl (by kernel_rfl) (by kernel_rfl) (by kernel_rfl) (fun _ _ _ h => h) (by kernel_rfl) ?_ (by assumption) ?_
  rotate_left
  · intro w hSw; (try dsimp only at hSw); first | (go_simp; done) | (go_simp; with_reducible rfl)
  try simp only [Act.put, List.setIfInBounds_toArray, List.set_cons_zero, List.set_cons_succ]
  refine callL 6 rfl (by kernel_rfl) (fun K hK => ?_)
  go_simp
  refine (HHC.out _).mono ?_
  rintro e w2 ⟨rfl, b2⟩
  have B2 : Hid (Below w.heap.size w w2) := B1.out.drew.trans (b2.mono B1.out.size)
  have C2 : Hid (Below w1.heap.size w1 w2) := ((Below.refl w1.heap.size w1).drew).trans b2
  have S2 := HCL.out w2 B2.out
  clear b2
  go_wp2_with fail
  refine hK.out _ _ ?_ (fun hHeld => ?_)
  · first | (with_reducible exact S2) | (with_reducible exact S3) | (with_reducible exact S4) | (with_reducible exact S5) | exact HCS.out w5 _ (set9_other HGN.out (.int .i64 (X : Int)) (.string h.prev) (.string h.root) (.int .i64 h.time) (.int .i64 h.diff) (.int .i64 h.nonce) (.slice pa pn pc) (.slice sa sn sc) (.slice da dn dc)) S5
  clear hK K
  try simp only [Act.put, List.setIfInBounds_toArray, List.set_cons_zero, List.set_cons_succ]
  refine callL 8 rfl (by kernel_rfl) (fun K hK => ?_)
  go_simp
  refine (HBH.out _ B2.out).mono ?_
  rintro e w3 ⟨v3, rfl, r3, b3⟩
  obtain ⟨⟨g3, c3, rfl⟩, -⟩ := id r3
  have B3 : Hid (Below w.heap.size w w3) := B2.out.trans (b3.mono B2.out.size)
  have C3 : Hid (Below w1.heap.size w1 w3) := C2.out.trans (b3.mono C2.out.size)
  have S3 := HCL.out w3 B3.out
  have hrp := HRP.out g3 c3 w3 B3.out ⟨_, r3⟩
  clear b3 r3
  go_wp2_with fail
  refine hK.out _ _ ?_ (fun hHeld => ?_)
  · first | (with_reducible exact S2) | (with_reducible exact S3) | (with_reducible exact S4) | (with_reducible exact S5) | exact HCS.out w5 _ (set9_other HGN.out (.int .i64 (X : Int)) (.string h.prev) (.string h.root) (.int .i64 h.time) (.int .i64 h.diff) (.int .i64 h.nonce) (.slice pa pn pc) (.slice sa sn sc) (.slice da dn dc)) S5
  clear hK K
  try simp only [Act.put, List.setIfInBounds_toArray, List.set_cons_zero, List.set_cons_succ]
  refine callL 10 rfl (by kernel_rfl) (fun K hK => ?_)
  go_simp
  refine hrp.mono ?_
  rintro e w4 ⟨⟨vp, vs, rfl, k1, k2, b4⟩, d4⟩
  obtain ⟨pa, pn, pc, rfl⟩ := pks_slice k1
  obtain ⟨sa, sn, sc, rfl⟩ := pks_slice k2
  have B4 : Hid (Below w.heap.size w w4) := B3.out.trans (b4.mono B3.out.size)
  have K1 : Hid (Pks (g6 + 1) (.slice pa pn pc) PK w4) := k1.mono (HGB.out _ C3.out)
  have K2 : Hid (Pks (g6 + 1) (.slice sa sn sc) STP w4) := k2.mono (HGB.out _ C3.out)
  have D4 : Hid (∀ b, blkOf (.slice pa pn pc) b → ¬ blkOf (.slice sa sn sc) b) := fun b hb => d4 _ _ b rfl hb
  have C4 : Hid (Below w1.heap.size w1 w4) := C3.out.trans (b4.mono C3.out.size)
  have S4 := HCL.out w4 B4.out
  clear hrp d4 k1 k2 b4
  go_wp2_with fail
  refine hK.out _ _ ?_ (fun hHeld => ?_)
  · first | (with_reducible exact S2) | (with_reducible exact S3) | (with_reducible exact S4) | (with_reducible exact S5) | exact HCS.out w5 _ (set9_other HGN.out (.int .i64 (X : Int)) (.string h.prev) (.string h.root) (.int .i64 h.time) (.int .i64 h.diff) (.int .i64 h.nonce) (.slice pa pn pc) (.slice sa sn sc) (.slice da dn dc)) S5
  clear hK K
  try simp only [Act.put, List.setIfInBounds_toArray, List.set_cons_zero, List.set_cons_succ]
  refine callL 17 rfl (by kernel_rfl) (fun K hK => ?_)
  go_simp
  refine (HRT.out _ B4.out).mono ?_
  rintro e w5 ⟨vd, rfl, k3, b5⟩
  obtain ⟨da, dn, dc, rfl⟩ := sds_slice k3
  have B5 : Hid (Below w.heap.size w w5) := B4.out.trans (b5.mono B4.out.size)
  have K3 : Hid (Sds (g6 + 1) (.slice da dn dc) SD w5) := k3.mono (HGB.out _ C4.out)
  have T5 : Hid (CBk w5 g6 31 #[.int .i64 0, .string ⟨#[]⟩, .string ⟨#[]⟩, .int .i64 0, .int .i64 0, .int .i64 0, .slice none 0 0, .slice none 0 0, .slice none 0 0]) := HT1.out _ (C4.out.trans (b5.mono C4.out.size))
  have K15 : Hid (Pks (g6 + 1) (.slice pa pn pc) PK w5) := K1.out.below b5
  have K25 : Hid (Pks (g6 + 1) (.slice sa sn sc) STP w5) := K2.out.below b5
  have S5 := HCL.out w5 B5.out
  obtain ⟨e0, e1, e2, e3, e4, e5, e6, e7, e8⟩ := T5.out.nineP
  obtain ⟨f0, f1, f2, f3, f4, f5, f6, f7, f8⟩ := T5.out.nineZ
  clear b5 k3
  go_wp2_with fail
  refine hK.out _ _ ?_ (fun hHeld => ?_)
  · first | (with_reducible exact S2) | (with_reducible exact S3) | (with_reducible exact S4) | (with_reducible exact S5) | exact HCS.out w5 _ (set9_other HGN.out (.int .i64 (X : Int)) (.string h.prev) (.string h.root) (.int .i64 h.time) (.int .i64 h.diff) (.int .i64 h.nonce) (.slice pa pn pc) (.slice sa sn sc) (.slice da dn dc)) S5
  clear hK K
  try simp only [Act.put, List.setIfInBounds_toArray, List.set_cons_zero, List.set_cons_succ]
  refine takeL 18 (v := ?_) rfl (by kernel_rfl) (by kernel_rfl) (by kernel_rfl) (fun _ _ _ h => h) (by kernel_rfl) ?_ (by assumption) ?_
  rotate_left
  · intro w hSw; (try dsimp only at hSw); first | (go_simp; done) | (go_simp; with_reducible rfl)
  try simp only [Act.put, List.setIfInBounds_toArray, List.set_cons_zero, List.set_cons_succ]
  refine callL 19 rfl (by kernel_rfl) (fun K hK => ?_)
  go_simp
  refine hK.out _ _ ?_ (fun hHeld => ?_)
  · first | (with_reducible exact S2) | (with_reducible exact S3) | (with_reducible exact S4) | (with_reducible exact S5) | exact HCS.out w5 _ (set9_other HGN.out (.int .i64 (X : Int)) (.string h.prev) (.string h.root) (.int .i64 h.time) (.int .i64 h.diff) (.int .i64 h.nonce) (.slice pa pn pc) (.slice sa sn sc) (.slice da dn dc)) S5
  clear hK K
  try simp only [Act.put, List.setIfInBounds_toArray, List.set_cons_zero, List.set_cons_succ]
  refine wpAnyH_done (by kernel_rfl) ?_ _
  refine NoPanic.normal ?_
  have HFIN : Hid (CBk (((((((((w5.setCell ⟨g6, 0, none⟩ (.int .i64 (X : Int))).setCell ⟨g6, 1, none⟩ (.string h.prev)).setCell ⟨g6, 2, none⟩ (.string h.root)).setCell ⟨g6, 3, none⟩ (.int .i64 h.time)).setCell ⟨g6, 4, none⟩ (.int .i64 h.diff)).setCell ⟨g6, 5, none⟩ (.int .i64 h.nonce)).setCell ⟨g6, 6, none⟩ (.slice pa pn pc)).setCell ⟨g6, 7, none⟩ (.slice sa sn sc)).setCell ⟨g6, 8, none⟩ (.slice da dn dc)) g6 31 #[.int .i64 (X : Int), .string h.prev, .string h.root, .int .i64 h.time, .int .i64 h.diff, .int .i64 h.nonce, .slice pa pn pc, .slice sa sn sc, .slice da dn dc]) := set9_blk T5.out (.int .i64 (X : Int)) (.string h.prev) (.string h.root) (.int .i64 h.time) (.int .i64 h.diff) (.int .i64 h.nonce) (.slice pa pn pc) (.slice sa sn sc) (.slice da dn dc)
  have HFQ : Hid (Q (.returned (.agg #[.int .i64 (X : Int), .string h.prev, .string h.root, .int .i64 h.time, .int .i64 h.diff, .int .i64 h.nonce, .slice pa pn pc, .slice sa sn sc, .slice da dn dc])) (((((((((w5.setCell ⟨g6, 0, none⟩ (.int .i64 (X : Int))).setCell ⟨g6, 1, none⟩ (.string h.prev)).setCell ⟨g6, 2, none⟩ (.string h.root)).setCell ⟨g6, 3, none⟩ (.int .i64 h.time)).setCell ⟨g6, 4, none⟩ (.int .i64 h.diff)).setCell ⟨g6, 5, none⟩ (.int .i64 h.nonce)).setCell ⟨g6, 6, none⟩ (.slice pa pn pc)).setCell ⟨g6, 7, none⟩ (.slice sa sn sc)).setCell ⟨g6, 8, none⟩ (.slice da dn dc))) := HQ.out w5 g6 _ _ _ (.int .i64 (X : Int)) (.string h.prev) (.string h.root) (.int .i64 h.time) (.int .i64 h.diff) (.int .i64 h.nonce) (.slice pa pn pc) (.slice sa sn sc) (.slice da dn dc) K15.out K25.out K3.out HG6.out B5.out D4.out
  clear S1d
  go_wp2_with fail
  exact bodyPost_ret (results_cell_row (p := 6) rfl _ _ g6 31 #[.int .i64 (X : Int), .string h.prev, .string h.root, .int .i64 h.time, .int .i64 h.diff, .int .i64 h.nonce, .slice pa pn pc, .slice sa sn sc, .slice da dn dc] (0, 0) _ rfl HFIN.out Tryz.underlying31 rfl (by kernel_rfl)) rfl HFQ.out
theorem implPaidOf (g n cap : Nat) (bs : List BlkV) (x y : Int) (w : World) (h : BlksS g n cap bs w) (hK : RowG w shaK) (hP : TabP w) (hE : ErrT w) :
    Calls Tryz.prog 7 #[.slice (some ⟨g, 0, none⟩) n cap, .int .i64 x, .int .i64 y] w fun e w' => Pd9 w (paidOfL (ptsOf bs) x y) True e w' := by
  by_cases hc : inPd (ptsOf bs) x y
  · obtain ⟨X, rfl⟩ : ∃ X : Nat, x = (X : Int) := ⟨x.toNat, by have := hc.2.1.1; omega⟩
    obtain ⟨Y, rfl⟩ : ∃ Y : Nat, y = (Y : Int) := ⟨y.toNat, by have := hc.2.2.1; omega⟩
    exact implPaidOfYes g n cap bs X Y w h hc hK hP hE
  · rw [paidOfL_no hc]
    exact implPaidOfNo g n cap bs x y w h hc hK hP hE
end Go.Proofs.YtoifgpmbeicmnaaGreatDoor

set_option linter.unusedVariables false
namespace Go.Proofs.YtoifgpmbeicmnaaGreatDoor
open Go.RowKit Go.Deep

set_option maxHeartbeats 8000000 in
set_option maxRecDepth 100000 in
theorem specL9Of (g n cap : Nat) (bs : List BlkV) (X Y : Nat) (w : World) (h0 : BlksS g n cap bs w) (hin : inPd (ptsOf bs) (X : Int) (Y : Int)) :
    Calls Tryz.prog 16 #[.slice (some ⟨g, 0, none⟩) n cap, .int .i64 (X : Int), .int .i64 (Y : Int)] w fun e w' => Pd9 w (paidOfL (ptsOf bs) (X : Int) (Y : Int)) False e w' := by
  have hXn : X < n := by have h1 := hin.2.1.2; rw [pd_len] at h1; have h2 := h0.b.len; omega
  have hXl : X < bs.length := by have h2 := h0.b.len; omega
  obtain ⟨hhs, hits⟩ := inPd_facts hin
  rw [pts_heads] at hhs
  have hio : itemsOkB (bs.getD X default).ss = true := hits _ (List.mem_map.2 ⟨_, blk_mem hXl, rfl⟩)
  have hbn : (bs.getD X default).n = (bs.getD X default).ss.length := (h0.b.items _ (blk_mem hXl)).2
  have hYn : Y < (bs.getD X default).n := by
    have h1 := hin.2.2.2
    rw [show ((X : Int)).toNat = X from rfl, pd_at hXl] at h1
    have h2 : (Y : Int) < ((bs.getD X default).ss.length : Int) := h1
    omega
  have hhl : (bs.map (·.h)).length = n := by rw [List.length_map]; exact h0.b.len.symm
  have hho := heads_at hhs X (by omega)
  have hgd : (bs.map (·.h)).getD X default = (bs.getD X default).h := by
    simp [List.getD_eq_getElem?_getD, List.getElem?_eq_getElem hXl]
  rw [hgd] at hho
  have hv : paidOfL (ptsOf bs) (X : Int) (Y : Int) = ⟨(X : Int), (bs.getD X default).h, (proofL (bs.map (·.h)) (X : Int)).1, (proofL (bs.map (·.h)) (X : Int)).2, rproofL (bs.getD X default).ss (Y : Int)⟩ := by
    rw [paidOfL_yes hin, pd_at hXl, pts_heads, pd_len, proofL, if_pos ⟨hhs, by omega, by omega⟩, rproof_yes hio (by omega), hhl, h0.b.len]
    rfl
  rw [hv]
  have hn20 : n ≤ 20 := by have := heads_len hhs; omega
  have hXh : X < (bs.map (·.h)).length := by rw [hhl]; exact hXn
  have hss : (bs.getD X default).ss.length ≤ 40 := itemsOk_len hio
  have L0 : Hid (Below w.heap.size w (w.alloc (.cells #[.int .i64 0, .string ⟨#[]⟩, .string ⟨#[]⟩, .int .i64 0, .int .i64 0, .int .i64 0, .slice none 0 0, .slice none 0 0, .slice none 0 0] 31))) := (Below.refl _ w).alloc (Nat.le_refl _) _
  have T0 : Hid (CBk (w.alloc (.cells #[.int .i64 0, .string ⟨#[]⟩, .string ⟨#[]⟩, .int .i64 0, .int .i64 0, .int .i64 0, .slice none 0 0, .slice none 0 0, .slice none 0 0] 31)) w.heap.size 31 #[.int .i64 0, .string ⟨#[]⟩, .string ⟨#[]⟩, .int .i64 0, .int .i64 0, .int .i64 0, .slice none 0 0, .slice none 0 0, .slice none 0 0]) := CBk.new w _ _
  have hlh := specL4Heads g n cap bs _ (h0.b.at_.below L0.out h0.b.at_.1) h0.b.len h0.b.max
  have HP5' := fun (g7 c7 : Nat) (w' : World) (hr : AtHead w' g7 (bs.map (·.h))) => specL5Proof g7 (bs.map (·.h)).length c7 (bs.map (·.h)) X w' hr (Eq.refl _) hhs hXh
  have HP5 : Hid _ := HP5'
  clear HP5'
  have HR3 : Hid (∀ w', Below w.heap.size w w' → Calls Tryz.prog 39 #[.slice (some ⟨(bs.getD X default).g, 0, none⟩) (bs.getD X default).n (bs.getD X default).cap, .int .i64 (Y : Int)] w' fun e w'' => ∃ v, e = .returned v ∧ Sds w'.heap.size v (rproofL (bs.getD X default).ss (Y : Int)) w'' ∧ Below w'.heap.size w' w'') := fun w' hb => by
    have h1 := (h0.b.items _ (blk_mem hXl)).1
    have h2 := specL3Proof (bs.getD X default).g (bs.getD X default).n (bs.getD X default).cap (bs.getD X default).ss Y w' (h1.below hb h1.1) hbn (by rw [hbn]; exact hss) (by rw [← hbn]; exact hYn) (h0.small _ (blk_mem hXl))
    rw [hbn] at h2
    rw [rproof_yes hio (by omega), hbn]
    exact h2
  unfold PrfPost at HP5
  have HQ : Hid (∀ (w5 : World) (g6 : Nat) (vp vs vd : Value) (x0 x1 x2 x3 x4 x5 x6 x7 x8 : Value), Pks (g6 + 1) vp (proofL (bs.map (·.h)) (X : Int)).1 w5 → Pks (g6 + 1) vs (proofL (bs.map (·.h)) (X : Int)).2 w5 → Sds (g6 + 1) vd (rproofL (bs.getD X default).ss (Y : Int)) w5 → w.heap.size ≤ g6 → Below w.heap.size w w5 → Pd9 w ⟨(X : Int), (bs.getD X default).h, (proofL (bs.map (·.h)) (X : Int)).1, (proofL (bs.map (·.h)) (X : Int)).2, rproofL (bs.getD X default).ss (Y : Int)⟩ False (.returned (.agg #[.int .i64 (X : Int), .string (bs.getD X default).h.prev, .string (bs.getD X default).h.root, .int .i64 (bs.getD X default).h.time, .int .i64 (bs.getD X default).h.diff, .int .i64 (bs.getD X default).h.nonce, vp, vs, vd])) (((((((((w5.setCell ⟨g6, 0, none⟩ x0).setCell ⟨g6, 1, none⟩ x1).setCell ⟨g6, 2, none⟩ x2).setCell ⟨g6, 3, none⟩ x3).setCell ⟨g6, 4, none⟩ x4).setCell ⟨g6, 5, none⟩ x5).setCell ⟨g6, 6, none⟩ x6).setCell ⟨g6, 7, none⟩ x7).setCell ⟨g6, 8, none⟩ x8)) := fun w5 g6 vp vs vd x0 x1 x2 x3 x4 x5 x6 x7 x8 h1 h2 h3 h4 h5 => pd_fin (v := ⟨(X : Int), (bs.getD X default).h, (proofL (bs.map (·.h)) (X : Int)).1, (proofL (bs.map (·.h)) (X : Int)).2, rproofL (bs.getD X default).ss (Y : Int)⟩) h1 h2 h3 (Nat.lt_succ_self _) h4 h5 (fun hf => hf.elim) x0 x1 x2 x3 x4 x5 x6 x7 x8
  generalize Pd9 w ⟨(X : Int), (bs.getD X default).h, (proofL (bs.map (·.h)) (X : Int)).1, (proofL (bs.map (·.h)) (X : Int)).2, rproofL (bs.getD X default).ss (Y : Int)⟩ False = Q at HQ ⊢
  generalize (proofL (bs.map (·.h)) (X : Int)).1 = PK at HP5 HQ
  generalize (proofL (bs.map (·.h)) (X : Int)).2 = STP at HP5 HQ
  generalize rproofL (bs.getD X default).ss (Y : Int) = SD at HR3 HQ
  have HCW : Hid (∀ w', Below w.heap.size w w' → w'.cell? ⟨g, X * 6 + 5, none⟩ = some (.slice (some ⟨(bs.getD X default).g, 0, none⟩) (bs.getD X default).n (bs.getD X default).cap)) := fun w' hw => AtBlk.c5 (h0.b.at_.below hw h0.b.at_.1) X hXl
  have HHD : Hid (∀ w' g7, AtHead w' g7 (bs.map (·.h)) → (w'.cell? ⟨g7, X * 5, none⟩ = some (.string (bs.getD X default).h.prev) ∧ w'.cell? ⟨g7, X * 5 + 1, none⟩ = some (.string (bs.getD X default).h.root) ∧ w'.cell? ⟨g7, X * 5 + 2, none⟩ = some (.int .i64 (bs.getD X default).h.time) ∧ w'.cell? ⟨g7, X * 5 + 3, none⟩ = some (.int .i64 (bs.getD X default).h.diff) ∧ w'.cell? ⟨g7, X * 5 + 4, none⟩ = some (.int .i64 (bs.getD X default).h.nonce))) := fun w' g7 ha => by
    have hx : X < (bs.map (·.h)).length := by omega
    have c0 := AtHead.c0 ha X hx
    have c1 := AtHead.c1 ha X hx
    have c2 := AtHead.c2 ha X hx
    have c3 := AtHead.c3 ha X hx
    have c4 := AtHead.c4 ha X hx
    rw [hgd] at c0 c1 c2 c3 c4
    exact ⟨c0, c1, c2, c3, c4⟩
  have HGW : Hid (g < w.heap.size) := h0.b.at_.1
  have HLL : Hid ((bs.map (·.h)).length = n) := hhl
  obtain ⟨g6, hg6⟩ : ∃ g6, g6 = w.heap.size := ⟨_, rfl⟩
  have HG6 : Hid (w.heap.size ≤ g6) := Nat.le_of_eq hg6.symm
  have HGN0 : Hid (g ≠ g6) := by have := HGW.out; show _ ≠ _; omega
  have lx1 : (X : Int) < (n : Int) := by omega
  have lx0 : (0 : Int) ≤ (X : Int) := by omega
  clear hv hhs hits hio hbn hYn hho hgd hin h0 hXl hhl hss hXh
  generalize bs.map (·.h) = hs at hlh HP5 HHD HLL
  generalize bs.getD X default = bb at HR3 HQ HCW HHD
  obtain ⟨h, bg, bn, bc, bss⟩ := bb
  dsimp only at HR3 HQ HCW HHD
  go_enter Tryz.func16, Tryz.ntmps16
  go_wp2_with fail
  rw [← hg6] at T0 ⊢
  refine hlh.mono ?_
  rintro e w2 ⟨v7, rfl, r7, b2⟩
  obtain ⟨⟨g7, c7, rfl⟩, -⟩ := id r7
  have B2 : Hid (Below w.heap.size w w2) := L0.out.trans (b2.mono L0.out.size)
  have HT2 : Hid (CBk w2 g6 31 #[.int .i64 0, .string ⟨#[]⟩, .string ⟨#[]⟩, .int .i64 0, .int .i64 0, .int .i64 0, .slice none 0 0, .slice none 0 0, .slice none 0 0]) := T0.out.call b2
  have HS2 : Hid (g6 + 1 ≤ w2.heap.size) := HT2.out.lt
  have HA7 : Hid (AtHead w2 g7 hs) := (FRow.at enHead_len r7).1
  have HGN : Hid (g ≠ g6 ∧ g7 ≠ g6) := ⟨HGN0.out, by
    have h1 := (FRow.at enHead_len r7).2.2.1
    rw [show (w.alloc (.cells #[.int .i64 0, .string ⟨#[]⟩, .string ⟨#[]⟩, .int .i64 0, .int .i64 0, .int .i64 0, .slice none 0 0, .slice none 0 0, .slice none 0 0] 31)).heap.size = w.heap.size + 1 from by simp] at h1
    omega⟩
  have HCL : Hid (∀ w', Below w2.heap.size w2 w' → (w'.cell? ⟨g7, X * 5, none⟩ = some (.string h.prev) ∧ w'.cell? ⟨g7, X * 5 + 1, none⟩ = some (.string h.root) ∧ w'.cell? ⟨g7, X * 5 + 2, none⟩ = some (.int .i64 h.time) ∧ w'.cell? ⟨g7, X * 5 + 3, none⟩ = some (.int .i64 h.diff) ∧ w'.cell? ⟨g7, X * 5 + 4, none⟩ = some (.int .i64 h.nonce)) ∧ w'.cell? ⟨g, X * 6 + 5, none⟩ = some (.slice (some ⟨bg, 0, none⟩) bn bc)) := fun w' hb => ⟨HHD.out w' g7 (HA7.out.below hb HA7.out.1), HCW.out w' (B2.out.trans (hb.mono B2.out.size))⟩
  have HCS : Hid (∀ w0 w' : World, w'.heap[g]? = w0.heap[g]? → w'.heap[g7]? = w0.heap[g7]? → (w0.cell? ⟨g7, X * 5, none⟩ = some (.string h.prev) ∧ w0.cell? ⟨g7, X * 5 + 1, none⟩ = some (.string h.root) ∧ w0.cell? ⟨g7, X * 5 + 2, none⟩ = some (.int .i64 h.time) ∧ w0.cell? ⟨g7, X * 5 + 3, none⟩ = some (.int .i64 h.diff) ∧ w0.cell? ⟨g7, X * 5 + 4, none⟩ = some (.int .i64 h.nonce)) ∧ w0.cell? ⟨g, X * 6 + 5, none⟩ = some (.slice (some ⟨bg, 0, none⟩) bn bc) → (w'.cell? ⟨g7, X * 5, none⟩ = some (.string h.prev) ∧ w'.cell? ⟨g7, X * 5 + 1, none⟩ = some (.string h.root) ∧ w'.cell? ⟨g7, X * 5 + 2, none⟩ = some (.int .i64 h.time) ∧ w'.cell? ⟨g7, X * 5 + 3, none⟩ = some (.int .i64 h.diff) ∧ w'.cell? ⟨g7, X * 5 + 4, none⟩ = some (.int .i64 h.nonce)) ∧ w'.cell? ⟨g, X * 6 + 5, none⟩ = some (.slice (some ⟨bg, 0, none⟩) bn bc)) := fun w0 w' hw hw7 hs => ⟨⟨(World.cell?_of_block (a := ⟨g7, X * 5, none⟩) hw7).trans hs.1.1, (World.cell?_of_block (a := ⟨g7, X * 5 + 1, none⟩) hw7).trans hs.1.2.1, (World.cell?_of_block (a := ⟨g7, X * 5 + 2, none⟩) hw7).trans hs.1.2.2.1, (World.cell?_of_block (a := ⟨g7, X * 5 + 3, none⟩) hw7).trans hs.1.2.2.2.1, (World.cell?_of_block (a := ⟨g7, X * 5 + 4, none⟩) hw7).trans hs.1.2.2.2.2⟩, (World.cell?_of_block (a := ⟨g, X * 6 + 5, none⟩) hw).trans hs.2⟩
  have HPF : Hid (∀ w', Below w2.heap.size w2 w' → Calls Tryz.prog 38 #[.slice (some ⟨g7, 0, none⟩) hs.length c7, .int .i64 (X : Int)] w' fun e w'' => ∃ vp vs, e = .returned (.agg #[vp, vs]) ∧ Pks w'.heap.size vp PK w'' ∧ Pks w'.heap.size vs STP w'' ∧ Below w'.heap.size w' w'') := fun w' hb => HP5.out g7 c7 w' (HA7.out.below hb HA7.out.1)
  have HRT : Hid (∀ w', Below w2.heap.size w2 w' → Calls Tryz.prog 39 #[.slice (some ⟨bg, 0, none⟩) bn bc, .int .i64 (Y : Int)] w' fun e w'' => ∃ v, e = .returned v ∧ Sds w'.heap.size v SD w'' ∧ Below w'.heap.size w' w'') := fun w' hb => HR3.out w' (B2.out.trans (hb.mono B2.out.size))
  clear hlh b2 T0 L0 hg6 r7 HP5 HR3 HA7
  rw [HLL.out] at HPF ⊢
  go_upto_region 2 with fail
  have S2d := HCL.out w2.drew (Below.refl _ _).drew
  refine wp_region_noPanic ?_
  refine wp_region_held_drew (S := fun w' => (w'.cell? ⟨g7, X * 5, none⟩ = some (.string h.prev) ∧ w'.cell? ⟨g7, X * 5 + 1, none⟩ = some (.string h.root) ∧ w'.cell? ⟨g7, X * 5 + 2, none⟩ = some (.int .i64 h.time) ∧ w'.cell? ⟨g7, X * 5 + 3, none⟩ = some (.int .i64 h.diff) ∧ w'.cell? ⟨g7, X * 5 + 4, none⟩ = some (.int .i64 h.nonce)) ∧ w'.cell? ⟨g, X * 6 + 5, none⟩ = some (.slice (some ⟨bg, 0, none⟩) bn bc)) (by kernel_rfl) (S2d) (fun hHeld => ?_)
  refine takeL 0 (v := ?_) rfl (by kernel_rfl) (by kernel_rfl) (by kernel_rfl) (fun _ _ _ h => h) (by kernel_rfl) ?_ (by assumption) ?_
  rotate_left
  · intro w hSw; (try dsimp only at hSw); first | (go_simp; done) | (go_simp; with_reducible rfl)
  try simp only [Act.put, List.setIfInBounds_toArray, List.set_cons_zero, List.set_cons_succ]
  refine takeL 1 (v := ?_) rfl (by kernel_rfl) (by kernel_rfl) (by kernel_rfl) (fun _ _ _ h => h) (by kernel_rfl) ?_ (by assumption) ?_
  rotate_left
  · intro w hSw; (try dsimp only at hSw); first | (go_simp; done) | (go_simp; with_reducible rfl)
  try simp only [Act.put, List.setIfInBounds_toArray, List.set_cons_zero, List.set_cons_succ]
  refine takeL 2 (v := ?_) rfl (by kernel_rfl) (by kernel_rfl) (by kernel_rfl) (fun _ _ _ h => h) (by kernel_rfl) ?_ (by assumption) ?_
  rotate_left
  · intro w hSw; (try dsimp only at hSw); first | (go_simp; done) | (go_simp; with_reducible rfl)
  try simp only [Act.put, List.setIfInBounds_toArray, List.set_cons_zero, List.set_cons_succ]
  refine takeL 3 (v := ?_) rfl (by kernel_rfl) (by kernel_rfl) (by kernel_rfl) (fun _ _ _ h => h) (by kernel_rfl) ?_ (by assumption) ?_
  rotate_left
  · intro w hSw; (try dsimp only at hSw); first | (go_simp; done) | (go_simp; with_reducible rfl)
  try simp only [Act.put, List.setIfInBounds_toArray, List.set_cons_zero, List.set_cons_succ]
  refine takeL 4 (v := ?_) rfl (by kernel_rfl) (by kernel_rfl) (by kernel_rfl) (fun _ _ _ h => h) (by kernel_rfl) ?_ (by assumption) ?_
  rotate_left
  · intro w hSw; (try dsimp only at hSw); first | (go_simp; done) | (go_simp; with_reducible rfl)
  try simp only [Act.put, List.setIfInBounds_toArray, List.set_cons_zero, List.set_cons_succ]
  refine takeL 5 (v := ?_) rfl (by kernel_rfl) (by kernel_rfl) (by kernel_rfl) (fun _ _ _ h => h) (by kernel_rfl) ?_ (by assumption) ?_
  rotate_left
  · intro w hSw; (try dsimp only at hSw); first | (go_simp; done) | (go_simp; with_reducible rfl)
  try simp only [Act.put, List.setIfInBounds_toArray, List.set_cons_zero, List.set_cons_succ]
  refine takeL 6 (v := ?_) rfl (by kernel_rfl) (by kernel_rfl) (by kernel_rfl) (fun _ _ _ h => h) (by kernel_rfl) ?_ (by assumption) ?_
  rotate_left
  · intro w hSw; (try dsimp only at hSw); first | (go_simp; done) | (go_simp; with_reducible rfl)
  try simp only [Act.put, List.setIfInBounds_toArray, List.set_cons_zero, List.set_cons_succ]
  refine takeL 8 (v := ?_) rfl (by kernel_rfl) (by kernel_rfl) (by kernel_rfl) (fun _ _ _ h => h) (by kernel_rfl) ?_ (by assumption) ?_
  rotate_left
  · intro w hSw; (try dsimp only at hSw); first | (go_simp; done) | (go_simp; with_reducible rfl)
  try simp only [Act.put, List.setIfInBounds_toArray, List.set_cons_zero, List.set_cons_succ]
  refine takeL 9 (v := ?_) rfl (by kernel_rfl) (by kernel_rfl) (by kernel_rfl) (fun _ _ _ h => h) (by kernel_rfl) ?_ (by assumption) ?_
  rotate_left
  · intro w hSw; (try dsimp only at hSw); first | (go_simp; done) | (go_simp; with_reducible rfl)
  try simp only [Act.put, List.setIfInBounds_toArray, List.set_cons_zero, List.set_cons_succ]
  refine takeL 10 (v := ?_) rfl (by kernel_rfl) (by kernel_rfl) (by kernel_rfl) (fun _ _ _ h => h) (by kernel_rfl) ?_ (by assumption) ?_
  rotate_left
  · intro w hSw; (try dsimp only at hSw); first | (go_simp; done) | (go_simp; with_reducible rfl)
  try simp only [Act.put, List.setIfInBounds_toArray, List.set_cons_zero, List.set_cons_succ]
  refine takeL 11 (v := ?_) rfl (by kernel_rfl) (by kernel_rfl) (by kernel_rfl) (fun _ _ _ h => h) (by kernel_rfl) ?_ (by assumption) ?_
  rotate_left
  · intro w hSw; (try dsimp only at hSw); first | (go_simp; done) | (go_simp; with_reducible rfl)
  try simp only [Act.put, List.setIfInBounds_toArray, List.set_cons_zero, List.set_cons_succ]
  refine takeL 12 (v := ?_) rfl (by kernel_rfl) (by kernel_rfl) (by kernel_rfl) (fun _ _ _ h => h) (by kernel_rfl) ?_ (by assumption) ?_
  rotate_left
  · intro w hSw; (try dsimp only at hSw); first | (go_simp; done) | (go_simp; with_reducible rfl)
  try simp only [Act.put, List.setIfInBounds_toArray, List.set_cons_zero, List.set_cons_succ]
  refine takeL 13 (v := ?_) rfl (by kernel_rfl) (by kernel_rfl) (by kernel_rfl) (fun _ _ _ h => h) (by kernel_rfl) ?_ (by assumption) ?_
  rotate_left
  · intro w hSw; (try dsimp only at hSw); first | (go_simp; done) | (go_simp; with_reducible rfl)
  try simp only [Act.put, List.setIfInBounds_toArray, List.set_cons_zero, List.set_cons_succ]
  refine callL 7 rfl (by kernel_rfl) (fun K hK => ?_)
  go_simp
  refine (HPF.out _ (Below.refl _ _).drew).mono ?_
  rintro e w3 ⟨vp, vs, rfl, k1, k2, b3⟩
  obtain ⟨pa, pn, pc, rfl⟩ := pks_slice k1
  obtain ⟨sa, sn, sc, rfl⟩ := pks_slice k2
  have C3 : Hid (Below w2.heap.size w2 w3) := ((Below.refl w2.heap.size w2).drew).trans b3
  have K1 : Hid (Pks (g6 + 1) (.slice pa pn pc) PK w3) := k1.mono HS2.out
  have K2 : Hid (Pks (g6 + 1) (.slice sa sn sc) STP w3) := k2.mono HS2.out
  have S3 := HCL.out w3 C3.out
  clear b3 k1 k2
  go_wp2_with fail
  refine hK.out _ _ ?_ (fun hHeld => ?_)
  · first | (with_reducible exact S3) | (with_reducible exact S4) | exact HCS.out w4 _ (set9_other HGN.out.1 (.int .i64 (X : Int)) (.string h.prev) (.string h.root) (.int .i64 h.time) (.int .i64 h.diff) (.int .i64 h.nonce) (.slice pa pn pc) (.slice sa sn sc) (.slice da dn dc)) (set9_other HGN.out.2 (.int .i64 (X : Int)) (.string h.prev) (.string h.root) (.int .i64 h.time) (.int .i64 h.diff) (.int .i64 h.nonce) (.slice pa pn pc) (.slice sa sn sc) (.slice da dn dc)) S4
  clear hK K
  try simp only [Act.put, List.setIfInBounds_toArray, List.set_cons_zero, List.set_cons_succ]
  refine callL 14 rfl (by kernel_rfl) (fun K hK => ?_)
  go_simp
  refine (HRT.out _ C3.out).mono ?_
  rintro e w4 ⟨vd, rfl, k3, b4⟩
  obtain ⟨da, dn, dc, rfl⟩ := sds_slice k3
  have C4 : Hid (Below w2.heap.size w2 w4) := C3.out.trans (b4.mono C3.out.size)
  have K3 : Hid (Sds (g6 + 1) (.slice da dn dc) SD w4) := k3.mono (Nat.le_trans HS2.out C3.out.size)
  have T4 : Hid (CBk w4 g6 31 #[.int .i64 0, .string ⟨#[]⟩, .string ⟨#[]⟩, .int .i64 0, .int .i64 0, .int .i64 0, .slice none 0 0, .slice none 0 0, .slice none 0 0]) := HT2.out.call C4.out
  have K14 : Hid (Pks (g6 + 1) (.slice pa pn pc) PK w4) := K1.out.below b4
  have K24 : Hid (Pks (g6 + 1) (.slice sa sn sc) STP w4) := K2.out.below b4
  have S4 := HCL.out w4 C4.out
  obtain ⟨e0, e1, e2, e3, e4, e5, e6, e7, e8⟩ := T4.out.nineP
  obtain ⟨f0, f1, f2, f3, f4, f5, f6, f7, f8⟩ := T4.out.nineZ
  clear b4 k3
  go_wp2_with fail
  refine hK.out _ _ ?_ (fun hHeld => ?_)
  · first | (with_reducible exact S3) | (with_reducible exact S4) | exact HCS.out w4 _ (set9_other HGN.out.1 (.int .i64 (X : Int)) (.string h.prev) (.string h.root) (.int .i64 h.time) (.int .i64 h.diff) (.int .i64 h.nonce) (.slice pa pn pc) (.slice sa sn sc) (.slice da dn dc)) (set9_other HGN.out.2 (.int .i64 (X : Int)) (.string h.prev) (.string h.root) (.int .i64 h.time) (.int .i64 h.diff) (.int .i64 h.nonce) (.slice pa pn pc) (.slice sa sn sc) (.slice da dn dc)) S4
  clear hK K
  try simp only [Act.put, List.setIfInBounds_toArray, List.set_cons_zero, List.set_cons_succ]
  refine takeL 15 (v := ?_) rfl (by kernel_rfl) (by kernel_rfl) (by kernel_rfl) (fun _ _ _ h => h) (by kernel_rfl) ?_ (by assumption) ?_
  rotate_left
  · intro w hSw; (try dsimp only at hSw); first | (go_simp; done) | (go_simp; with_reducible rfl)
  try simp only [Act.put, List.setIfInBounds_toArray, List.set_cons_zero, List.set_cons_succ]
  refine callL 16 rfl (by kernel_rfl) (fun K hK => ?_)
  go_simp
  refine hK.out _ _ ?_ (fun hHeld => ?_)
  · first | (with_reducible exact S3) | (with_reducible exact S4) | exact HCS.out w4 _ (set9_other HGN.out.1 (.int .i64 (X : Int)) (.string h.prev) (.string h.root) (.int .i64 h.time) (.int .i64 h.diff) (.int .i64 h.nonce) (.slice pa pn pc) (.slice sa sn sc) (.slice da dn dc)) (set9_other HGN.out.2 (.int .i64 (X : Int)) (.string h.prev) (.string h.root) (.int .i64 h.time) (.int .i64 h.diff) (.int .i64 h.nonce) (.slice pa pn pc) (.slice sa sn sc) (.slice da dn dc)) S4
  clear hK K
  try simp only [Act.put, List.setIfInBounds_toArray, List.set_cons_zero, List.set_cons_succ]
  refine wpAnyH_done (by kernel_rfl) ?_ _
  refine NoPanic.normal ?_
  have HFIN : Hid (CBk (((((((((w4.setCell ⟨g6, 0, none⟩ (.int .i64 (X : Int))).setCell ⟨g6, 1, none⟩ (.string h.prev)).setCell ⟨g6, 2, none⟩ (.string h.root)).setCell ⟨g6, 3, none⟩ (.int .i64 h.time)).setCell ⟨g6, 4, none⟩ (.int .i64 h.diff)).setCell ⟨g6, 5, none⟩ (.int .i64 h.nonce)).setCell ⟨g6, 6, none⟩ (.slice pa pn pc)).setCell ⟨g6, 7, none⟩ (.slice sa sn sc)).setCell ⟨g6, 8, none⟩ (.slice da dn dc)) g6 31 #[.int .i64 (X : Int), .string h.prev, .string h.root, .int .i64 h.time, .int .i64 h.diff, .int .i64 h.nonce, .slice pa pn pc, .slice sa sn sc, .slice da dn dc]) := set9_blk T4.out (.int .i64 (X : Int)) (.string h.prev) (.string h.root) (.int .i64 h.time) (.int .i64 h.diff) (.int .i64 h.nonce) (.slice pa pn pc) (.slice sa sn sc) (.slice da dn dc)
  have HFQ : Hid (Q (.returned (.agg #[.int .i64 (X : Int), .string h.prev, .string h.root, .int .i64 h.time, .int .i64 h.diff, .int .i64 h.nonce, .slice pa pn pc, .slice sa sn sc, .slice da dn dc])) (((((((((w4.setCell ⟨g6, 0, none⟩ (.int .i64 (X : Int))).setCell ⟨g6, 1, none⟩ (.string h.prev)).setCell ⟨g6, 2, none⟩ (.string h.root)).setCell ⟨g6, 3, none⟩ (.int .i64 h.time)).setCell ⟨g6, 4, none⟩ (.int .i64 h.diff)).setCell ⟨g6, 5, none⟩ (.int .i64 h.nonce)).setCell ⟨g6, 6, none⟩ (.slice pa pn pc)).setCell ⟨g6, 7, none⟩ (.slice sa sn sc)).setCell ⟨g6, 8, none⟩ (.slice da dn dc))) := HQ.out w4 g6 _ _ _ (.int .i64 (X : Int)) (.string h.prev) (.string h.root) (.int .i64 h.time) (.int .i64 h.diff) (.int .i64 h.nonce) (.slice pa pn pc) (.slice sa sn sc) (.slice da dn dc) K14.out K24.out K3.out HG6.out (B2.out.trans (C4.out.mono B2.out.size))
  clear S2d
  go_wp2_with fail
  exact bodyPost_ret (results_cell_row (p := 6) rfl _ _ g6 31 #[.int .i64 (X : Int), .string h.prev, .string h.root, .int .i64 h.time, .int .i64 h.diff, .int .i64 h.nonce, .slice pa pn pc, .slice sa sn sc, .slice da dn dc] (0, 0) _ rfl HFIN.out Tryz.underlying31 rfl (by kernel_rfl)) rfl HFQ.out
end Go.Proofs.YtoifgpmbeicmnaaGreatDoor

set_option linter.unusedVariables false
namespace Go.Proofs.YtoifgpmbeicmnaaGreatDoor
open Go.RowKit Go.Deep

set_option maxHeartbeats 8000000 in
set_option maxRecDepth 100000 in
theorem specPaidOf (g n cap : Nat) (bs : List BlkV) (x y : Int) (w : World) (h : BlksS g n cap bs w) :
    Calls Tryz.prog 5 #[.slice (some ⟨g, 0, none⟩) n cap, .int .i64 x, .int .i64 y] w fun e w' => Pd9 w (paidOfL (ptsOf bs) x y) False e w' := by
  have L0 : Hid (Below w.heap.size w (w.alloc (.cells #[.int .i64 0, .string ⟨#[]⟩, .string ⟨#[]⟩, .int .i64 0, .int .i64 0, .int .i64 0, .slice none 0 0, .slice none 0 0, .slice none 0 0] 31))) := (Below.refl _ w).alloc (Nat.le_refl _) _
  have hok := specL4Blocks g n cap bs _ (h.below L0.out)
  have T0 : Hid (CBk (w.alloc (.cells #[.int .i64 0, .string ⟨#[]⟩, .string ⟨#[]⟩, .int .i64 0, .int .i64 0, .int .i64 0, .slice none 0 0, .slice none 0 0, .slice none 0 0] 31)) w.heap.size 31 #[.int .i64 0, .string ⟨#[]⟩, .string ⟨#[]⟩, .int .i64 0, .int .i64 0, .int .i64 0, .slice none 0 0, .slice none 0 0, .slice none 0 0]) := CBk.new w _ _
  have HN : Hid (n = bs.length ∧ n ≤ 1048576) := ⟨h.b.len, h.b.max⟩
  have HA : Hid (AtBlk w g bs) := h.b.at_
  have HIT : Hid (∀ k, k < bs.length → (bs.getD k default).n = (bs.getD k default).ss.length ∧ (bs.getD k default).n ≤ 1048576) := fun k hk => ⟨(h.b.items _ (blk_mem hk)).2, h.few _ (blk_mem hk)⟩
  have HC : Hid (okP (ptsOf bs) = true → ∀ X : Nat, x = (X : Int) → X < n → (inPd (ptsOf bs) x y ↔ (0 ≤ y ∧ y ≤ ((bs.getD X default).n : Int) - 1))) := fun h1 X h2 h3 => by
    have hX : X < bs.length := by have := h.b.len; omega
    have e1 : x.toNat = X := by omega
    have e2 := (h.b.items _ (blk_mem hX)).2
    unfold inPd
    rw [e1, pd_at hX, pd_len]
    show (okP (ptsOf bs) = true ∧ (0 ≤ x ∧ x < (bs.length : Int)) ∧ 0 ≤ y ∧ y < ((bs.getD X default).ss.length : Int)) ↔ _
    rw [← e2]
    constructor
    · intro h4
      omega
    · intro h4
      exact ⟨h1, by omega, by omega⟩
  have HCX : Hid (¬ (0 ≤ x ∧ x ≤ (n : Int) - 1) → ¬ inPd (ptsOf bs) x y) := fun h1 h2 => h1 (by have h3 := h2.2.1; rw [pd_len] at h3; have := h.b.len; omega)
  have HCO : Hid (okP (ptsOf bs) = false → ¬ inPd (ptsOf bs) x y) := fun h1 h2 => by have h3 := h2.1; rw [h1] at h3; cases h3
  have HL9 : Hid (∀ (w' : World), inPd (ptsOf bs) x y → Below w.heap.size w w' → Calls Tryz.prog 16 #[.slice (some ⟨g, 0, none⟩) n cap, .int .i64 x, .int .i64 y] w' fun e w'' => PdPost w'.heap.size (paidOfL (ptsOf bs) x y) w' e w'') := fun w' hin hb => by
    obtain ⟨X, rfl⟩ : ∃ X : Nat, x = (X : Int) := ⟨x.toNat, by have := hin.2.1.1; omega⟩
    obtain ⟨Y, rfl⟩ : ∃ Y : Nat, y = (Y : Int) := ⟨y.toNat, by have := hin.2.2.1; omega⟩
    exact (specL9Of g n cap bs X Y w' (h.below hb) hin).mono fun e w'' h => h.1
  unfold PdPost pdCells at HL9
  have HQ : Hid (∀ w', ¬ inPd (ptsOf bs) x y → Below w.heap.size w w' → Pd9 w (paidOfL (ptsOf bs) x y) False (.returned (.agg #[.int .i64 0, .string ⟨#[]⟩, .string ⟨#[]⟩, .int .i64 0, .int .i64 0, .int .i64 0, .slice none 0 0, .slice none 0 0, .slice none 0 0])) w') := fun w' h1 hb => by rw [paidOfL_no h1]; exact pd_zero hb
  have HQY : Hid (∀ (w5 : World) (g6 : Nat) (vp vs vd : Value) (x0 x1 x2 x3 x4 x5 x6 x7 x8 : Value), Pks (g6 + 1) vp (paidOfL (ptsOf bs) x y).pk w5 → Pks (g6 + 1) vs (paidOfL (ptsOf bs) x y).st w5 → Sds (g6 + 1) vd (paidOfL (ptsOf bs) x y).sd w5 → w.heap.size ≤ g6 → Below w.heap.size w w5 → Pd9 w (paidOfL (ptsOf bs) x y) False (.returned (.agg #[.int .i64 (paidOfL (ptsOf bs) x y).a, .string (paidOfL (ptsOf bs) x y).h.prev, .string (paidOfL (ptsOf bs) x y).h.root, .int .i64 (paidOfL (ptsOf bs) x y).h.time, .int .i64 (paidOfL (ptsOf bs) x y).h.diff, .int .i64 (paidOfL (ptsOf bs) x y).h.nonce, vp, vs, vd])) (((((((((w5.setCell ⟨g6, 0, none⟩ x0).setCell ⟨g6, 1, none⟩ x1).setCell ⟨g6, 2, none⟩ x2).setCell ⟨g6, 3, none⟩ x3).setCell ⟨g6, 4, none⟩ x4).setCell ⟨g6, 5, none⟩ x5).setCell ⟨g6, 6, none⟩ x6).setCell ⟨g6, 7, none⟩ x7).setCell ⟨g6, 8, none⟩ x8)) := fun w5 g6 vp vs vd x0 x1 x2 x3 x4 x5 x6 x7 x8 h1 h2 h3 h4 h5 => pd_fin h1 h2 h3 (Nat.lt_succ_self _) h4 h5 (fun hf => hf.elim) x0 x1 x2 x3 x4 x5 x6 x7 x8
  generalize Pd9 w (paidOfL (ptsOf bs) x y) False = Q at HQ HQY ⊢
  generalize paidOfL (ptsOf bs) x y = V at HQY HL9
  obtain ⟨g6, hg6⟩ : ∃ g6, g6 = w.heap.size := ⟨_, rfl⟩
  have HG6 : Hid (w.heap.size ≤ g6) := Nat.le_of_eq hg6.symm
  have hwn : IntKind.i64.wrap ((n : Int) - 1) = (n : Int) - 1 := by have := HN.out; rw [IntKind.wrap_i64]; omega
  clear h
  go_enter Tryz.func5, Tryz.ntmps5
  go_wp2_with fail
  rw [← hg6] at T0 ⊢
  clear hg6
  refine hok.mono ?_
  rintro e w1 ⟨rfl, b1⟩
  have B1 : Hid (Below w.heap.size w w1) := L0.out.trans (b1.mono L0.out.size)
  have T1 : Hid (CBk w1 g6 31 #[.int .i64 0, .string ⟨#[]⟩, .string ⟨#[]⟩, .int .i64 0, .int .i64 0, .int .i64 0, .slice none 0 0, .slice none 0 0, .slice none 0 0]) := T0.out.call b1
  have TE : Hid (CBk (((((((((w1.setCell ⟨g6, 0, none⟩ (.int .i64 0)).setCell ⟨g6, 1, none⟩ (.string ⟨#[]⟩)).setCell ⟨g6, 2, none⟩ (.string ⟨#[]⟩)).setCell ⟨g6, 3, none⟩ (.int .i64 0)).setCell ⟨g6, 4, none⟩ (.int .i64 0)).setCell ⟨g6, 5, none⟩ (.int .i64 0)).setCell ⟨g6, 6, none⟩ (.slice none 0 0)).setCell ⟨g6, 7, none⟩ (.slice none 0 0)).setCell ⟨g6, 8, none⟩ (.slice none 0 0)) g6 31 #[.int .i64 0, .string ⟨#[]⟩, .string ⟨#[]⟩, .int .i64 0, .int .i64 0, .int .i64 0, .slice none 0 0, .slice none 0 0, .slice none 0 0]) := set9_blk T1.out (.int .i64 0) (.string ⟨#[]⟩) (.string ⟨#[]⟩) (.int .i64 0) (.int .i64 0) (.int .i64 0) (.slice none 0 0) (.slice none 0 0) (.slice none 0 0)
  have HQ1 : Hid (¬ inPd (ptsOf bs) x y → Q (.returned (.agg #[.int .i64 0, .string ⟨#[]⟩, .string ⟨#[]⟩, .int .i64 0, .int .i64 0, .int .i64 0, .slice none 0 0, .slice none 0 0, .slice none 0 0])) (((((((((w1.setCell ⟨g6, 0, none⟩ (.int .i64 0)).setCell ⟨g6, 1, none⟩ (.string ⟨#[]⟩)).setCell ⟨g6, 2, none⟩ (.string ⟨#[]⟩)).setCell ⟨g6, 3, none⟩ (.int .i64 0)).setCell ⟨g6, 4, none⟩ (.int .i64 0)).setCell ⟨g6, 5, none⟩ (.int .i64 0)).setCell ⟨g6, 6, none⟩ (.slice none 0 0)).setCell ⟨g6, 7, none⟩ (.slice none 0 0)).setCell ⟨g6, 8, none⟩ (.slice none 0 0))) := fun h1 => HQ.out _ h1 (set9_below B1.out HG6.out (.int .i64 0) (.string ⟨#[]⟩) (.string ⟨#[]⟩) (.int .i64 0) (.int .i64 0) (.int .i64 0) (.slice none 0 0) (.slice none 0 0) (.slice none 0 0))
  obtain ⟨e0, e1, e2, e3, e4, e5, e6, e7, e8⟩ := T1.out.nineP
  obtain ⟨f0, f1, f2, f3, f4, f5, f6, f7, f8⟩ := T1.out.nineZ
  clear hok b1 T0 L0 HQ
  cases hokk : okP (ptsOf bs) with
  | false =>
    have HQF : Hid (Q (.returned (.agg #[.int .i64 0, .string ⟨#[]⟩, .string ⟨#[]⟩, .int .i64 0, .int .i64 0, .int .i64 0, .slice none 0 0, .slice none 0 0, .slice none 0 0])) (((((((((w1.setCell ⟨g6, 0, none⟩ (.int .i64 0)).setCell ⟨g6, 1, none⟩ (.string ⟨#[]⟩)).setCell ⟨g6, 2, none⟩ (.string ⟨#[]⟩)).setCell ⟨g6, 3, none⟩ (.int .i64 0)).setCell ⟨g6, 4, none⟩ (.int .i64 0)).setCell ⟨g6, 5, none⟩ (.int .i64 0)).setCell ⟨g6, 6, none⟩ (.slice none 0 0)).setCell ⟨g6, 7, none⟩ (.slice none 0 0)).setCell ⟨g6, 8, none⟩ (.slice none 0 0))) := HQ1.out (HCO.out hokk)
    clear HC HCX HCO HL9 HQY HQ1 hokk
    go_wp2_with fail
    exact bodyPost_ret (results_cell_row (p := 6) rfl _ _ g6 31 #[.int .i64 0, .string ⟨#[]⟩, .string ⟨#[]⟩, .int .i64 0, .int .i64 0, .int .i64 0, .slice none 0 0, .slice none 0 0, .slice none 0 0] (0, 0) _ rfl TE.out Tryz.underlying31 rfl (by kernel_rfl)) rfl HQF.out
  | true =>
    by_cases hx : 0 ≤ x ∧ x ≤ (n : Int) - 1
    · have hd : inB x 0 ((n : Int) - 1) = true := inB_yes hx
      obtain ⟨X, hX⟩ : ∃ X : Nat, x = (X : Int) := ⟨x.toNat, by omega⟩
      subst hX
      have hXn : X < n := by omega
      have hXl : X < bs.length := by rw [← HN.out.1]; exact hXn
      have hiff := HC.out hokk X rfl hXn
      have c5 := AtBlk.c5 (HA.out.below B1.out HA.out.1) X hXl
      have hbm := (HIT.out X hXl).2
      have lx1 : (X : Int) < (n : Int) := by omega
      have lx0 : (0 : Int) ≤ (X : Int) := by omega
      generalize bs.getD X default = bb at c5 hiff hbm
      have hwb : IntKind.i64.wrap ((bb.n : Int) - 1) = (bb.n : Int) - 1 := by rw [IntKind.wrap_i64]; omega
      by_cases hy : 0 ≤ y ∧ y ≤ (bb.n : Int) - 1
      · have hdy : inB y 0 ((bb.n : Int) - 1) = true := inB_yes hy
        have hl9 := HL9.out w1 (hiff.2 hy) B1.out
        clear HC HCX HCO HL9 HQ1 hokk hx hy hiff HIT hXl hbm TE
        go_wp2_with (first | (go_at_call 15; refine (specIn _ _ _ _).mono ?_; rintro e w5 ⟨rfl, rfl⟩; first | rw [hd] | rw [hdy]))
        refine Calls.mono hl9 ?_
        rintro e w4 ⟨vp, vs, vd, rfl, k1, k2, k3, b4⟩
        obtain ⟨pa, pn, pc, rfl⟩ := pks_slice k1
        obtain ⟨sa, sn, sc, rfl⟩ := pks_slice k2
        obtain ⟨da, dn, dc, rfl⟩ := sds_slice k3
        have T4 : Hid (CBk w4 g6 31 #[.int .i64 0, .string ⟨#[]⟩, .string ⟨#[]⟩, .int .i64 0, .int .i64 0, .int .i64 0, .slice none 0 0, .slice none 0 0, .slice none 0 0]) := T1.out.call b4
        have hle : g6 + 1 ≤ w1.heap.size := T1.out.lt
        have HFIN : Hid (CBk (((((((((w4.setCell ⟨g6, 0, none⟩ (.int .i64 V.a)).setCell ⟨g6, 1, none⟩ (.string V.h.prev)).setCell ⟨g6, 2, none⟩ (.string V.h.root)).setCell ⟨g6, 3, none⟩ (.int .i64 V.h.time)).setCell ⟨g6, 4, none⟩ (.int .i64 V.h.diff)).setCell ⟨g6, 5, none⟩ (.int .i64 V.h.nonce)).setCell ⟨g6, 6, none⟩ (.slice pa pn pc)).setCell ⟨g6, 7, none⟩ (.slice sa sn sc)).setCell ⟨g6, 8, none⟩ (.slice da dn dc)) g6 31 #[.int .i64 V.a, .string V.h.prev, .string V.h.root, .int .i64 V.h.time, .int .i64 V.h.diff, .int .i64 V.h.nonce, .slice pa pn pc, .slice sa sn sc, .slice da dn dc]) := set9_blk T4.out (.int .i64 V.a) (.string V.h.prev) (.string V.h.root) (.int .i64 V.h.time) (.int .i64 V.h.diff) (.int .i64 V.h.nonce) (.slice pa pn pc) (.slice sa sn sc) (.slice da dn dc)
        have HFQ : Hid (Q (.returned (.agg #[.int .i64 V.a, .string V.h.prev, .string V.h.root, .int .i64 V.h.time, .int .i64 V.h.diff, .int .i64 V.h.nonce, .slice pa pn pc, .slice sa sn sc, .slice da dn dc])) (((((((((w4.setCell ⟨g6, 0, none⟩ (.int .i64 V.a)).setCell ⟨g6, 1, none⟩ (.string V.h.prev)).setCell ⟨g6, 2, none⟩ (.string V.h.root)).setCell ⟨g6, 3, none⟩ (.int .i64 V.h.time)).setCell ⟨g6, 4, none⟩ (.int .i64 V.h.diff)).setCell ⟨g6, 5, none⟩ (.int .i64 V.h.nonce)).setCell ⟨g6, 6, none⟩ (.slice pa pn pc)).setCell ⟨g6, 7, none⟩ (.slice sa sn sc)).setCell ⟨g6, 8, none⟩ (.slice da dn dc))) := HQY.out w4 g6 _ _ _ (.int .i64 V.a) (.string V.h.prev) (.string V.h.root) (.int .i64 V.h.time) (.int .i64 V.h.diff) (.int .i64 V.h.nonce) (.slice pa pn pc) (.slice sa sn sc) (.slice da dn dc) (k1.mono hle) (k2.mono hle) (k3.mono hle) HG6.out (B1.out.trans (b4.mono B1.out.size))
        clear e0 e1 e2 e3 e4 e5 e6 e7 e8 f0 f1 f2 f3 f4 f5 f6 f7 f8
        obtain ⟨e0, e1, e2, e3, e4, e5, e6, e7, e8⟩ := T4.out.nineP
        obtain ⟨f0, f1, f2, f3, f4, f5, f6, f7, f8⟩ := T4.out.nineZ
        clear hl9 k1 k2 k3 b4 hle c5
        go_wp2_with fail
        exact bodyPost_ret (results_cell_row (p := 6) rfl _ _ g6 31 #[.int .i64 V.a, .string V.h.prev, .string V.h.root, .int .i64 V.h.time, .int .i64 V.h.diff, .int .i64 V.h.nonce, .slice pa pn pc, .slice sa sn sc, .slice da dn dc] (0, 0) _ rfl HFIN.out Tryz.underlying31 rfl (by kernel_rfl)) rfl HFQ.out
      · have hdy : inB y 0 ((bb.n : Int) - 1) = false := inB_no hy
        have HQF : Hid (Q (.returned (.agg #[.int .i64 0, .string ⟨#[]⟩, .string ⟨#[]⟩, .int .i64 0, .int .i64 0, .int .i64 0, .slice none 0 0, .slice none 0 0, .slice none 0 0])) (((((((((w1.setCell ⟨g6, 0, none⟩ (.int .i64 0)).setCell ⟨g6, 1, none⟩ (.string ⟨#[]⟩)).setCell ⟨g6, 2, none⟩ (.string ⟨#[]⟩)).setCell ⟨g6, 3, none⟩ (.int .i64 0)).setCell ⟨g6, 4, none⟩ (.int .i64 0)).setCell ⟨g6, 5, none⟩ (.int .i64 0)).setCell ⟨g6, 6, none⟩ (.slice none 0 0)).setCell ⟨g6, 7, none⟩ (.slice none 0 0)).setCell ⟨g6, 8, none⟩ (.slice none 0 0))) := HQ1.out (fun h => hy (hiff.1 h))
        clear HC HCX HCO HL9 HQY HQ1 hokk hx hy hiff HIT hXl hbm
        go_wp2_with (first | (go_at_call 15; refine (specIn _ _ _ _).mono ?_; rintro e w5 ⟨rfl, rfl⟩; first | rw [hd] | rw [hdy]))
        exact bodyPost_ret (results_cell_row (p := 6) rfl _ _ g6 31 #[.int .i64 0, .string ⟨#[]⟩, .string ⟨#[]⟩, .int .i64 0, .int .i64 0, .int .i64 0, .slice none 0 0, .slice none 0 0, .slice none 0 0] (0, 0) _ rfl TE.out Tryz.underlying31 rfl (by kernel_rfl)) rfl HQF.out
    · have hd : inB x 0 ((n : Int) - 1) = false := inB_no hx
      have HQF : Hid (Q (.returned (.agg #[.int .i64 0, .string ⟨#[]⟩, .string ⟨#[]⟩, .int .i64 0, .int .i64 0, .int .i64 0, .slice none 0 0, .slice none 0 0, .slice none 0 0])) (((((((((w1.setCell ⟨g6, 0, none⟩ (.int .i64 0)).setCell ⟨g6, 1, none⟩ (.string ⟨#[]⟩)).setCell ⟨g6, 2, none⟩ (.string ⟨#[]⟩)).setCell ⟨g6, 3, none⟩ (.int .i64 0)).setCell ⟨g6, 4, none⟩ (.int .i64 0)).setCell ⟨g6, 5, none⟩ (.int .i64 0)).setCell ⟨g6, 6, none⟩ (.slice none 0 0)).setCell ⟨g6, 7, none⟩ (.slice none 0 0)).setCell ⟨g6, 8, none⟩ (.slice none 0 0))) := HQ1.out (HCX.out hx)
      clear HC HCX HCO HL9 HQY HQ1 hokk hx
      go_wp2_with (first | (go_at_call 15; refine (specIn _ _ _ _).mono ?_; rintro e w5 ⟨rfl, rfl⟩; rw [hd]))
      exact bodyPost_ret (results_cell_row (p := 6) rfl _ _ g6 31 #[.int .i64 0, .string ⟨#[]⟩, .string ⟨#[]⟩, .int .i64 0, .int .i64 0, .int .i64 0, .slice none 0 0, .slice none 0 0, .slice none 0 0] (0, 0) _ rfl TE.out Tryz.underlying31 rfl (by kernel_rfl)) rfl HQF.out
end Go.Proofs.YtoifgpmbeicmnaaGreatDoor

set_option linter.unusedVariables false
namespace Go.Proofs.YtoifgpmbeicmnaaGreatDoor
open Go.ChangeShapes Go.WideShapes Go.ChangeAt Go.RowKit Go.Deep

structure HitV where
  pos : Int
  text : ByteArray
instance : Inhabited HitV := ⟨⟨0, ⟨#[]⟩⟩⟩
def enHit (p : HitV) : List Value := [.int .i64 p.pos, .string p.text]
theorem enHit_len (p : HitV) : (enHit p).length = 2 := rfl
/-- Its texts can be held. -/
def wfHit (p : HitV) : Prop := p.text.size ≤ maxLen
/-- Its texts are small. -/
def smallHit (p : HitV) : Prop := p.text.size ≤ 1048576
abbrev IsHits (w : World) (a : Option Addr) (len cap : Nat) (l : List HitV) : Prop := IsFlat enHit wfHit 2 w a len cap l
abbrev AtHit (w : World) (g : Nat) (l : List HitV) : Prop := AtF enHit 2 w g l
theorem AtHit.c0 {w : World} {g : Nat} {l : List HitV} (h : AtHit w g l) (i : Nat) (hi : i < l.length) : w.cell? ⟨g, i * 2, none⟩ = some (.int .i64 (l.getD i default).pos) := h.2 i 0 hi (by decide)
theorem AtHit.c1 {w : World} {g : Nat} {l : List HitV} (h : AtHit w g l) (i : Nat) (hi : i < l.length) : w.cell? ⟨g, i * 2 + 1, none⟩ = some (.string (l.getD i default).text) := h.2 i 1 hi (by decide)
theorem cellsHit {w : World} {x : Addr} {p : HitV} (h : ∀ j, j < 2 → w.cell? (x.add j) = (enHit p)[j]?) : w.cell? x = some (.int .i64 p.pos) ∧ w.cell? ⟨x.block, x.off + 1, none⟩ = some (.string p.text) := by
  exact ⟨h 0 (by decide), h 1 (by decide)⟩
theorem partsHit {cs : List Value} {a0 a1 : Value} (hl : cs.length = 2) (h0 : (cs.drop 0).take 1 = [a0]) (h1 : (cs.drop 1).take 1 = [a1]) : cs = [a0, a1] := by
  match cs, hl with
  | [x0, x1], _ =>
    simp at h0 h1
    subst h0 h1
    rfl
theorem oneHit_i : Tryz.prog.cellsOf 3 = 1 := by kernel_rfl
theorem oneHit_s : Tryz.prog.cellsOf 9 = 1 := by kernel_rfl
theorem alloc3_midHit (w : World) (o1 o2 o3 : Obj) : (((w.alloc o1).alloc o2).alloc o3).heap[w.heap.size + 1]? = some o2 := by
  have e : w.heap.size + 1 = (w.alloc o1).heap.size := by simp
  rw [e, Below.heap_alloc _ _ _ (by simp)]
  exact heap_alloc_new _ _
def zeroHit : HitV := ⟨0, ⟨#[]⟩⟩
end Go.Proofs.YtoifgpmbeicmnaaGreatDoor

set_option linter.unusedVariables false
namespace Go.Proofs.YtoifgpmbeicmnaaGreatDoor
open Go.RowKit Go.Deep Go.Joins

/-- The places of an item among the first items of a block. -/
def bhT (a : Int) (it : ByteArray) (ss : List ByteArray) : Nat → List HitV
  | 0 => []
  | j + 1 => bhT a it ss j ++ (if ss.getD j ByteArray.empty = it then [⟨a, it⟩] else [])
theorem bhT_yes {a : Int} {it : ByteArray} {ss : List ByteArray} {j : Nat} (h : ss.getD j ByteArray.empty = it) : bhT a it ss (j + 1) = bhT a it ss j ++ [⟨a, it⟩] := by rw [bhT, if_pos h]
theorem bhT_no {a : Int} {it : ByteArray} {ss : List ByteArray} {j : Nat} (h : ¬ ss.getD j ByteArray.empty = it) : bhT a it ss (j + 1) = bhT a it ss j := by rw [bhT, if_neg h, List.append_nil]
theorem bhT_len (a : Int) (it : ByteArray) (ss : List ByteArray) : ∀ j, (bhT a it ss j).length ≤ j
  | 0 => Nat.le_refl _
  | j + 1 => by
    have := bhT_len a it ss j
    rw [bhT, List.length_append]
    split <;> simp <;> omega
/-- The places of an item in the first blocks. -/
def fdT (it : ByteArray) (ps : List (HeadV × List ByteArray)) : Nat → List HitV
  | 0 => []
  | k + 1 => fdT it ps k ++ bhT (k : Int) it (ps.getD k default).2 (ps.getD k default).2.length
theorem fdT_len {it : ByteArray} {ps : List (HeadV × List ByteArray)} (h : ∀ p ∈ ps, p.2.length ≤ 1048576) : ∀ k, k ≤ ps.length → (fdT it ps k).length ≤ 1048576 * k
  | 0, _ => Nat.le_refl _
  | k + 1, hk => by
    have h1 := fdT_len (it := it) h k (by omega)
    have h2 := bhT_len (k : Int) it (ps.getD k default).2 (ps.getD k default).2.length
    have h3 : (ps.getD k default).2.length ≤ 1048576 := by
      rw [List.getD_eq_getElem?_getD, List.getElem?_eq_getElem (by omega)]
      exact h _ (List.getElem_mem _)
    rw [fdT, List.length_append]
    omega

theorem hEnc_one (p : HitV) : ∀ u ∈ enHit p, u.oneCell' = true := by
  intro u hu
  simp only [enHit, List.mem_cons, List.not_mem_nil, or_false] at hu
  rcases hu with rfl | rfl <;> rfl
theorem hEncs_one (l : List HitV) : ∀ u ∈ l.flatMap enHit, u.oneCell' = true := by
  intro u hu
  obtain ⟨p, _, hp⟩ := List.mem_flatMap.1 hu
  exact hEnc_one p u hp
theorem cellSetOtherH {w : World} {g i j : Nat} {v : Value} (h : i ≠ j) : (w.setCell ⟨g, i, none⟩ v).cell? ⟨g, j, none⟩ = w.cell? ⟨g, j, none⟩ := by
  simp [World.setCell, World.cell?, Array.getElem?_modify]
  cases hh : w.heap[g]? with
  | none => simp
  | some o => cases o <;> simp [h]
/-- A list that holds its marks, so far. -/
def MkH (w : World) (g k n : Nat) : Prop := ∀ i, i < n → w.cell? ⟨g, i * 2, none⟩ = some (.int .i64 ((k + 2 * i : Nat) : Int)) ∧ w.cell? ⟨g, i * 2 + 1, none⟩ = some (.string (mkS (k + 2 * i + 1)))
theorem MkH.below {w w' : World} {g k n B : Nat} (h : MkH w g k n) (hb : Below B w w') (hg : g < B) : MkH w' g k n := fun i hi =>
  ⟨(hb.cell (p := ⟨g, i * 2, none⟩) hg).trans (h i hi).1, (hb.cell (p := ⟨g, i * 2 + 1, none⟩) hg).trans (h i hi).2⟩
theorem MkH.one {w : World} {g k j : Nat} (h : MkH w g k j) (v : Value) : MkH (w.setCell ⟨g, j * 2, none⟩ v) g k j := by
  intro i hi
  obtain ⟨h1, h2⟩ := h i hi
  exact ⟨by rw [cellSetOtherH (by omega)]; exact h1, by rw [cellSetOtherH (by omega)]; exact h2⟩
theorem setOffH {w wr : World} {g j : Nat} {v : Value} (h : ∀ c, c < w.heap.size → c ≠ g → wr.heap[c]? = w.heap[c]?) : ∀ c, c < w.heap.size → c ≠ g → (wr.setCell ⟨g, j, none⟩ v).heap[c]? = w.heap[c]? := fun c hc hne => by
  rw [← h c hc hne]
  simp [World.setCell, Array.getElem?_modify, Ne.symm hne]
/-- A list of places that holds its marks. -/
def HeldH (v : Value) (n : Nat) (w : World) : Prop := (v = .slice none 0 0 ∧ n = 0) ∨ ∃ g cap, v = .slice (some ⟨g, 0, none⟩) n cap ∧ g < w.heap.size ∧ MkH w g 1 n
theorem HeldH.below {v : Value} {n : Nat} {w w' : World} (h : HeldH v n w) (hb : Below w.heap.size w w') : HeldH v n w' := by
  rcases h with h | ⟨g, cap, h1, h2, h3⟩
  · exact .inl h
  · exact .inr ⟨g, cap, h1, Nat.lt_of_lt_of_le h2 hb.size, h3.below hb h2⟩
end Go.Proofs.YtoifgpmbeicmnaaGreatDoor

set_option linter.unusedVariables false
namespace Go.Proofs.YtoifgpmbeicmnaaGreatDoor
open Go.RowKit Go.Deep

theorem sameT (a b : ByteArray) : (a.toList == b.toList) = decide (a = b) := by
  rw [Bool.eq_iff_iff, beq_iff_eq, decide_eq_true_eq, ByteArray.toList_eq, ByteArray.toList_eq]
  constructor
  · intro h
    exact ByteArray.ext (by simpa using h)
  · intro h
    rw [h]
end Go.Proofs.YtoifgpmbeicmnaaGreatDoor

set_option linter.unusedVariables false
namespace Go.Proofs.YtoifgpmbeicmnaaGreatDoor
open Go.RowKit Go.Deep

theorem drewAllocH (w : World) (o : Obj) : (w.alloc o).drew = w.drew.alloc o := rfl
end Go.Proofs.YtoifgpmbeicmnaaGreatDoor

set_option linter.unusedVariables false
namespace Go.Proofs.YtoifgpmbeicmnaaGreatDoor
open Go.ChangeShapes Go.WideShapes Go.ChangeAt Go.RowKit Go.Deep

structure LBlk where
  h : HeadV
  a : Option Addr
  n : Nat
  cap : Nat
  zs : List ByteArray
instance : Inhabited LBlk := ⟨⟨default, none, 0, 0, []⟩⟩
def enL (b : LBlk) : List Value := [.string b.h.prev, .string b.h.root, .int .i64 b.h.time, .int .i64 b.h.diff, .int .i64 b.h.nonce, .slice b.a b.n b.cap]
theorem enL_len (b : LBlk) : (enL b).length = 6 := rfl
def wfL (W : World) (b : LBlk) : Prop := wfHead b.h ∧ IsTexts W b.a b.n b.cap b.zs
abbrev IsBlks (w : World) (a : Option Addr) (len cap : Nat) (l : List LBlk) : Prop := IsFlat enL (wfL w) 6 w a len cap l
theorem texts_below {w w' : World} {a : Option Addr} {len cap : Nat} {zs : List ByteArray} (h : IsTexts w a len cap zs) (hb : Below w.heap.size w w') : IsTexts w' a len cap zs := by
  rcases h with h1 | ⟨x, hx, h1, h2, h3, h4, h5⟩
  · exact .inl h1
  · refine .inr ⟨x, hx, h1, h2, h3, fun i hi => ?_, h5⟩
    have := h4 i hi
    rw [← this]
    exact hb.cell (cell_lt this)
theorem partsL {cs : List Value} {h : HeadV} {b : Value} (hl : cs.length = 6) (h0 : (cs.drop 0).take 5 = enHead h) (h1 : (cs.drop 5).take 1 = [b]) : cs = enHead h ++ [b] := by
  have e : cs = (cs.drop 0).take 5 ++ (cs.drop 5).take 1 := by
    match cs, hl with
    | [x0, x1, x2, x3, x4, x5], _ => rfl
  rw [e, h0, h1]
set_option maxRecDepth 100000 in
theorem invL {H : Type} {enc : TypeId × Value → H} {W : World} {base : Nat} {held : Bool} (n : Nat) (cs : List Value) (y : DataW H × List MemPlace) (h : DataW.trod enc Tryz.prog W base (fun _ => true) held n 44 cs = some y) (hl : cs.length = 6) : ∃ v : LBlk, cs = enL v ∧ wfL W v := by
  obtain ⟨xs, n, _, _, _, hlen, hx⟩ := DataW.trod_struct Tryz.underlying44 h
  match xs, hlen with
  | [y0, y1], _ =>
    have g0 := hx 0 _ rfl
    have g1 := hx 1 _ rfl
    replace g0 : DataW.trod enc Tryz.prog W base (fun _ => true) held n 41 ((cs.drop 0).take (Tryz.prog.cellsOf 41)) = some y0 := g0
    replace g1 : DataW.trod enc Tryz.prog W base (fun _ => true) held n 42 ((cs.drop 5).take (Tryz.prog.cellsOf 42)) = some y1 := g1
    rw [sizeHead] at g0
    rw [cellsStrs] at g1
    obtain ⟨x, hx0, hxw⟩ := invHead _ _ _ g0 (by rw [List.length_take, List.length_drop, hl]; decide)
    rcases open_strings Tryz.underlying42 Tryz.underlying9 (by kernel_rfl) g1 with ⟨hcs1, _⟩ | ⟨a, l, c, zs, hcs1, _, hl1, hm, hz, _, hcell, hwz⟩
    · exact ⟨⟨x, none, 0, 0, []⟩, partsL hl hx0 hcs1, hxw, .inl ⟨rfl, rfl, rfl, rfl⟩⟩
    · exact ⟨⟨x, some a, l, c, zs⟩, partsL hl hx0 hcs1, hxw, .inr ⟨a, rfl, hl1, hm, by simpa using hz, hcell, hwz⟩⟩
theorem open_blocks {H : Type} {enc : TypeId × Value → H} {W : World} {base : Nat} {held : Bool} {a : Option Addr} {len cap : Nat} {d : DataW H} {p : List MemPlace} (h : DataW.Trod enc Tryz.prog W base (fun _ => true) held 22 (.slice a len cap) d p) : ∃ l : List LBlk, IsBlks W a len cap l :=
  open_flat enL (wfL W) Tryz.underlying22 cellsLBlock (fun n cs y h1 h2 => invL n cs y h1 h2) h
theorem cellsL {w : World} {x : Addr} {b : LBlk} (h : ∀ j, j < 6 → w.cell? (x.add j) = (enL b)[j]?) : w.cell? x = some (.string b.h.prev) ∧ w.cell? ⟨x.block, x.off + 1, none⟩ = some (.string b.h.root) ∧ w.cell? ⟨x.block, x.off + 2, none⟩ = some (.int .i64 b.h.time) ∧ w.cell? ⟨x.block, x.off + 3, none⟩ = some (.int .i64 b.h.diff) ∧ w.cell? ⟨x.block, x.off + 4, none⟩ = some (.int .i64 b.h.nonce) ∧ w.cell? ⟨x.block, x.off + 5, none⟩ = some (.slice b.a b.n b.cap) := by
  exact ⟨h 0 (by decide), h 1 (by decide), h 2 (by decide), h 3 (by decide), h 4 (by decide), h 5 (by decide)⟩

def SzQ (zs : List ByteArray) (len : Nat) (e : Ending) : Prop := e = .returned (.int .i64 (-1)) ∨ ∃ r : Nat, e = .returned (.int .i64 (r : Int)) ∧ r ≤ 1048576 ∧ len ≤ 1048576 ∧ ∀ i, i < len → (zs.getD i ByteArray.empty).size ≤ 1048576
set_option maxHeartbeats 1000000 in
set_option maxRecDepth 100000 in
theorem szStrsQ (r0 : Nat) (hr0 : r0 ≤ 1048576) (a : Option Addr) (len cap : Nat) (zs : List ByteArray) (w : World) (h0 : IsTexts w a len cap zs) :
    Calls Tryz.prog 34 #[.slice a len cap, .int .i64 (r0 : Int)] w fun e w' => w = w' ∧ SzQ zs len e := by
  by_cases hl : (r0 : Int) < (len : Int)
  · have hneg : (r0 : Int) - (len : Int) < 0 := by omega
    have hlm : len ≤ 140737488355328 ∨ True := .inr trivial
    have hcap : len ≤ maxLen := by
      rcases h0 with ⟨_, hl0, _⟩ | ⟨x, _, hlc, hm, _⟩
      · omega
      · omega
    unfold maxLen at hcap
    have hwr : IntKind.i64.wrap ((r0 : Int) - (len : Int)) = (r0 : Int) - (len : Int) := by rw [IntKind.wrap_i64]; omega
    clear h0 hlm
    go_enter Tryz.func34, Tryz.ntmps34
    go_wp2
    go_ret
    exact ⟨rfl, .inl rfl⟩
  · have hn : len ≤ 1048576 := by omega
    have HF : Hid (∀ k, k < len → ∃ x : Addr, a = some x ∧ w.cell? (x.add k) = some (.string (zs.getD k ByteArray.empty)) ∧ (zs.getD k ByteArray.empty).size ≤ maxLen) := by
      intro k hk
      rcases h0 with ⟨_, hl, _⟩ | ⟨x, hx, hlc, _, hzl, hcell, hsz⟩
      · omega
      · refine ⟨x, hx, hcell k (by omega), hsz _ ?_⟩
        have : k < zs.length := by omega
        simp [List.getElem?_eq_getElem this]
    have hwr : IntKind.i64.wrap ((r0 : Int) - (len : Int)) = (r0 : Int) - (len : Int) := by rw [IntKind.wrap_i64]; omega
    have hneg : ¬ (r0 : Int) - (len : Int) < 0 := by omega
    clear h0
    go_enter Tryz.func34, Tryz.ntmps34
    go_wp2
    go_loop [1, 5] (fun l i => ∃ k r : Nat, k ≤ len ∧ r ≤ 1048576 ∧ l = .int .i64 (r : Int) ∧ i = .int .i64 (k : Int) ∧ Hid (∀ j, j < k → (zs.getD j ByteArray.empty).size ≤ 1048576)) (fun _ i => len - (intOf i).toNat)
    case atStart => exact ⟨0, r0 - len, by omega, by omega, by show Value.int .i64 _ = Value.int .i64 _; congr 1; omega, rfl, fun j hj => by omega⟩
    case round =>
      obtain ⟨k, r, hk, hr, rfl, rfl, HA⟩ := hrel
      by_cases hlt : k < len
      · obtain ⟨x, rfl, hc, hz⟩ := HF.out k hlt
        have HK : Hid (k + 1 ≤ len) := hlt
        have HZ : Hid (∀ z : ByteArray, z = zs.getD k ByteArray.empty → z.size ≤ 1048576 → ∀ j, j < k + 1 → (zs.getD j ByteArray.empty).size ≤ 1048576) := by
          intro z hz1 hz2 j hj
          rcases Nat.lt_or_ge j k with h' | h'
          · exact HA.out j h'
          · obtain rfl : j = k := by omega
            rw [← hz1]; exact hz2
        obtain ⟨z, hze⟩ : ∃ z, z = zs.getD k ByteArray.empty := ⟨_, rfl⟩
        rw [← hze] at hc hz
        have HE : Hid (z = zs.getD k ByteArray.empty) := hze
        unfold maxLen at hz
        clear hze
        have lk : (k : Int) < (len : Int) := by omega
        by_cases hneg2 : (r : Int) - (z.size : Int) < 0
        · go_wp2_with fail
          go_ret
          exact ⟨rfl, .inl rfl⟩
        · have HS : Hid (z.size ≤ r) := by show _ ≤ _; omega
          go_wp2_with fail
          go_round
          case rel => exact ⟨k + 1, r - z.size, HK.out, by omega, by have := HS.out; show Value.int .i64 _ = Value.int .i64 _; congr 1; omega, by go_num, HZ.out z HE.out (by have := HS.out; omega)⟩
          case measure => have := HK.out; simp [intOf]; omega
      · go_wp2_with fail
        go_ret
        exact ⟨rfl, .inr ⟨r, rfl, hr, hn, by exact fun i hi => HA.out i (by omega)⟩⟩

theorem infoBlkL : (Tryz.prog.info? 48).map (fun i => (i.zero, i.size, i.bytes)) = some (some (.agg #[.string ⟨#[]⟩, .string ⟨#[]⟩, .int .i64 0, .int .i64 0, .int .i64 0, .slice none 0 0]), 6, 80) := by kernel_rfl
/-- What the measure of a block tells. -/
def smallL (b : LBlk) : Prop := smallHead b.h ∧ b.n ≤ 1048576 ∧ ∀ i, i < b.n → (b.zs.getD i ByteArray.empty).size ≤ 1048576
set_option maxHeartbeats 1000000 in
set_option maxRecDepth 100000 in
theorem szBlkR (r0 : Nat) (hr0 : r0 ≤ 1048576) (h : HeadV) (a : Option Addr) (len cap : Nat) (zs : List ByteArray) (w : World) (hw : wfHead h) (h0 : IsTexts w a len cap zs) :
    Calls Tryz.prog 13 #[blockVal h (.slice a len cap), .int .i64 (r0 : Int)] w fun e w' => Below w.heap.size w w' ∧ (e = .returned (.int .i64 (-1)) ∨ ∃ q : Nat, e = .returned (.int .i64 (q : Int)) ∧ q ≤ 1048576 ∧ smallL ⟨h, a, len, cap, zs⟩) := by
  unfold blockVal
  have hsz := fun w' => szHead1 h r0 w' hr0 hw
  have B0 : Hid (CBk _ w.heap.size 44 #[.string h.prev, .string h.root, .int .i64 h.time, .int .i64 h.diff, .int .i64 h.nonce, .slice a len cap]) := CBk.new w 44 #[.string h.prev, .string h.root, .int .i64 h.time, .int .i64 h.diff, .int .i64 h.nonce, .slice a len cap]
  have L0 : Hid (Below w.heap.size w (w.alloc (.cells #[.string h.prev, .string h.root, .int .i64 h.time, .int .i64 h.diff, .int .i64 h.nonce, .slice a len cap] 44))) := (Below.refl _ w).alloc (Nat.le_refl _) _
  have HIT : Hid (∀ w', Below w.heap.size w w' → IsTexts w' a len cap zs) := fun w' hb => texts_below h0 hb
  clear hw h0
  go_enter Tryz.func13, Tryz.ntmps13
  go_wp2_with fail
  refine (hsz _).mono ?_
  rintro e w1 ⟨b1, rfl | ⟨q, rfl, hq, hsm⟩⟩
  · go_wp2_with fail
    go_ret
    exact ⟨L0.out.trans (b1.mono L0.out.size), .inl rfl⟩
  have L1 : Hid (Below w.heap.size w w1) := L0.out.trans (b1.mono L0.out.size)
  have B1 := (B0.out.call b1).six
  obtain ⟨c0, c1, c2, c3, c4, c5, _⟩ := B1
  have HSM : Hid (smallHead h) := hsm
  have hq0 : ¬ (q : Int) < 0 := by omega
  clear hsm B0 L0 b1 hsz
  go_wp2_with fail
  refine (szStrsQ q (by omega) a len cap zs _ (HIT.out _ L1.out)).mono ?_
  rintro e w2 ⟨rfl, hok⟩
  rcases hok with rfl | ⟨r, rfl, hr, h1, h2⟩
  · go_wp2_with fail
    go_ret
    exact ⟨L1.out, .inl rfl⟩
  · have HSZ : Hid (smallL ⟨h, a, len, cap, zs⟩) := ⟨HSM.out, h1, h2⟩
    have hr0 : ¬ (r : Int) < 0 := by omega
    clear h2
    go_wp2_with fail
    go_ret
    exact ⟨L1.out, .inr ⟨r, rfl, by omega, HSZ.out⟩⟩

set_option maxHeartbeats 1000000 in
set_option maxRecDepth 100000 in
theorem szBlks (r0 : Nat) (hr0 : r0 ≤ 1048576) (a : Option Addr) (len cap : Nat) (ls : List LBlk) (w : World) (h : IsBlks w a len cap ls) :
    Calls Tryz.prog 4 #[.slice a len cap, .int .i64 (r0 : Int)] w fun e w' => Below w.heap.size w w' ∧ (e = .returned (.int .i64 (-1)) ∨ ∃ r : Nat, e = .returned (.int .i64 (r : Int)) ∧ r ≤ 1048576 ∧ len ≤ 1048576 ∧ ∀ i, i < len → smallL (ls.getD i default)) := by
  have HP : Hid (IsBlks w a len cap ls) := h
  have hlm : len ≤ maxLen := h.max
  unfold maxLen at hlm
  have hw : IntKind.i64.wrap ((r0 : Int) - (len : Int)) = (r0 : Int) - (len : Int) := by rw [IntKind.wrap_i64]; omega
  clear h
  by_cases hl : r0 < len
  · have hl' : (r0 : Int) - (len : Int) < 0 := by omega
    go_enter Tryz.func4, Tryz.ntmps4
    go_wp2_with fail
    go_ret
    exact ⟨Below.refl _ _, .inl rfl⟩
  · have hl' : ¬ (r0 : Int) - (len : Int) < 0 := by omega
    go_enter Tryz.func4, Tryz.ntmps4
    go_wp2_with fail
    clear hw hl'
    go_loopw [1, 5] (fun l i wr => ∃ (r k : Nat), k ≤ len ∧ r ≤ 1048576 ∧ i = .int .i64 (k : Int) ∧ l = .int .i64 (r : Int) ∧ Hid (Below w.heap.size w wr) ∧ Hid (∀ i, i < k → smallL (ls.getD i default))) (fun _ i _ => len - (intOf i).toNat)
    case atStart => exact ⟨r0 - len, 0, by omega, by omega, rfl, by show Value.int .i64 _ = Value.int .i64 _; congr 1; omega, Below.refl _ _, fun i hi => by omega⟩
    case round =>
      obtain ⟨r, k, hk, hr, rfl, rfl, HB, HS⟩ := hrel
      by_cases hlt : k < len
      · obtain ⟨x, rfl, hp, hwf⟩ := HP.out.at enL_len HB.out k hlt
        obtain ⟨c0, c1, c2, c3, c4, c5⟩ := cellsL hp
        have lk : (k : Int) < (len : Int) := by omega
        have HK : Hid (k + 1 ≤ len) := hlt
        have HN : Hid (smallL (ls.getD k default) → ∀ i, i < k + 1 → smallL (ls.getD i default)) := by
          intro h1 i hi
          rcases Nat.lt_or_ge i k with h' | h'
          · exact HS.out i h'
          · obtain rfl : i = k := by omega
            exact h1
        clear hp
        generalize ls.getD k default = b at c0 c1 c2 c3 c4 c5 hwf HN
        obtain ⟨p, ba, bn, bc, bz⟩ := b
        have hsb := szBlkR r hr p ba bn bc bz wr hwf.1 (texts_below hwf.2 HB.out)
        unfold blockVal at hsb
        dsimp only at c0 c1 c2 c3 c4 c5
        clear hwf
        go_wp2_with fail
        refine hsb.mono ?_
        rintro e w1 ⟨b1, rfl | ⟨q, rfl, hq, hps⟩⟩
        · go_wp2_with fail
          go_ret
          exact ⟨HB.out.trans (b1.mono HB.out.size), .inl rfl⟩
        · have HQ2 : Hid (∀ i, i < k + 1 → smallL (ls.getD i default)) := HN.out hps
          clear HN hps hsb
          have hq0 : ¬ (q : Int) < 0 := by omega
          go_wp2_with fail
          go_roundw
          case rel => exact ⟨q, k + 1, HK.out, by omega, by go_num, rfl, HB.out.trans (b1.mono HB.out.size), HQ2⟩
          case measure => have := HK.out; simp [intOf]; omega
      · go_wp2_with fail
        go_ret
        exact ⟨HB.out, .inr ⟨r, rfl, by omega, by omega, fun i hi => HS.out i (by omega)⟩⟩

def zeroL : LBlk := ⟨zeroHead, none, 0, 0, []⟩
def toL (b : BlkV) : LBlk := ⟨b.h, some ⟨b.g, 0, none⟩, b.n, b.cap, b.ss⟩
abbrev RowL (w : World) (g : Nat) (l : List LBlk) : Prop := RowF enL 48 w g l
theorem makeL (n : Nat) (hn : n ≤ 1048576) (w : World) : (Instr.makeSlice 33 (.int .i64 (n : Int)) (.int .i64 (n : Int))).run Tryz.prog w = .ok (.slice (some ⟨w.heap.size, 0, none⟩) n n) (w.alloc (.cells ((List.replicate n zeroL).flatMap enL).toArray 48)) := by
  obtain ⟨i, hi, hz, hs, hb⟩ := info3 infoBlkL
  have hb' : (i.bytes : Int) * (n : Int) ≤ 281474976710656 := by rw [hb]; omega
  have hr := run_make (P := Tryz.prog) w 33 48 i _ Tryz.underlying33 hi hz .i64 .i64 (n : Int) (n : Int) (by omega) (by omega) hb' (by omega)
  simp only [Int.toNat_natCast, hs, Value.cells] at hr
  rw [← made_flat 6 enL enL_len (by decide) zeroL n]
  exact hr
theorem RowL.put {w : World} {g : Nat} {l : List LBlk} (h : RowL w g l) (i : Nat) (hi : i < l.length) (b : LBlk) :
    RowL ((((((w.setCell ⟨g, i * 6, none⟩ (.string b.h.prev)).setCell ⟨g, i * 6 + 1, none⟩ (.string b.h.root)).setCell ⟨g, i * 6 + 2, none⟩ (.int .i64 b.h.time)).setCell ⟨g, i * 6 + 3, none⟩ (.int .i64 b.h.diff)).setCell ⟨g, i * 6 + 4, none⟩ (.int .i64 b.h.nonce)).setCell ⟨g, i * 6 + 5, none⟩ (.slice b.a b.n b.cap)) g (l.set i b) := by
  show _ = _
  rw [← flat_put 6 enL enL_len l i b hi]
  exact (rowSet (rowSet (rowSet (rowSet (rowSet (rowSet h _) _) _) _) _) _)
theorem toL_flat (cs : List BlkV) : (cs.map toL).flatMap enL = cs.flatMap enBlk := by
  induction cs with
  | nil => rfl
  | cons c cs ih => rw [List.map_cons, List.flatMap_cons, List.flatMap_cons, ih]; rfl
/-- What is handed in, block by block: the head, the items. -/
def ptsL (ls : List LBlk) : List (HeadV × List ByteArray) := ls.map fun b => (b.h, b.zs.take b.n)
theorem ptsL_take {ls : List LBlk} {k : Nat} (hk : k < ls.length) : ptsL (ls.take (k + 1)) = ptsL (ls.take k) ++ [((ls.getD k default).h, (ls.getD k default).zs.take (ls.getD k default).n)] := by
  unfold ptsL
  rw [List.take_add_one, List.getElem?_eq_getElem hk, List.map_append]
  simp [List.getElem?_eq_getElem hk]
/-- The copy of a list of blocks: in memory of its own. -/
structure CopyB (B g n : Nat) (ls : List LBlk) (cs : List BlkV) (w : World) : Prop where
  row : RowF enBlk 48 w g cs
  len : n = cs.length
  pts : cs.map (fun b => (b.h, b.ss)) = ptsL ls
  items : ∀ c ∈ cs, RowS w c.g c.ss ∧ c.n = c.ss.length ∧ c.cap = c.n ∧ g < c.g
  lo : B ≤ g
theorem CopyB.below {B g n : Nat} {ls : List LBlk} {cs : List BlkV} {w w' : World} (h : CopyB B g n ls cs w) (hb : Below w.heap.size w w') : CopyB B g n ls cs w' :=
  ⟨h.row.below hb h.row.lt, h.len, h.pts, fun c hc => ⟨(h.items c hc).1.below hb (h.items c hc).1.lt, (h.items c hc).2⟩, h.lo⟩
theorem CopyB.at {B g n : Nat} {ls : List LBlk} {cs : List BlkV} {w : World} (h : CopyB B g n ls cs w) : AtBlk w g cs := h.row.at 6 enBlk_len
theorem CopyB.its {B g n : Nat} {ls : List LBlk} {cs : List BlkV} {w : World} (h : CopyB B g n ls cs w) : ∀ c ∈ cs, ItemsAt w c := fun c hc => ⟨(h.items c hc).1.at, (h.items c hc).2.1⟩

set_option maxHeartbeats 2000000 in
set_option maxRecDepth 100000 in
theorem toBlks (a : Option Addr) (len cap : Nat) (ls : List LBlk) (w w0 : World) (h0 : IsBlks w0 a len cap ls) (hw : Below w0.heap.size w0 w) (hn : len ≤ 1048576) (hs : ∀ i, i < len → smallL (ls.getD i default)) :
    Calls Tryz.prog 6 #[.slice a len cap] w fun e w' => ∃ cs, e = .returned (.slice (some ⟨w.heap.size, 0, none⟩) len len) ∧ CopyB w.heap.size w.heap.size len ls cs w' ∧ Below w.heap.size w w' := by
  have hmk := makeL len hn w
  have HP : Hid (IsBlks w0 a len cap ls) := h0
  have HW : Hid (Below w0.heap.size w0 w) := hw
  have HLn : Hid (ls.length = len) := h0.len
  have HSM : Hid (∀ i, i < len → smallL (ls.getD i default)) := hs
  have A0 : Hid (RowL (w.alloc (.cells ((List.replicate len zeroL).flatMap enL).toArray 48)) w.heap.size (([] : List BlkV).map toL ++ List.replicate (len - 0) zeroL)) := heap_alloc_new w _
  have B0 : Hid (Below w.heap.size w (w.alloc (.cells ((List.replicate len zeroL).flatMap enL).toArray 48))) := (Below.refl _ w).alloc (Nat.le_refl _) _
  clear h0 hw hs
  generalize w.alloc (.cells ((List.replicate len zeroL).flatMap enL).toArray 48) = wm at hmk A0 B0
  go_enter Tryz.func6, Tryz.ntmps6
  go_wp2_with fail
  clear hmk
  go_loopw [4] (fun i wr => ∃ (k : Nat) (cs : List BlkV), k ≤ len ∧ i = .int .i64 (k : Int) ∧ Hid (cs.length = k ∧ RowL wr w.heap.size (cs.map toL ++ List.replicate (len - k) zeroL) ∧ cs.map (fun b => (b.h, b.ss)) = ptsL (ls.take k) ∧ ∀ c ∈ cs, RowS wr c.g c.ss ∧ c.n = c.ss.length ∧ c.cap = c.n ∧ w.heap.size < c.g) ∧ Hid (Below w.heap.size w wr)) (fun i _ => len - (intOf i).toNat)
  case atStart => exact ⟨0, [], by omega, rfl, ⟨rfl, A0.out, rfl, fun c hc => by cases hc⟩, B0⟩
  case round =>
    clear A0 B0
    obtain ⟨k, cs, hk, rfl, HR, HB⟩ := hrel
    by_cases hlt : k < len
    · obtain ⟨x, rfl, hp, hwf⟩ := HP.out.at enL_len (HW.out.trans (HB.out.mono HW.out.size)) k hlt
      obtain ⟨c0, c1, c2, c3, c4, c5⟩ := cellsL hp
      have HK : Hid (k + 1 ≤ len) := hlt
      have HPT : Hid (ptsL (ls.take (k + 1)) = ptsL (ls.take k) ++ [((ls.getD k default).h, (ls.getD k default).zs.take (ls.getD k default).n)]) := ptsL_take (by rw [HLn.out]; exact hlt)
      have HKL : Hid (k < (cs.map toL ++ List.replicate (len - k) zeroL).length) := by show _ < _; simp [HR.out.1]; omega
      have hsmk := HSM.out k hlt
      have lk : (k : Int) < (len : Int) := by omega
      have hgl : w.heap.size < wr.heap.size := HR.out.2.1.lt
      clear hp
      generalize ls.getD k default = b at c0 c1 c2 c3 c4 c5 hwf HPT hsmk
      obtain ⟨p, ba, bn, bc, bz⟩ := b
      have htb := toBlock1 p ba bn bc bz wr w0 hwf.2 (HW.out.trans (HB.out.mono HW.out.size)) hsmk.2.1
      have HBL : Hid (bn = (bz.take bn).length) := hwf.2.len
      unfold blockVal at htb
      dsimp only at c0 c1 c2 c3 c4 c5 HPT
      clear hwf hsmk
      go_wp2_with fail
      refine htb.mono ?_
      rintro e w1 ⟨g1, rfl, r1, hg1, b1⟩
      unfold blockVal
      have HR1 : Hid (RowL w1 w.heap.size (cs.map toL ++ List.replicate (len - k) zeroL)) := HR.out.2.1.below b1 HR.out.2.1.lt
      have HB1 : Hid (Below w.heap.size w w1) := HB.out.trans (b1.mono HB.out.size)
      have HI1 : Hid (∀ c ∈ cs ++ [(⟨p, g1, bn, bn, bz.take bn⟩ : BlkV)], RowS w1 c.g c.ss ∧ c.n = c.ss.length ∧ c.cap = c.n ∧ w.heap.size < c.g) := by
        intro c hc
        rcases List.mem_append.1 hc with h' | h'
        · have := HR.out.2.2.2 c h'
          exact ⟨this.1.below b1 this.1.lt, this.2⟩
        · rw [List.mem_singleton.1 h']
          exact ⟨r1, HBL.out, rfl, by show w.heap.size < g1; omega⟩
      have HCL : Hid (cs.length = k) := HR.out.1
      have HCP : Hid ((cs ++ [(⟨p, g1, bn, bn, bz.take bn⟩ : BlkV)]).map (fun b : BlkV => (b.h, b.ss)) = ptsL (ls.take (k + 1))) := by
        show _ = _
        rw [HPT.out, List.map_append, HR.out.2.2.1]
        rfl
      have HSE : Hid ((cs.map toL ++ List.replicate (len - k) zeroL).set k ⟨p, some ⟨g1, 0, none⟩, bn, bn, bz.take bn⟩ = (cs ++ [(⟨p, g1, bn, bn, bz.take bn⟩ : BlkV)]).map toL ++ List.replicate (len - (k + 1)) zeroL) := by
        show _ = _
        have e1 : (cs.map toL).length = k := by rw [List.length_map]; exact HR.out.1
        rw [List.set_append_right _ _ (by omega), e1, Nat.sub_self, show len - k = (len - (k + 1)) + 1 from by omega, List.replicate_succ, List.set_cons_zero, List.map_append, List.append_assoc]
        rfl
      have f0 := HR1.out.frozen (k * 6)
      have f1 := HR1.out.frozen (k * 6 + 1)
      have f2 := HR1.out.frozen (k * 6 + 2)
      have f3 := HR1.out.frozen (k * 6 + 3)
      have f4 := HR1.out.frozen (k * 6 + 4)
      have f5 := HR1.out.frozen (k * 6 + 5)
      have d0 := (HR1.out.at 6 enL_len).2 k 0 HKL.out (by decide)
      have d1 := (HR1.out.at 6 enL_len).2 k 1 HKL.out (by decide)
      have d2 := (HR1.out.at 6 enL_len).2 k 2 HKL.out (by decide)
      have d3 := (HR1.out.at 6 enL_len).2 k 3 HKL.out (by decide)
      have d4 := (HR1.out.at 6 enL_len).2 k 4 HKL.out (by decide)
      have d5 := (HR1.out.at 6 enL_len).2 k 5 HKL.out (by decide)
      have HPU := RowL.put HR1.out k HKL.out ⟨p, some ⟨g1, 0, none⟩, bn, bn, bz.take bn⟩
      dsimp only at HPU
      have HPU2 : Hid _ := HPU
      have HLL : Hid (w.heap.size < w1.heap.size) := by show _ < _; have := b1.size; omega
      clear HPU
      generalize (cs.map toL ++ List.replicate (len - k) zeroL).getD k default = o at d0 d1 d2 d3 d4 d5
      obtain ⟨op, oa, on, oc, oz⟩ := o
      simp only [enL, List.getElem?_cons_zero, List.getElem?_cons_succ, Nat.add_zero] at d0 d1 d2 d3 d4 d5
      have HIK : Hid (∀ (j : Nat) (v : Value) (w2 : World), (∀ c ∈ cs ++ [(⟨p, g1, bn, bn, bz.take bn⟩ : BlkV)], RowS w2 c.g c.ss ∧ c.n = c.ss.length ∧ c.cap = c.n ∧ w.heap.size < c.g) → (∀ c ∈ cs ++ [(⟨p, g1, bn, bn, bz.take bn⟩ : BlkV)], RowS (w2.setCell ⟨w.heap.size, j, none⟩ v) c.g c.ss ∧ c.n = c.ss.length ∧ c.cap = c.n ∧ w.heap.size < c.g)) := fun j v w2 hh c hc => ⟨rowS_other (hh c hc).1 (by have := (hh c hc).2.2.2; omega) j v, (hh c hc).2⟩
      clear b1 c0 c1 c2 c3 c4 c5 htb HR r1
      go_wp2_with fail
      go_roundw
      case rel =>
        refine ⟨k + 1, cs ++ [(⟨p, g1, bn, bn, bz.take bn⟩ : BlkV)], HK.out, by go_num, ⟨by rw [List.length_append, HCL.out]; rfl, ?_, HCP.out, ?_⟩, ((((((HB1.out.setCell (p := ⟨w.heap.size, k * 6, none⟩) (Nat.le_refl _) _).setCell (p := ⟨w.heap.size, k * 6 + 1, none⟩) (Nat.le_refl _) _).setCell (p := ⟨w.heap.size, k * 6 + 2, none⟩) (Nat.le_refl _) _).setCell (p := ⟨w.heap.size, k * 6 + 3, none⟩) (Nat.le_refl _) _).setCell (p := ⟨w.heap.size, k * 6 + 4, none⟩) (Nat.le_refl _) _).setCell (p := ⟨w.heap.size, k * 6 + 5, none⟩) (Nat.le_refl _) _)⟩
        · have := HPU2.out
          rw [HSE.out] at this
          exact this
        · exact HIK.out _ _ _ (HIK.out _ _ _ (HIK.out _ _ _ (HIK.out _ _ _ (HIK.out _ _ _ (HIK.out _ _ _ (HI1.out))))))
      case measure => have := HK.out; simp [intOf]; omega
    · obtain rfl : k = len := by omega
      have HF : Hid (CopyB w.heap.size w.heap.size k ls cs wr) := by
        refine ⟨?_, HR.out.1.symm, ?_, HR.out.2.2.2, Nat.le_refl _⟩
        · have := HR.out.2.1
          rw [Nat.sub_self, List.replicate_zero, List.append_nil] at this
          unfold RowL RowF at this
          rw [toL_flat] at this
          exact this
        · rw [HR.out.2.2.1, List.take_of_length_le (by rw [HLn.out]; exact Nat.le_refl _)]
      go_wp2_with fail
      go_ret
      exact ⟨cs, rfl, HF.out, HB.out⟩

set_option maxHeartbeats 2000000 in
set_option maxRecDepth 100000 in
theorem eqBlks (g1 g2 n c1 c2 : Nat) (xs bs : List BlkV) (w : World) (h1 : AtBlk w g1 xs) (h2 : AtBlk w g2 bs) (i1 : ∀ b ∈ xs, ItemsAt w b) (i2 : ∀ b ∈ bs, ItemsAt w b) (hpt : xs.map (fun b => (b.h, b.ss)) = bs.map (fun b => (b.h, b.ss))) (hn : n = xs.length) (hm : n ≤ 1048576) (hf : ∀ b ∈ xs, b.n ≤ 1073741824) :
    Calls Tryz.prog 9 #[.slice (some ⟨g1, 0, none⟩) n c1, .slice (some ⟨g2, 0, none⟩) n c2] w fun e w' => e = .returned (.bool true) ∧ Below w.heap.size w w' := by
  have hnb : n = bs.length := by
    have := congrArg List.length hpt
    rw [List.length_map, List.length_map] at this
    omega
  have HA : Hid (AtBlk w g1 xs ∧ AtBlk w g2 bs ∧ (∀ b ∈ xs, ItemsAt w b) ∧ (∀ b ∈ bs, ItemsAt w b) ∧ Below w.heap.size w w) := ⟨h1, h2, i1, i2, Below.refl _ w⟩
  have HN : Hid (n = xs.length ∧ n = bs.length) := ⟨hn, hnb⟩
  have HPT : Hid (∀ k, k < n → (xs.getD k default).h = (bs.getD k default).h ∧ (xs.getD k default).ss = (bs.getD k default).ss) := by
    intro k hk
    have e := congrArg (fun l => l[k]?) hpt
    have ha : k < xs.length := by omega
    have hb : k < bs.length := by omega
    simp only [List.getElem?_map, List.getElem?_eq_getElem ha, List.getElem?_eq_getElem hb, Option.map_some, Option.some.injEq, Prod.mk.injEq] at e
    rw [List.getD_eq_getElem?_getD, List.getElem?_eq_getElem ha, List.getD_eq_getElem?_getD, List.getElem?_eq_getElem hb]
    exact e
  have HFW : Hid (∀ b ∈ xs, b.n ≤ 1073741824) := hf
  clear h1 h2 hn i1 i2 hpt hnb hf
  go_enter Tryz.func9, Tryz.ntmps9
  go_wp2_with fail
  go_loopw [5] (fun i wr => ∃ k : Nat, k ≤ n ∧ i = .int .i64 (k : Int) ∧ Hid (AtBlk wr g1 xs ∧ AtBlk wr g2 bs ∧ (∀ b ∈ xs, ItemsAt wr b) ∧ (∀ b ∈ bs, ItemsAt wr b) ∧ Below w.heap.size w wr)) (fun i _ => n - (intOf i).toNat)
  case atStart => exact ⟨0, by omega, rfl, HA⟩
  case round =>
    clear HA
    obtain ⟨k, hk, rfl, HA⟩ := hrel
    by_cases hlt : k < n
    · have hka : k < xs.length := by have := HN.out; omega
      have hkb : k < bs.length := by have := HN.out; omega
      have d0 := AtBlk.c0 HA.out.1 k hka
      have e0 := AtBlk.c0 HA.out.2.1 k hkb
      have d1 := AtBlk.c1 HA.out.1 k hka
      have e1 := AtBlk.c1 HA.out.2.1 k hkb
      have d2 := AtBlk.c2 HA.out.1 k hka
      have e2 := AtBlk.c2 HA.out.2.1 k hkb
      have d3 := AtBlk.c3 HA.out.1 k hka
      have e3 := AtBlk.c3 HA.out.2.1 k hkb
      have d4 := AtBlk.c4 HA.out.1 k hka
      have e4 := AtBlk.c4 HA.out.2.1 k hkb
      have d5 := AtBlk.c5 HA.out.1 k hka
      have e5 := AtBlk.c5 HA.out.2.1 k hkb
      have ma : xs.getD k default ∈ xs := by rw [List.getD_eq_getElem?_getD, List.getElem?_eq_getElem hka]; exact List.getElem_mem hka
      have mb : bs.getD k default ∈ bs := by rw [List.getD_eq_getElem?_getD, List.getElem?_eq_getElem hkb]; exact List.getElem_mem hkb
      have ia := HA.out.2.2.1 _ ma
      have ib := HA.out.2.2.2.1 _ mb
      have hfa := HFW.out _ ma
      have hpt := HPT.out k hlt
      have HK : Hid (k + 1 ≤ n) := hlt
      generalize xs.getD k default = p at d0 d1 d2 d3 d4 d5 ia hpt hfa
      generalize bs.getD k default = q at e0 e1 e2 e3 e4 e5 ib hpt
      obtain ⟨ph, pg, pn, pc, ps⟩ := p
      obtain ⟨qh, qg, qn, qc, qs⟩ := q
      dsimp only at d0 d1 d2 d3 d4 d5 e0 e1 e2 e3 e4 e5 hpt hfa
      obtain ⟨rfl, rfl⟩ := hpt
      obtain ⟨ia1, ia2⟩ := ia
      obtain ⟨ib1, ib2⟩ := ib
      dsimp only at ia1 ia2 ib1 ib2
      obtain rfl : pn = qn := by omega
      have heq := fun (w' : World) (hb : Below wr.heap.size wr w') => eqBlock1 ph pg qg pn pc qc ps w' (ia1.below hb ia1.1) (ib1.below hb ib1.1) ia2 hfa
      have lk : (k : Int) < (n : Int) := by omega
      have hbd : Below wr.heap.size wr wr.drew := (Below.refl _ _).drew
      unfold blockVal at heq
      clear hka hkb ma mb ia1 ib1 ia2 ib2 HPT HFW hfa
      go_wp2_with fail
      go_region_with (go_at_call 26; refine (heq _ hbd).mono ?_; rintro e w1 ⟨rfl, b1⟩)
      all_goals
        have HA1 : Hid (AtBlk w1 g1 xs ∧ AtBlk w1 g2 bs ∧ (∀ b ∈ xs, ItemsAt w1 b) ∧ (∀ b ∈ bs, ItemsAt w1 b) ∧ Below w.heap.size w w1) := ⟨HA.out.1.drew.below b1 HA.out.1.1, HA.out.2.1.drew.below b1 HA.out.2.1.1, fun b hb => ⟨(HA.out.2.2.1 b hb).1.below (hbd.trans b1) (HA.out.2.2.1 b hb).1.1, (HA.out.2.2.1 b hb).2⟩, fun b hb => ⟨(HA.out.2.2.2.1 b hb).1.below (hbd.trans b1) (HA.out.2.2.2.1 b hb).1.1, (HA.out.2.2.2.1 b hb).2⟩, HA.out.2.2.2.2.drew.trans (b1.mono HA.out.2.2.2.2.size)⟩
        clear b1
        go_wp2_with fail
        go_roundw
        case rel => exact ⟨k + 1, HK.out, by go_num, HA1⟩
        case measure => have := HK.out; simp [intOf]; omega
    · go_wp2_with fail
      go_ret
      exact ⟨rfl, HA.out.2.2.2.2⟩

end Go.Proofs.YtoifgpmbeicmnaaGreatDoor

set_option linter.unusedVariables false
namespace Go.Proofs.YtoifgpmbeicmnaaGreatDoor
open Go.RowKit Go.Deep

theorem ptsL_mem {ls : List LBlk} {p : HeadV × List ByteArray} (h : p ∈ ptsL ls) : ∃ i, i < ls.length ∧ p = ((ls.getD i default).h, (ls.getD i default).zs.take (ls.getD i default).n) := by
  obtain ⟨b, hb, rfl⟩ := List.mem_map.1 h
  obtain ⟨i, hi, he⟩ := List.mem_iff_getElem.1 hb
  refine ⟨i, hi, ?_⟩
  rw [List.getD_eq_getElem?_getD, List.getElem?_eq_getElem hi]
  simp [he]
theorem CopyB.blks {B g n : Nat} {ls : List LBlk} {cs : List BlkV} {w : World} (h : CopyB B g n ls cs w) (hn : n ≤ 1048576) : Blks g n n cs w := ⟨h.at, h.its, h.len, hn⟩
theorem CopyB.mem {B g n : Nat} {ls : List LBlk} {cs : List BlkV} {w : World} (h : CopyB B g n ls cs w) {c : BlkV} (hc : c ∈ cs) : ∃ i, i < ls.length ∧ c.h = (ls.getD i default).h ∧ c.ss = (ls.getD i default).zs.take (ls.getD i default).n := by
  have hm : (c.h, c.ss) ∈ ptsL ls := by
    rw [← h.pts]
    exact List.mem_map.2 ⟨c, hc, rfl⟩
  obtain ⟨i, hi, he⟩ := ptsL_mem hm
  exact ⟨i, hi, (Prod.mk.inj he).1, (Prod.mk.inj he).2⟩
theorem CopyB.few {B g n : Nat} {ls : List LBlk} {cs : List BlkV} {w : World} (h : CopyB B g n ls cs w) (hl : ls.length = n) (hs : ∀ i, i < n → smallL (ls.getD i default)) : ∀ c ∈ cs, c.n ≤ 1048576 := by
  intro c hc
  obtain ⟨i, hi, _, h2⟩ := h.mem hc
  rw [(h.items c hc).2.1, h2, List.length_take]
  have := (hs i (by omega)).2.1
  omega
theorem CopyB.blksS {B g n : Nat} {ls : List LBlk} {cs : List BlkV} {w : World} (h : CopyB B g n ls cs w) (hn : n ≤ 1048576) (hl : ls.length = n) (hs : ∀ i, i < n → smallL (ls.getD i default)) : BlksS g n n cs w := by
  refine ⟨h.blks hn, fun c hc => ?_, h.few hl hs, fun c hc j hj => ?_⟩
  · obtain ⟨i, hi, h1, _⟩ := h.mem hc
    rw [h1]
    have := (hs i (by omega)).1
    unfold smallHead at this
    unfold wfHead maxLen
    omega
  · obtain ⟨i, hi, _, h2⟩ := h.mem hc
    rw [h2] at hj ⊢
    rw [List.length_take] at hj
    have := (hs i (by omega)).2.2 j (by omega)
    rw [List.getD_eq_getElem?_getD, List.getElem?_take_of_lt (by omega), ← List.getD_eq_getElem?_getD]
    exact this

end Go.Proofs.YtoifgpmbeicmnaaGreatDoor

set_option linter.unusedVariables false
namespace Go.Proofs.YtoifgpmbeicmnaaGreatDoor
open Go.RowKit Go.Deep Go.Joins

section
variable {P : Program} {w : World}
theorem run_append_none (t ty e : TypeId) (i : TypeInfo) (ht : P.underlying t = some (.slice e)) (hi : P.info? e = some i) {base size n : Nat} {v : Value} {xs : List Value} (hown : w.ownsRow base e size v n xs) :
    (Builtin.append_ #[t, t] ty #[v, .slice none 0 0]).run P w = .ok v w := by
  rcases hown.2 with ⟨rfl, _⟩ | ⟨g, cap, cur, rfl, _, _, hc, _⟩
  · simp [Builtin.append_, run_underlying ht, sizeOf, typeInfo, hi, Builtin.lenOf, run_firstCells_none]
  · simp [Builtin.append_, run_underlying ht, sizeOf, typeInfo, hi, Builtin.lenOf, run_firstCells_none, hc, storeCells]
theorem wpList_append_rows {ops : Array Oper} {rest : List Oper} {o : Oper} {a : Act} {Q : Exit → Act → World → Prop} (hgd : o.guard = none) (s x : Operand) (t : TypeId)
    (ho : o.op = .call { callee := .builtin .append, args := #[s, x], argTypes := #[t, t] })
    (base : Nat) (e : TypeId) (i : TypeInfo) (z : Value) (size bytes : Nat) (ht : P.underlying t = some (.slice e)) (hi : P.info? e = some i) (hz : i.zero = some z)
    (hsize : i.size = size) (hby : i.bytes = bytes) (hzs : z.cells.size = size) (hsz : 0 < size)
    (v : Value) (n : Nat) (xs : List Value) (hs : a.eval s = v) (hown : w.ownsRow base e size v n xs)
    (u : Value) (m : Nat) (ys : List Value) (hx : a.eval x = u) (hu : w.ownsRow base e size u m ys) (h1 : ∀ y ∈ ys, y.oneCell' = true)
    (h63 : n + m ≤ maxLen) (hbytes : (n + m) * bytes ≤ 140737488355328) (hbase : base ≤ w.heap.size)
    (h : ∀ v' w', w'.ownsRow base e size v' (n + m) (xs ++ ys) → Below base w w' → wpList P ops Q rest (a.put o.dst v') w') :
    wpList P ops Q (o :: rest) a w := by
  have hu' := hu
  rcases hu.2 with ⟨rfl, rfl⟩ | ⟨g, cap, cur, rfl, _, _, hc, _⟩
  · have hr := run_append_none (P := P) (w := w) t o.type e i ht hi hown
    have hy : ys = [] := List.eq_nil_of_length_eq_zero (by rw [hu.1]; simp)
    subst hy
    refine wpList_plain hgd fun K hK => ?_
    unfold Oper.wp execOp
    simp only [ho, resolve, invoke, builtin, Sem.run_bind, Sem.run_pure, Result.andThen_ok, List.map_toArray, List.map_cons, List.map_nil, hs, hx, hr]
    exact hK _ _ (h v w (by simpa using hown) (Below.refl _ _))
  · refine wpList_append_own_at _ hgd s x t ho base e i z size bytes ht hi hz hsize hby hzs hsz v n xs hs hown ⟨g, 0, none⟩ m cap ys hx hu'.1 (World.ownsRow.cells hu' rfl) h1 h63 hbytes hbase ?_
    intro v' w' h2 h3 _ _
    exact h v' w' h2 ((Below.refl base w).grown h3 hbase (fun k hk => (World.ownsRow.lt hown k hk).1))
end

theorem pts_len (bs : List BlkV) : (ptsOf bs).length = bs.length := by simp [ptsOf]
theorem pts_at {bs : List BlkV} {k : Nat} (h : k < bs.length) : (ptsOf bs).getD k default = ((bs.getD k default).h, (bs.getD k default).ss) := by
  simp [ptsOf, List.getD_eq_getElem?_getD, List.getElem?_eq_getElem h]
/-- The places that PaidFind tells. -/
def findL (it : ByteArray) (ps : List (HeadV × List ByteArray)) : List HitV := if okP ps = true then fdT it ps ps.length else []
end Go.Proofs.YtoifgpmbeicmnaaGreatDoor

set_option linter.unusedVariables false
namespace Go.Proofs.YtoifgpmbeicmnaaGreatDoor
open Go.RowKit

def items12 : List ByteArray := [⟨#[97]⟩, ⟨#[98]⟩, ⟨#[99]⟩, ⟨#[100]⟩, ⟨#[97, 110, 110]⟩, ⟨#[98, 111, 98]⟩, ⟨#[99, 121, 100]⟩, ⟨#[120, 49]⟩, ⟨#[120, 50]⟩, ⟨#[120, 51]⟩, ⟨#[122, 122]⟩, ⟨#[108, 111, 110, 103, 110, 97, 109, 101]⟩]
theorem items12_size : ∀ i : Fin 12, 1 ≤ (items12.getD i.val ByteArray.empty).size ∧ (items12.getD i.val ByteArray.empty).size ≤ 8 := by decide
def sums4 : List ByteArray := [⟨#[]⟩, ⟨#[48, 48]⟩, ⟨#[103, 48, 48, 48, 48, 48, 48, 48, 48, 48, 48, 48, 48, 48, 48, 48]⟩, ⟨#[65, 66, 67, 68, 69, 70, 48, 49, 50, 51, 52, 53, 54, 55, 56, 57]⟩]
theorem sums4_size : ∀ i : Fin 4, (sums4.getD i.val ByteArray.empty).size ≤ 16 := by decide

end Go.Proofs.YtoifgpmbeicmnaaGreatDoor

namespace Go.Proofs.YtoifgpmbeicmnaaGreatDoor

theorem span_at {β : Type} (p : β → Bool) (d : β) : ∀ (l : List β) (k : Nat), k ≤ l.length → (∀ j, j < k → p (l.getD j d) = true) → (k < l.length → p (l.getD k d) = false) → l.takeWhile p = l.take k ∧ l.dropWhile p = l.drop k
  | [], k, hk, _, _ => by
    have : k = 0 := by simpa using hk
    subst this
    simp
  | a :: r, 0, _, _, h2 => by
    have := h2 (by simp)
    have ha : p a = false := by simpa using this
    simp [ha]
  | a :: r, k + 1, hk, h1, h2 => by
    have ha : p a = true := by simpa using h1 0 (by omega)
    have ih := span_at p d r k (by simpa using hk) (fun j hj => by simpa using h1 (j + 1) (by omega)) (fun hj => by simpa using h2 (by simpa using hj))
    simp [ha, ih.1, ih.2]
/-- One more, behind those that are not greater. -/
def sortIns (o : List Int) (z : Int) : List Int := o.takeWhile (fun y => decide (y ≤ z)) ++ z :: o.dropWhile (fun y => decide (y ≤ z))
def sortL (l : List Int) : List Int := l.foldl sortIns []
theorem sortL_snoc (l : List Int) (z : Int) : sortL (l ++ [z]) = sortIns (sortL l) z := by simp [sortL]
theorem sortIns_length (o : List Int) (z : Int) : (sortIns o z).length = o.length + 1 := by
  have := congrArg List.length (List.takeWhile_append_dropWhile (p := fun y => decide (y ≤ z)) (l := o))
  rw [List.length_append] at this
  simp [sortIns]
  omega
theorem sortIns_mem {o : List Int} {z x : Int} : x ∈ sortIns o z ↔ x = z ∨ x ∈ o := by
  have e := List.takeWhile_append_dropWhile (p := fun y => decide (y ≤ z)) (l := o)
  constructor
  · intro h
    rcases List.mem_append.1 h with h | h
    · right; rw [← e]; exact List.mem_append_left _ h
    · rcases List.mem_cons.1 h with h | h
      · exact .inl h
      · right; rw [← e]; exact List.mem_append_right _ h
  · rintro (rfl | h)
    · exact List.mem_append_right _ (by simp)
    · rw [← e] at h
      rcases List.mem_append.1 h with h | h
      · exact List.mem_append_left _ h
      · exact List.mem_append_right _ (by simp [h])
theorem sortL_take (l : List Int) (k : Nat) (hk : k < l.length) : sortL (l.take (k + 1)) = sortIns (sortL (l.take k)) (l.getD k 0) := by
  have e : l.take (k + 1) = l.take k ++ [l.getD k 0] := by
    rw [List.take_add_one, List.getElem?_eq_getElem hk, List.getD_eq_getElem?_getD, List.getElem?_eq_getElem hk]
    rfl
  rw [e, sortL_snoc]
theorem sortL_length : ∀ l : List Int, (sortL l).length = l.length := by
  have : ∀ (l o : List Int), (l.foldl sortIns o).length = o.length + l.length := by
    intro l
    induction l with
    | nil => intro o; rfl
    | cons a r ih => intro o; rw [List.foldl_cons, ih, sortIns_length, List.length_cons]; omega
  intro l
  have h := this l []
  simpa [sortL] using h
theorem sortL_mem : ∀ (l : List Int) (x : Int), x ∈ sortL l ↔ x ∈ l := by
  have : ∀ (l o : List Int) (x : Int), x ∈ l.foldl sortIns o ↔ x ∈ o ∨ x ∈ l := by
    intro l
    induction l with
    | nil => intro o x; simp
    | cons a r ih =>
      intro o x
      rw [List.foldl_cons, ih, sortIns_mem, List.mem_cons]
      constructor
      · rintro ((h | h) | h) <;> simp [h]
      · rintro (h | h | h) <;> simp [h]
  intro l x
  have h := this l [] x
  simpa [sortL] using h

end Go.Proofs.YtoifgpmbeicmnaaGreatDoor

