/-
  Texts that the last part needs, joined.
-/
import Derived.Test.YtphgjhakghblgaaGreatDoorPart1
import Derived.Test.YtphgjhakghblgaaGreatDoorPart2
import Derived.Test.YtphgjhakghblgaaGreatDoorPart3
import Derived.Test.YtphgjhakghblgaaGreatDoorPart4
import Derived.Test.YtphgjhakghblgaaGreatDoorPart5
import Derived.Test.YtphgjhakghblgaaGreatDoorPart6
import Derived.Test.YtphgjhakghblgaaGreatDoorPart7
import Derived.Test.YtphgjhakghblgaaGreatDoorPart8
import Derived.Test.YtphgjhakghblgaaGreatDoorPart9
import Derived.Test.YtphgjhakghblgaaGreatDoorPart10
import Derived.Deep.RegionWith
import Derived.Deep.OwnRows
import Derived.BigRegion
set_option linter.unusedVariables false
namespace Go.Proofs.YtphgjhakghblgaaGreatDoor
open Go.RowKit Go.Deep

set_option linter.unusedSimpArgs false in
set_option maxHeartbeats 8000000 in
set_option maxRecDepth 100000 in
theorem implCacheOk (g n cap : Nat) (cs : List CachedV) (bg bn bc : Nat) (bs : List BlkV) (w : World) (h : AtCached w g cs) (hn : n = cs.length) (hnm : n ≤ 1048576) (hnc : n ≤ cap) (hB : Blks bg bn bc bs w) (hK : RowG w shaK) (hP : TabP w) :
    Calls Tryz.prog 24 #[.slice (some ⟨g, 0, none⟩) n cap, .slice (some ⟨bg, 0, none⟩) bn bc] w fun e w' => e = .returned (.bool (cacheOk (ptsOf bs) cs)) ∧ Below w.heap.size w w' := by
  have HA : Hid (AtCached w g cs) := h
  have HN : Hid (n = cs.length) := hn
  have HBL : Hid (Blks bg bn bc bs w) := hB
  have HBn : Hid (bn = bs.length) := hB.len
  have hbm := hB.max
  have HK : Hid (RowG w shaK) := hK
  have HP : Hid (TabP w) := hP
  by_cases h4 : (4 : Int) < (n : Int)
  · have HV : Hid (cacheOk (ptsOf bs) cs = false) := cache_len (by rw [← hn]; omega)
    generalize cacheOk (ptsOf bs) cs = R at HV ⊢
    clear h hn hB hK hP hnm hnc hbm
    go_enter Tryz.func24, Tryz.ntmps24
    go_wp2_with fail
    go_ret
    exact ⟨by rw [HV.out]; rfl, Below.refl _ _⟩
  have HBAD : Hid (∀ i, i < n → keptOk (ptsOf bs) cs i = false → cacheOk (ptsOf bs) cs = false) := fun i hi hf => cache_bad (by rw [← HN.out]; exact hi) hf
  have HGOO : Hid ((∀ i, i < n → keptOk (ptsOf bs) cs i = true) → cacheOk (ptsOf bs) cs = true) := fun hq => cache_good (by rw [← HN.out]; omega) (fun i hi => hq i (by rw [HN.out]; exact hi))
  generalize cacheOk (ptsOf bs) cs = R at HBAD HGOO ⊢
  clear h hn hB hK hP
  go_enter Tryz.func24, Tryz.ntmps24
  go_wp2_with fail
  clear h4
  go_loopw [12] (fun i wr => ∃ k : Nat, k ≤ n ∧ i = .int .i64 (k : Int) ∧ Hid (Below w.heap.size w wr) ∧ Hid (∀ q, q < k → keptOk (ptsOf bs) cs q = true)) (fun i _ => n - (intOf i).toNat)
  case atStart => exact ⟨0, by omega, rfl, Below.refl _ _, fun q hq => by omega⟩
  case round =>
    obtain ⟨k, hk, rfl, HB, HQ⟩ := hrel
    by_cases hlt : k < n
    · have hkl : k < cs.length := by rw [← HN.out]; exact hlt
      have HAr : Hid (AtCached wr g cs) := HA.out.below HB.out HA.out.1
      have q0 := AtCached.c0 HAr.out k hkl
      have q1 := AtCached.c1 HAr.out k hkl
      have lk : (k : Int) < (n : Int) := by omega
      have lk0 : (0 : Int) ≤ (k : Int) := by omega
      have wk : IntKind.i64.wrap ((k : Int) + 1) = (k : Int) + 1 := by rw [IntKind.wrap_i64]; omega
      have HK1 : Hid (k + 1 ≤ n) := hlt
      have HX1 : Hid (¬ (0 ≤ (cs.getD k default).pos ∧ (cs.getD k default).pos < (bn : Int)) → R = false) := fun hf => HBAD.out k hlt (kept_range (by rw [pts_len, ← HBn.out]; exact hf))
      have HX2 : Hid (hasC (cs.take k) (cs.getD k default).pos = true → R = false) := fun hf => HBAD.out k hlt (kept_has hf)
      have HX3 : Hid (¬ (cs.getD k default).text = filterAt (ptsOf bs) (cs.getD k default).pos.toNat → R = false) := fun hf => HBAD.out k hlt (kept_text hf)
      have HX4 : Hid ((0 ≤ (cs.getD k default).pos ∧ (cs.getD k default).pos < (bn : Int)) → hasC (cs.take k) (cs.getD k default).pos = false → (cs.getD k default).text = filterAt (ptsOf bs) (cs.getD k default).pos.toNat → ∀ q, q < k + 1 → keptOk (ptsOf bs) cs q = true) := by
        intro h1 h2 h3 q hq
        rcases Nat.lt_or_ge q k with h' | h'
        · exact HQ.out q h'
        · obtain rfl : q = k := by omega
          exact kept_good (by rw [pts_len, ← HBn.out]; exact h1) h2 h3
      have hhas := fun (w' : World) (hb : Below wr.heap.size wr w') => implHas g k cap cs (cs.getD k default).pos w' (HAr.out.below hb HAr.out.1) (by omega) (by omega)
      clear HQ HBAD HGOO HAr
      generalize hasC (cs.take k) (cs.getD k default).pos = hb at hhas HX2 HX4
      generalize cs.getD k default = c at q0 q1 HX1 HX2 HX3 HX4 hhas
      obtain ⟨p, tx⟩ := c
      dsimp only at q0 q1 HX1 HX2 HX3 HX4 hhas
      obtain ⟨ga, hga⟩ : ∃ ga, ga = wr.heap.size := ⟨_, rfl⟩
      have HGA : Hid (ga = wr.heap.size) := hga
      clear hga
      by_cases h0 : p < 0
      · have CA : Hid (CBk (wr.alloc (.cells #[.int .i64 p, .string tx] 68)) wr.heap.size 68 #[.int .i64 p, .string tx]) := CBk.new wr _ _
        have LA : Hid (Below wr.heap.size wr (wr.alloc (.cells #[.int .i64 p, .string tx] 68))) := (Below.refl _ wr).alloc (Nat.le_refl _) _
        have HV : Hid (R = false) := HX1.out (by omega)
        have hd0 : decide (p < 0) = true := decide_eq_true h0
        clear HX1 HX2 HX3 HX4 hhas hkl
        go_wp2_with fail
        generalize hwa : wr.alloc (.cells #[.int .i64 p, .string tx] 68) = wa at CA LA ⊢
        rw [← HGA.out] at CA ⊢
        clear hwa
        have HBA : Hid (Below w.heap.size w wa) := HB.out.trans (LA.out.mono HB.out.size)
        have hbd : Below wa.heap.size wa wa.drew := (Below.refl _ _).drew
        have hheld : ∀ w' : World, Below wa.heap.size wa w' → (fun w' => (w'.cell? ⟨ga, 0, none⟩ = some (.int .i64 p) ∧ w'.cell? ⟨ga, 1, none⟩ = some (.string tx))) w' := fun w' hb => ⟨(CA.out.call hb).cell 0, (CA.out.call hb).cell 1⟩
        refine wp_region_noPanic ?_
        refine wp_region_held_drew (S := fun w' => (w'.cell? ⟨ga, 0, none⟩ = some (.int .i64 p) ∧ w'.cell? ⟨ga, 1, none⟩ = some (.string tx))) (by kernel_rfl) (hheld _ hbd) (fun hHeld => ?_)
        refine takeL 0 (v := ?_) rfl (by kernel_rfl) (by kernel_rfl) (by kernel_rfl) (fun _ _ _ h => h) (by kernel_rfl) ?_ (by assumption) ?_
        rotate_left
        · intro w hSw; (try dsimp only at hSw); first | (go_simp; done) | (go_simp; with_reducible rfl)
        try simp only [Act.put, List.setIfInBounds_toArray, List.set_cons_zero, List.set_cons_succ]
        refine takeL 1 (v := ?_) rfl (by kernel_rfl) (by kernel_rfl) (by kernel_rfl) (fun _ _ _ h => h) (by kernel_rfl) ?_ (by assumption) ?_
        rotate_left
        · intro w hSw; (try dsimp only at hSw); first | (go_simp; done) | (go_simp; with_reducible rfl)
        try simp only [Act.put, List.setIfInBounds_toArray, List.set_cons_zero, List.set_cons_succ]
        refine takeL 2 (v := ?_) rfl (by kernel_rfl) (by kernel_rfl) (by kernel_rfl) (fun _ _ _ h => h) (by kernel_rfl) ?_ (by assumption) ?_
        rotate_left
        · intro w hSw; (try dsimp only at hSw); first | (go_simp; done) | (go_simp; with_reducible rfl)
        try simp only [Act.put, List.setIfInBounds_toArray, List.set_cons_zero, List.set_cons_succ]
        refine takeL 3 (v := ?_) rfl (by kernel_rfl) (by kernel_rfl) (by kernel_rfl) (fun _ _ _ h => h) (by kernel_rfl) ?_ (by assumption) ?_
        rotate_left
        · intro w hSw; (try dsimp only at hSw); first | (go_simp; done) | (go_simp; with_reducible rfl)
        try simp only [Act.put, List.setIfInBounds_toArray, List.set_cons_zero, List.set_cons_succ]
        refine skipL 4 rfl (by kernel_rfl) (by kernel_rfl) (by kernel_rfl) (fun _ _ _ h => h) (by kernel_rfl) (by assumption) ?_
        try simp only [Act.put, List.setIfInBounds_toArray, List.set_cons_zero, List.set_cons_succ]
        refine skipL 5 rfl (by kernel_rfl) (by kernel_rfl) (by kernel_rfl) (fun _ _ _ h => h) (by kernel_rfl) (by assumption) ?_
        try simp only [Act.put, List.setIfInBounds_toArray, List.set_cons_zero, List.set_cons_succ]
        refine skipL 6 rfl (by kernel_rfl) (by kernel_rfl) (by kernel_rfl) (fun _ _ _ h => h) (by kernel_rfl) (by assumption) ?_
        try simp only [Act.put, List.setIfInBounds_toArray, List.set_cons_zero, List.set_cons_succ]
        refine skipL 7 rfl (by kernel_rfl) (by kernel_rfl) (by kernel_rfl) (fun _ _ _ h => h) (by kernel_rfl) (by assumption) ?_
        try simp only [Act.put, List.setIfInBounds_toArray, List.set_cons_zero, List.set_cons_succ]
        refine skipL 8 rfl (by kernel_rfl) (by kernel_rfl) (by kernel_rfl) (fun _ _ _ h => h) (by kernel_rfl) (by assumption) ?_
        try simp only [Act.put, List.setIfInBounds_toArray, List.set_cons_zero, List.set_cons_succ]
        refine takeL 9 (v := ?_) rfl (by kernel_rfl) (by kernel_rfl) (by kernel_rfl) (fun _ _ _ h => h) (by kernel_rfl) ?_ (by assumption) ?_
        rotate_left
        · intro w hSw; (try dsimp only at hSw); first | (go_simp; done) | (go_simp; with_reducible rfl)
        try simp only [Act.put, List.setIfInBounds_toArray, List.set_cons_zero, List.set_cons_succ]
        refine takeL 10 (v := ?_) rfl (by kernel_rfl) (by kernel_rfl) (by kernel_rfl) (fun _ _ _ h => h) (by kernel_rfl) ?_ (by assumption) ?_
        rotate_left
        · intro w hSw; (try dsimp only at hSw); first | (go_simp; done) | (go_simp; with_reducible rfl)
        try simp only [Act.put, List.setIfInBounds_toArray, List.set_cons_zero, List.set_cons_succ]
        refine skipL 11 rfl (by kernel_rfl) (by kernel_rfl) (by kernel_rfl) (fun _ _ _ h => h) (by kernel_rfl) (by assumption) ?_
        try simp only [Act.put, List.setIfInBounds_toArray, List.set_cons_zero, List.set_cons_succ]
        refine skipL 12 rfl (by kernel_rfl) (by kernel_rfl) (by kernel_rfl) (fun _ _ _ h => h) (by kernel_rfl) (by assumption) ?_
        try simp only [Act.put, List.setIfInBounds_toArray, List.set_cons_zero, List.set_cons_succ]
        refine skipL 13 rfl (by kernel_rfl) (by kernel_rfl) (by kernel_rfl) (fun _ _ _ h => h) (by kernel_rfl) (by assumption) ?_
        try simp only [Act.put, List.setIfInBounds_toArray, List.set_cons_zero, List.set_cons_succ]
        refine skipL 14 rfl (by kernel_rfl) (by kernel_rfl) (by kernel_rfl) (fun _ _ _ h => h) (by kernel_rfl) (by assumption) ?_
        try simp only [Act.put, List.setIfInBounds_toArray, List.set_cons_zero, List.set_cons_succ]
        refine skipL 15 rfl (by kernel_rfl) (by kernel_rfl) (by kernel_rfl) (fun _ _ _ h => h) (by kernel_rfl) (by assumption) ?_
        try simp only [Act.put, List.setIfInBounds_toArray, List.set_cons_zero, List.set_cons_succ]
        refine skipL 16 rfl (by kernel_rfl) (by kernel_rfl) (by kernel_rfl) (fun _ _ _ h => h) (by kernel_rfl) (by assumption) ?_
        try simp only [Act.put, List.setIfInBounds_toArray, List.set_cons_zero, List.set_cons_succ]
        refine takeL 17 (v := ?_) rfl (by kernel_rfl) (by kernel_rfl) (by kernel_rfl) (fun _ _ _ h => h) (by kernel_rfl) ?_ (by assumption) ?_
        rotate_left
        · intro w hSw; (try dsimp only at hSw); first | (go_simp; done) | (go_simp; with_reducible rfl)
        try simp only [Act.put, List.setIfInBounds_toArray, List.set_cons_zero, List.set_cons_succ]
        refine takeL 18 (v := ?_) rfl (by kernel_rfl) (by kernel_rfl) (by kernel_rfl) (fun _ _ _ h => h) (by kernel_rfl) ?_ (by assumption) ?_
        rotate_left
        · intro w hSw; (try dsimp only at hSw); first | (go_simp; done) | (go_simp; with_reducible rfl)
        try simp only [Act.put, List.setIfInBounds_toArray, List.set_cons_zero, List.set_cons_succ]
        refine skipL 19 rfl (by kernel_rfl) (by kernel_rfl) (by kernel_rfl) (fun _ _ _ h => h) (by kernel_rfl) (by assumption) ?_
        try simp only [Act.put, List.setIfInBounds_toArray, List.set_cons_zero, List.set_cons_succ]
        refine skipL 20 rfl (by kernel_rfl) (by kernel_rfl) (by kernel_rfl) (fun _ _ _ h => h) (by kernel_rfl) (by assumption) ?_
        try simp only [Act.put, List.setIfInBounds_toArray, List.set_cons_zero, List.set_cons_succ]
        refine skipL 21 rfl (by kernel_rfl) (by kernel_rfl) (by kernel_rfl) (fun _ _ _ h => h) (by kernel_rfl) (by assumption) ?_
        try simp only [Act.put, List.setIfInBounds_toArray, List.set_cons_zero, List.set_cons_succ]
        refine skipL 22 rfl (by kernel_rfl) (by kernel_rfl) (by kernel_rfl) (fun _ _ _ h => h) (by kernel_rfl) (by assumption) ?_
        try simp only [Act.put, List.setIfInBounds_toArray, List.set_cons_zero, List.set_cons_succ]
        refine skipL 23 rfl (by kernel_rfl) (by kernel_rfl) (by kernel_rfl) (fun _ _ _ h => h) (by kernel_rfl) (by assumption) ?_
        try simp only [Act.put, List.setIfInBounds_toArray, List.set_cons_zero, List.set_cons_succ]
        refine skipL 24 rfl (by kernel_rfl) (by kernel_rfl) (by kernel_rfl) (fun _ _ _ h => h) (by kernel_rfl) (by assumption) ?_
        try simp only [Act.put, List.setIfInBounds_toArray, List.set_cons_zero, List.set_cons_succ]
        refine skipL 25 rfl (by kernel_rfl) (by kernel_rfl) (by kernel_rfl) (fun _ _ _ h => h) (by kernel_rfl) (by assumption) ?_
        try simp only [Act.put, List.setIfInBounds_toArray, List.set_cons_zero, List.set_cons_succ]
        refine skipL 26 rfl (by kernel_rfl) (by kernel_rfl) (by kernel_rfl) (fun _ _ _ h => h) (by kernel_rfl) (by assumption) ?_
        try simp only [Act.put, List.setIfInBounds_toArray, List.set_cons_zero, List.set_cons_succ]
        refine skipL 27 rfl (by kernel_rfl) (by kernel_rfl) (by kernel_rfl) (fun _ _ _ h => h) (by kernel_rfl) (by assumption) ?_
        try simp only [Act.put, List.setIfInBounds_toArray, List.set_cons_zero, List.set_cons_succ]
        refine takeL 28 (v := ?_) rfl (by kernel_rfl) (by kernel_rfl) (by kernel_rfl) (fun _ _ _ h => h) (by kernel_rfl) ?_ (by assumption) ?_
        rotate_left
        · intro w hSw; (try dsimp only at hSw); first | (go_simp; done) | (go_simp; with_reducible rfl)
        try simp only [Act.put, List.setIfInBounds_toArray, List.set_cons_zero, List.set_cons_succ]
        refine wpAnyH_done (by kernel_rfl) ?_ _
        refine NoPanic.normal ?_
        go_wp2_with fail
        go_ret
        exact ⟨by rw [HV.out]; rfl, HBA.out.drew⟩
      obtain ⟨j, rfl⟩ : ∃ j : Nat, p = (j : Int) := ⟨p.toNat, by omega⟩
      have CA : Hid (CBk (wr.alloc (.cells #[.int .i64 (j : Int), .string tx] 68)) wr.heap.size 68 #[.int .i64 (j : Int), .string tx]) := CBk.new wr _ _
      have LA : Hid (Below wr.heap.size wr (wr.alloc (.cells #[.int .i64 (j : Int), .string tx] 68))) := (Below.refl _ wr).alloc (Nat.le_refl _) _
      by_cases hj : bn ≤ j
      · have HV : Hid (R = false) := HX1.out (by omega)
        have hd0 : ¬ (j : Int) < 0 := by omega
        have hd0' : decide ((j : Int) < 0) = false := decide_eq_false hd0
        have hd1 : (bn : Int) ≤ (j : Int) := by omega
        have hd1' : decide ((bn : Int) ≤ (j : Int)) = true := decide_eq_true hd1
        have hd1'' : decide (bn ≤ j) = true := decide_eq_true hj
        clear HX1 HX2 HX3 HX4 hhas hkl
        go_wp2_with fail
        generalize hwa : wr.alloc (.cells #[.int .i64 (j : Int), .string tx] 68) = wa at CA LA ⊢
        rw [← HGA.out] at CA ⊢
        clear hwa
        have HBA : Hid (Below w.heap.size w wa) := HB.out.trans (LA.out.mono HB.out.size)
        have hbd : Below wa.heap.size wa wa.drew := (Below.refl _ _).drew
        have hheld : ∀ w' : World, Below wa.heap.size wa w' → (fun w' => (w'.cell? ⟨ga, 0, none⟩ = some (.int .i64 (j : Int)) ∧ w'.cell? ⟨ga, 1, none⟩ = some (.string tx))) w' := fun w' hb => ⟨(CA.out.call hb).cell 0, (CA.out.call hb).cell 1⟩
        refine wp_region_noPanic ?_
        refine wp_region_held_drew (S := fun w' => (w'.cell? ⟨ga, 0, none⟩ = some (.int .i64 (j : Int)) ∧ w'.cell? ⟨ga, 1, none⟩ = some (.string tx))) (by kernel_rfl) (hheld _ hbd) (fun hHeld => ?_)
        refine takeL 0 (v := ?_) rfl (by kernel_rfl) (by kernel_rfl) (by kernel_rfl) (fun _ _ _ h => h) (by kernel_rfl) ?_ (by assumption) ?_
        rotate_left
        · intro w hSw; (try dsimp only at hSw); first | (go_simp; done) | (go_simp; with_reducible rfl)
        try simp only [Act.put, List.setIfInBounds_toArray, List.set_cons_zero, List.set_cons_succ]
        refine takeL 1 (v := ?_) rfl (by kernel_rfl) (by kernel_rfl) (by kernel_rfl) (fun _ _ _ h => h) (by kernel_rfl) ?_ (by assumption) ?_
        rotate_left
        · intro w hSw; (try dsimp only at hSw); first | (go_simp; done) | (go_simp; with_reducible rfl)
        try simp only [Act.put, List.setIfInBounds_toArray, List.set_cons_zero, List.set_cons_succ]
        refine takeL 2 (v := ?_) rfl (by kernel_rfl) (by kernel_rfl) (by kernel_rfl) (fun _ _ _ h => h) (by kernel_rfl) ?_ (by assumption) ?_
        rotate_left
        · intro w hSw; (try dsimp only at hSw); first | (go_simp; done) | (go_simp; with_reducible rfl)
        try simp only [Act.put, List.setIfInBounds_toArray, List.set_cons_zero, List.set_cons_succ]
        refine takeL 3 (v := ?_) rfl (by kernel_rfl) (by kernel_rfl) (by kernel_rfl) (fun _ _ _ h => h) (by kernel_rfl) ?_ (by assumption) ?_
        rotate_left
        · intro w hSw; (try dsimp only at hSw); first | (go_simp; done) | (go_simp; with_reducible rfl)
        try simp only [Act.put, List.setIfInBounds_toArray, List.set_cons_zero, List.set_cons_succ]
        refine takeL 4 (v := ?_) rfl (by kernel_rfl) (by kernel_rfl) (by kernel_rfl) (fun _ _ _ h => h) (by kernel_rfl) ?_ (by assumption) ?_
        rotate_left
        · intro w hSw; (try dsimp only at hSw); first | (go_simp; done) | (go_simp; with_reducible rfl)
        try simp only [Act.put, List.setIfInBounds_toArray, List.set_cons_zero, List.set_cons_succ]
        refine takeL 5 (v := ?_) rfl (by kernel_rfl) (by kernel_rfl) (by kernel_rfl) (fun _ _ _ h => h) (by kernel_rfl) ?_ (by assumption) ?_
        rotate_left
        · intro w hSw; (try dsimp only at hSw); first | (go_simp; done) | (go_simp; with_reducible rfl)
        try simp only [Act.put, List.setIfInBounds_toArray, List.set_cons_zero, List.set_cons_succ]
        refine takeL 6 (v := ?_) rfl (by kernel_rfl) (by kernel_rfl) (by kernel_rfl) (fun _ _ _ h => h) (by kernel_rfl) ?_ (by assumption) ?_
        rotate_left
        · intro w hSw; (try dsimp only at hSw); first | (go_simp; done) | (go_simp; with_reducible rfl)
        try simp only [Act.put, List.setIfInBounds_toArray, List.set_cons_zero, List.set_cons_succ]
        refine takeL 7 (v := ?_) rfl (by kernel_rfl) (by kernel_rfl) (by kernel_rfl) (fun _ _ _ h => h) (by kernel_rfl) ?_ (by assumption) ?_
        rotate_left
        · intro w hSw; (try dsimp only at hSw); first | (go_simp; done) | (go_simp; with_reducible rfl)
        try simp only [Act.put, List.setIfInBounds_toArray, List.set_cons_zero, List.set_cons_succ]
        refine takeL 8 (v := ?_) rfl (by kernel_rfl) (by kernel_rfl) (by kernel_rfl) (fun _ _ _ h => h) (by kernel_rfl) ?_ (by assumption) ?_
        rotate_left
        · intro w hSw; (try dsimp only at hSw); first | (go_simp; done) | (go_simp; with_reducible rfl)
        try simp only [Act.put, List.setIfInBounds_toArray, List.set_cons_zero, List.set_cons_succ]
        refine takeL 9 (v := ?_) rfl (by kernel_rfl) (by kernel_rfl) (by kernel_rfl) (fun _ _ _ h => h) (by kernel_rfl) ?_ (by assumption) ?_
        rotate_left
        · intro w hSw; (try dsimp only at hSw); first | (go_simp; done) | (go_simp; with_reducible rfl)
        try simp only [Act.put, List.setIfInBounds_toArray, List.set_cons_zero, List.set_cons_succ]
        refine takeL 10 (v := ?_) rfl (by kernel_rfl) (by kernel_rfl) (by kernel_rfl) (fun _ _ _ h => h) (by kernel_rfl) ?_ (by assumption) ?_
        rotate_left
        · intro w hSw; (try dsimp only at hSw); first | (go_simp; done) | (go_simp; with_reducible rfl)
        try simp only [Act.put, List.setIfInBounds_toArray, List.set_cons_zero, List.set_cons_succ]
        refine skipL 11 rfl (by kernel_rfl) (by kernel_rfl) (by kernel_rfl) (fun _ _ _ h => h) (by kernel_rfl) (by assumption) ?_
        try simp only [Act.put, List.setIfInBounds_toArray, List.set_cons_zero, List.set_cons_succ]
        refine skipL 12 rfl (by kernel_rfl) (by kernel_rfl) (by kernel_rfl) (fun _ _ _ h => h) (by kernel_rfl) (by assumption) ?_
        try simp only [Act.put, List.setIfInBounds_toArray, List.set_cons_zero, List.set_cons_succ]
        refine skipL 13 rfl (by kernel_rfl) (by kernel_rfl) (by kernel_rfl) (fun _ _ _ h => h) (by kernel_rfl) (by assumption) ?_
        try simp only [Act.put, List.setIfInBounds_toArray, List.set_cons_zero, List.set_cons_succ]
        refine skipL 14 rfl (by kernel_rfl) (by kernel_rfl) (by kernel_rfl) (fun _ _ _ h => h) (by kernel_rfl) (by assumption) ?_
        try simp only [Act.put, List.setIfInBounds_toArray, List.set_cons_zero, List.set_cons_succ]
        refine skipL 15 rfl (by kernel_rfl) (by kernel_rfl) (by kernel_rfl) (fun _ _ _ h => h) (by kernel_rfl) (by assumption) ?_
        try simp only [Act.put, List.setIfInBounds_toArray, List.set_cons_zero, List.set_cons_succ]
        refine skipL 16 rfl (by kernel_rfl) (by kernel_rfl) (by kernel_rfl) (fun _ _ _ h => h) (by kernel_rfl) (by assumption) ?_
        try simp only [Act.put, List.setIfInBounds_toArray, List.set_cons_zero, List.set_cons_succ]
        refine takeL 17 (v := ?_) rfl (by kernel_rfl) (by kernel_rfl) (by kernel_rfl) (fun _ _ _ h => h) (by kernel_rfl) ?_ (by assumption) ?_
        rotate_left
        · intro w hSw; (try dsimp only at hSw); first | (go_simp; done) | (go_simp; with_reducible rfl)
        try simp only [Act.put, List.setIfInBounds_toArray, List.set_cons_zero, List.set_cons_succ]
        refine takeL 18 (v := ?_) rfl (by kernel_rfl) (by kernel_rfl) (by kernel_rfl) (fun _ _ _ h => h) (by kernel_rfl) ?_ (by assumption) ?_
        rotate_left
        · intro w hSw; (try dsimp only at hSw); first | (go_simp; done) | (go_simp; with_reducible rfl)
        try simp only [Act.put, List.setIfInBounds_toArray, List.set_cons_zero, List.set_cons_succ]
        refine skipL 19 rfl (by kernel_rfl) (by kernel_rfl) (by kernel_rfl) (fun _ _ _ h => h) (by kernel_rfl) (by assumption) ?_
        try simp only [Act.put, List.setIfInBounds_toArray, List.set_cons_zero, List.set_cons_succ]
        refine skipL 20 rfl (by kernel_rfl) (by kernel_rfl) (by kernel_rfl) (fun _ _ _ h => h) (by kernel_rfl) (by assumption) ?_
        try simp only [Act.put, List.setIfInBounds_toArray, List.set_cons_zero, List.set_cons_succ]
        refine skipL 21 rfl (by kernel_rfl) (by kernel_rfl) (by kernel_rfl) (fun _ _ _ h => h) (by kernel_rfl) (by assumption) ?_
        try simp only [Act.put, List.setIfInBounds_toArray, List.set_cons_zero, List.set_cons_succ]
        refine skipL 22 rfl (by kernel_rfl) (by kernel_rfl) (by kernel_rfl) (fun _ _ _ h => h) (by kernel_rfl) (by assumption) ?_
        try simp only [Act.put, List.setIfInBounds_toArray, List.set_cons_zero, List.set_cons_succ]
        refine skipL 23 rfl (by kernel_rfl) (by kernel_rfl) (by kernel_rfl) (fun _ _ _ h => h) (by kernel_rfl) (by assumption) ?_
        try simp only [Act.put, List.setIfInBounds_toArray, List.set_cons_zero, List.set_cons_succ]
        refine skipL 24 rfl (by kernel_rfl) (by kernel_rfl) (by kernel_rfl) (fun _ _ _ h => h) (by kernel_rfl) (by assumption) ?_
        try simp only [Act.put, List.setIfInBounds_toArray, List.set_cons_zero, List.set_cons_succ]
        refine skipL 25 rfl (by kernel_rfl) (by kernel_rfl) (by kernel_rfl) (fun _ _ _ h => h) (by kernel_rfl) (by assumption) ?_
        try simp only [Act.put, List.setIfInBounds_toArray, List.set_cons_zero, List.set_cons_succ]
        refine skipL 26 rfl (by kernel_rfl) (by kernel_rfl) (by kernel_rfl) (fun _ _ _ h => h) (by kernel_rfl) (by assumption) ?_
        try simp only [Act.put, List.setIfInBounds_toArray, List.set_cons_zero, List.set_cons_succ]
        refine skipL 27 rfl (by kernel_rfl) (by kernel_rfl) (by kernel_rfl) (fun _ _ _ h => h) (by kernel_rfl) (by assumption) ?_
        try simp only [Act.put, List.setIfInBounds_toArray, List.set_cons_zero, List.set_cons_succ]
        refine takeL 28 (v := ?_) rfl (by kernel_rfl) (by kernel_rfl) (by kernel_rfl) (fun _ _ _ h => h) (by kernel_rfl) ?_ (by assumption) ?_
        rotate_left
        · intro w hSw; (try dsimp only at hSw); first | (go_simp; done) | (go_simp; with_reducible rfl)
        try simp only [Act.put, List.setIfInBounds_toArray, List.set_cons_zero, List.set_cons_succ]
        refine wpAnyH_done (by kernel_rfl) ?_ _
        refine NoPanic.normal ?_
        go_wp2_with fail
        go_ret
        exact ⟨by rw [HV.out]; rfl, HBA.out.drew⟩
      cases hb with
      | true =>
        have hd0 : ¬ (j : Int) < 0 := by omega
        have hd0' : decide ((j : Int) < 0) = false := decide_eq_false hd0
        have hd1 : ¬ (bn : Int) ≤ (j : Int) := by omega
        have hd1' : decide ((bn : Int) ≤ (j : Int)) = false := decide_eq_false hd1
        have hd1'' : decide (bn ≤ j) = false := decide_eq_false (by omega)
        have hd2 : (j : Int) < (bn : Int) := by omega
        have lkc : (k : Int) ≤ (cap : Int) := by omega
        have hc0 : ¬ cap = 0 := by omega
        have HV : Hid (R = false) := HX2.out rfl
        clear HX1 HX2 HX3 HX4 hkl
        go_wp2_with fail
        generalize hwa : wr.alloc (.cells #[.int .i64 (j : Int), .string tx] 68) = wa at CA LA ⊢
        rw [← HGA.out] at CA ⊢
        clear hwa
        have HBA : Hid (Below w.heap.size w wa) := HB.out.trans (LA.out.mono HB.out.size)
        have hbd : Below wa.heap.size wa wa.drew := (Below.refl _ _).drew
        have hhas : ∀ w', Below wa.heap.size wa w' → Calls Tryz.prog 40 #[.slice (some ⟨g, 0, none⟩) k cap, .int .i64 (j : Int)] w' fun e w'' => e = .returned (.bool true) ∧ Below w'.heap.size w' w'' := fun w' hb => hhas w' (LA.out.trans (hb.mono LA.out.size))
        have hheld : ∀ w' : World, Below wa.heap.size wa w' → (fun w' => (w'.cell? ⟨ga, 0, none⟩ = some (.int .i64 (j : Int)) ∧ w'.cell? ⟨ga, 1, none⟩ = some (.string tx))) w' := fun w' hb => ⟨(CA.out.call hb).cell 0, (CA.out.call hb).cell 1⟩
        refine wp_region_noPanic ?_
        refine wp_region_held_drew (S := fun w' => (w'.cell? ⟨ga, 0, none⟩ = some (.int .i64 (j : Int)) ∧ w'.cell? ⟨ga, 1, none⟩ = some (.string tx))) (by kernel_rfl) (hheld _ hbd) (fun hHeld => ?_)
        refine takeL 0 (v := ?_) rfl (by kernel_rfl) (by kernel_rfl) (by kernel_rfl) (fun _ _ _ h => h) (by kernel_rfl) ?_ (by assumption) ?_
        rotate_left
        · intro w hSw; (try dsimp only at hSw); first | (go_simp; done) | (go_simp; with_reducible rfl)
        try simp only [Act.put, List.setIfInBounds_toArray, List.set_cons_zero, List.set_cons_succ]
        refine takeL 1 (v := ?_) rfl (by kernel_rfl) (by kernel_rfl) (by kernel_rfl) (fun _ _ _ h => h) (by kernel_rfl) ?_ (by assumption) ?_
        rotate_left
        · intro w hSw; (try dsimp only at hSw); first | (go_simp; done) | (go_simp; with_reducible rfl)
        try simp only [Act.put, List.setIfInBounds_toArray, List.set_cons_zero, List.set_cons_succ]
        refine takeL 2 (v := ?_) rfl (by kernel_rfl) (by kernel_rfl) (by kernel_rfl) (fun _ _ _ h => h) (by kernel_rfl) ?_ (by assumption) ?_
        rotate_left
        · intro w hSw; (try dsimp only at hSw); first | (go_simp; done) | (go_simp; with_reducible rfl)
        try simp only [Act.put, List.setIfInBounds_toArray, List.set_cons_zero, List.set_cons_succ]
        refine takeL 3 (v := ?_) rfl (by kernel_rfl) (by kernel_rfl) (by kernel_rfl) (fun _ _ _ h => h) (by kernel_rfl) ?_ (by assumption) ?_
        rotate_left
        · intro w hSw; (try dsimp only at hSw); first | (go_simp; done) | (go_simp; with_reducible rfl)
        try simp only [Act.put, List.setIfInBounds_toArray, List.set_cons_zero, List.set_cons_succ]
        refine takeL 4 (v := ?_) rfl (by kernel_rfl) (by kernel_rfl) (by kernel_rfl) (fun _ _ _ h => h) (by kernel_rfl) ?_ (by assumption) ?_
        rotate_left
        · intro w hSw; (try dsimp only at hSw); first | (go_simp; done) | (go_simp; with_reducible rfl)
        try simp only [Act.put, List.setIfInBounds_toArray, List.set_cons_zero, List.set_cons_succ]
        refine takeL 5 (v := ?_) rfl (by kernel_rfl) (by kernel_rfl) (by kernel_rfl) (fun _ _ _ h => h) (by kernel_rfl) ?_ (by assumption) ?_
        rotate_left
        · intro w hSw; (try dsimp only at hSw); first | (go_simp; done) | (go_simp; with_reducible rfl)
        try simp only [Act.put, List.setIfInBounds_toArray, List.set_cons_zero, List.set_cons_succ]
        refine takeL 6 (v := ?_) rfl (by kernel_rfl) (by kernel_rfl) (by kernel_rfl) (fun _ _ _ h => h) (by kernel_rfl) ?_ (by assumption) ?_
        rotate_left
        · intro w hSw; (try dsimp only at hSw); first | (go_simp; done) | (go_simp; with_reducible rfl)
        try simp only [Act.put, List.setIfInBounds_toArray, List.set_cons_zero, List.set_cons_succ]
        refine takeL 7 (v := ?_) rfl (by kernel_rfl) (by kernel_rfl) (by kernel_rfl) (fun _ _ _ h => h) (by kernel_rfl) ?_ (by assumption) ?_
        rotate_left
        · intro w hSw; (try dsimp only at hSw); first | (go_simp; done) | (go_simp; with_reducible rfl)
        try simp only [Act.put, List.setIfInBounds_toArray, List.set_cons_zero, List.set_cons_succ]
        refine takeL 8 (v := ?_) rfl (by kernel_rfl) (by kernel_rfl) (by kernel_rfl) (fun _ _ _ h => h) (by kernel_rfl) ?_ (by assumption) ?_
        rotate_left
        · intro w hSw; (try dsimp only at hSw); first | (go_simp; done) | (go_simp; with_reducible rfl)
        try simp only [Act.put, List.setIfInBounds_toArray, List.set_cons_zero, List.set_cons_succ]
        refine takeL 9 (v := ?_) rfl (by kernel_rfl) (by kernel_rfl) (by kernel_rfl) (fun _ _ _ h => h) (by kernel_rfl) ?_ (by assumption) ?_
        rotate_left
        · intro w hSw; (try dsimp only at hSw); first | (go_simp; done) | (go_simp; with_reducible rfl)
        try simp only [Act.put, List.setIfInBounds_toArray, List.set_cons_zero, List.set_cons_succ]
        refine takeL 10 (v := ?_) rfl (by kernel_rfl) (by kernel_rfl) (by kernel_rfl) (fun _ _ _ h => h) (by kernel_rfl) ?_ (by assumption) ?_
        rotate_left
        · intro w hSw; (try dsimp only at hSw); first | (go_simp; done) | (go_simp; with_reducible rfl)
        try simp only [Act.put, List.setIfInBounds_toArray, List.set_cons_zero, List.set_cons_succ]
        refine takeL 11 (v := ?_) rfl (by kernel_rfl) (by kernel_rfl) (by kernel_rfl) (fun _ _ _ h => h) (by kernel_rfl) ?_ (by assumption) ?_
        rotate_left
        · intro w hSw; (try dsimp only at hSw); first | (go_simp; done) | (go_simp; with_reducible rfl)
        try simp only [Act.put, List.setIfInBounds_toArray, List.set_cons_zero, List.set_cons_succ]
        refine takeL 12 (v := ?_) rfl (by kernel_rfl) (by kernel_rfl) (by kernel_rfl) (fun _ _ _ h => h) (by kernel_rfl) ?_ (by assumption) ?_
        rotate_left
        · intro w hSw; (try dsimp only at hSw); first | (go_simp; done) | (go_simp; with_reducible rfl)
        try simp only [Act.put, List.setIfInBounds_toArray, List.set_cons_zero, List.set_cons_succ]
        refine takeL 13 (v := ?_) rfl (by kernel_rfl) (by kernel_rfl) (by kernel_rfl) (fun _ _ _ h => h) (by kernel_rfl) ?_ (by assumption) ?_
        rotate_left
        · intro w hSw; (try dsimp only at hSw); first | (go_simp; done) | (go_simp; with_reducible rfl)
        try simp only [Act.put, List.setIfInBounds_toArray, List.set_cons_zero, List.set_cons_succ]
        refine takeL 14 (v := ?_) rfl (by kernel_rfl) (by kernel_rfl) (by kernel_rfl) (fun _ _ _ h => h) (by kernel_rfl) ?_ (by assumption) ?_
        rotate_left
        · intro w hSw; (try dsimp only at hSw); first | (go_simp; done) | (go_simp; with_reducible rfl)
        try simp only [Act.put, List.setIfInBounds_toArray, List.set_cons_zero, List.set_cons_succ]
        refine takeL 15 (v := ?_) rfl (by kernel_rfl) (by kernel_rfl) (by kernel_rfl) (fun _ _ _ h => h) (by kernel_rfl) ?_ (by assumption) ?_
        rotate_left
        · intro w hSw; (try dsimp only at hSw); first | (go_simp; done) | (go_simp; with_reducible rfl)
        try simp only [Act.put, List.setIfInBounds_toArray, List.set_cons_zero, List.set_cons_succ]
        refine callL 16 rfl (by kernel_rfl) (fun K hK => ?_)
        go_simp
        refine (hhas _ hbd).mono ?_
        rintro e w4 ⟨rfl, b4⟩
        have B4 : Hid (Below wa.heap.size wa w4) := hbd.trans b4
        have HH4 := hheld _ B4.out
        clear b4
        go_wp2_with fail
        refine hK.out _ _ ?_ (fun hHeld => ?_)
        · first | exact HH6 | exact HH5 | exact HH4
        clear hK K
        try simp only [Act.put, List.setIfInBounds_toArray, List.set_cons_zero, List.set_cons_succ]
        refine takeL 17 (v := ?_) rfl (by kernel_rfl) (by kernel_rfl) (by kernel_rfl) (fun _ _ _ h => h) (by kernel_rfl) ?_ (by assumption) ?_
        rotate_left
        · intro w hSw; (try dsimp only at hSw); first | (go_simp; done) | (go_simp; with_reducible rfl)
        try simp only [Act.put, List.setIfInBounds_toArray, List.set_cons_zero, List.set_cons_succ]
        refine takeL 18 (v := ?_) rfl (by kernel_rfl) (by kernel_rfl) (by kernel_rfl) (fun _ _ _ h => h) (by kernel_rfl) ?_ (by assumption) ?_
        rotate_left
        · intro w hSw; (try dsimp only at hSw); first | (go_simp; done) | (go_simp; with_reducible rfl)
        try simp only [Act.put, List.setIfInBounds_toArray, List.set_cons_zero, List.set_cons_succ]
        refine skipL 19 rfl (by kernel_rfl) (by kernel_rfl) (by kernel_rfl) (fun _ _ _ h => h) (by kernel_rfl) (by assumption) ?_
        try simp only [Act.put, List.setIfInBounds_toArray, List.set_cons_zero, List.set_cons_succ]
        refine skipL 20 rfl (by kernel_rfl) (by kernel_rfl) (by kernel_rfl) (fun _ _ _ h => h) (by kernel_rfl) (by assumption) ?_
        try simp only [Act.put, List.setIfInBounds_toArray, List.set_cons_zero, List.set_cons_succ]
        refine skipL 21 rfl (by kernel_rfl) (by kernel_rfl) (by kernel_rfl) (fun _ _ _ h => h) (by kernel_rfl) (by assumption) ?_
        try simp only [Act.put, List.setIfInBounds_toArray, List.set_cons_zero, List.set_cons_succ]
        refine skipL 22 rfl (by kernel_rfl) (by kernel_rfl) (by kernel_rfl) (fun _ _ _ h => h) (by kernel_rfl) (by assumption) ?_
        try simp only [Act.put, List.setIfInBounds_toArray, List.set_cons_zero, List.set_cons_succ]
        refine skipL 23 rfl (by kernel_rfl) (by kernel_rfl) (by kernel_rfl) (fun _ _ _ h => h) (by kernel_rfl) (by assumption) ?_
        try simp only [Act.put, List.setIfInBounds_toArray, List.set_cons_zero, List.set_cons_succ]
        refine skipL 24 rfl (by kernel_rfl) (by kernel_rfl) (by kernel_rfl) (fun _ _ _ h => h) (by kernel_rfl) (by assumption) ?_
        try simp only [Act.put, List.setIfInBounds_toArray, List.set_cons_zero, List.set_cons_succ]
        refine skipL 25 rfl (by kernel_rfl) (by kernel_rfl) (by kernel_rfl) (fun _ _ _ h => h) (by kernel_rfl) (by assumption) ?_
        try simp only [Act.put, List.setIfInBounds_toArray, List.set_cons_zero, List.set_cons_succ]
        refine skipL 26 rfl (by kernel_rfl) (by kernel_rfl) (by kernel_rfl) (fun _ _ _ h => h) (by kernel_rfl) (by assumption) ?_
        try simp only [Act.put, List.setIfInBounds_toArray, List.set_cons_zero, List.set_cons_succ]
        refine skipL 27 rfl (by kernel_rfl) (by kernel_rfl) (by kernel_rfl) (fun _ _ _ h => h) (by kernel_rfl) (by assumption) ?_
        try simp only [Act.put, List.setIfInBounds_toArray, List.set_cons_zero, List.set_cons_succ]
        refine takeL 28 (v := ?_) rfl (by kernel_rfl) (by kernel_rfl) (by kernel_rfl) (fun _ _ _ h => h) (by kernel_rfl) ?_ (by assumption) ?_
        rotate_left
        · intro w hSw; (try dsimp only at hSw); first | (go_simp; done) | (go_simp; with_reducible rfl)
        try simp only [Act.put, List.setIfInBounds_toArray, List.set_cons_zero, List.set_cons_succ]
        refine wpAnyH_done (by kernel_rfl) ?_ _
        refine NoPanic.normal ?_
        go_wp2_with fail
        go_ret
        exact ⟨by rw [HV.out]; rfl, HBA.out.trans (B4.out.mono HBA.out.size)⟩
      | false =>
        have hd0 : ¬ (j : Int) < 0 := by omega
        have hd0' : decide ((j : Int) < 0) = false := decide_eq_false hd0
        have hd1 : ¬ (bn : Int) ≤ (j : Int) := by omega
        have hd1' : decide ((bn : Int) ≤ (j : Int)) = false := decide_eq_false hd1
        have hd1'' : decide (bn ≤ j) = false := decide_eq_false (by omega)
        have hd2 : (j : Int) < (bn : Int) := by omega
        have lkc : (k : Int) ≤ (cap : Int) := by omega
        have hc0 : ¬ cap = 0 := by omega
        have hjl : j < bs.length := by rw [← HBn.out]; omega
        have HBr : Hid (Blks bg bn bc bs wr) := HBL.out.below HB.out
        have d0 := AtBlk.c0 HBr.out.at_ j hjl
        have d1 := AtBlk.c1 HBr.out.at_ j hjl
        have d2 := AtBlk.c2 HBr.out.at_ j hjl
        have d3 := AtBlk.c3 HBr.out.at_ j hjl
        have d4 := AtBlk.c4 HBr.out.at_ j hjl
        have d5 := AtBlk.c5 HBr.out.at_ j hjl
        have hgl : bg < wr.heap.size := HBr.out.at_.1
        have HIT : Hid (ItemsAt wr (bs.getD j default)) := HBr.out.items _ (blk_mem hjl)
        have hbf := fun (w' : World) (hb : Below wr.heap.size wr w') => implBlockFilter (bs.getD j default).h (bs.getD j default).g (bs.getD j default).n (bs.getD j default).cap (bs.getD j default).ss w' (HIT.out.1.below hb HIT.out.1.1) HIT.out.2 (HK.out.below (HB.out.trans (hb.mono HB.out.size)) HK.out.lt) (TabP.below HP.out (HB.out.trans (hb.mono HB.out.size)) (Nat.le_refl _))
        rw [← filterAt_blk hjl] at hbf
        rw [Int.toNat_natCast] at HX3 HX4
        generalize filterAt (ptsOf bs) j = f at hbf HX3 HX4
        generalize bs.getD j default = bb at d0 d1 d2 d3 d4 d5 hbf
        obtain ⟨⟨hp, hr, ht, hd, hn⟩, ig, im, ic, iss⟩ := bb
        unfold blockVal at hbf
        dsimp only at d0 d1 d2 d3 d4 d5 hbf
        clear HIT HBr
        by_cases htx : tx = f
        · have HQ4 : Hid (∀ q, q < k + 1 → keptOk (ptsOf bs) cs q = true) := HX4.out ⟨by omega, hd2⟩ rfl htx
          have htx' : f = tx := htx.symm
          subst htx'
          clear HX1 HX2 HX3 HX4 hkl hjl
          go_wp2_with fail
          generalize hwa : wr.alloc (.cells #[.int .i64 (j : Int), .string f] 68) = wa at CA LA ⊢
          rw [← HGA.out] at CA ⊢
          clear hwa
          have HBA : Hid (Below w.heap.size w wa) := HB.out.trans (LA.out.mono HB.out.size)
          have hbd : Below wa.heap.size wa wa.drew := (Below.refl _ _).drew
          have hhas : ∀ w', Below wa.heap.size wa w' → Calls Tryz.prog 40 #[.slice (some ⟨g, 0, none⟩) k cap, .int .i64 (j : Int)] w' fun e w'' => e = .returned (.bool false) ∧ Below w'.heap.size w' w'' := fun w' hb => hhas w' (LA.out.trans (hb.mono LA.out.size))
          have hbf : ∀ w', Below wa.heap.size wa w' → Calls Tryz.prog 41 #[.agg #[.string hp, .string hr, .int .i64 ht, .int .i64 hd, .int .i64 hn, .slice (some ⟨ig, 0, none⟩) im ic]] w' fun e w'' => e = .returned (.string f) ∧ Below w'.heap.size w' w'' := fun w' hb => hbf w' (LA.out.trans (hb.mono LA.out.size))
          replace d0 := (LA.out.cell (p := ⟨bg, j * 6, none⟩) hgl).trans d0
          replace d1 := (LA.out.cell (p := ⟨bg, j * 6 + 1, none⟩) hgl).trans d1
          replace d2 := (LA.out.cell (p := ⟨bg, j * 6 + 2, none⟩) hgl).trans d2
          replace d3 := (LA.out.cell (p := ⟨bg, j * 6 + 3, none⟩) hgl).trans d3
          replace d4 := (LA.out.cell (p := ⟨bg, j * 6 + 4, none⟩) hgl).trans d4
          replace d5 := (LA.out.cell (p := ⟨bg, j * 6 + 5, none⟩) hgl).trans d5
          replace hgl : bg < wa.heap.size := Nat.lt_of_lt_of_le hgl LA.out.size
          have hheld : ∀ w' : World, Below wa.heap.size wa w' → (fun w' => (w'.cell? ⟨ga, 0, none⟩ = some (.int .i64 (j : Int)) ∧ w'.cell? ⟨ga, 1, none⟩ = some (.string f)) ∧ w'.cell? ⟨bg, j * 6, none⟩ = some (.string hp) ∧ w'.cell? ⟨bg, j * 6 + 1, none⟩ = some (.string hr) ∧ w'.cell? ⟨bg, j * 6 + 2, none⟩ = some (.int .i64 ht) ∧ w'.cell? ⟨bg, j * 6 + 3, none⟩ = some (.int .i64 hd) ∧ w'.cell? ⟨bg, j * 6 + 4, none⟩ = some (.int .i64 hn) ∧ w'.cell? ⟨bg, j * 6 + 5, none⟩ = some (.slice (some ⟨ig, 0, none⟩) im ic)) w' := fun w' hb => ⟨⟨(CA.out.call hb).cell 0, (CA.out.call hb).cell 1⟩, (hb.cell hgl).trans d0, (hb.cell hgl).trans d1, (hb.cell hgl).trans d2, (hb.cell hgl).trans d3, (hb.cell hgl).trans d4, (hb.cell hgl).trans d5⟩
          refine wp_region_noPanic ?_
          refine wp_region_held_drew (S := fun w' => (w'.cell? ⟨ga, 0, none⟩ = some (.int .i64 (j : Int)) ∧ w'.cell? ⟨ga, 1, none⟩ = some (.string f)) ∧ w'.cell? ⟨bg, j * 6, none⟩ = some (.string hp) ∧ w'.cell? ⟨bg, j * 6 + 1, none⟩ = some (.string hr) ∧ w'.cell? ⟨bg, j * 6 + 2, none⟩ = some (.int .i64 ht) ∧ w'.cell? ⟨bg, j * 6 + 3, none⟩ = some (.int .i64 hd) ∧ w'.cell? ⟨bg, j * 6 + 4, none⟩ = some (.int .i64 hn) ∧ w'.cell? ⟨bg, j * 6 + 5, none⟩ = some (.slice (some ⟨ig, 0, none⟩) im ic)) (by kernel_rfl) (hheld _ hbd) (fun hHeld => ?_)
          refine takeL 0 (v := ?_) rfl (by kernel_rfl) (by kernel_rfl) (by kernel_rfl) (fun _ _ _ h => h) (by kernel_rfl) ?_ (by assumption) ?_
          rotate_left
          · intro w hSw; (try dsimp only at hSw); first | (go_simp; done) | (go_simp; with_reducible rfl)
          try simp only [Act.put, List.setIfInBounds_toArray, List.set_cons_zero, List.set_cons_succ]
          refine takeL 1 (v := ?_) rfl (by kernel_rfl) (by kernel_rfl) (by kernel_rfl) (fun _ _ _ h => h) (by kernel_rfl) ?_ (by assumption) ?_
          rotate_left
          · intro w hSw; (try dsimp only at hSw); first | (go_simp; done) | (go_simp; with_reducible rfl)
          try simp only [Act.put, List.setIfInBounds_toArray, List.set_cons_zero, List.set_cons_succ]
          refine takeL 2 (v := ?_) rfl (by kernel_rfl) (by kernel_rfl) (by kernel_rfl) (fun _ _ _ h => h) (by kernel_rfl) ?_ (by assumption) ?_
          rotate_left
          · intro w hSw; (try dsimp only at hSw); first | (go_simp; done) | (go_simp; with_reducible rfl)
          try simp only [Act.put, List.setIfInBounds_toArray, List.set_cons_zero, List.set_cons_succ]
          refine takeL 3 (v := ?_) rfl (by kernel_rfl) (by kernel_rfl) (by kernel_rfl) (fun _ _ _ h => h) (by kernel_rfl) ?_ (by assumption) ?_
          rotate_left
          · intro w hSw; (try dsimp only at hSw); first | (go_simp; done) | (go_simp; with_reducible rfl)
          try simp only [Act.put, List.setIfInBounds_toArray, List.set_cons_zero, List.set_cons_succ]
          refine takeL 4 (v := ?_) rfl (by kernel_rfl) (by kernel_rfl) (by kernel_rfl) (fun _ _ _ h => h) (by kernel_rfl) ?_ (by assumption) ?_
          rotate_left
          · intro w hSw; (try dsimp only at hSw); first | (go_simp; done) | (go_simp; with_reducible rfl)
          try simp only [Act.put, List.setIfInBounds_toArray, List.set_cons_zero, List.set_cons_succ]
          refine takeL 5 (v := ?_) rfl (by kernel_rfl) (by kernel_rfl) (by kernel_rfl) (fun _ _ _ h => h) (by kernel_rfl) ?_ (by assumption) ?_
          rotate_left
          · intro w hSw; (try dsimp only at hSw); first | (go_simp; done) | (go_simp; with_reducible rfl)
          try simp only [Act.put, List.setIfInBounds_toArray, List.set_cons_zero, List.set_cons_succ]
          refine takeL 6 (v := ?_) rfl (by kernel_rfl) (by kernel_rfl) (by kernel_rfl) (fun _ _ _ h => h) (by kernel_rfl) ?_ (by assumption) ?_
          rotate_left
          · intro w hSw; (try dsimp only at hSw); first | (go_simp; done) | (go_simp; with_reducible rfl)
          try simp only [Act.put, List.setIfInBounds_toArray, List.set_cons_zero, List.set_cons_succ]
          refine takeL 7 (v := ?_) rfl (by kernel_rfl) (by kernel_rfl) (by kernel_rfl) (fun _ _ _ h => h) (by kernel_rfl) ?_ (by assumption) ?_
          rotate_left
          · intro w hSw; (try dsimp only at hSw); first | (go_simp; done) | (go_simp; with_reducible rfl)
          try simp only [Act.put, List.setIfInBounds_toArray, List.set_cons_zero, List.set_cons_succ]
          refine takeL 8 (v := ?_) rfl (by kernel_rfl) (by kernel_rfl) (by kernel_rfl) (fun _ _ _ h => h) (by kernel_rfl) ?_ (by assumption) ?_
          rotate_left
          · intro w hSw; (try dsimp only at hSw); first | (go_simp; done) | (go_simp; with_reducible rfl)
          try simp only [Act.put, List.setIfInBounds_toArray, List.set_cons_zero, List.set_cons_succ]
          refine takeL 9 (v := ?_) rfl (by kernel_rfl) (by kernel_rfl) (by kernel_rfl) (fun _ _ _ h => h) (by kernel_rfl) ?_ (by assumption) ?_
          rotate_left
          · intro w hSw; (try dsimp only at hSw); first | (go_simp; done) | (go_simp; with_reducible rfl)
          try simp only [Act.put, List.setIfInBounds_toArray, List.set_cons_zero, List.set_cons_succ]
          refine takeL 10 (v := ?_) rfl (by kernel_rfl) (by kernel_rfl) (by kernel_rfl) (fun _ _ _ h => h) (by kernel_rfl) ?_ (by assumption) ?_
          rotate_left
          · intro w hSw; (try dsimp only at hSw); first | (go_simp; done) | (go_simp; with_reducible rfl)
          try simp only [Act.put, List.setIfInBounds_toArray, List.set_cons_zero, List.set_cons_succ]
          refine takeL 11 (v := ?_) rfl (by kernel_rfl) (by kernel_rfl) (by kernel_rfl) (fun _ _ _ h => h) (by kernel_rfl) ?_ (by assumption) ?_
          rotate_left
          · intro w hSw; (try dsimp only at hSw); first | (go_simp; done) | (go_simp; with_reducible rfl)
          try simp only [Act.put, List.setIfInBounds_toArray, List.set_cons_zero, List.set_cons_succ]
          refine takeL 12 (v := ?_) rfl (by kernel_rfl) (by kernel_rfl) (by kernel_rfl) (fun _ _ _ h => h) (by kernel_rfl) ?_ (by assumption) ?_
          rotate_left
          · intro w hSw; (try dsimp only at hSw); first | (go_simp; done) | (go_simp; with_reducible rfl)
          try simp only [Act.put, List.setIfInBounds_toArray, List.set_cons_zero, List.set_cons_succ]
          refine takeL 13 (v := ?_) rfl (by kernel_rfl) (by kernel_rfl) (by kernel_rfl) (fun _ _ _ h => h) (by kernel_rfl) ?_ (by assumption) ?_
          rotate_left
          · intro w hSw; (try dsimp only at hSw); first | (go_simp; done) | (go_simp; with_reducible rfl)
          try simp only [Act.put, List.setIfInBounds_toArray, List.set_cons_zero, List.set_cons_succ]
          refine takeL 14 (v := ?_) rfl (by kernel_rfl) (by kernel_rfl) (by kernel_rfl) (fun _ _ _ h => h) (by kernel_rfl) ?_ (by assumption) ?_
          rotate_left
          · intro w hSw; (try dsimp only at hSw); first | (go_simp; done) | (go_simp; with_reducible rfl)
          try simp only [Act.put, List.setIfInBounds_toArray, List.set_cons_zero, List.set_cons_succ]
          refine takeL 15 (v := ?_) rfl (by kernel_rfl) (by kernel_rfl) (by kernel_rfl) (fun _ _ _ h => h) (by kernel_rfl) ?_ (by assumption) ?_
          rotate_left
          · intro w hSw; (try dsimp only at hSw); first | (go_simp; done) | (go_simp; with_reducible rfl)
          try simp only [Act.put, List.setIfInBounds_toArray, List.set_cons_zero, List.set_cons_succ]
          refine callL 16 rfl (by kernel_rfl) (fun K hK => ?_)
          go_simp
          refine (hhas _ hbd).mono ?_
          rintro e w4 ⟨rfl, b4⟩
          have B4 : Hid (Below wa.heap.size wa w4) := hbd.trans b4
          have HH4 := hheld _ B4.out
          clear b4
          go_wp2_with fail
          refine hK.out _ _ ?_ (fun hHeld => ?_)
          · first | exact HH6 | exact HH5 | exact HH4
          clear hK K
          try simp only [Act.put, List.setIfInBounds_toArray, List.set_cons_zero, List.set_cons_succ]
          refine takeL 17 (v := ?_) rfl (by kernel_rfl) (by kernel_rfl) (by kernel_rfl) (fun _ _ _ h => h) (by kernel_rfl) ?_ (by assumption) ?_
          rotate_left
          · intro w hSw; (try dsimp only at hSw); first | (go_simp; done) | (go_simp; with_reducible rfl)
          try simp only [Act.put, List.setIfInBounds_toArray, List.set_cons_zero, List.set_cons_succ]
          refine takeL 18 (v := ?_) rfl (by kernel_rfl) (by kernel_rfl) (by kernel_rfl) (fun _ _ _ h => h) (by kernel_rfl) ?_ (by assumption) ?_
          rotate_left
          · intro w hSw; (try dsimp only at hSw); first | (go_simp; done) | (go_simp; with_reducible rfl)
          try simp only [Act.put, List.setIfInBounds_toArray, List.set_cons_zero, List.set_cons_succ]
          refine takeL 19 (v := ?_) rfl (by kernel_rfl) (by kernel_rfl) (by kernel_rfl) (fun _ _ _ h => h) (by kernel_rfl) ?_ (by assumption) ?_
          rotate_left
          · intro w hSw; (try dsimp only at hSw); first | (go_simp; done) | (go_simp; with_reducible rfl)
          try simp only [Act.put, List.setIfInBounds_toArray, List.set_cons_zero, List.set_cons_succ]
          refine takeL 20 (v := ?_) rfl (by kernel_rfl) (by kernel_rfl) (by kernel_rfl) (fun _ _ _ h => h) (by kernel_rfl) ?_ (by assumption) ?_
          rotate_left
          · intro w hSw; (try dsimp only at hSw); first | (go_simp; done) | (go_simp; with_reducible rfl)
          try simp only [Act.put, List.setIfInBounds_toArray, List.set_cons_zero, List.set_cons_succ]
          refine takeL 21 (v := ?_) rfl (by kernel_rfl) (by kernel_rfl) (by kernel_rfl) (fun _ _ _ h => h) (by kernel_rfl) ?_ (by assumption) ?_
          rotate_left
          · intro w hSw; (try dsimp only at hSw); first | (go_simp; done) | (go_simp; with_reducible rfl)
          try simp only [Act.put, List.setIfInBounds_toArray, List.set_cons_zero, List.set_cons_succ]
          refine takeL 22 (v := ?_) rfl (by kernel_rfl) (by kernel_rfl) (by kernel_rfl) (fun _ _ _ h => h) (by kernel_rfl) ?_ (by assumption) ?_
          rotate_left
          · intro w hSw; (try dsimp only at hSw); first | (go_simp; done) | (go_simp; with_reducible rfl)
          try simp only [Act.put, List.setIfInBounds_toArray, List.set_cons_zero, List.set_cons_succ]
          refine takeL 23 (v := ?_) rfl (by kernel_rfl) (by kernel_rfl) (by kernel_rfl) (fun _ _ _ h => h) (by kernel_rfl) ?_ (by assumption) ?_
          rotate_left
          · intro w hSw; (try dsimp only at hSw); first | (go_simp; done) | (go_simp; with_reducible rfl)
          try simp only [Act.put, List.setIfInBounds_toArray, List.set_cons_zero, List.set_cons_succ]
          refine takeL 24 (v := ?_) rfl (by kernel_rfl) (by kernel_rfl) (by kernel_rfl) (fun _ _ _ h => h) (by kernel_rfl) ?_ (by assumption) ?_
          rotate_left
          · intro w hSw; (try dsimp only at hSw); first | (go_simp; done) | (go_simp; with_reducible rfl)
          try simp only [Act.put, List.setIfInBounds_toArray, List.set_cons_zero, List.set_cons_succ]
          refine takeL 25 (v := ?_) rfl (by kernel_rfl) (by kernel_rfl) (by kernel_rfl) (fun _ _ _ h => h) (by kernel_rfl) ?_ (by assumption) ?_
          rotate_left
          · intro w hSw; (try dsimp only at hSw); first | (go_simp; done) | (go_simp; with_reducible rfl)
          try simp only [Act.put, List.setIfInBounds_toArray, List.set_cons_zero, List.set_cons_succ]
          refine callL 26 rfl (by kernel_rfl) (fun K hK => ?_)
          go_simp
          refine (hbf _ B4.out).mono ?_
          rintro e w5 ⟨rfl, b5⟩
          have B5 : Hid (Below wa.heap.size wa w5) := B4.out.trans (b5.mono B4.out.size)
          have HH5 := hheld _ B5.out
          clear b5
          go_wp2_with fail
          refine hK.out _ _ ?_ (fun hHeld => ?_)
          · first | exact HH6 | exact HH5 | exact HH4
          clear hK K
          try simp only [Act.put, List.setIfInBounds_toArray, List.set_cons_zero, List.set_cons_succ]
          refine takeL 27 (v := ?_) rfl (by kernel_rfl) (by kernel_rfl) (by kernel_rfl) (fun _ _ _ h => h) (by kernel_rfl) ?_ (by assumption) ?_
          rotate_left
          · intro w hSw; (try dsimp only at hSw); first | (go_simp; done) | (go_simp; with_reducible rfl)
          try simp only [Act.put, List.setIfInBounds_toArray, List.set_cons_zero, List.set_cons_succ]
          refine takeL 28 (v := ?_) rfl (by kernel_rfl) (by kernel_rfl) (by kernel_rfl) (fun _ _ _ h => h) (by kernel_rfl) ?_ (by assumption) ?_
          rotate_left
          · intro w hSw; (try dsimp only at hSw); first | (go_simp; done) | (go_simp; with_reducible rfl)
          try simp only [Act.put, List.setIfInBounds_toArray, List.set_cons_zero, List.set_cons_succ]
          refine wpAnyH_done (by kernel_rfl) ?_ _
          refine NoPanic.normal ?_
          go_wp2_with fail
          go_roundw
          case rel => exact ⟨k + 1, HK1.out, by go_num, HBA.out.trans (B5.out.mono HBA.out.size), HQ4⟩
          case measure => have := HK1.out; simp [intOf]; omega
        · have HV : Hid (R = false) := HX3.out htx
          have htx1 : (tx.toList == f.toList) = false := by rw [sameS, decide_eq_false htx]
          clear HX1 HX2 HX3 HX4 hkl hjl
          go_wp2_with fail
          generalize hwa : wr.alloc (.cells #[.int .i64 (j : Int), .string tx] 68) = wa at CA LA ⊢
          rw [← HGA.out] at CA ⊢
          clear hwa
          have HBA : Hid (Below w.heap.size w wa) := HB.out.trans (LA.out.mono HB.out.size)
          have hbd : Below wa.heap.size wa wa.drew := (Below.refl _ _).drew
          have hhas : ∀ w', Below wa.heap.size wa w' → Calls Tryz.prog 40 #[.slice (some ⟨g, 0, none⟩) k cap, .int .i64 (j : Int)] w' fun e w'' => e = .returned (.bool false) ∧ Below w'.heap.size w' w'' := fun w' hb => hhas w' (LA.out.trans (hb.mono LA.out.size))
          have hbf : ∀ w', Below wa.heap.size wa w' → Calls Tryz.prog 41 #[.agg #[.string hp, .string hr, .int .i64 ht, .int .i64 hd, .int .i64 hn, .slice (some ⟨ig, 0, none⟩) im ic]] w' fun e w'' => e = .returned (.string f) ∧ Below w'.heap.size w' w'' := fun w' hb => hbf w' (LA.out.trans (hb.mono LA.out.size))
          replace d0 := (LA.out.cell (p := ⟨bg, j * 6, none⟩) hgl).trans d0
          replace d1 := (LA.out.cell (p := ⟨bg, j * 6 + 1, none⟩) hgl).trans d1
          replace d2 := (LA.out.cell (p := ⟨bg, j * 6 + 2, none⟩) hgl).trans d2
          replace d3 := (LA.out.cell (p := ⟨bg, j * 6 + 3, none⟩) hgl).trans d3
          replace d4 := (LA.out.cell (p := ⟨bg, j * 6 + 4, none⟩) hgl).trans d4
          replace d5 := (LA.out.cell (p := ⟨bg, j * 6 + 5, none⟩) hgl).trans d5
          replace hgl : bg < wa.heap.size := Nat.lt_of_lt_of_le hgl LA.out.size
          have hheld : ∀ w' : World, Below wa.heap.size wa w' → (fun w' => (w'.cell? ⟨ga, 0, none⟩ = some (.int .i64 (j : Int)) ∧ w'.cell? ⟨ga, 1, none⟩ = some (.string tx)) ∧ w'.cell? ⟨bg, j * 6, none⟩ = some (.string hp) ∧ w'.cell? ⟨bg, j * 6 + 1, none⟩ = some (.string hr) ∧ w'.cell? ⟨bg, j * 6 + 2, none⟩ = some (.int .i64 ht) ∧ w'.cell? ⟨bg, j * 6 + 3, none⟩ = some (.int .i64 hd) ∧ w'.cell? ⟨bg, j * 6 + 4, none⟩ = some (.int .i64 hn) ∧ w'.cell? ⟨bg, j * 6 + 5, none⟩ = some (.slice (some ⟨ig, 0, none⟩) im ic)) w' := fun w' hb => ⟨⟨(CA.out.call hb).cell 0, (CA.out.call hb).cell 1⟩, (hb.cell hgl).trans d0, (hb.cell hgl).trans d1, (hb.cell hgl).trans d2, (hb.cell hgl).trans d3, (hb.cell hgl).trans d4, (hb.cell hgl).trans d5⟩
          refine wp_region_noPanic ?_
          refine wp_region_held_drew (S := fun w' => (w'.cell? ⟨ga, 0, none⟩ = some (.int .i64 (j : Int)) ∧ w'.cell? ⟨ga, 1, none⟩ = some (.string tx)) ∧ w'.cell? ⟨bg, j * 6, none⟩ = some (.string hp) ∧ w'.cell? ⟨bg, j * 6 + 1, none⟩ = some (.string hr) ∧ w'.cell? ⟨bg, j * 6 + 2, none⟩ = some (.int .i64 ht) ∧ w'.cell? ⟨bg, j * 6 + 3, none⟩ = some (.int .i64 hd) ∧ w'.cell? ⟨bg, j * 6 + 4, none⟩ = some (.int .i64 hn) ∧ w'.cell? ⟨bg, j * 6 + 5, none⟩ = some (.slice (some ⟨ig, 0, none⟩) im ic)) (by kernel_rfl) (hheld _ hbd) (fun hHeld => ?_)
          refine takeL 0 (v := ?_) rfl (by kernel_rfl) (by kernel_rfl) (by kernel_rfl) (fun _ _ _ h => h) (by kernel_rfl) ?_ (by assumption) ?_
          rotate_left
          · intro w hSw; (try dsimp only at hSw); first | (go_simp; done) | (go_simp; with_reducible rfl)
          try simp only [Act.put, List.setIfInBounds_toArray, List.set_cons_zero, List.set_cons_succ]
          refine takeL 1 (v := ?_) rfl (by kernel_rfl) (by kernel_rfl) (by kernel_rfl) (fun _ _ _ h => h) (by kernel_rfl) ?_ (by assumption) ?_
          rotate_left
          · intro w hSw; (try dsimp only at hSw); first | (go_simp; done) | (go_simp; with_reducible rfl)
          try simp only [Act.put, List.setIfInBounds_toArray, List.set_cons_zero, List.set_cons_succ]
          refine takeL 2 (v := ?_) rfl (by kernel_rfl) (by kernel_rfl) (by kernel_rfl) (fun _ _ _ h => h) (by kernel_rfl) ?_ (by assumption) ?_
          rotate_left
          · intro w hSw; (try dsimp only at hSw); first | (go_simp; done) | (go_simp; with_reducible rfl)
          try simp only [Act.put, List.setIfInBounds_toArray, List.set_cons_zero, List.set_cons_succ]
          refine takeL 3 (v := ?_) rfl (by kernel_rfl) (by kernel_rfl) (by kernel_rfl) (fun _ _ _ h => h) (by kernel_rfl) ?_ (by assumption) ?_
          rotate_left
          · intro w hSw; (try dsimp only at hSw); first | (go_simp; done) | (go_simp; with_reducible rfl)
          try simp only [Act.put, List.setIfInBounds_toArray, List.set_cons_zero, List.set_cons_succ]
          refine takeL 4 (v := ?_) rfl (by kernel_rfl) (by kernel_rfl) (by kernel_rfl) (fun _ _ _ h => h) (by kernel_rfl) ?_ (by assumption) ?_
          rotate_left
          · intro w hSw; (try dsimp only at hSw); first | (go_simp; done) | (go_simp; with_reducible rfl)
          try simp only [Act.put, List.setIfInBounds_toArray, List.set_cons_zero, List.set_cons_succ]
          refine takeL 5 (v := ?_) rfl (by kernel_rfl) (by kernel_rfl) (by kernel_rfl) (fun _ _ _ h => h) (by kernel_rfl) ?_ (by assumption) ?_
          rotate_left
          · intro w hSw; (try dsimp only at hSw); first | (go_simp; done) | (go_simp; with_reducible rfl)
          try simp only [Act.put, List.setIfInBounds_toArray, List.set_cons_zero, List.set_cons_succ]
          refine takeL 6 (v := ?_) rfl (by kernel_rfl) (by kernel_rfl) (by kernel_rfl) (fun _ _ _ h => h) (by kernel_rfl) ?_ (by assumption) ?_
          rotate_left
          · intro w hSw; (try dsimp only at hSw); first | (go_simp; done) | (go_simp; with_reducible rfl)
          try simp only [Act.put, List.setIfInBounds_toArray, List.set_cons_zero, List.set_cons_succ]
          refine takeL 7 (v := ?_) rfl (by kernel_rfl) (by kernel_rfl) (by kernel_rfl) (fun _ _ _ h => h) (by kernel_rfl) ?_ (by assumption) ?_
          rotate_left
          · intro w hSw; (try dsimp only at hSw); first | (go_simp; done) | (go_simp; with_reducible rfl)
          try simp only [Act.put, List.setIfInBounds_toArray, List.set_cons_zero, List.set_cons_succ]
          refine takeL 8 (v := ?_) rfl (by kernel_rfl) (by kernel_rfl) (by kernel_rfl) (fun _ _ _ h => h) (by kernel_rfl) ?_ (by assumption) ?_
          rotate_left
          · intro w hSw; (try dsimp only at hSw); first | (go_simp; done) | (go_simp; with_reducible rfl)
          try simp only [Act.put, List.setIfInBounds_toArray, List.set_cons_zero, List.set_cons_succ]
          refine takeL 9 (v := ?_) rfl (by kernel_rfl) (by kernel_rfl) (by kernel_rfl) (fun _ _ _ h => h) (by kernel_rfl) ?_ (by assumption) ?_
          rotate_left
          · intro w hSw; (try dsimp only at hSw); first | (go_simp; done) | (go_simp; with_reducible rfl)
          try simp only [Act.put, List.setIfInBounds_toArray, List.set_cons_zero, List.set_cons_succ]
          refine takeL 10 (v := ?_) rfl (by kernel_rfl) (by kernel_rfl) (by kernel_rfl) (fun _ _ _ h => h) (by kernel_rfl) ?_ (by assumption) ?_
          rotate_left
          · intro w hSw; (try dsimp only at hSw); first | (go_simp; done) | (go_simp; with_reducible rfl)
          try simp only [Act.put, List.setIfInBounds_toArray, List.set_cons_zero, List.set_cons_succ]
          refine takeL 11 (v := ?_) rfl (by kernel_rfl) (by kernel_rfl) (by kernel_rfl) (fun _ _ _ h => h) (by kernel_rfl) ?_ (by assumption) ?_
          rotate_left
          · intro w hSw; (try dsimp only at hSw); first | (go_simp; done) | (go_simp; with_reducible rfl)
          try simp only [Act.put, List.setIfInBounds_toArray, List.set_cons_zero, List.set_cons_succ]
          refine takeL 12 (v := ?_) rfl (by kernel_rfl) (by kernel_rfl) (by kernel_rfl) (fun _ _ _ h => h) (by kernel_rfl) ?_ (by assumption) ?_
          rotate_left
          · intro w hSw; (try dsimp only at hSw); first | (go_simp; done) | (go_simp; with_reducible rfl)
          try simp only [Act.put, List.setIfInBounds_toArray, List.set_cons_zero, List.set_cons_succ]
          refine takeL 13 (v := ?_) rfl (by kernel_rfl) (by kernel_rfl) (by kernel_rfl) (fun _ _ _ h => h) (by kernel_rfl) ?_ (by assumption) ?_
          rotate_left
          · intro w hSw; (try dsimp only at hSw); first | (go_simp; done) | (go_simp; with_reducible rfl)
          try simp only [Act.put, List.setIfInBounds_toArray, List.set_cons_zero, List.set_cons_succ]
          refine takeL 14 (v := ?_) rfl (by kernel_rfl) (by kernel_rfl) (by kernel_rfl) (fun _ _ _ h => h) (by kernel_rfl) ?_ (by assumption) ?_
          rotate_left
          · intro w hSw; (try dsimp only at hSw); first | (go_simp; done) | (go_simp; with_reducible rfl)
          try simp only [Act.put, List.setIfInBounds_toArray, List.set_cons_zero, List.set_cons_succ]
          refine takeL 15 (v := ?_) rfl (by kernel_rfl) (by kernel_rfl) (by kernel_rfl) (fun _ _ _ h => h) (by kernel_rfl) ?_ (by assumption) ?_
          rotate_left
          · intro w hSw; (try dsimp only at hSw); first | (go_simp; done) | (go_simp; with_reducible rfl)
          try simp only [Act.put, List.setIfInBounds_toArray, List.set_cons_zero, List.set_cons_succ]
          refine callL 16 rfl (by kernel_rfl) (fun K hK => ?_)
          go_simp
          refine (hhas _ hbd).mono ?_
          rintro e w4 ⟨rfl, b4⟩
          have B4 : Hid (Below wa.heap.size wa w4) := hbd.trans b4
          have HH4 := hheld _ B4.out
          clear b4
          go_wp2_with fail
          refine hK.out _ _ ?_ (fun hHeld => ?_)
          · first | exact HH6 | exact HH5 | exact HH4
          clear hK K
          try simp only [Act.put, List.setIfInBounds_toArray, List.set_cons_zero, List.set_cons_succ]
          refine takeL 17 (v := ?_) rfl (by kernel_rfl) (by kernel_rfl) (by kernel_rfl) (fun _ _ _ h => h) (by kernel_rfl) ?_ (by assumption) ?_
          rotate_left
          · intro w hSw; (try dsimp only at hSw); first | (go_simp; done) | (go_simp; with_reducible rfl)
          try simp only [Act.put, List.setIfInBounds_toArray, List.set_cons_zero, List.set_cons_succ]
          refine takeL 18 (v := ?_) rfl (by kernel_rfl) (by kernel_rfl) (by kernel_rfl) (fun _ _ _ h => h) (by kernel_rfl) ?_ (by assumption) ?_
          rotate_left
          · intro w hSw; (try dsimp only at hSw); first | (go_simp; done) | (go_simp; with_reducible rfl)
          try simp only [Act.put, List.setIfInBounds_toArray, List.set_cons_zero, List.set_cons_succ]
          refine takeL 19 (v := ?_) rfl (by kernel_rfl) (by kernel_rfl) (by kernel_rfl) (fun _ _ _ h => h) (by kernel_rfl) ?_ (by assumption) ?_
          rotate_left
          · intro w hSw; (try dsimp only at hSw); first | (go_simp; done) | (go_simp; with_reducible rfl)
          try simp only [Act.put, List.setIfInBounds_toArray, List.set_cons_zero, List.set_cons_succ]
          refine takeL 20 (v := ?_) rfl (by kernel_rfl) (by kernel_rfl) (by kernel_rfl) (fun _ _ _ h => h) (by kernel_rfl) ?_ (by assumption) ?_
          rotate_left
          · intro w hSw; (try dsimp only at hSw); first | (go_simp; done) | (go_simp; with_reducible rfl)
          try simp only [Act.put, List.setIfInBounds_toArray, List.set_cons_zero, List.set_cons_succ]
          refine takeL 21 (v := ?_) rfl (by kernel_rfl) (by kernel_rfl) (by kernel_rfl) (fun _ _ _ h => h) (by kernel_rfl) ?_ (by assumption) ?_
          rotate_left
          · intro w hSw; (try dsimp only at hSw); first | (go_simp; done) | (go_simp; with_reducible rfl)
          try simp only [Act.put, List.setIfInBounds_toArray, List.set_cons_zero, List.set_cons_succ]
          refine takeL 22 (v := ?_) rfl (by kernel_rfl) (by kernel_rfl) (by kernel_rfl) (fun _ _ _ h => h) (by kernel_rfl) ?_ (by assumption) ?_
          rotate_left
          · intro w hSw; (try dsimp only at hSw); first | (go_simp; done) | (go_simp; with_reducible rfl)
          try simp only [Act.put, List.setIfInBounds_toArray, List.set_cons_zero, List.set_cons_succ]
          refine takeL 23 (v := ?_) rfl (by kernel_rfl) (by kernel_rfl) (by kernel_rfl) (fun _ _ _ h => h) (by kernel_rfl) ?_ (by assumption) ?_
          rotate_left
          · intro w hSw; (try dsimp only at hSw); first | (go_simp; done) | (go_simp; with_reducible rfl)
          try simp only [Act.put, List.setIfInBounds_toArray, List.set_cons_zero, List.set_cons_succ]
          refine takeL 24 (v := ?_) rfl (by kernel_rfl) (by kernel_rfl) (by kernel_rfl) (fun _ _ _ h => h) (by kernel_rfl) ?_ (by assumption) ?_
          rotate_left
          · intro w hSw; (try dsimp only at hSw); first | (go_simp; done) | (go_simp; with_reducible rfl)
          try simp only [Act.put, List.setIfInBounds_toArray, List.set_cons_zero, List.set_cons_succ]
          refine takeL 25 (v := ?_) rfl (by kernel_rfl) (by kernel_rfl) (by kernel_rfl) (fun _ _ _ h => h) (by kernel_rfl) ?_ (by assumption) ?_
          rotate_left
          · intro w hSw; (try dsimp only at hSw); first | (go_simp; done) | (go_simp; with_reducible rfl)
          try simp only [Act.put, List.setIfInBounds_toArray, List.set_cons_zero, List.set_cons_succ]
          refine callL 26 rfl (by kernel_rfl) (fun K hK => ?_)
          go_simp
          refine (hbf _ B4.out).mono ?_
          rintro e w5 ⟨rfl, b5⟩
          have B5 : Hid (Below wa.heap.size wa w5) := B4.out.trans (b5.mono B4.out.size)
          have HH5 := hheld _ B5.out
          clear b5
          go_wp2_with fail
          refine hK.out _ _ ?_ (fun hHeld => ?_)
          · first | exact HH6 | exact HH5 | exact HH4
          clear hK K
          try simp only [Act.put, List.setIfInBounds_toArray, List.set_cons_zero, List.set_cons_succ]
          refine takeL 27 (v := ?_) rfl (by kernel_rfl) (by kernel_rfl) (by kernel_rfl) (fun _ _ _ h => h) (by kernel_rfl) ?_ (by assumption) ?_
          rotate_left
          · intro w hSw; (try dsimp only at hSw); first | (go_simp; done) | (go_simp; with_reducible rfl)
          try simp only [Act.put, List.setIfInBounds_toArray, List.set_cons_zero, List.set_cons_succ]
          refine takeL 28 (v := ?_) rfl (by kernel_rfl) (by kernel_rfl) (by kernel_rfl) (fun _ _ _ h => h) (by kernel_rfl) ?_ (by assumption) ?_
          rotate_left
          · intro w hSw; (try dsimp only at hSw); first | (go_simp; done) | (go_simp; with_reducible rfl)
          try simp only [Act.put, List.setIfInBounds_toArray, List.set_cons_zero, List.set_cons_succ]
          refine wpAnyH_done (by kernel_rfl) ?_ _
          refine NoPanic.normal ?_
          go_wp2_with fail
          go_ret
          exact ⟨by rw [HV.out]; rfl, HBA.out.trans (B5.out.mono HBA.out.size)⟩
    · obtain rfl : k = n := by omega
      have HV : Hid (R = true) := HGOO.out HQ.out
      clear HBAD HGOO HQ
      go_wp2_with fail
      go_ret
      exact ⟨by rw [HV.out]; rfl, HB.out⟩

end Go.Proofs.YtphgjhakghblgaaGreatDoor

set_option linter.unusedVariables false
namespace Go.Proofs.YtphgjhakghblgaaGreatDoor
open Go.ChangeShapes Go.WideShapes Go.ChangeAt Go.RowKit Go.Deep

structure LBlk where
  h : HeadV
  a : Option Addr
  n : Nat
  cap : Nat
  zs : List ByteArray
instance : Inhabited LBlk := ⟨⟨default, none, 0, 0, []⟩⟩
def enL (b : LBlk) : List Value := [.string b.h.prev, .string b.h.root, .int .i64 b.h.time, .int .i64 b.h.diff, .int .i64 b.h.nonce, .slice b.a b.n b.cap]
theorem enL_len (b : LBlk) : (enL b).length = 6 := rfl
def wfL (W : World) (b : LBlk) : Prop := wfHead b.h ∧ IsTexts W b.a b.n b.cap b.zs
abbrev IsBlks (w : World) (a : Option Addr) (len cap : Nat) (l : List LBlk) : Prop := IsFlat enL (wfL w) 6 w a len cap l
theorem texts_below {w w' : World} {a : Option Addr} {len cap : Nat} {zs : List ByteArray} (h : IsTexts w a len cap zs) (hb : Below w.heap.size w w') : IsTexts w' a len cap zs := by
  rcases h with h1 | ⟨x, hx, h1, h2, h3, h4, h5⟩
  · exact .inl h1
  · refine .inr ⟨x, hx, h1, h2, h3, fun i hi => ?_, h5⟩
    have := h4 i hi
    rw [← this]
    exact hb.cell (cell_lt this)
theorem partsL {cs : List Value} {h : HeadV} {b : Value} (hl : cs.length = 6) (h0 : (cs.drop 0).take 5 = enHead h) (h1 : (cs.drop 5).take 1 = [b]) : cs = enHead h ++ [b] := by
  have e : cs = (cs.drop 0).take 5 ++ (cs.drop 5).take 1 := by
    match cs, hl with
    | [x0, x1, x2, x3, x4, x5], _ => rfl
  rw [e, h0, h1]
set_option maxRecDepth 100000 in
theorem invL {H : Type} {enc : TypeId × Value → H} {W : World} {base : Nat} {held : Bool} (n : Nat) (cs : List Value) (y : DataW H × List MemPlace) (h : DataW.trod enc Tryz.prog W base (fun _ => true) held n 62 cs = some y) (hl : cs.length = 6) : ∃ v : LBlk, cs = enL v ∧ wfL W v := by
  obtain ⟨xs, n, _, _, _, hlen, hx⟩ := DataW.trod_struct Tryz.underlying62 h
  match xs, hlen with
  | [y0, y1], _ =>
    have g0 := hx 0 _ rfl
    have g1 := hx 1 _ rfl
    replace g0 : DataW.trod enc Tryz.prog W base (fun _ => true) held n 59 ((cs.drop 0).take (Tryz.prog.cellsOf 59)) = some y0 := g0
    replace g1 : DataW.trod enc Tryz.prog W base (fun _ => true) held n 60 ((cs.drop 5).take (Tryz.prog.cellsOf 60)) = some y1 := g1
    rw [sizeHead] at g0
    rw [cellsStrs] at g1
    obtain ⟨x, hx0, hxw⟩ := invHead _ _ _ g0 (by rw [List.length_take, List.length_drop, hl]; decide)
    rcases open_strings Tryz.underlying60 Tryz.underlying9 (by kernel_rfl) g1 with ⟨hcs1, _⟩ | ⟨a, l, c, zs, hcs1, _, hl1, hm, hz, _, hcell, hwz⟩
    · exact ⟨⟨x, none, 0, 0, []⟩, partsL hl hx0 hcs1, hxw, .inl ⟨rfl, rfl, rfl, rfl⟩⟩
    · exact ⟨⟨x, some a, l, c, zs⟩, partsL hl hx0 hcs1, hxw, .inr ⟨a, rfl, hl1, hm, by simpa using hz, hcell, hwz⟩⟩
theorem open_blocks {H : Type} {enc : TypeId × Value → H} {W : World} {base : Nat} {held : Bool} {a : Option Addr} {len cap : Nat} {d : DataW H} {p : List MemPlace} (h : DataW.Trod enc Tryz.prog W base (fun _ => true) held 22 (.slice a len cap) d p) : ∃ l : List LBlk, IsBlks W a len cap l :=
  open_flat enL (wfL W) Tryz.underlying22 cellsLBlock (fun n cs y h1 h2 => invL n cs y h1 h2) h
theorem cellsL {w : World} {x : Addr} {b : LBlk} (h : ∀ j, j < 6 → w.cell? (x.add j) = (enL b)[j]?) : w.cell? x = some (.string b.h.prev) ∧ w.cell? ⟨x.block, x.off + 1, none⟩ = some (.string b.h.root) ∧ w.cell? ⟨x.block, x.off + 2, none⟩ = some (.int .i64 b.h.time) ∧ w.cell? ⟨x.block, x.off + 3, none⟩ = some (.int .i64 b.h.diff) ∧ w.cell? ⟨x.block, x.off + 4, none⟩ = some (.int .i64 b.h.nonce) ∧ w.cell? ⟨x.block, x.off + 5, none⟩ = some (.slice b.a b.n b.cap) := by
  exact ⟨h 0 (by decide), h 1 (by decide), h 2 (by decide), h 3 (by decide), h 4 (by decide), h 5 (by decide)⟩

def SzQ (zs : List ByteArray) (len : Nat) (e : Ending) : Prop := e = .returned (.int .i64 (-1)) ∨ ∃ r : Nat, e = .returned (.int .i64 (r : Int)) ∧ r ≤ 1048576 ∧ len ≤ 1048576 ∧ ∀ i, i < len → (zs.getD i ByteArray.empty).size ≤ 1048576
set_option maxHeartbeats 1000000 in
set_option maxRecDepth 100000 in
theorem szStrsQ (r0 : Nat) (hr0 : r0 ≤ 1048576) (a : Option Addr) (len cap : Nat) (zs : List ByteArray) (w : World) (h0 : IsTexts w a len cap zs) :
    Calls Tryz.prog 45 #[.slice a len cap, .int .i64 (r0 : Int)] w fun e w' => w = w' ∧ SzQ zs len e := by
  by_cases hl : (r0 : Int) < (len : Int)
  · have hneg : (r0 : Int) - (len : Int) < 0 := by omega
    have hlm : len ≤ 140737488355328 ∨ True := .inr trivial
    have hcap : len ≤ maxLen := by
      rcases h0 with ⟨_, hl0, _⟩ | ⟨x, _, hlc, hm, _⟩
      · omega
      · omega
    unfold maxLen at hcap
    have hwr : IntKind.i64.wrap ((r0 : Int) - (len : Int)) = (r0 : Int) - (len : Int) := by rw [IntKind.wrap_i64]; omega
    clear h0 hlm
    go_enter Tryz.func45, Tryz.ntmps45
    go_wp2
    go_ret
    exact ⟨rfl, .inl rfl⟩
  · have hn : len ≤ 1048576 := by omega
    have HF : Hid (∀ k, k < len → ∃ x : Addr, a = some x ∧ w.cell? (x.add k) = some (.string (zs.getD k ByteArray.empty)) ∧ (zs.getD k ByteArray.empty).size ≤ maxLen) := by
      intro k hk
      rcases h0 with ⟨_, hl, _⟩ | ⟨x, hx, hlc, _, hzl, hcell, hsz⟩
      · omega
      · refine ⟨x, hx, hcell k (by omega), hsz _ ?_⟩
        have : k < zs.length := by omega
        simp [List.getElem?_eq_getElem this]
    have hwr : IntKind.i64.wrap ((r0 : Int) - (len : Int)) = (r0 : Int) - (len : Int) := by rw [IntKind.wrap_i64]; omega
    have hneg : ¬ (r0 : Int) - (len : Int) < 0 := by omega
    clear h0
    go_enter Tryz.func45, Tryz.ntmps45
    go_wp2
    go_loop [1, 5] (fun l i => ∃ k r : Nat, k ≤ len ∧ r ≤ 1048576 ∧ l = .int .i64 (r : Int) ∧ i = .int .i64 (k : Int) ∧ Hid (∀ j, j < k → (zs.getD j ByteArray.empty).size ≤ 1048576)) (fun _ i => len - (intOf i).toNat)
    case atStart => exact ⟨0, r0 - len, by omega, by omega, by show Value.int .i64 _ = Value.int .i64 _; congr 1; omega, rfl, fun j hj => by omega⟩
    case round =>
      obtain ⟨k, r, hk, hr, rfl, rfl, HA⟩ := hrel
      by_cases hlt : k < len
      · obtain ⟨x, rfl, hc, hz⟩ := HF.out k hlt
        have HK : Hid (k + 1 ≤ len) := hlt
        have HZ : Hid (∀ z : ByteArray, z = zs.getD k ByteArray.empty → z.size ≤ 1048576 → ∀ j, j < k + 1 → (zs.getD j ByteArray.empty).size ≤ 1048576) := by
          intro z hz1 hz2 j hj
          rcases Nat.lt_or_ge j k with h' | h'
          · exact HA.out j h'
          · obtain rfl : j = k := by omega
            rw [← hz1]; exact hz2
        obtain ⟨z, hze⟩ : ∃ z, z = zs.getD k ByteArray.empty := ⟨_, rfl⟩
        rw [← hze] at hc hz
        have HE : Hid (z = zs.getD k ByteArray.empty) := hze
        unfold maxLen at hz
        clear hze
        have lk : (k : Int) < (len : Int) := by omega
        by_cases hneg2 : (r : Int) - (z.size : Int) < 0
        · go_wp2_with fail
          go_ret
          exact ⟨rfl, .inl rfl⟩
        · have HS : Hid (z.size ≤ r) := by show _ ≤ _; omega
          go_wp2_with fail
          go_round
          case rel => exact ⟨k + 1, r - z.size, HK.out, by omega, by have := HS.out; show Value.int .i64 _ = Value.int .i64 _; congr 1; omega, by go_num, HZ.out z HE.out (by have := HS.out; omega)⟩
          case measure => have := HK.out; simp [intOf]; omega
      · go_wp2_with fail
        go_ret
        exact ⟨rfl, .inr ⟨r, rfl, hr, hn, by exact fun i hi => HA.out i (by omega)⟩⟩

theorem infoBlkL : (Tryz.prog.info? 72).map (fun i => (i.zero, i.size, i.bytes)) = some (some (.agg #[.string ⟨#[]⟩, .string ⟨#[]⟩, .int .i64 0, .int .i64 0, .int .i64 0, .slice none 0 0]), 6, 80) := by kernel_rfl
/-- What the measure of a block tells. -/
def smallL (b : LBlk) : Prop := smallHead b.h ∧ b.n ≤ 1048576 ∧ ∀ i, i < b.n → (b.zs.getD i ByteArray.empty).size ≤ 1048576
set_option maxHeartbeats 1000000 in
set_option maxRecDepth 100000 in
theorem szBlkR (r0 : Nat) (hr0 : r0 ≤ 1048576) (h : HeadV) (a : Option Addr) (len cap : Nat) (zs : List ByteArray) (w : World) (hw : wfHead h) (h0 : IsTexts w a len cap zs) :
    Calls Tryz.prog 29 #[blockVal h (.slice a len cap), .int .i64 (r0 : Int)] w fun e w' => Below w.heap.size w w' ∧ (e = .returned (.int .i64 (-1)) ∨ ∃ q : Nat, e = .returned (.int .i64 (q : Int)) ∧ q ≤ 1048576 ∧ smallL ⟨h, a, len, cap, zs⟩) := by
  unfold blockVal
  have hsz := fun w' => szHead1 h r0 w' hr0 hw
  have B0 : Hid (CBk _ w.heap.size 62 #[.string h.prev, .string h.root, .int .i64 h.time, .int .i64 h.diff, .int .i64 h.nonce, .slice a len cap]) := CBk.new w 62 #[.string h.prev, .string h.root, .int .i64 h.time, .int .i64 h.diff, .int .i64 h.nonce, .slice a len cap]
  have L0 : Hid (Below w.heap.size w (w.alloc (.cells #[.string h.prev, .string h.root, .int .i64 h.time, .int .i64 h.diff, .int .i64 h.nonce, .slice a len cap] 62))) := (Below.refl _ w).alloc (Nat.le_refl _) _
  have HIT : Hid (∀ w', Below w.heap.size w w' → IsTexts w' a len cap zs) := fun w' hb => texts_below h0 hb
  clear hw h0
  go_enter Tryz.func29, Tryz.ntmps29
  go_wp2_with fail
  refine (hsz _).mono ?_
  rintro e w1 ⟨b1, rfl | ⟨q, rfl, hq, hsm⟩⟩
  · go_wp2_with fail
    go_ret
    exact ⟨L0.out.trans (b1.mono L0.out.size), .inl rfl⟩
  have L1 : Hid (Below w.heap.size w w1) := L0.out.trans (b1.mono L0.out.size)
  have B1 := (B0.out.call b1).six
  obtain ⟨c0, c1, c2, c3, c4, c5, _⟩ := B1
  have HSM : Hid (smallHead h) := hsm
  have hq0 : ¬ (q : Int) < 0 := by omega
  clear hsm B0 L0 b1 hsz
  go_wp2_with fail
  refine (szStrsQ q (by omega) a len cap zs _ (HIT.out _ L1.out)).mono ?_
  rintro e w2 ⟨rfl, hok⟩
  rcases hok with rfl | ⟨r, rfl, hr, h1, h2⟩
  · go_wp2_with fail
    go_ret
    exact ⟨L1.out, .inl rfl⟩
  · have HSZ : Hid (smallL ⟨h, a, len, cap, zs⟩) := ⟨HSM.out, h1, h2⟩
    have hr0 : ¬ (r : Int) < 0 := by omega
    clear h2
    go_wp2_with fail
    go_ret
    exact ⟨L1.out, .inr ⟨r, rfl, by omega, HSZ.out⟩⟩

set_option maxHeartbeats 1000000 in
set_option maxRecDepth 100000 in
theorem szBlks (r0 : Nat) (hr0 : r0 ≤ 1048576) (a : Option Addr) (len cap : Nat) (ls : List LBlk) (w : World) (h : IsBlks w a len cap ls) :
    Calls Tryz.prog 15 #[.slice a len cap, .int .i64 (r0 : Int)] w fun e w' => Below w.heap.size w w' ∧ (e = .returned (.int .i64 (-1)) ∨ ∃ r : Nat, e = .returned (.int .i64 (r : Int)) ∧ r ≤ 1048576 ∧ len ≤ 1048576 ∧ ∀ i, i < len → smallL (ls.getD i default)) := by
  have HP : Hid (IsBlks w a len cap ls) := h
  have hlm : len ≤ maxLen := h.max
  unfold maxLen at hlm
  have hw : IntKind.i64.wrap ((r0 : Int) - (len : Int)) = (r0 : Int) - (len : Int) := by rw [IntKind.wrap_i64]; omega
  clear h
  by_cases hl : r0 < len
  · have hl' : (r0 : Int) - (len : Int) < 0 := by omega
    go_enter Tryz.func15, Tryz.ntmps15
    go_wp2_with fail
    go_ret
    exact ⟨Below.refl _ _, .inl rfl⟩
  · have hl' : ¬ (r0 : Int) - (len : Int) < 0 := by omega
    go_enter Tryz.func15, Tryz.ntmps15
    go_wp2_with fail
    clear hw hl'
    go_loopw [1, 5] (fun l i wr => ∃ (r k : Nat), k ≤ len ∧ r ≤ 1048576 ∧ i = .int .i64 (k : Int) ∧ l = .int .i64 (r : Int) ∧ Hid (Below w.heap.size w wr) ∧ Hid (∀ i, i < k → smallL (ls.getD i default))) (fun _ i _ => len - (intOf i).toNat)
    case atStart => exact ⟨r0 - len, 0, by omega, by omega, rfl, by show Value.int .i64 _ = Value.int .i64 _; congr 1; omega, Below.refl _ _, fun i hi => by omega⟩
    case round =>
      obtain ⟨r, k, hk, hr, rfl, rfl, HB, HS⟩ := hrel
      by_cases hlt : k < len
      · obtain ⟨x, rfl, hp, hwf⟩ := HP.out.at enL_len HB.out k hlt
        obtain ⟨c0, c1, c2, c3, c4, c5⟩ := cellsL hp
        have lk : (k : Int) < (len : Int) := by omega
        have HK : Hid (k + 1 ≤ len) := hlt
        have HN : Hid (smallL (ls.getD k default) → ∀ i, i < k + 1 → smallL (ls.getD i default)) := by
          intro h1 i hi
          rcases Nat.lt_or_ge i k with h' | h'
          · exact HS.out i h'
          · obtain rfl : i = k := by omega
            exact h1
        clear hp
        generalize ls.getD k default = b at c0 c1 c2 c3 c4 c5 hwf HN
        obtain ⟨p, ba, bn, bc, bz⟩ := b
        have hsb := szBlkR r hr p ba bn bc bz wr hwf.1 (texts_below hwf.2 HB.out)
        unfold blockVal at hsb
        dsimp only at c0 c1 c2 c3 c4 c5
        clear hwf
        go_wp2_with fail
        refine hsb.mono ?_
        rintro e w1 ⟨b1, rfl | ⟨q, rfl, hq, hps⟩⟩
        · go_wp2_with fail
          go_ret
          exact ⟨HB.out.trans (b1.mono HB.out.size), .inl rfl⟩
        · have HQ2 : Hid (∀ i, i < k + 1 → smallL (ls.getD i default)) := HN.out hps
          clear HN hps hsb
          have hq0 : ¬ (q : Int) < 0 := by omega
          go_wp2_with fail
          go_roundw
          case rel => exact ⟨q, k + 1, HK.out, by omega, by go_num, rfl, HB.out.trans (b1.mono HB.out.size), HQ2⟩
          case measure => have := HK.out; simp [intOf]; omega
      · go_wp2_with fail
        go_ret
        exact ⟨HB.out, .inr ⟨r, rfl, by omega, by omega, fun i hi => HS.out i (by omega)⟩⟩

def zeroL : LBlk := ⟨zeroHead, none, 0, 0, []⟩
def toL (b : BlkV) : LBlk := ⟨b.h, some ⟨b.g, 0, none⟩, b.n, b.cap, b.ss⟩
abbrev RowL (w : World) (g : Nat) (l : List LBlk) : Prop := RowF enL 72 w g l
theorem makeL (n : Nat) (hn : n ≤ 1048576) (w : World) : (Instr.makeSlice 29 (.int .i64 (n : Int)) (.int .i64 (n : Int))).run Tryz.prog w = .ok (.slice (some ⟨w.heap.size, 0, none⟩) n n) (w.alloc (.cells ((List.replicate n zeroL).flatMap enL).toArray 72)) := by
  obtain ⟨i, hi, hz, hs, hb⟩ := info3 infoBlkL
  have hb' : (i.bytes : Int) * (n : Int) ≤ 281474976710656 := by rw [hb]; omega
  have hr := run_make (P := Tryz.prog) w 29 72 i _ Tryz.underlying29 hi hz .i64 .i64 (n : Int) (n : Int) (by omega) (by omega) hb' (by omega)
  simp only [Int.toNat_natCast, hs, Value.cells] at hr
  rw [← made_flat 6 enL enL_len (by decide) zeroL n]
  exact hr
theorem RowL.put {w : World} {g : Nat} {l : List LBlk} (h : RowL w g l) (i : Nat) (hi : i < l.length) (b : LBlk) :
    RowL ((((((w.setCell ⟨g, i * 6, none⟩ (.string b.h.prev)).setCell ⟨g, i * 6 + 1, none⟩ (.string b.h.root)).setCell ⟨g, i * 6 + 2, none⟩ (.int .i64 b.h.time)).setCell ⟨g, i * 6 + 3, none⟩ (.int .i64 b.h.diff)).setCell ⟨g, i * 6 + 4, none⟩ (.int .i64 b.h.nonce)).setCell ⟨g, i * 6 + 5, none⟩ (.slice b.a b.n b.cap)) g (l.set i b) := by
  show _ = _
  rw [← flat_put 6 enL enL_len l i b hi]
  exact (rowSet (rowSet (rowSet (rowSet (rowSet (rowSet h _) _) _) _) _) _)
theorem toL_flat (cs : List BlkV) : (cs.map toL).flatMap enL = cs.flatMap enBlk := by
  induction cs with
  | nil => rfl
  | cons c cs ih => rw [List.map_cons, List.flatMap_cons, List.flatMap_cons, ih]; rfl
/-- What is handed in, block by block: the head, the items. -/
def ptsL (ls : List LBlk) : List (HeadV × List ByteArray) := ls.map fun b => (b.h, b.zs.take b.n)
theorem ptsL_take {ls : List LBlk} {k : Nat} (hk : k < ls.length) : ptsL (ls.take (k + 1)) = ptsL (ls.take k) ++ [((ls.getD k default).h, (ls.getD k default).zs.take (ls.getD k default).n)] := by
  unfold ptsL
  rw [List.take_add_one, List.getElem?_eq_getElem hk, List.map_append]
  simp [List.getElem?_eq_getElem hk]
/-- The copy of a list of blocks: in memory of its own. -/
structure CopyB (B g n : Nat) (ls : List LBlk) (cs : List BlkV) (w : World) : Prop where
  row : RowF enBlk 72 w g cs
  len : n = cs.length
  pts : cs.map (fun b => (b.h, b.ss)) = ptsL ls
  items : ∀ c ∈ cs, RowS w c.g c.ss ∧ c.n = c.ss.length ∧ c.cap = c.n ∧ g < c.g
  lo : B ≤ g
theorem CopyB.below {B g n : Nat} {ls : List LBlk} {cs : List BlkV} {w w' : World} (h : CopyB B g n ls cs w) (hb : Below w.heap.size w w') : CopyB B g n ls cs w' :=
  ⟨h.row.below hb h.row.lt, h.len, h.pts, fun c hc => ⟨(h.items c hc).1.below hb (h.items c hc).1.lt, (h.items c hc).2⟩, h.lo⟩
theorem CopyB.at {B g n : Nat} {ls : List LBlk} {cs : List BlkV} {w : World} (h : CopyB B g n ls cs w) : AtBlk w g cs := h.row.at 6 enBlk_len
theorem CopyB.its {B g n : Nat} {ls : List LBlk} {cs : List BlkV} {w : World} (h : CopyB B g n ls cs w) : ∀ c ∈ cs, ItemsAt w c := fun c hc => ⟨(h.items c hc).1.at, (h.items c hc).2.1⟩

set_option maxHeartbeats 2000000 in
set_option maxRecDepth 100000 in
theorem toBlks (a : Option Addr) (len cap : Nat) (ls : List LBlk) (w w0 : World) (h0 : IsBlks w0 a len cap ls) (hw : Below w0.heap.size w0 w) (hn : len ≤ 1048576) (hs : ∀ i, i < len → smallL (ls.getD i default)) :
    Calls Tryz.prog 19 #[.slice a len cap] w fun e w' => ∃ cs, e = .returned (.slice (some ⟨w.heap.size, 0, none⟩) len len) ∧ CopyB w.heap.size w.heap.size len ls cs w' ∧ Below w.heap.size w w' := by
  have hmk := makeL len hn w
  have HP : Hid (IsBlks w0 a len cap ls) := h0
  have HW : Hid (Below w0.heap.size w0 w) := hw
  have HLn : Hid (ls.length = len) := h0.len
  have HSM : Hid (∀ i, i < len → smallL (ls.getD i default)) := hs
  have A0 : Hid (RowL (w.alloc (.cells ((List.replicate len zeroL).flatMap enL).toArray 72)) w.heap.size (([] : List BlkV).map toL ++ List.replicate (len - 0) zeroL)) := heap_alloc_new w _
  have B0 : Hid (Below w.heap.size w (w.alloc (.cells ((List.replicate len zeroL).flatMap enL).toArray 72))) := (Below.refl _ w).alloc (Nat.le_refl _) _
  clear h0 hw hs
  generalize w.alloc (.cells ((List.replicate len zeroL).flatMap enL).toArray 72) = wm at hmk A0 B0
  go_enter Tryz.func19, Tryz.ntmps19
  go_wp2_with fail
  clear hmk
  go_loopw [4] (fun i wr => ∃ (k : Nat) (cs : List BlkV), k ≤ len ∧ i = .int .i64 (k : Int) ∧ Hid (cs.length = k ∧ RowL wr w.heap.size (cs.map toL ++ List.replicate (len - k) zeroL) ∧ cs.map (fun b => (b.h, b.ss)) = ptsL (ls.take k) ∧ ∀ c ∈ cs, RowS wr c.g c.ss ∧ c.n = c.ss.length ∧ c.cap = c.n ∧ w.heap.size < c.g) ∧ Hid (Below w.heap.size w wr)) (fun i _ => len - (intOf i).toNat)
  case atStart => exact ⟨0, [], by omega, rfl, ⟨rfl, A0.out, rfl, fun c hc => by cases hc⟩, B0⟩
  case round =>
    clear A0 B0
    obtain ⟨k, cs, hk, rfl, HR, HB⟩ := hrel
    by_cases hlt : k < len
    · obtain ⟨x, rfl, hp, hwf⟩ := HP.out.at enL_len (HW.out.trans (HB.out.mono HW.out.size)) k hlt
      obtain ⟨c0, c1, c2, c3, c4, c5⟩ := cellsL hp
      have HK : Hid (k + 1 ≤ len) := hlt
      have HPT : Hid (ptsL (ls.take (k + 1)) = ptsL (ls.take k) ++ [((ls.getD k default).h, (ls.getD k default).zs.take (ls.getD k default).n)]) := ptsL_take (by rw [HLn.out]; exact hlt)
      have HKL : Hid (k < (cs.map toL ++ List.replicate (len - k) zeroL).length) := by show _ < _; simp [HR.out.1]; omega
      have hsmk := HSM.out k hlt
      have lk : (k : Int) < (len : Int) := by omega
      have hgl : w.heap.size < wr.heap.size := HR.out.2.1.lt
      clear hp
      generalize ls.getD k default = b at c0 c1 c2 c3 c4 c5 hwf HPT hsmk
      obtain ⟨p, ba, bn, bc, bz⟩ := b
      have htb := toBlock1 p ba bn bc bz wr w0 hwf.2 (HW.out.trans (HB.out.mono HW.out.size)) hsmk.2.1
      have HBL : Hid (bn = (bz.take bn).length) := hwf.2.len
      unfold blockVal at htb
      dsimp only at c0 c1 c2 c3 c4 c5 HPT
      clear hwf hsmk
      go_wp2_with fail
      refine htb.mono ?_
      rintro e w1 ⟨g1, rfl, r1, hg1, b1⟩
      unfold blockVal
      have HR1 : Hid (RowL w1 w.heap.size (cs.map toL ++ List.replicate (len - k) zeroL)) := HR.out.2.1.below b1 HR.out.2.1.lt
      have HB1 : Hid (Below w.heap.size w w1) := HB.out.trans (b1.mono HB.out.size)
      have HI1 : Hid (∀ c ∈ cs ++ [(⟨p, g1, bn, bn, bz.take bn⟩ : BlkV)], RowS w1 c.g c.ss ∧ c.n = c.ss.length ∧ c.cap = c.n ∧ w.heap.size < c.g) := by
        intro c hc
        rcases List.mem_append.1 hc with h' | h'
        · have := HR.out.2.2.2 c h'
          exact ⟨this.1.below b1 this.1.lt, this.2⟩
        · rw [List.mem_singleton.1 h']
          exact ⟨r1, HBL.out, rfl, by show w.heap.size < g1; omega⟩
      have HCL : Hid (cs.length = k) := HR.out.1
      have HCP : Hid ((cs ++ [(⟨p, g1, bn, bn, bz.take bn⟩ : BlkV)]).map (fun b : BlkV => (b.h, b.ss)) = ptsL (ls.take (k + 1))) := by
        show _ = _
        rw [HPT.out, List.map_append, HR.out.2.2.1]
        rfl
      have HSE : Hid ((cs.map toL ++ List.replicate (len - k) zeroL).set k ⟨p, some ⟨g1, 0, none⟩, bn, bn, bz.take bn⟩ = (cs ++ [(⟨p, g1, bn, bn, bz.take bn⟩ : BlkV)]).map toL ++ List.replicate (len - (k + 1)) zeroL) := by
        show _ = _
        have e1 : (cs.map toL).length = k := by rw [List.length_map]; exact HR.out.1
        rw [List.set_append_right _ _ (by omega), e1, Nat.sub_self, show len - k = (len - (k + 1)) + 1 from by omega, List.replicate_succ, List.set_cons_zero, List.map_append, List.append_assoc]
        rfl
      have f0 := HR1.out.frozen (k * 6)
      have f1 := HR1.out.frozen (k * 6 + 1)
      have f2 := HR1.out.frozen (k * 6 + 2)
      have f3 := HR1.out.frozen (k * 6 + 3)
      have f4 := HR1.out.frozen (k * 6 + 4)
      have f5 := HR1.out.frozen (k * 6 + 5)
      have d0 := (HR1.out.at 6 enL_len).2 k 0 HKL.out (by decide)
      have d1 := (HR1.out.at 6 enL_len).2 k 1 HKL.out (by decide)
      have d2 := (HR1.out.at 6 enL_len).2 k 2 HKL.out (by decide)
      have d3 := (HR1.out.at 6 enL_len).2 k 3 HKL.out (by decide)
      have d4 := (HR1.out.at 6 enL_len).2 k 4 HKL.out (by decide)
      have d5 := (HR1.out.at 6 enL_len).2 k 5 HKL.out (by decide)
      have HPU := RowL.put HR1.out k HKL.out ⟨p, some ⟨g1, 0, none⟩, bn, bn, bz.take bn⟩
      dsimp only at HPU
      have HPU2 : Hid _ := HPU
      have HLL : Hid (w.heap.size < w1.heap.size) := by show _ < _; have := b1.size; omega
      clear HPU
      generalize (cs.map toL ++ List.replicate (len - k) zeroL).getD k default = o at d0 d1 d2 d3 d4 d5
      obtain ⟨op, oa, on, oc, oz⟩ := o
      simp only [enL, List.getElem?_cons_zero, List.getElem?_cons_succ, Nat.add_zero] at d0 d1 d2 d3 d4 d5
      have HIK : Hid (∀ (j : Nat) (v : Value) (w2 : World), (∀ c ∈ cs ++ [(⟨p, g1, bn, bn, bz.take bn⟩ : BlkV)], RowS w2 c.g c.ss ∧ c.n = c.ss.length ∧ c.cap = c.n ∧ w.heap.size < c.g) → (∀ c ∈ cs ++ [(⟨p, g1, bn, bn, bz.take bn⟩ : BlkV)], RowS (w2.setCell ⟨w.heap.size, j, none⟩ v) c.g c.ss ∧ c.n = c.ss.length ∧ c.cap = c.n ∧ w.heap.size < c.g)) := fun j v w2 hh c hc => ⟨rowS_other (hh c hc).1 (by have := (hh c hc).2.2.2; omega) j v, (hh c hc).2⟩
      clear b1 c0 c1 c2 c3 c4 c5 htb HR r1
      go_wp2_with fail
      go_roundw
      case rel =>
        refine ⟨k + 1, cs ++ [(⟨p, g1, bn, bn, bz.take bn⟩ : BlkV)], HK.out, by go_num, ⟨by rw [List.length_append, HCL.out]; rfl, ?_, HCP.out, ?_⟩, ((((((HB1.out.setCell (p := ⟨w.heap.size, k * 6, none⟩) (Nat.le_refl _) _).setCell (p := ⟨w.heap.size, k * 6 + 1, none⟩) (Nat.le_refl _) _).setCell (p := ⟨w.heap.size, k * 6 + 2, none⟩) (Nat.le_refl _) _).setCell (p := ⟨w.heap.size, k * 6 + 3, none⟩) (Nat.le_refl _) _).setCell (p := ⟨w.heap.size, k * 6 + 4, none⟩) (Nat.le_refl _) _).setCell (p := ⟨w.heap.size, k * 6 + 5, none⟩) (Nat.le_refl _) _)⟩
        · have := HPU2.out
          rw [HSE.out] at this
          exact this
        · exact HIK.out _ _ _ (HIK.out _ _ _ (HIK.out _ _ _ (HIK.out _ _ _ (HIK.out _ _ _ (HIK.out _ _ _ (HI1.out))))))
      case measure => have := HK.out; simp [intOf]; omega
    · obtain rfl : k = len := by omega
      have HF : Hid (CopyB w.heap.size w.heap.size k ls cs wr) := by
        refine ⟨?_, HR.out.1.symm, ?_, HR.out.2.2.2, Nat.le_refl _⟩
        · have := HR.out.2.1
          rw [Nat.sub_self, List.replicate_zero, List.append_nil] at this
          unfold RowL RowF at this
          rw [toL_flat] at this
          exact this
        · rw [HR.out.2.2.1, List.take_of_length_le (by rw [HLn.out]; exact Nat.le_refl _)]
      go_wp2_with fail
      go_ret
      exact ⟨cs, rfl, HF.out, HB.out⟩

set_option maxHeartbeats 2000000 in
set_option maxRecDepth 100000 in
theorem eqBlks (g1 g2 n c1 c2 : Nat) (xs bs : List BlkV) (w : World) (h1 : AtBlk w g1 xs) (h2 : AtBlk w g2 bs) (i1 : ∀ b ∈ xs, ItemsAt w b) (i2 : ∀ b ∈ bs, ItemsAt w b) (hpt : xs.map (fun b => (b.h, b.ss)) = bs.map (fun b => (b.h, b.ss))) (hn : n = xs.length) (hm : n ≤ 1048576) (hf : ∀ b ∈ xs, b.n ≤ 1073741824) :
    Calls Tryz.prog 25 #[.slice (some ⟨g1, 0, none⟩) n c1, .slice (some ⟨g2, 0, none⟩) n c2] w fun e w' => e = .returned (.bool true) ∧ Below w.heap.size w w' := by
  have hnb : n = bs.length := by
    have := congrArg List.length hpt
    rw [List.length_map, List.length_map] at this
    omega
  have HA : Hid (AtBlk w g1 xs ∧ AtBlk w g2 bs ∧ (∀ b ∈ xs, ItemsAt w b) ∧ (∀ b ∈ bs, ItemsAt w b) ∧ Below w.heap.size w w) := ⟨h1, h2, i1, i2, Below.refl _ w⟩
  have HN : Hid (n = xs.length ∧ n = bs.length) := ⟨hn, hnb⟩
  have HPT : Hid (∀ k, k < n → (xs.getD k default).h = (bs.getD k default).h ∧ (xs.getD k default).ss = (bs.getD k default).ss) := by
    intro k hk
    have e := congrArg (fun l => l[k]?) hpt
    have ha : k < xs.length := by omega
    have hb : k < bs.length := by omega
    simp only [List.getElem?_map, List.getElem?_eq_getElem ha, List.getElem?_eq_getElem hb, Option.map_some, Option.some.injEq, Prod.mk.injEq] at e
    rw [List.getD_eq_getElem?_getD, List.getElem?_eq_getElem ha, List.getD_eq_getElem?_getD, List.getElem?_eq_getElem hb]
    exact e
  have HFW : Hid (∀ b ∈ xs, b.n ≤ 1073741824) := hf
  clear h1 h2 hn i1 i2 hpt hnb hf
  go_enter Tryz.func25, Tryz.ntmps25
  go_wp2_with fail
  go_loopw [5] (fun i wr => ∃ k : Nat, k ≤ n ∧ i = .int .i64 (k : Int) ∧ Hid (AtBlk wr g1 xs ∧ AtBlk wr g2 bs ∧ (∀ b ∈ xs, ItemsAt wr b) ∧ (∀ b ∈ bs, ItemsAt wr b) ∧ Below w.heap.size w wr)) (fun i _ => n - (intOf i).toNat)
  case atStart => exact ⟨0, by omega, rfl, HA⟩
  case round =>
    clear HA
    obtain ⟨k, hk, rfl, HA⟩ := hrel
    by_cases hlt : k < n
    · have hka : k < xs.length := by have := HN.out; omega
      have hkb : k < bs.length := by have := HN.out; omega
      have d0 := AtBlk.c0 HA.out.1 k hka
      have e0 := AtBlk.c0 HA.out.2.1 k hkb
      have d1 := AtBlk.c1 HA.out.1 k hka
      have e1 := AtBlk.c1 HA.out.2.1 k hkb
      have d2 := AtBlk.c2 HA.out.1 k hka
      have e2 := AtBlk.c2 HA.out.2.1 k hkb
      have d3 := AtBlk.c3 HA.out.1 k hka
      have e3 := AtBlk.c3 HA.out.2.1 k hkb
      have d4 := AtBlk.c4 HA.out.1 k hka
      have e4 := AtBlk.c4 HA.out.2.1 k hkb
      have d5 := AtBlk.c5 HA.out.1 k hka
      have e5 := AtBlk.c5 HA.out.2.1 k hkb
      have ma : xs.getD k default ∈ xs := by rw [List.getD_eq_getElem?_getD, List.getElem?_eq_getElem hka]; exact List.getElem_mem hka
      have mb : bs.getD k default ∈ bs := by rw [List.getD_eq_getElem?_getD, List.getElem?_eq_getElem hkb]; exact List.getElem_mem hkb
      have ia := HA.out.2.2.1 _ ma
      have ib := HA.out.2.2.2.1 _ mb
      have hfa := HFW.out _ ma
      have hpt := HPT.out k hlt
      have HK : Hid (k + 1 ≤ n) := hlt
      generalize xs.getD k default = p at d0 d1 d2 d3 d4 d5 ia hpt hfa
      generalize bs.getD k default = q at e0 e1 e2 e3 e4 e5 ib hpt
      obtain ⟨ph, pg, pn, pc, ps⟩ := p
      obtain ⟨qh, qg, qn, qc, qs⟩ := q
      dsimp only at d0 d1 d2 d3 d4 d5 e0 e1 e2 e3 e4 e5 hpt hfa
      obtain ⟨rfl, rfl⟩ := hpt
      obtain ⟨ia1, ia2⟩ := ia
      obtain ⟨ib1, ib2⟩ := ib
      dsimp only at ia1 ia2 ib1 ib2
      obtain rfl : pn = qn := by omega
      have heq := fun (w' : World) (hb : Below wr.heap.size wr w') => eqBlock1 ph pg qg pn pc qc ps w' (ia1.below hb ia1.1) (ib1.below hb ib1.1) ia2 hfa
      have lk : (k : Int) < (n : Int) := by omega
      have hbd : Below wr.heap.size wr wr.drew := (Below.refl _ _).drew
      unfold blockVal at heq
      clear hka hkb ma mb ia1 ib1 ia2 ib2 HPT HFW hfa
      go_wp2_with fail
      go_region_with (go_at_call 42; refine (heq _ hbd).mono ?_; rintro e w1 ⟨rfl, b1⟩)
      all_goals
        have HA1 : Hid (AtBlk w1 g1 xs ∧ AtBlk w1 g2 bs ∧ (∀ b ∈ xs, ItemsAt w1 b) ∧ (∀ b ∈ bs, ItemsAt w1 b) ∧ Below w.heap.size w w1) := ⟨HA.out.1.drew.below b1 HA.out.1.1, HA.out.2.1.drew.below b1 HA.out.2.1.1, fun b hb => ⟨(HA.out.2.2.1 b hb).1.below (hbd.trans b1) (HA.out.2.2.1 b hb).1.1, (HA.out.2.2.1 b hb).2⟩, fun b hb => ⟨(HA.out.2.2.2.1 b hb).1.below (hbd.trans b1) (HA.out.2.2.2.1 b hb).1.1, (HA.out.2.2.2.1 b hb).2⟩, HA.out.2.2.2.2.drew.trans (b1.mono HA.out.2.2.2.2.size)⟩
        clear b1
        go_wp2_with fail
        go_roundw
        case rel => exact ⟨k + 1, HK.out, by go_num, HA1⟩
        case measure => have := HK.out; simp [intOf]; omega
    · go_wp2_with fail
      go_ret
      exact ⟨rfl, HA.out.2.2.2.2⟩

end Go.Proofs.YtphgjhakghblgaaGreatDoor

set_option linter.unusedVariables false
namespace Go.Proofs.YtphgjhakghblgaaGreatDoor
open Go.RowKit Go.Deep

theorem ptsL_mem {ls : List LBlk} {p : HeadV × List ByteArray} (h : p ∈ ptsL ls) : ∃ i, i < ls.length ∧ p = ((ls.getD i default).h, (ls.getD i default).zs.take (ls.getD i default).n) := by
  obtain ⟨b, hb, rfl⟩ := List.mem_map.1 h
  obtain ⟨i, hi, he⟩ := List.mem_iff_getElem.1 hb
  refine ⟨i, hi, ?_⟩
  rw [List.getD_eq_getElem?_getD, List.getElem?_eq_getElem hi]
  simp [he]
theorem CopyB.blks {B g n : Nat} {ls : List LBlk} {cs : List BlkV} {w : World} (h : CopyB B g n ls cs w) (hn : n ≤ 1048576) : Blks g n n cs w := ⟨h.at, h.its, h.len, hn⟩
theorem CopyB.mem {B g n : Nat} {ls : List LBlk} {cs : List BlkV} {w : World} (h : CopyB B g n ls cs w) {c : BlkV} (hc : c ∈ cs) : ∃ i, i < ls.length ∧ c.h = (ls.getD i default).h ∧ c.ss = (ls.getD i default).zs.take (ls.getD i default).n := by
  have hm : (c.h, c.ss) ∈ ptsL ls := by
    rw [← h.pts]
    exact List.mem_map.2 ⟨c, hc, rfl⟩
  obtain ⟨i, hi, he⟩ := ptsL_mem hm
  exact ⟨i, hi, (Prod.mk.inj he).1, (Prod.mk.inj he).2⟩
theorem CopyB.few {B g n : Nat} {ls : List LBlk} {cs : List BlkV} {w : World} (h : CopyB B g n ls cs w) (hl : ls.length = n) (hs : ∀ i, i < n → smallL (ls.getD i default)) : ∀ c ∈ cs, c.n ≤ 1048576 := by
  intro c hc
  obtain ⟨i, hi, _, h2⟩ := h.mem hc
  rw [(h.items c hc).2.1, h2, List.length_take]
  have := (hs i (by omega)).2.1
  omega
theorem CopyB.blksS {B g n : Nat} {ls : List LBlk} {cs : List BlkV} {w : World} (h : CopyB B g n ls cs w) (hn : n ≤ 1048576) (hl : ls.length = n) (hs : ∀ i, i < n → smallL (ls.getD i default)) : BlksS g n n cs w := by
  refine ⟨h.blks hn, fun c hc => ?_, h.few hl hs, fun c hc j hj => ?_⟩
  · obtain ⟨i, hi, h1, _⟩ := h.mem hc
    rw [h1]
    have := (hs i (by omega)).1
    unfold smallHead at this
    unfold wfHead maxLen
    omega
  · obtain ⟨i, hi, _, h2⟩ := h.mem hc
    rw [h2] at hj ⊢
    rw [List.length_take] at hj
    have := (hs i (by omega)).2.2 j (by omega)
    rw [List.getD_eq_getElem?_getD, List.getElem?_take_of_lt (by omega), ← List.getD_eq_getElem?_getD]
    exact this

end Go.Proofs.YtphgjhakghblgaaGreatDoor

set_option linter.unusedVariables false
namespace Go.Proofs.YtphgjhakghblgaaGreatDoor
open Go.RowKit

theorem infoIntL : (Tryz.prog.info? 3).map (fun i => (i.zero, i.size, i.bytes)) = some (some (.int .i64 0), 1, 8) := by kernel_rfl
def iCells (l : List Int) : Array Value := (l.map (Value.int .i64)).toArray
def RowI (w : World) (g : Nat) (l : List Int) : Prop := w.heap[g]? = some (.cells (iCells l) 3 (0, 0))
theorem madeCells_zeroI (n : Nat) : madeCells #[.int .i64 0] n = iCells (List.replicate n 0) := by
  rw [madeCells_zero]
  simp [zerosN, iCells]
theorem makeI (n : Nat) (hn : n ≤ 1099511627776) (w : World) : (Instr.makeSlice 23 (.int .i64 (n : Int)) (.int .i64 (n : Int))).run Tryz.prog w = .ok (.slice (some ⟨w.heap.size, 0, none⟩) n n) (w.alloc (.cells (iCells (List.replicate n 0)) 3)) := by
  rw [← madeCells_zeroI]
  exact run_make_row' 23 3 (.int .i64 0) 8 Tryz.underlying23 infoIntL rfl .i64 .i64 n (by omega) (by omega) w
theorem RowI.lt {w : World} {g : Nat} {l : List Int} (h : RowI w g l) : g < w.heap.size := by
  rcases Nat.lt_or_ge g w.heap.size with h' | h'
  · exact h'
  · simp [RowI, Array.getElem?_eq_none h'] at h
theorem RowI.cell {w : World} {g : Nat} {l : List Int} (h : RowI w g l) (i : Nat) (hi : i < l.length) : w.cell? ⟨g, i, none⟩ = some (.int .i64 (l.getD i 0)) := by
  rw [Lib.cell_of_heap h]
  simp [iCells, List.getElem?_eq_getElem hi]
theorem RowI.at {w : World} {g : Nat} {l : List Int} (h : RowI w g l) : At w g l := ⟨h.lt, h.cell⟩
theorem RowI.frozen {w : World} {g : Nat} {l : List Int} (h : RowI w g l) (i : Nat) : w.frozen? ⟨g, i, none⟩ = false := Lib.frozen_of_heap h i
theorem RowI.set {w : World} {g : Nat} {l : List Int} (h : RowI w g l) (i : Nat) (v : Int) : RowI (w.setCell ⟨g, i, none⟩ (.int .i64 v)) g (l.set i v) := by
  unfold RowI at h ⊢
  simp only [World.setCell, Array.getElem?_modify, h]
  simp [iCells, List.map_set]
theorem RowI.below {w w' : World} {g B : Nat} {l : List Int} (h : RowI w g l) (hb : Below B w w') (hg : g < B) : RowI w' g l := by
  unfold RowI at h ⊢; rw [hb.block g hg]; exact h
theorem set_nextI (f : List Int) (n k : Nat) (hk : k < f.length) (hn : k < n) : (f.take k ++ List.replicate (n - k) 0).set k (f.getD k 0) = f.take (k + 1) ++ List.replicate (n - (k + 1)) 0 := by
  have hl : (f.take k).length = k := by simp; omega
  rw [List.set_append_right _ _ (by omega), hl, Nat.sub_self, show n - k = (n - (k + 1)) + 1 from by omega, List.replicate_succ, List.set_cons_zero]
  have e1 : f.take (k + 1) = f.take k ++ [f[k]] := by rw [List.take_add_one, List.getElem?_eq_getElem hk]; rfl
  have e2 : f.getD k 0 = f[k] := by rw [List.getD_eq_getElem?_getD, List.getElem?_eq_getElem hk]; rfl
  rw [e1, e2, List.append_assoc]
  rfl

set_option maxHeartbeats 1000000 in
set_option maxRecDepth 100000 in
theorem toInts (a : Option Addr) (len cap : Nat) (zs : List Int) (w w0 : World) (h0 : IsRow .i64 w0 a len cap zs) (hw : Below w0.heap.size w0 w) (hn : len ≤ 1048576) :
    Calls Tryz.prog 20 #[.slice a len cap] w fun e w' => e = .returned (.slice (some ⟨w.heap.size, 0, none⟩) len len) ∧ RowI w' w.heap.size (zs.take len) ∧ Below w.heap.size w w' := by
  have hmk := makeI len (by omega)
  have HF : Hid (∀ k, k < len → ∀ w', Below w.heap.size w w' → ∃ x : Addr, a = some x ∧ w'.cell? (x.add k) = some (.int .i64 ((zs.take len).getD k 0))) := by
    intro k hk w' hb'
    rcases h0 with ⟨_, hl, _⟩ | ⟨x, hx, hlc, _, hzl, hcell, _⟩
    · omega
    · refine ⟨x, hx, ?_⟩
      have hc := hcell k (by omega)
      have hlt : (x.add k).block < w0.heap.size := World.block_lt_of_cell? w0 _ hc
      rw [hb'.cell (Nat.lt_of_lt_of_le hlt hw.size), hw.cell hlt, hc]
      simp [hk]
  have HLn : Hid ((zs.take len).length = len) := by
    show _ = _
    rcases h0 with ⟨_, hl, _, hz⟩ | ⟨x, hx, hlc, _, hzl, _⟩
    · rw [hl, hz]; rfl
    · simp; omega
  generalize zs.take len = f at HF HLn
  clear h0 hw
  go_enter Tryz.func20, Tryz.ntmps20
  go_wp2
  clear hmk
  go_loopw [4] (fun i wr => ∃ k : Nat, k ≤ len ∧ i = .int .i64 (k : Int) ∧ Hid (RowI wr w.heap.size (f.take k ++ List.replicate (len - k) 0)) ∧ Hid (Below w.heap.size w wr)) (fun i _ => len - (intOf i).toNat)
  case atStart => exact ⟨0, by omega, rfl, heap_alloc_new w _, (Below.refl _ w).alloc (Nat.le_refl _) _⟩
  case round =>
    obtain ⟨k, hk, rfl, HR, HB⟩ := hrel
    by_cases hlt : k < len
    · obtain ⟨x, rfl, hc⟩ := HF.out k hlt wr HB.out
      have HK : Hid (k + 1 ≤ len) := hlt
      have hfz := HR.out.frozen k
      have hck := HR.out.cell k (by simp [HLn.out]; omega)
      have HS : Hid ((f.take k ++ List.replicate (len - k) 0).set k (f.getD k 0) = f.take (k + 1) ++ List.replicate (len - (k + 1)) 0) := set_nextI f len k (by rw [HLn.out]; exact hlt) hlt
      generalize (f.take k ++ List.replicate (len - k) 0).getD k 0 = old at hck
      generalize f.getD k 0 = z at hc HS
      go_wp2_with fail
      go_roundw
      case rel =>
        refine ⟨k + 1, HK.out, by go_num, ?_, HB.out.setCell (p := ⟨w.heap.size, k, none⟩) (Nat.le_refl _) _⟩
        have := HR.out.set k z
        rw [HS.out] at this
        exact this
      case measure => have := HK.out; simp [intOf]; omega
    · have HE : Hid (f.take k ++ List.replicate (len - k) 0 = f) := by
        show _ = _
        rw [List.take_of_length_le (by rw [HLn.out]; omega), show len - k = 0 from by omega]
        simp
      go_wp2_with fail
      go_ret
      refine ⟨rfl, ?_, HB.out⟩
      rw [← HE.out]
      exact HR.out

set_option maxHeartbeats 1000000 in
set_option maxRecDepth 100000 in
theorem eqInts (g1 g2 n c1 c2 : Nat) (zs : List Int) (w : World) (h1 : At w g1 zs) (h2 : At w g2 zs) (hn : n = zs.length) (hm : n ≤ 1073741824) :
    Calls Tryz.prog 26 #[.slice (some ⟨g1, 0, none⟩) n c1, .slice (some ⟨g2, 0, none⟩) n c2] w fun e w' => e = .returned (.bool true) ∧ Below w.heap.size w w' := by
  have HA : Hid (At w g1 zs ∧ At w g2 zs ∧ Below w.heap.size w w) := ⟨h1, h2, Below.refl _ w⟩
  have HN : Hid (n = zs.length) := hn
  clear h1 h2 hn
  go_enter Tryz.func26, Tryz.ntmps26
  go_wp2
  go_loopw [5] (fun i wr => ∃ k : Nat, k ≤ n ∧ i = .int .i64 (k : Int) ∧ Hid (At wr g1 zs ∧ At wr g2 zs ∧ Below w.heap.size w wr)) (fun i _ => n - (intOf i).toNat)
  case atStart => exact ⟨0, by omega, rfl, HA⟩
  case round =>
    clear HA
    obtain ⟨k, hk, rfl, HA⟩ := hrel
    by_cases hlt : k < n
    · have hkz : k < zs.length := by rw [← HN.out]; exact hlt
      have d1 := HA.out.1.2 k hkz
      have d2 := HA.out.2.1.2 k hkz
      have HK : Hid (k + 1 ≤ n) := hlt
      generalize zs.getD k 0 = z at d1 d2
      have lk : (k : Int) < (n : Int) := by omega
      clear hkz
      go_wp2_with fail
      go_region
      go_wp2_with fail
      go_roundw
      case rel => exact ⟨k + 1, HK.out, by go_num, HA.out.1.drew, HA.out.2.1.drew, HA.out.2.2.drew⟩
      case measure => have := HK.out; simp [intOf]; omega
    · go_wp2_with fail
      go_ret
      exact ⟨rfl, HA.out.2.2⟩

end Go.Proofs.YtphgjhakghblgaaGreatDoor

