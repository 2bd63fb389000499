/-
  Texts that the last part needs, joined.
-/
import Derived.Test.YtpddholoehmjkaaGreatDoorPart1
import Derived.Test.YtpddholoehmjkaaGreatDoorPart2
import Derived.Test.YtpddholoehmjkaaGreatDoorPart3
import Derived.Test.YtpddholoehmjkaaGreatDoorPart4
import Derived.Test.YtpddholoehmjkaaGreatDoorPart5
import Derived.Test.YtpddholoehmjkaaGreatDoorPart6
import Derived.Test.YtpddholoehmjkaaGreatDoorPart7
import Derived.WalkKit
import Derived.Lib.SlicesCompact
import Derived.Sort.Walk0
import Derived.Test.YtpddholoehmjkaaGreatDoorProg
import Derived.Sort.OwnSorted
import Derived.Sort.Grow
import Derived.Lib.OwnBridge
import Derived.Lib.RowBridge
import Derived.RangeFuncNested
import Derived.RangeFuncBound
import Derived.RangeFuncCalls
import Derived.RangeFuncLeaves
import Derived.Shelf.Abstract
import Derived.Shelf.RegionOpen
import Derived.OwnWalkIn
import Derived.TacticsInMore
import Derived.LoopNIn
import Derived.LoopIn
import Derived.WalkSpells
import Derived.BigRegion
import Derived.Lib.UnsafeStr
import Derived.Lib.FrozenHead2
import Derived.Lib.Builder
import Derived.Deep.MidRow
import Derived.Deep.RegionWith
import Derived.Deep.OwnRows
import Derived.Below
set_option linter.unusedVariables false
namespace Go.Proofs.YtpddholoehmjkaaGreatDoor
open Go.RowKit Go.Deep

/-- A list of heads in memory, as the specification needs it. -/
structure ChainSp (g n cap : Nat) (l : List HeadV) (w : World) : Prop where
  at_ : AtHead w g l
  len : n = l.length
  max : n ≤ 1048576
  cap : n ≤ cap
  wf : ∀ i, i < l.length → wfHead (l.getD i default)
theorem ChainSp.below {g n cap : Nat} {l : List HeadV} {w w' : World} (h : ChainSp g n cap l w) (hb : Below w.heap.size w w') : ChainSp g n cap l w' :=
  ⟨h.at_.below hb h.at_.1, h.len, h.max, h.cap, h.wf⟩
theorem ChainSp.ahead {g n cap : Nat} {l : List HeadV} {w : World} (h : ChainSp g n cap l w) {k : Nat} (hk : k < n) (hs : ∀ q, q < k → stepC l q = true) : AheadS g k (l.take k) w :=
  ⟨h.at_.take k, by rw [List.length_take, ← h.len]; omega, by have := h.max; omega, take_ok hs⟩
theorem ChainSp.whole {g n cap : Nat} {l : List HeadV} {w : World} (h : ChainSp g n cap l w) (hc : chainCk l = 0) : AheadS g n l w := ⟨h.at_, h.len, h.max, ck_ok hc⟩
theorem step_far {l : List HeadV} {k : Nat} (hk : k < l.length) (h : 20 ≤ k) : stepC l k = false := by
  rw [stepC, standsB, decide_eq_false (by rw [List.length_take]; omega), Bool.and_false]
theorem step_near {l : List HeadV} {k : Nat} (hk : k < l.length) (h : k < 20) : stepC l k = fitsB (l.take k) (l.getD k default) := by
  rw [stepC, standsB, decide_eq_true (by rw [List.length_take]; omega), Bool.and_true]

set_option linter.unusedSimpArgs false in
set_option maxHeartbeats 8000000 in
set_option maxRecDepth 100000 in
theorem specL4Check (g n cap : Nat) (l : List HeadV) (w : World) (hC : ChainSp g n cap l w) :
    Calls Tryz.prog 83 #[.slice (some ⟨g, 0, none⟩) n cap] w fun e w' => e = .returned (.int .i64 (chainCk l : Int)) ∧ Below w.heap.size w w' := by
  have HC : Hid (ChainSp g n cap l w) := hC
  have hm := hC.max
  have hcap := hC.cap
  have HGO : Hid ((∀ q, q < n → stepC l q = true) → chainCk l = 0) := fun hq => ck_good (by rw [← hC.len]; exact hq)
  have HBA : Hid (∀ k, k < n → stepC l k = false → (∀ q, q < k → stepC l q = true) → chainCk l = k + 1) := fun k hk hf hq => ck_bad (by rw [← hC.len]; exact hk) hf hq
  generalize chainCk l = R at HGO HBA ⊢
  clear hC
  go_enter Tryz.func83, Tryz.ntmps83
  go_wp2_with fail
  go_loopw [3] (fun i wr => ∃ k : Nat, k ≤ n ∧ i = .int .i64 (k : Int) ∧ Hid (Below w.heap.size w wr) ∧ Hid (∀ q, q < k → stepC l q = true)) (fun i _ => n - (intOf i).toNat)
  case atStart => exact ⟨0, by omega, rfl, Below.refl _ _, fun q hq => by omega⟩
  case round =>
    obtain ⟨k, hk, rfl, HB, HQ⟩ := hrel
    by_cases hlt : k < n
    · have HCr : Hid (ChainSp g n cap l wr) := HC.out.below HB.out
      have hkl : k < l.length := by rw [← HC.out.len]; exact hlt
      have c0 := AtHead.c0 HCr.out.at_ k hkl
      have c1 := AtHead.c1 HCr.out.at_ k hkl
      have c2 := AtHead.c2 HCr.out.at_ k hkl
      have c3 := AtHead.c3 HCr.out.at_ k hkl
      have c4 := AtHead.c4 HCr.out.at_ k hkl
      have hgl := HCr.out.at_.1
      have lk : (k : Int) < (n : Int) := by omega
      have lk0 : (0 : Int) ≤ (k : Int) := by omega
      have lkc : (k : Int) ≤ (cap : Int) := by omega
      have hc0 : ¬ cap = 0 := by omega
      have hwk : IntKind.i64.wrap ((k : Int) + 1) = (k : Int) + 1 := by rw [IntKind.wrap_i64]; omega
      have HB2 := HBA.out k hlt
      have HBk : Hid (stepC l k = false → R = k + 1) := fun hf => HB2 hf HQ.out
      have HQ2 : Hid (stepC l k = true → ∀ q, q < k + 1 → stepC l q = true) := by
        intro h q hq
        rcases Nat.lt_or_ge q k with h' | h'
        · exact HQ.out q h'
        · obtain rfl : q = k := by omega
          exact h
      have HFA : Hid (20 ≤ k → stepC l k = false) := fun h => step_far hkl h
      have HNE : Hid (k < 20 → stepC l k = fitsB (l.take k) (l.getD k default)) := fun h => step_near hkl h
      have hft := fun (w' : World) (hb : Below wr.heap.size wr w') => specL4Fits g k cap (l.take k) (l.getD k default) w' ((HCr.out.below hb).ahead hlt HQ.out) (HCr.out.wf k hkl).1 (HCr.out.wf k hkl).2
      clear hkl HB2 HGO HBA HQ
      generalize fitsB (l.take k) (l.getD k default) = b at hft HNE
      generalize stepC l k = sb at HBk HQ2 HFA HNE
      generalize l.getD k default = h at c0 c1 c2 c3 c4 hft
      unfold headVal at hft
      have HK1 : Hid (k + 1 ≤ n) := hlt
      have hheld : ∀ w1 : World, Below wr.heap.size wr.drew w1 → (fun w' => w'.cell? ⟨g, k * 5, none⟩ = some (.string h.prev) ∧ w'.cell? ⟨g, k * 5 + 1, none⟩ = some (.string h.root) ∧ w'.cell? ⟨g, k * 5 + 2, none⟩ = some (.int .i64 h.time) ∧ w'.cell? ⟨g, k * 5 + 3, none⟩ = some (.int .i64 h.diff) ∧ w'.cell? ⟨g, k * 5 + 4, none⟩ = some (.int .i64 h.nonce)) w1 := fun w' hb => ⟨(hb.cell (p := ⟨g, k * 5, none⟩) hgl).trans c0, (hb.cell (p := ⟨g, k * 5 + 1, none⟩) hgl).trans c1, (hb.cell (p := ⟨g, k * 5 + 2, none⟩) hgl).trans c2, (hb.cell (p := ⟨g, k * 5 + 3, none⟩) hgl).trans c3, (hb.cell (p := ⟨g, k * 5 + 4, none⟩) hgl).trans c4⟩
      by_cases h20 : k < 20
      · have hge : decide ((20 : Int) ≤ (k : Int)) = false := decide_eq_false (by omega)
        obtain rfl : sb = b := HNE.out h20
        have hbd : Below wr.heap.size wr wr.drew := (Below.refl _ _).drew
        cases sb with
        | false =>
          have HV : Hid (R = k + 1) := HBk.out rfl
          clear HBk HQ2 HFA HNE h20 hlt hk lkc
          have lkc : (k : Int) ≤ (cap : Int) := by omega
          go_wp2_with fail
          refine wp_region_noPanic ?_
          refine wp_region_held_drew (S := fun w' => w'.cell? ⟨g, k * 5, none⟩ = some (.string h.prev) ∧ w'.cell? ⟨g, k * 5 + 1, none⟩ = some (.string h.root) ∧ w'.cell? ⟨g, k * 5 + 2, none⟩ = some (.int .i64 h.time) ∧ w'.cell? ⟨g, k * 5 + 3, none⟩ = some (.int .i64 h.diff) ∧ w'.cell? ⟨g, k * 5 + 4, none⟩ = some (.int .i64 h.nonce)) (by kernel_rfl) (⟨c0, c1, c2, c3, c4⟩) (fun hHeld => ?_)
          refine takeL 0 (v := ?_) rfl (by kernel_rfl) (by kernel_rfl) (by kernel_rfl) (fun _ _ _ h => h) (by kernel_rfl) ?_ (by assumption) ?_
          rotate_left
          · intro w hSw; (try dsimp only at hSw); first | (go_simp; done) | (go_simp; with_reducible rfl)
          try simp only [Act.put, List.setIfInBounds_toArray, List.set_cons_zero, List.set_cons_succ]
          refine takeL 1 (v := ?_) rfl (by kernel_rfl) (by kernel_rfl) (by kernel_rfl) (fun _ _ _ h => h) (by kernel_rfl) ?_ (by assumption) ?_
          rotate_left
          · intro w hSw; (try dsimp only at hSw); first | (go_simp; done) | (go_simp; with_reducible rfl)
          try simp only [Act.put, List.setIfInBounds_toArray, List.set_cons_zero, List.set_cons_succ]
          refine takeL 2 (v := ?_) rfl (by kernel_rfl) (by kernel_rfl) (by kernel_rfl) (fun _ _ _ h => h) (by kernel_rfl) ?_ (by assumption) ?_
          rotate_left
          · intro w hSw; (try dsimp only at hSw); first | (go_simp; done) | (go_simp; with_reducible rfl)
          try simp only [Act.put, List.setIfInBounds_toArray, List.set_cons_zero, List.set_cons_succ]
          refine takeL 3 (v := ?_) rfl (by kernel_rfl) (by kernel_rfl) (by kernel_rfl) (fun _ _ _ h => h) (by kernel_rfl) ?_ (by assumption) ?_
          rotate_left
          · intro w hSw; (try dsimp only at hSw); first | (go_simp; done) | (go_simp; with_reducible rfl)
          try simp only [Act.put, List.setIfInBounds_toArray, List.set_cons_zero, List.set_cons_succ]
          refine takeL 4 (v := ?_) rfl (by kernel_rfl) (by kernel_rfl) (by kernel_rfl) (fun _ _ _ h => h) (by kernel_rfl) ?_ (by assumption) ?_
          rotate_left
          · intro w hSw; (try dsimp only at hSw); first | (go_simp; done) | (go_simp; with_reducible rfl)
          try simp only [Act.put, List.setIfInBounds_toArray, List.set_cons_zero, List.set_cons_succ]
          refine takeL 5 (v := ?_) rfl (by kernel_rfl) (by kernel_rfl) (by kernel_rfl) (fun _ _ _ h => h) (by kernel_rfl) ?_ (by assumption) ?_
          rotate_left
          · intro w hSw; (try dsimp only at hSw); first | (go_simp; done) | (go_simp; with_reducible rfl)
          try simp only [Act.put, List.setIfInBounds_toArray, List.set_cons_zero, List.set_cons_succ]
          refine takeL 6 (v := ?_) rfl (by kernel_rfl) (by kernel_rfl) (by kernel_rfl) (fun _ _ _ h => h) (by kernel_rfl) ?_ (by assumption) ?_
          rotate_left
          · intro w hSw; (try dsimp only at hSw); first | (go_simp; done) | (go_simp; with_reducible rfl)
          try simp only [Act.put, List.setIfInBounds_toArray, List.set_cons_zero, List.set_cons_succ]
          refine takeL 7 (v := ?_) rfl (by kernel_rfl) (by kernel_rfl) (by kernel_rfl) (fun _ _ _ h => h) (by kernel_rfl) ?_ (by assumption) ?_
          rotate_left
          · intro w hSw; (try dsimp only at hSw); first | (go_simp; done) | (go_simp; with_reducible rfl)
          try simp only [Act.put, List.setIfInBounds_toArray, List.set_cons_zero, List.set_cons_succ]
          refine takeL 8 (v := ?_) rfl (by kernel_rfl) (by kernel_rfl) (by kernel_rfl) (fun _ _ _ h => h) (by kernel_rfl) ?_ (by assumption) ?_
          rotate_left
          · intro w hSw; (try dsimp only at hSw); first | (go_simp; done) | (go_simp; with_reducible rfl)
          try simp only [Act.put, List.setIfInBounds_toArray, List.set_cons_zero, List.set_cons_succ]
          refine takeL 9 (v := ?_) rfl (by kernel_rfl) (by kernel_rfl) (by kernel_rfl) (fun _ _ _ h => h) (by kernel_rfl) ?_ (by assumption) ?_
          rotate_left
          · intro w hSw; (try dsimp only at hSw); first | (go_simp; done) | (go_simp; with_reducible rfl)
          try simp only [Act.put, List.setIfInBounds_toArray, List.set_cons_zero, List.set_cons_succ]
          refine callL 10 rfl (by kernel_rfl) (fun K hK => ?_)
          go_simp
          refine (hft _ hbd).mono ?_
          rintro e w1 ⟨rfl, b1⟩
          have HB1 : Hid (Below w.heap.size w w1) := HB.out.drew.trans (b1.mono HB.out.size)
          have HH := hheld _ b1
          go_wp2_with fail
          refine hK.out _ _ ?_ (fun hHeld => ?_)
          · exact HH
          clear hK K
          try simp only [Act.put, List.setIfInBounds_toArray, List.set_cons_zero, List.set_cons_succ]
          refine takeL 11 (v := ?_) rfl (by kernel_rfl) (by kernel_rfl) (by kernel_rfl) (fun _ _ _ h => h) (by kernel_rfl) ?_ (by assumption) ?_
          rotate_left
          · intro w hSw; (try dsimp only at hSw); first | (go_simp; done) | (go_simp; with_reducible rfl)
          try simp only [Act.put, List.setIfInBounds_toArray, List.set_cons_zero, List.set_cons_succ]
          refine takeL 12 (v := ?_) rfl (by kernel_rfl) (by kernel_rfl) (by kernel_rfl) (fun _ _ _ h => h) (by kernel_rfl) ?_ (by assumption) ?_
          rotate_left
          · intro w hSw; (try dsimp only at hSw); first | (go_simp; done) | (go_simp; with_reducible rfl)
          try simp only [Act.put, List.setIfInBounds_toArray, List.set_cons_zero, List.set_cons_succ]
          refine wpAnyH_done (by kernel_rfl) ?_ _
          refine NoPanic.normal ?_
          go_wp2_with fail
          go_ret
          exact ⟨by rw [HV.out]; rfl, HB1.out⟩
        | true =>
          have HQ3 : Hid (∀ q, q < k + 1 → stepC l q = true) := HQ2.out rfl
          clear HBk HQ2 HFA HNE h20 hlt hk lkc
          have lkc : (k : Int) ≤ (cap : Int) := by omega
          go_wp2_with fail
          refine wp_region_noPanic ?_
          refine wp_region_held_drew (S := fun w' => w'.cell? ⟨g, k * 5, none⟩ = some (.string h.prev) ∧ w'.cell? ⟨g, k * 5 + 1, none⟩ = some (.string h.root) ∧ w'.cell? ⟨g, k * 5 + 2, none⟩ = some (.int .i64 h.time) ∧ w'.cell? ⟨g, k * 5 + 3, none⟩ = some (.int .i64 h.diff) ∧ w'.cell? ⟨g, k * 5 + 4, none⟩ = some (.int .i64 h.nonce)) (by kernel_rfl) (⟨c0, c1, c2, c3, c4⟩) (fun hHeld => ?_)
          refine takeL 0 (v := ?_) rfl (by kernel_rfl) (by kernel_rfl) (by kernel_rfl) (fun _ _ _ h => h) (by kernel_rfl) ?_ (by assumption) ?_
          rotate_left
          · intro w hSw; (try dsimp only at hSw); first | (go_simp; done) | (go_simp; with_reducible rfl)
          try simp only [Act.put, List.setIfInBounds_toArray, List.set_cons_zero, List.set_cons_succ]
          refine takeL 1 (v := ?_) rfl (by kernel_rfl) (by kernel_rfl) (by kernel_rfl) (fun _ _ _ h => h) (by kernel_rfl) ?_ (by assumption) ?_
          rotate_left
          · intro w hSw; (try dsimp only at hSw); first | (go_simp; done) | (go_simp; with_reducible rfl)
          try simp only [Act.put, List.setIfInBounds_toArray, List.set_cons_zero, List.set_cons_succ]
          refine takeL 2 (v := ?_) rfl (by kernel_rfl) (by kernel_rfl) (by kernel_rfl) (fun _ _ _ h => h) (by kernel_rfl) ?_ (by assumption) ?_
          rotate_left
          · intro w hSw; (try dsimp only at hSw); first | (go_simp; done) | (go_simp; with_reducible rfl)
          try simp only [Act.put, List.setIfInBounds_toArray, List.set_cons_zero, List.set_cons_succ]
          refine takeL 3 (v := ?_) rfl (by kernel_rfl) (by kernel_rfl) (by kernel_rfl) (fun _ _ _ h => h) (by kernel_rfl) ?_ (by assumption) ?_
          rotate_left
          · intro w hSw; (try dsimp only at hSw); first | (go_simp; done) | (go_simp; with_reducible rfl)
          try simp only [Act.put, List.setIfInBounds_toArray, List.set_cons_zero, List.set_cons_succ]
          refine takeL 4 (v := ?_) rfl (by kernel_rfl) (by kernel_rfl) (by kernel_rfl) (fun _ _ _ h => h) (by kernel_rfl) ?_ (by assumption) ?_
          rotate_left
          · intro w hSw; (try dsimp only at hSw); first | (go_simp; done) | (go_simp; with_reducible rfl)
          try simp only [Act.put, List.setIfInBounds_toArray, List.set_cons_zero, List.set_cons_succ]
          refine takeL 5 (v := ?_) rfl (by kernel_rfl) (by kernel_rfl) (by kernel_rfl) (fun _ _ _ h => h) (by kernel_rfl) ?_ (by assumption) ?_
          rotate_left
          · intro w hSw; (try dsimp only at hSw); first | (go_simp; done) | (go_simp; with_reducible rfl)
          try simp only [Act.put, List.setIfInBounds_toArray, List.set_cons_zero, List.set_cons_succ]
          refine takeL 6 (v := ?_) rfl (by kernel_rfl) (by kernel_rfl) (by kernel_rfl) (fun _ _ _ h => h) (by kernel_rfl) ?_ (by assumption) ?_
          rotate_left
          · intro w hSw; (try dsimp only at hSw); first | (go_simp; done) | (go_simp; with_reducible rfl)
          try simp only [Act.put, List.setIfInBounds_toArray, List.set_cons_zero, List.set_cons_succ]
          refine takeL 7 (v := ?_) rfl (by kernel_rfl) (by kernel_rfl) (by kernel_rfl) (fun _ _ _ h => h) (by kernel_rfl) ?_ (by assumption) ?_
          rotate_left
          · intro w hSw; (try dsimp only at hSw); first | (go_simp; done) | (go_simp; with_reducible rfl)
          try simp only [Act.put, List.setIfInBounds_toArray, List.set_cons_zero, List.set_cons_succ]
          refine takeL 8 (v := ?_) rfl (by kernel_rfl) (by kernel_rfl) (by kernel_rfl) (fun _ _ _ h => h) (by kernel_rfl) ?_ (by assumption) ?_
          rotate_left
          · intro w hSw; (try dsimp only at hSw); first | (go_simp; done) | (go_simp; with_reducible rfl)
          try simp only [Act.put, List.setIfInBounds_toArray, List.set_cons_zero, List.set_cons_succ]
          refine takeL 9 (v := ?_) rfl (by kernel_rfl) (by kernel_rfl) (by kernel_rfl) (fun _ _ _ h => h) (by kernel_rfl) ?_ (by assumption) ?_
          rotate_left
          · intro w hSw; (try dsimp only at hSw); first | (go_simp; done) | (go_simp; with_reducible rfl)
          try simp only [Act.put, List.setIfInBounds_toArray, List.set_cons_zero, List.set_cons_succ]
          refine callL 10 rfl (by kernel_rfl) (fun K hK => ?_)
          go_simp
          refine (hft _ hbd).mono ?_
          rintro e w1 ⟨rfl, b1⟩
          have HB1 : Hid (Below w.heap.size w w1) := HB.out.drew.trans (b1.mono HB.out.size)
          have HH := hheld _ b1
          go_wp2_with fail
          refine hK.out _ _ ?_ (fun hHeld => ?_)
          · exact HH
          clear hK K
          try simp only [Act.put, List.setIfInBounds_toArray, List.set_cons_zero, List.set_cons_succ]
          refine takeL 11 (v := ?_) rfl (by kernel_rfl) (by kernel_rfl) (by kernel_rfl) (fun _ _ _ h => h) (by kernel_rfl) ?_ (by assumption) ?_
          rotate_left
          · intro w hSw; (try dsimp only at hSw); first | (go_simp; done) | (go_simp; with_reducible rfl)
          try simp only [Act.put, List.setIfInBounds_toArray, List.set_cons_zero, List.set_cons_succ]
          refine takeL 12 (v := ?_) rfl (by kernel_rfl) (by kernel_rfl) (by kernel_rfl) (fun _ _ _ h => h) (by kernel_rfl) ?_ (by assumption) ?_
          rotate_left
          · intro w hSw; (try dsimp only at hSw); first | (go_simp; done) | (go_simp; with_reducible rfl)
          try simp only [Act.put, List.setIfInBounds_toArray, List.set_cons_zero, List.set_cons_succ]
          refine wpAnyH_done (by kernel_rfl) ?_ _
          refine NoPanic.normal ?_
          go_wp2_with fail
          go_roundw
          case rel => exact ⟨k + 1, HK1.out, by go_num, HB1, HQ3⟩
          case measure => have := HK1.out; simp [intOf]; omega
      · have hge : decide ((20 : Int) ≤ (k : Int)) = true := decide_eq_true (by omega)
        have HV : Hid (R = k + 1) := HBk.out (HFA.out (by omega))
        clear HBk HQ2 HFA HNE h20 hlt hk lkc
        have lkc : (k : Int) ≤ (cap : Int) := by omega
        go_wp2_with fail
        refine wp_region_noPanic ?_
        refine wp_region_held_drew (S := fun w' => w'.cell? ⟨g, k * 5, none⟩ = some (.string h.prev) ∧ w'.cell? ⟨g, k * 5 + 1, none⟩ = some (.string h.root) ∧ w'.cell? ⟨g, k * 5 + 2, none⟩ = some (.int .i64 h.time) ∧ w'.cell? ⟨g, k * 5 + 3, none⟩ = some (.int .i64 h.diff) ∧ w'.cell? ⟨g, k * 5 + 4, none⟩ = some (.int .i64 h.nonce)) (by kernel_rfl) (⟨c0, c1, c2, c3, c4⟩) (fun hHeld => ?_)
        refine takeL 0 (v := ?_) rfl (by kernel_rfl) (by kernel_rfl) (by kernel_rfl) (fun _ _ _ h => h) (by kernel_rfl) ?_ (by assumption) ?_
        rotate_left
        · intro w hSw; (try dsimp only at hSw); first | (go_simp; done) | (go_simp; with_reducible rfl)
        try simp only [Act.put, List.setIfInBounds_toArray, List.set_cons_zero, List.set_cons_succ]
        refine takeL 1 (v := ?_) rfl (by kernel_rfl) (by kernel_rfl) (by kernel_rfl) (fun _ _ _ h => h) (by kernel_rfl) ?_ (by assumption) ?_
        rotate_left
        · intro w hSw; (try dsimp only at hSw); first | (go_simp; done) | (go_simp; with_reducible rfl)
        try simp only [Act.put, List.setIfInBounds_toArray, List.set_cons_zero, List.set_cons_succ]
        refine takeL 2 (v := ?_) rfl (by kernel_rfl) (by kernel_rfl) (by kernel_rfl) (fun _ _ _ h => h) (by kernel_rfl) ?_ (by assumption) ?_
        rotate_left
        · intro w hSw; (try dsimp only at hSw); first | (go_simp; done) | (go_simp; with_reducible rfl)
        try simp only [Act.put, List.setIfInBounds_toArray, List.set_cons_zero, List.set_cons_succ]
        refine skipL 3 rfl (by kernel_rfl) (by kernel_rfl) (by kernel_rfl) (fun _ _ _ h => h) (by kernel_rfl) (by assumption) ?_
        try simp only [Act.put, List.setIfInBounds_toArray, List.set_cons_zero, List.set_cons_succ]
        refine skipL 4 rfl (by kernel_rfl) (by kernel_rfl) (by kernel_rfl) (fun _ _ _ h => h) (by kernel_rfl) (by assumption) ?_
        try simp only [Act.put, List.setIfInBounds_toArray, List.set_cons_zero, List.set_cons_succ]
        refine skipL 5 rfl (by kernel_rfl) (by kernel_rfl) (by kernel_rfl) (fun _ _ _ h => h) (by kernel_rfl) (by assumption) ?_
        try simp only [Act.put, List.setIfInBounds_toArray, List.set_cons_zero, List.set_cons_succ]
        refine skipL 6 rfl (by kernel_rfl) (by kernel_rfl) (by kernel_rfl) (fun _ _ _ h => h) (by kernel_rfl) (by assumption) ?_
        try simp only [Act.put, List.setIfInBounds_toArray, List.set_cons_zero, List.set_cons_succ]
        refine skipL 7 rfl (by kernel_rfl) (by kernel_rfl) (by kernel_rfl) (fun _ _ _ h => h) (by kernel_rfl) (by assumption) ?_
        try simp only [Act.put, List.setIfInBounds_toArray, List.set_cons_zero, List.set_cons_succ]
        refine skipL 8 rfl (by kernel_rfl) (by kernel_rfl) (by kernel_rfl) (fun _ _ _ h => h) (by kernel_rfl) (by assumption) ?_
        try simp only [Act.put, List.setIfInBounds_toArray, List.set_cons_zero, List.set_cons_succ]
        refine skipL 9 rfl (by kernel_rfl) (by kernel_rfl) (by kernel_rfl) (fun _ _ _ h => h) (by kernel_rfl) (by assumption) ?_
        try simp only [Act.put, List.setIfInBounds_toArray, List.set_cons_zero, List.set_cons_succ]
        refine skipL 10 rfl (by kernel_rfl) (by kernel_rfl) (by kernel_rfl) (fun _ _ _ h => h) (by kernel_rfl) (by assumption) ?_
        try simp only [Act.put, List.setIfInBounds_toArray, List.set_cons_zero, List.set_cons_succ]
        refine skipL 11 rfl (by kernel_rfl) (by kernel_rfl) (by kernel_rfl) (fun _ _ _ h => h) (by kernel_rfl) (by assumption) ?_
        try simp only [Act.put, List.setIfInBounds_toArray, List.set_cons_zero, List.set_cons_succ]
        refine takeL 12 (v := ?_) rfl (by kernel_rfl) (by kernel_rfl) (by kernel_rfl) (fun _ _ _ h => h) (by kernel_rfl) ?_ (by assumption) ?_
        rotate_left
        · intro w hSw; (try dsimp only at hSw); first | (go_simp; done) | (go_simp; with_reducible rfl)
        try simp only [Act.put, List.setIfInBounds_toArray, List.set_cons_zero, List.set_cons_succ]
        refine wpAnyH_done (by kernel_rfl) ?_ _
        refine NoPanic.normal ?_
        go_wp2_with fail
        go_ret
        exact ⟨by rw [HV.out]; rfl, HB.out.drew⟩
    · obtain rfl : k = n := by omega
      have HV : Hid (R = 0) := HGO.out HQ.out
      clear HGO HBA
      go_wp2_with fail
      go_ret
      exact ⟨by rw [HV.out]; rfl, HB.out⟩

end Go.Proofs.YtpddholoehmjkaaGreatDoor

set_option linter.unusedVariables false
namespace Go.Proofs.YtpddholoehmjkaaGreatDoor
open Go.RowKit Go.Deep

def ptsOf (bs : List BlkV) : List (HeadV × List ByteArray) := bs.map fun b => (b.h, b.ss)
def allOk (ps : List (HeadV × List ByteArray)) : Bool := ps.all fun p => blockOkB p.1 p.2
def okP (ps : List (HeadV × List ByteArray)) : Bool := decide (chainCk (ps.map (·.1)) = 0) && allOk ps
theorem pts_heads (bs : List BlkV) : (ptsOf bs).map (·.1) = bs.map (·.h) := by simp [ptsOf]
theorem blk_mem {bs : List BlkV} {k : Nat} (h : k < bs.length) : bs.getD k default ∈ bs := by rw [List.getD_eq_getElem?_getD, List.getElem?_eq_getElem h]; exact List.getElem_mem h
theorem allOk_bad {bs : List BlkV} {k : Nat} (hk : k < bs.length) (h : blockOkB (bs.getD k default).h (bs.getD k default).ss = false) : allOk (ptsOf bs) = false := by
  rw [allOk, List.all_eq_false]
  refine ⟨((bs.getD k default).h, (bs.getD k default).ss), List.mem_map.2 ⟨_, blk_mem hk, rfl⟩, ?_⟩
  simp only [h]
  decide
theorem allOk_good {bs : List BlkV} (h : ∀ k, k < bs.length → blockOkB (bs.getD k default).h (bs.getD k default).ss = true) : allOk (ptsOf bs) = true := by
  rw [allOk, List.all_eq_true]
  intro p hp
  obtain ⟨b, hb, rfl⟩ := List.mem_map.1 hp
  obtain ⟨i, hi, he⟩ := List.mem_iff_getElem.1 hb
  have := h i hi
  rw [List.getD_eq_getElem?_getD, List.getElem?_eq_getElem hi] at this
  rw [← he]
  exact this
theorem okP_no {bs : List BlkV} (h : chainCk (bs.map (·.h)) ≠ 0) : okP (ptsOf bs) = false := by rw [okP, pts_heads, decide_eq_false h, Bool.false_and]
theorem okP_yes {bs : List BlkV} (h : chainCk (bs.map (·.h)) = 0) : okP (ptsOf bs) = allOk (ptsOf bs) := by rw [okP, pts_heads, decide_eq_true h, Bool.true_and]

theorem makeHead0 (n : Nat) (hn : n ≤ 1048576) (w : World) : (Instr.makeSlice 44 (.int .i64 0) (.int .i64 (n : Int))).run Tryz.prog w = .ok (.slice (some ⟨w.heap.size, 0, none⟩) 0 n) (w.alloc (.cells ((List.replicate n zeroHead).flatMap enHead).toArray 39)) := by
  obtain ⟨i, hi, hz, hs, hb⟩ := info_parts infoHead
  have hb' : (i.bytes : Int) * (n : Int) ≤ 281474976710656 := by rw [hb]; omega
  have hr := run_make (P := Tryz.prog) w 44 39 i _ Tryz.underlying44 hi hz .i64 .i64 0 (n : Int) (by omega) (by omega) hb' (by omega)
  simp only [Int.toNat_natCast, hs, Value.cells] at hr
  rw [← made_flat 5 enHead enHead_len (by decide) zeroHead n]
  exact hr

set_option maxHeartbeats 2000000 in
set_option maxRecDepth 100000 in
theorem implBlockHeads (g n cap : Nat) (bs : List BlkV) (w : World) (h : AtBlk w g bs) (hn : n = bs.length) (hm : n ≤ 1048576) :
    Calls Tryz.prog 49 #[.slice (some ⟨g, 0, none⟩) n cap] w fun e w' => ∃ v, e = .returned v ∧ HRow w.heap.size v (bs.map (·.h)) w' ∧ Below w.heap.size w w' := by
  obtain ⟨i0, hi, hz0, hz1, hz2⟩ := info3 infoHead
  have hmk := makeHead0 n hm w
  have HA : Hid (AtBlk w g bs) := h
  have HN : Hid (n = bs.length) := hn
  have HE : Hid (bs.map (·.h) = (bs.take n).map (·.h)) := by show _ = _; rw [hn, List.take_length]
  have R0 : Hid (HRow w.heap.size (.slice (some ⟨w.heap.size, 0, none⟩) 0 n) [] (w.alloc (.cells ((List.replicate n zeroHead).flatMap enHead).toArray 39))) := frow_cap _ _ _ _ enHead_len zeroHead w (by unfold maxLen; omega)
  have B0 : Hid (Below w.heap.size w (w.alloc (.cells ((List.replicate n zeroHead).flatMap enHead).toArray 39))) := (Below.refl _ w).alloc (Nat.le_refl _) _
  clear h hn
  generalize w.alloc (.cells ((List.replicate n zeroHead).flatMap enHead).toArray 39) = w0 at hmk R0 B0
  go_enter Tryz.func49, Tryz.ntmps49
  go_wp2_with fail
  clear hmk
  go_loopw [3, 11] (fun v i wr => ∃ k g2 c2 : Nat, k ≤ n ∧ i = .int .i64 (k : Int) ∧ v = .slice (some ⟨g2, 0, none⟩) k c2 ∧ Hid (HRow w.heap.size v ((bs.take k).map (·.h)) wr) ∧ Hid (Below w.heap.size w wr)) (fun _ i _ => n - (intOf i).toNat)
  case atStart => exact ⟨0, w.heap.size, n, by omega, rfl, rfl, R0, B0⟩
  case round =>
    clear R0 B0
    obtain ⟨k, g2, c2, hk, rfl, rfl, R, HB⟩ := hrel
    by_cases hlt : k < n
    · have hkl : k < bs.length := by rw [← HN.out]; exact hlt
      have HAr : Hid (AtBlk wr g bs) := HA.out.below HB.out HA.out.1
      have q0 := AtBlk.c0 HAr.out k hkl
      have q1 := AtBlk.c1 HAr.out k hkl
      have q2 := AtBlk.c2 HAr.out k hkl
      have q3 := AtBlk.c3 HAr.out k hkl
      have q4 := AtBlk.c4 HAr.out k hkl
      have q5 := AtBlk.c5 HAr.out k hkl
      have lk : (k : Int) < (n : Int) := by omega
      have lk0 : (0 : Int) ≤ (k : Int) := by omega
      have wk : IntKind.i64.wrap ((k : Int) + 1) = (k : Int) + 1 := by rw [IntKind.wrap_i64]; omega
      have HK : Hid (k + 1 ≤ n) := hlt
      have HL : Hid ((bs.take k).length = k) := by show _ = _; rw [List.length_take]; omega
      have HT : Hid ((bs.take (k + 1)).map (·.h) = (bs.take k).map (·.h) ++ [(bs.getD k default).h]) := take_map hkl
      have HOW0 : Hid (wr.ownsRow w.heap.size 39 5 (.slice (some ⟨g2, 0, none⟩) k c2) k (((bs.take k).map (·.h)).flatMap enHead)) := by
        have := R.out.2
        rw [List.length_map, HL.out] at this
        exact this
      generalize bs.getD k default = b at q0 q1 q2 q3 q4 q5 HT
      obtain ⟨p, bg, bn, bc, bss⟩ := b
      dsimp only at q0 q1 q2 q3 q4 q5 HT
      have HOW : Hid ((wr.alloc (.cells #[.string p.prev, .string p.root, .int .i64 p.time, .int .i64 p.diff, .int .i64 p.nonce, .slice (some ⟨bg, 0, none⟩) bn bc] 41)).ownsRow w.heap.size 39 5 (.slice (some ⟨g2, 0, none⟩) k c2) k (((bs.take k).map (·.h)).flatMap enHead)) := World.ownsRow.alloc HOW0.out _
      have hsz : w.heap.size ≤ (wr.alloc (.cells #[.string p.prev, .string p.root, .int .i64 p.time, .int .i64 p.diff, .int .i64 p.nonce, .slice (some ⟨bg, 0, none⟩) bn bc] 41)).heap.size := Nat.le_trans HB.out.size (by simp)
      have HBA : Hid (Below w.heap.size w (wr.alloc (.cells #[.string p.prev, .string p.root, .int .i64 p.time, .int .i64 p.diff, .int .i64 p.nonce, .slice (some ⟨bg, 0, none⟩) bn bc] 41))) := HB.out.alloc HB.out.size _
      have hu := enHead_one p
      have hx1 : k + 1 ≤ maxLen := by unfold maxLen; omega
      have hx2 : (k + 1) * 56 ≤ 140737488355328 := by omega
      clear hkl R HOW0
      go_wp2_with (at_builtin; refine wp_appN rfl _ _ 44 rfl w.heap.size 39 i0 (.agg #[.string ⟨#[]⟩, .string ⟨#[]⟩, .int .i64 0, .int .i64 0, .int .i64 0]) 5 56 1 Tryz.underlying44 hi hz0 hz1 hz2 rfl (by decide) (by decide) _ _ _ rfl HOW.out (enHead p) (by simp [Act.eval]) rfl hu hx1 hx2 hsz ?_; intro g4 c4 w4 hown4 hb4 hkeep4)
      have R4 : Hid (HRow w.heap.size (.slice (some ⟨g4, 0, none⟩) (k + 1) c4) ((bs.take (k + 1)).map (·.h)) w4) := by
        refine FRow.of ?_ ?_
        · rw [HT.out, List.flatMap_append]
          simpa using hown4
        · rw [HT.out, List.length_append, List.length_map, HL.out]; rfl
      have B4 : Hid (Below w.heap.size w w4) := HBA.out.trans hb4
      clear hown4 hb4 hkeep4
      go_wp2_with fail
      go_roundw
      case rel => exact ⟨k + 1, g4, c4, HK.out, by go_num, rfl, R4, B4⟩
      case measure => have := HK.out; simp [intOf]; omega
    · obtain rfl : k = n := by omega
      go_wp2_with fail
      go_ret
      exact ⟨_, rfl, by rw [HE.out]; exact R.out, HB.out⟩

/-- A list of blocks in memory. -/
structure Blks (g n cap : Nat) (bs : List BlkV) (w : World) : Prop where
  at_ : AtBlk w g bs
  items : ∀ b ∈ bs, ItemsAt w b
  len : n = bs.length
  max : n ≤ 1048576
theorem Blks.below {g n cap : Nat} {bs : List BlkV} {w w' : World} (h : Blks g n cap bs w) (hb : Below w.heap.size w w') : Blks g n cap bs w' :=
  ⟨h.at_.below hb h.at_.1, fun b hb' => ⟨(h.items b hb').1.below hb (h.items b hb').1.1, (h.items b hb').2⟩, h.len, h.max⟩

set_option maxHeartbeats 2000000 in
set_option maxRecDepth 100000 in
theorem implChainOk (g n cap : Nat) (bs : List BlkV) (w : World) (h : Blks g n cap bs w) (hK : RowG w shaK) (hP : TabP w) (hE : ErrT w) :
    Calls Tryz.prog 22 #[.slice (some ⟨g, 0, none⟩) n cap] w fun e w' => e = .returned (.bool (okP (ptsOf bs))) ∧ Below w.heap.size w w' := by
  have hbh := implBlockHeads g n cap bs w h.at_ h.len h.max
  have HA : Hid (Blks g n cap bs w) := h
  have HK : Hid (RowG w shaK) := hK
  have HP : Hid (TabP w) := hP
  have HE : Hid (ErrT w) := hE
  have hm := h.max
  have HN : Hid (n = bs.length) := h.len
  have HNO : Hid (chainCk (bs.map (·.h)) ≠ 0 → okP (ptsOf bs) = false) := fun hc => okP_no hc
  have HBAD0 : Hid (chainCk (bs.map (·.h)) = 0 → ∀ k, k < n → blockOkB (bs.getD k default).h (bs.getD k default).ss = false → okP (ptsOf bs) = false) := fun hc k hk hf => by rw [okP_yes hc]; exact allOk_bad (by rw [← HN.out]; exact hk) hf
  have HGOO0 : Hid (chainCk (bs.map (·.h)) = 0 → (∀ k, k < n → blockOkB (bs.getD k default).h (bs.getD k default).ss = true) → okP (ptsOf bs) = true) := fun hc hq => by rw [okP_yes hc]; exact allOk_good (by rw [← HN.out]; exact hq)
  generalize okP (ptsOf bs) = R at HNO HBAD0 HGOO0 ⊢
  clear h hK hP hE
  go_enter Tryz.func22, Tryz.ntmps22
  go_wp2_with fail
  refine hbh.mono ?_
  rintro e w1 ⟨v, rfl, r1, b1⟩
  obtain ⟨g2, c2, hv⟩ := r1.1
  subst hv
  have hat := FRow.at enHead_len r1
  rw [List.length_map, ← HN.out] at hat ⊢
  have hck := implChainCheck g2 n c2 (bs.map (·.h)) w1 ⟨hat.1, by rw [List.length_map]; exact HN.out, hm, hat.2.2.2, HK.out.below b1 HK.out.lt, TabP.below HP.out b1 (Nat.le_refl _)⟩ (HE.out.below b1 HE.out.lt)
  have HB1 : Hid (Below w.heap.size w w1) := b1
  clear hbh hat r1 b1
  cases hc : chainCk (bs.map (·.h)) with
  | succ m =>
    have HV : Hid (R = false) := HNO.out (by rw [hc]; omega)
    rw [hc] at hck
    have hz : ¬ ((m + 1 : Nat) : Int) = 0 := by omega
    clear HNO HBAD0 HGOO0
    generalize m + 1 = m1 at hck hz
    clear hc
    go_wp2_with fail
    refine hck.mono ?_
    rintro e w2 ⟨rfl, b2⟩
    go_wp2_with fail
    go_ret
    exact ⟨by rw [HV.out]; rfl, HB1.out.trans (b2.mono HB1.out.size)⟩
  | zero =>
    have HBAD : Hid (∀ k, k < n → blockOkB (bs.getD k default).h (bs.getD k default).ss = false → R = false) := HBAD0.out hc
    have HGOO : Hid ((∀ k, k < n → blockOkB (bs.getD k default).h (bs.getD k default).ss = true) → R = true) := HGOO0.out hc
    rw [hc] at hck
    have hz : ((0 : Nat) : Int) = 0 := rfl
    rw [hz] at hck
    clear hc hz HNO HBAD0 HGOO0
    go_wp2_with fail
    refine hck.mono ?_
    rintro e w2 ⟨rfl, b2⟩
    have HB2 : Hid (Below w.heap.size w w2) := HB1.out.trans (b2.mono HB1.out.size)
    clear hck b2 HB1
    go_wp2_with fail
    go_loopw [11] (fun i wr => ∃ k : Nat, k ≤ n ∧ i = .int .i64 (k : Int) ∧ Hid (Below w.heap.size w wr) ∧ Hid (∀ q, q < k → blockOkB (bs.getD q default).h (bs.getD q default).ss = true)) (fun i _ => n - (intOf i).toNat)
    case atStart => exact ⟨0, by omega, rfl, HB2, fun q hq => by omega⟩
    case round =>
      clear HB2
      obtain ⟨k, hk, rfl, HB, HQ⟩ := hrel
      by_cases hlt : k < n
      · have hkl : k < bs.length := by rw [← HN.out]; exact hlt
        have HAr : Hid (Blks g n cap bs wr) := HA.out.below HB.out
        have q0 := AtBlk.c0 HAr.out.at_ k hkl
        have q1 := AtBlk.c1 HAr.out.at_ k hkl
        have q2 := AtBlk.c2 HAr.out.at_ k hkl
        have q3 := AtBlk.c3 HAr.out.at_ k hkl
        have q4 := AtBlk.c4 HAr.out.at_ k hkl
        have q5 := AtBlk.c5 HAr.out.at_ k hkl
        have HIT : Hid (ItemsAt wr (bs.getD k default)) := HAr.out.items _ (blk_mem hkl)
        have HBk : Hid (blockOkB (bs.getD k default).h (bs.getD k default).ss = false → R = false) := HBAD.out k hlt
        have HQ2 : Hid (blockOkB (bs.getD k default).h (bs.getD k default).ss = true → ∀ q, q < k + 1 → blockOkB (bs.getD q default).h (bs.getD q default).ss = true) := by
          intro h q hq
          rcases Nat.lt_or_ge q k with h' | h'
          · exact HQ.out q h'
          · obtain rfl : q = k := by omega
            exact h
        have lk : (k : Int) < (n : Int) := by omega
        have lk0 : (0 : Int) ≤ (k : Int) := by omega
        have wk : IntKind.i64.wrap ((k : Int) + 1) = (k : Int) + 1 := by rw [IntKind.wrap_i64]; omega
        have HK1 : Hid (k + 1 ≤ n) := hlt
        have hok := fun (w' : World) (hb : Below wr.heap.size wr w') => implBlockOk (bs.getD k default).h (bs.getD k default).g (bs.getD k default).n (bs.getD k default).cap (bs.getD k default).ss w' (HIT.out.1.below hb HIT.out.1.1) HIT.out.2 (HK.out.below (HB.out.trans (hb.mono HB.out.size)) HK.out.lt) (TabP.below HP.out (HB.out.trans (hb.mono HB.out.size)) (Nat.le_refl _))
        generalize blockOkB (bs.getD k default).h (bs.getD k default).ss = b at hok HBk HQ2
        clear HIT HQ HBAD HGOO hkl
        generalize bs.getD k default = bb at q0 q1 q2 q3 q4 q5 hok
        obtain ⟨p, bg, bn, bc, bss⟩ := bb
        unfold blockVal at hok
        dsimp only at q0 q1 q2 q3 q4 q5 hok
        have L0 : Hid (Below wr.heap.size wr (wr.alloc (.cells #[.string p.prev, .string p.root, .int .i64 p.time, .int .i64 p.diff, .int .i64 p.nonce, .slice (some ⟨bg, 0, none⟩) bn bc] 41))) := (Below.refl _ wr).alloc (Nat.le_refl _) _
        go_wp2_with fail
        refine (hok _ L0.out).mono ?_
        rintro e w3 ⟨rfl, b3⟩
        have HB3 : Hid (Below w.heap.size w w3) := HB.out.trans ((L0.out.trans (b3.mono L0.out.size)).mono HB.out.size)
        clear hok q0 q1 q2 q3 q4 q5 b3 L0
        cases b with
        | false =>
          have HV : Hid (R = false) := HBk.out rfl
          clear HBk HQ2
          go_wp2_with fail
          go_ret
          exact ⟨by rw [HV.out]; rfl, HB3.out⟩
        | true =>
          have HQ3 : Hid (∀ q, q < k + 1 → blockOkB (bs.getD q default).h (bs.getD q default).ss = true) := HQ2.out rfl
          clear HBk HQ2
          go_wp2_with fail
          go_roundw
          case rel => exact ⟨k + 1, HK1.out, by go_num, HB3, HQ3⟩
          case measure => have := HK1.out; simp [intOf]; omega
      · obtain rfl : k = n := by omega
        have HV : Hid (R = true) := HGOO.out HQ.out
        clear HBAD HGOO HQ
        go_wp2_with fail
        go_ret
        exact ⟨by rw [HV.out]; rfl, HB.out⟩

/-- What the specification needs of a list of blocks: short texts, few items. -/
structure BlksS (g n cap : Nat) (bs : List BlkV) (w : World) : Prop where
  b : Blks g n cap bs w
  wf : ∀ b ∈ bs, wfHead b.h
  few : ∀ b ∈ bs, b.n ≤ 1048576
  small : ∀ b ∈ bs, ∀ i, i < b.ss.length → (b.ss.getD i ByteArray.empty).size ≤ 1048576
theorem BlksS.below {g n cap : Nat} {bs : List BlkV} {w w' : World} (h : BlksS g n cap bs w) (hb : Below w.heap.size w w') : BlksS g n cap bs w' :=
  ⟨h.b.below hb, h.wf, h.few, h.small⟩

set_option maxHeartbeats 2000000 in
set_option maxRecDepth 100000 in
theorem specL4Blocks (g n cap : Nat) (bs : List BlkV) (w : World) (h : BlksS g n cap bs w) :
    Calls Tryz.prog 41 #[.slice (some ⟨g, 0, none⟩) n cap] w fun e w' => e = .returned (.bool (okP (ptsOf bs))) ∧ Below w.heap.size w w' := by
  have HA : Hid (BlksS g n cap bs w) := h
  have hm := h.b.max
  have HN : Hid (n = bs.length) := h.b.len
  have HBAD : Hid (∀ k, k < n → blockOkB (bs.getD k default).h (bs.getD k default).ss = false → okP (ptsOf bs) = false) := fun k hk hf => by
    rw [okP, allOk_bad (by rw [← HN.out]; exact hk) hf, Bool.and_false]
  have HGOO : Hid ((∀ k, k < n → blockOkB (bs.getD k default).h (bs.getD k default).ss = true) → okP (ptsOf bs) = decide (chainCk (bs.map (·.h)) = 0)) := fun hq => by
    rw [okP, allOk_good (by rw [← HN.out]; exact hq), Bool.and_true, pts_heads]
  clear h
  generalize okP (ptsOf bs) = R at HBAD HGOO ⊢
  go_enter Tryz.func41, Tryz.ntmps41
  go_wp2_with fail
  go_loopw [3] (fun i wr => ∃ k : Nat, k ≤ n ∧ i = .int .i64 (k : Int) ∧ Hid (Below w.heap.size w wr) ∧ Hid (∀ q, q < k → blockOkB (bs.getD q default).h (bs.getD q default).ss = true)) (fun i _ => n - (intOf i).toNat)
  case atStart => exact ⟨0, by omega, rfl, Below.refl _ _, fun q hq => by omega⟩
  case round =>
    obtain ⟨k, hk, rfl, HB, HQ⟩ := hrel
    by_cases hlt : k < n
    · have hkl : k < bs.length := by rw [← HN.out]; exact hlt
      have HAr : Hid (BlksS g n cap bs wr) := HA.out.below HB.out
      have q0 := AtBlk.c0 HAr.out.b.at_ k hkl
      have q1 := AtBlk.c1 HAr.out.b.at_ k hkl
      have q2 := AtBlk.c2 HAr.out.b.at_ k hkl
      have q3 := AtBlk.c3 HAr.out.b.at_ k hkl
      have q4 := AtBlk.c4 HAr.out.b.at_ k hkl
      have q5 := AtBlk.c5 HAr.out.b.at_ k hkl
      have HIT : Hid (ItemsAt wr (bs.getD k default)) := HAr.out.b.items _ (blk_mem hkl)
      have HBk : Hid (blockOkB (bs.getD k default).h (bs.getD k default).ss = false → R = false) := HBAD.out k hlt
      have HQ2 : Hid (blockOkB (bs.getD k default).h (bs.getD k default).ss = true → ∀ q, q < k + 1 → blockOkB (bs.getD q default).h (bs.getD q default).ss = true) := by
        intro h q hq
        rcases Nat.lt_or_ge q k with h' | h'
        · exact HQ.out q h'
        · obtain rfl : q = k := by omega
          exact h
      have lk : (k : Int) < (n : Int) := by omega
      have lk0 : (0 : Int) ≤ (k : Int) := by omega
      have wk : IntKind.i64.wrap ((k : Int) + 1) = (k : Int) + 1 := by rw [IntKind.wrap_i64]; omega
      have HK1 : Hid (k + 1 ≤ n) := hlt
      have hok := specL3BlockOk (bs.getD k default).h (bs.getD k default).g (bs.getD k default).n (bs.getD k default).cap (bs.getD k default).ss wr HIT.out.1 HIT.out.2 (HAr.out.wf _ (blk_mem hkl)).1 (HAr.out.wf _ (blk_mem hkl)).2 (HAr.out.few _ (blk_mem hkl)) (HAr.out.small _ (blk_mem hkl))
      generalize blockOkB (bs.getD k default).h (bs.getD k default).ss = b at hok HBk HQ2
      clear HIT HQ HBAD HGOO hkl
      generalize bs.getD k default = bb at q0 q1 q2 q3 q4 q5 hok
      obtain ⟨p, bg, bn, bc, bss⟩ := bb
      unfold blockVal at hok
      dsimp only at q0 q1 q2 q3 q4 q5 hok
      go_wp2_with fail
      refine hok.mono ?_
      rintro e w3 ⟨rfl, b3⟩
      have HB3 : Hid (Below w.heap.size w w3) := HB.out.trans (b3.mono HB.out.size)
      clear hok q0 q1 q2 q3 q4 q5 b3
      cases b with
      | false =>
        have HV : Hid (R = false) := HBk.out rfl
        clear HBk HQ2
        go_wp2_with fail
        go_ret
        exact ⟨by rw [HV.out]; rfl, HB3.out⟩
      | true =>
        have HQ3 : Hid (∀ q, q < k + 1 → blockOkB (bs.getD q default).h (bs.getD q default).ss = true) := HQ2.out rfl
        clear HBk HQ2
        go_wp2_with fail
        go_roundw
        case rel => exact ⟨k + 1, HK1.out, by go_num, HB3, HQ3⟩
        case measure => have := HK1.out; simp [intOf]; omega
    · obtain rfl : k = n := by omega
      have HV : Hid (R = decide (chainCk (bs.map (·.h)) = 0)) := HGOO.out HQ.out
      have HAr : Hid (BlksS g k cap bs wr) := HA.out.below HB.out
      have hhd := specL4Heads g k cap bs wr HAr.out.b.at_ HN.out hm
      clear HBAD HGOO HQ
      go_wp2_with fail
      refine hhd.mono ?_
      rintro e w1 ⟨v, rfl, r1, b1⟩
      obtain ⟨g2, c2, hv⟩ := r1.1
      subst hv
      have hat := FRow.at enHead_len r1
      rw [List.length_map, ← HN.out] at hat ⊢
      have hck := specL4Check g2 k c2 (bs.map (·.h)) w1 ⟨hat.1, by rw [List.length_map]; exact HN.out, hm, hat.2.2.2, fun i hi => by
        rw [List.length_map] at hi
        rw [getD_map hi]
        exact HA.out.wf _ (blk_mem hi)⟩
      have HB1 : Hid (Below w.heap.size w w1) := HB.out.trans (b1.mono HB.out.size)
      generalize chainCk (bs.map (·.h)) = m at hck HV
      clear hhd hat r1 b1
      go_wp2_with fail
      refine hck.mono ?_
      rintro e w2 ⟨rfl, b2⟩
      have HB2 : Hid (Below w.heap.size w w2) := HB1.out.trans (b2.mono HB1.out.size)
      clear hck b2
      rcases Nat.eq_zero_or_pos m with h0 | h0
      · subst h0
        go_wp2_with fail
        go_ret
        exact ⟨by rw [HV.out]; rfl, HB2.out⟩
      · have hm0 : ((m : Int) == 0) = false := beq_eq_false_iff_ne.2 (by omega)
        have hm1 : ¬ (m : Int) = 0 := by omega
        have HD : Hid (decide (m = 0) = false) := decide_eq_false (by omega)
        go_wp2_with fail
        go_ret
        exact ⟨by rw [HV.out, HD.out]; first | rfl | (simp; omega), HB2.out⟩

end Go.Proofs.YtpddholoehmjkaaGreatDoor

set_option linter.unusedVariables false
namespace Go.Proofs.YtpddholoehmjkaaGreatDoor
open Go.RowKit Go.Deep

end Go.Proofs.YtpddholoehmjkaaGreatDoor

namespace Go.Proofs.YtpddholoehmjkaaGreatDoor

theorem span_at {β : Type} (p : β → Bool) (d : β) : ∀ (l : List β) (k : Nat), k ≤ l.length → (∀ j, j < k → p (l.getD j d) = true) → (k < l.length → p (l.getD k d) = false) → l.takeWhile p = l.take k ∧ l.dropWhile p = l.drop k
  | [], k, hk, _, _ => by
    have : k = 0 := by simpa using hk
    subst this
    simp
  | a :: r, 0, _, _, h2 => by
    have := h2 (by simp)
    have ha : p a = false := by simpa using this
    simp [ha]
  | a :: r, k + 1, hk, h1, h2 => by
    have ha : p a = true := by simpa using h1 0 (by omega)
    have ih := span_at p d r k (by simpa using hk) (fun j hj => by simpa using h1 (j + 1) (by omega)) (fun hj => by simpa using h2 (by simpa using hj))
    simp [ha, ih.1, ih.2]
/-- One more, behind those that are not greater. -/
def sortIns (o : List Int) (z : Int) : List Int := o.takeWhile (fun y => decide (y ≤ z)) ++ z :: o.dropWhile (fun y => decide (y ≤ z))
def sortL (l : List Int) : List Int := l.foldl sortIns []
theorem sortL_snoc (l : List Int) (z : Int) : sortL (l ++ [z]) = sortIns (sortL l) z := by simp [sortL]
theorem sortIns_length (o : List Int) (z : Int) : (sortIns o z).length = o.length + 1 := by
  have := congrArg List.length (List.takeWhile_append_dropWhile (p := fun y => decide (y ≤ z)) (l := o))
  rw [List.length_append] at this
  simp [sortIns]
  omega
theorem sortIns_mem {o : List Int} {z x : Int} : x ∈ sortIns o z ↔ x = z ∨ x ∈ o := by
  have e := List.takeWhile_append_dropWhile (p := fun y => decide (y ≤ z)) (l := o)
  constructor
  · intro h
    rcases List.mem_append.1 h with h | h
    · right; rw [← e]; exact List.mem_append_left _ h
    · rcases List.mem_cons.1 h with h | h
      · exact .inl h
      · right; rw [← e]; exact List.mem_append_right _ h
  · rintro (rfl | h)
    · exact List.mem_append_right _ (by simp)
    · rw [← e] at h
      rcases List.mem_append.1 h with h | h
      · exact List.mem_append_left _ h
      · exact List.mem_append_right _ (by simp [h])
theorem sortL_take (l : List Int) (k : Nat) (hk : k < l.length) : sortL (l.take (k + 1)) = sortIns (sortL (l.take k)) (l.getD k 0) := by
  have e : l.take (k + 1) = l.take k ++ [l.getD k 0] := by
    rw [List.take_add_one, List.getElem?_eq_getElem hk, List.getD_eq_getElem?_getD, List.getElem?_eq_getElem hk]
    rfl
  rw [e, sortL_snoc]
theorem sortL_length : ∀ l : List Int, (sortL l).length = l.length := by
  have : ∀ (l o : List Int), (l.foldl sortIns o).length = o.length + l.length := by
    intro l
    induction l with
    | nil => intro o; rfl
    | cons a r ih => intro o; rw [List.foldl_cons, ih, sortIns_length, List.length_cons]; omega
  intro l
  have h := this l []
  simpa [sortL] using h
theorem sortL_mem : ∀ (l : List Int) (x : Int), x ∈ sortL l ↔ x ∈ l := by
  have : ∀ (l o : List Int) (x : Int), x ∈ l.foldl sortIns o ↔ x ∈ o ∨ x ∈ l := by
    intro l
    induction l with
    | nil => intro o x; simp
    | cons a r ih =>
      intro o x
      rw [List.foldl_cons, ih, sortIns_mem, List.mem_cons]
      constructor
      · rintro ((h | h) | h) <;> simp [h]
      · rintro (h | h | h) <;> simp [h]
  intro l x
  have h := this l [] x
  simpa [sortL] using h

end Go.Proofs.YtpddholoehmjkaaGreatDoor

namespace Go.Proofs.YtpddholoehmjkaaGreatDoor

def ltB (a b : ByteArray) : Bool := Op.bytesLess a.toList b.toList
/-- One more, behind those that are less, if it is not there. -/
def setIns (o : List ByteArray) (z : ByteArray) : List ByteArray :=
  if (o.dropWhile (fun y => ltB y z)).head? = some z then o else o.takeWhile (fun y => ltB y z) ++ z :: o.dropWhile (fun y => ltB y z)
def setL (l : List ByteArray) : List ByteArray := l.foldl setIns []
theorem setL_snoc (l : List ByteArray) (z : ByteArray) : setL (l ++ [z]) = setIns (setL l) z := by simp [setL]
theorem setIns_length (o : List ByteArray) (z : ByteArray) : (setIns o z).length = o.length ∨ (setIns o z).length = o.length + 1 := by
  have := congrArg List.length (List.takeWhile_append_dropWhile (p := fun y => ltB y z) (l := o))
  rw [List.length_append] at this
  unfold setIns
  split
  · exact .inl rfl
  · right
    rw [List.length_append, List.length_cons]
    omega
theorem setIns_mem {o : List ByteArray} {z x : ByteArray} : x ∈ setIns o z ↔ x = z ∨ x ∈ o := by
  have e := List.takeWhile_append_dropWhile (p := fun y => ltB y z) (l := o)
  unfold setIns
  split
  · rename_i hh
    constructor
    · exact fun h => .inr h
    · rintro (rfl | h)
      · rw [← e]
        refine List.mem_append_right _ ?_
        cases hd : o.dropWhile (fun y => ltB y x) with
        | nil => rw [hd] at hh; cases hh
        | cons a r => rw [hd] at hh; simp at hh; simp [hh]
      · exact h
  · constructor
    · intro h
      rcases List.mem_append.1 h with h | h
      · right; rw [← e]; exact List.mem_append_left _ h
      · rcases List.mem_cons.1 h with h | h
        · exact .inl h
        · right; rw [← e]; exact List.mem_append_right _ h
    · rintro (rfl | h)
      · exact List.mem_append_right _ (by simp)
      · rw [← e] at h
        rcases List.mem_append.1 h with h | h
        · exact List.mem_append_left _ h
        · exact List.mem_append_right _ (by simp [h])
theorem setL_take (l : List ByteArray) (k : Nat) (hk : k < l.length) : setL (l.take (k + 1)) = setIns (setL (l.take k)) (l.getD k ByteArray.empty) := by
  have e : l.take (k + 1) = l.take k ++ [l.getD k ByteArray.empty] := by
    rw [List.take_add_one, List.getElem?_eq_getElem hk, List.getD_eq_getElem?_getD, List.getElem?_eq_getElem hk]
    rfl
  rw [e, setL_snoc]
theorem setL_length : ∀ l : List ByteArray, (setL l).length ≤ l.length := by
  have : ∀ (l o : List ByteArray), (l.foldl setIns o).length ≤ o.length + l.length := by
    intro l
    induction l with
    | nil => intro o; exact Nat.le_refl _
    | cons a r ih =>
      intro o
      rw [List.foldl_cons, List.length_cons]
      have h1 := ih (setIns o a)
      rcases setIns_length o a with h2 | h2 <;> omega
  intro l
  have h := this l []
  simpa [setL] using h
theorem setL_mem : ∀ (l : List ByteArray) (x : ByteArray), x ∈ setL l ↔ x ∈ l := by
  have : ∀ (l o : List ByteArray) (x : ByteArray), x ∈ l.foldl setIns o ↔ x ∈ o ∨ x ∈ l := by
    intro l
    induction l with
    | nil => intro o x; simp
    | cons a r ih =>
      intro o x
      rw [List.foldl_cons, ih, setIns_mem, List.mem_cons]
      constructor
      · rintro ((h | h) | h) <;> simp [h]
      · rintro (h | h | h) <;> simp [h]
  intro l x
  have h := this l [] x
  simpa [setL] using h
theorem setL_ne {l : List ByteArray} (h : l ≠ []) : setL l ≠ [] := by
  intro e
  cases l with
  | nil => exact h rfl
  | cons a r =>
    have := (setL_mem (a :: r) a).2 (by simp)
    rw [e] at this
    cases this
theorem toList_inj {a b : ByteArray} (h : a.toList = b.toList) : a = b := by
  rw [ByteArray.toList_eq, ByteArray.toList_eq] at h
  cases a
  cases b
  simp at h
  rw [h]

end Go.Proofs.YtpddholoehmjkaaGreatDoor

namespace Go.Proofs.YtpddholoehmjkaaGreatDoor
open Go.Sort

theorem tx_irr (a : List UInt8) : ¬ a < a := List.lt_irrefl a
theorem tx_trans {a b c : List UInt8} (h1 : a < b) (h2 : b < c) : a < c := List.lt_trans h1 h2
theorem tx_not {a b : List UInt8} : ¬ a < b ↔ b ≤ a := List.not_lt
theorem tx_lt {a b : List UInt8} (h : a ≤ b) (hn : a ≠ b) : a < b := by
  by_cases hl : a < b
  · exact hl
  · exact absurd (List.le_antisymm h (tx_not.1 hl)) hn
theorem tx_lele {a b c : List UInt8} (h1 : a ≤ b) (h2 : b < c) : a < c := by
  by_cases e : a = b
  · rw [e]; exact h2
  · exact tx_trans (tx_lt h1 e) h2
theorem tx_le {a b c : List UInt8} (h1 : a ≤ b) (h2 : b ≤ c) : a ≤ c := List.le_trans h1 h2
/-- Two rows, each in order with none twice, of the same texts. -/
theorem strict_eq : ∀ {a b : List (List UInt8)}, a.Pairwise (· < ·) → b.Pairwise (· < ·) → (∀ x, x ∈ a ↔ x ∈ b) → a = b
  | [], [], _, _, _ => rfl
  | [], y :: s, _, _, h => absurd ((h y).2 (by simp)) (by simp)
  | x :: r, [], _, _, h => absurd ((h x).1 (by simp)) (by simp)
  | x :: r, y :: s, ha, hb, h => by
    have h1 := List.pairwise_cons.1 ha
    have h2 := List.pairwise_cons.1 hb
    have hxy : x = y := by
      rcases List.mem_cons.1 ((h x).1 (by simp)) with e | hx
      · exact e
      · rcases List.mem_cons.1 ((h y).2 (by simp)) with e | hy
        · exact e.symm
        · exact absurd (tx_trans (h1.1 y hy) (h2.1 x hx)) (tx_irr x)
    subst hxy
    refine congrArg _ (strict_eq h1.2 h2.2 fun z => ?_)
    constructor
    · intro hz
      rcases List.mem_cons.1 ((h z).1 (List.mem_cons_of_mem _ hz)) with e | h'
      · subst e; exact absurd (h1.1 z hz) (tx_irr z)
      · exact h'
    · intro hz
      rcases List.mem_cons.1 ((h z).2 (List.mem_cons_of_mem _ hz)) with e | h'
      · subst e; exact absurd (h2.1 z hz) (tx_irr z)
      · exact h'
theorem compact_in (d : Array (List UInt8)) (hs : ∀ j, j + 1 < d.size → d[j]! ≤ d[j + 1]!) : ∀ m, m ≤ d.size →
    (Lib.compactUpTo d m).Pairwise (· < ·) ∧ (∀ x, x ∈ Lib.compactUpTo d m ↔ ∃ j, j < m ∧ d[j]! = x) ∧ (∀ x ∈ Lib.compactUpTo d m, x ≤ d[m - 1]!)
  | 0, _ => by simp [Lib.compactUpTo]
  | m + 1, hm => by
    obtain ⟨h1, h2, h3⟩ := compact_in d hs m (by omega)
    rw [Lib.compactUpTo_succ]
    have hup : ∀ x ∈ Lib.compactUpTo d m, x ≤ d[m]! := by
      intro x hx
      obtain ⟨j, hj, _⟩ := (h2 x).1 hx
      have := hs (m - 1) (by omega)
      rw [show m - 1 + 1 = m by omega] at this
      exact tx_le (h3 x hx) this
    cases hk : Lib.keeps d m with
    | true =>
      simp only [if_true]
      have hlt : ∀ x ∈ Lib.compactUpTo d m, x < d[m]! := by
        intro x hx
        obtain ⟨j, hj, _⟩ := (h2 x).1 hx
        have hne : d[m]! ≠ d[m - 1]! := by
          have := of_decide_eq_true hk
          rcases this with h | h
          · omega
          · exact h
        have := hs (m - 1) (by omega)
        rw [show m - 1 + 1 = m by omega] at this
        exact tx_lele (h3 x hx) (tx_lt this (fun e => hne e.symm))
      refine ⟨List.pairwise_append.2 ⟨h1, by simp, ?_⟩, ?_, ?_⟩
      · intro a ha b hb
        rw [List.mem_singleton.1 hb]
        exact hlt a ha
      · intro x
        rw [List.mem_append, h2, List.mem_singleton]
        constructor
        · rintro (⟨j, hj, e⟩ | e)
          · exact ⟨j, by omega, e⟩
          · exact ⟨m, by omega, e.symm⟩
        · rintro ⟨j, hj, e⟩
          rcases Nat.lt_or_ge j m with h' | h'
          · exact .inl ⟨j, h', e⟩
          · obtain rfl : j = m := by omega
            exact .inr e.symm
      · intro x hx
        rcases List.mem_append.1 hx with hx | hx
        · exact hup x hx
        · rw [List.mem_singleton.1 hx]
          exact tx_not.1 (tx_irr _)
    | false =>
      have hk' := of_decide_eq_false hk
      have hm0 : m ≠ 0 := fun e => hk' (.inl e)
      have he : d[m]! = d[m - 1]! := Classical.byContradiction fun h => hk' (.inr h)
      simp only [Bool.false_eq_true, if_false, List.append_nil]
      refine ⟨h1, fun x => ?_, fun x hx => hup x hx⟩
      rw [h2]
      constructor
      · rintro ⟨j, hj, e⟩; exact ⟨j, by omega, e⟩
      · rintro ⟨j, hj, e⟩
        rcases Nat.lt_or_ge j m with h' | h'
        · exact ⟨j, h', e⟩
        · obtain rfl : j = m := by omega
          exact ⟨j - 1, by omega, by rw [← he]; exact e⟩
theorem compact_sorted (zs : List (List UInt8)) (h : zs.Pairwise (· ≤ ·)) : (Lib.compact zs).Pairwise (· < ·) ∧ ∀ x, x ∈ Lib.compact zs ↔ x ∈ zs := by
  have hg : ∀ j (hj : j < zs.length), zs.toArray[j]! = zs[j] := fun j hj => by simp [getElem!_pos, hj]
  have := compact_in zs.toArray (fun j hj => by
    have hj' : j + 1 < zs.length := by simpa using hj
    rw [hg j (by omega), hg (j + 1) hj']
    exact List.pairwise_iff_getElem.1 h j (j + 1) (by omega) hj' (by omega)) zs.length (by simp)
  refine ⟨this.1, fun x => (this.2.1 x).trans ?_⟩
  rw [List.mem_iff_getElem]
  constructor
  · rintro ⟨j, hj, e⟩; exact ⟨j, hj, by rw [← hg j hj]; exact e⟩
  · rintro ⟨j, hj, e⟩; exact ⟨j, hj, by rw [hg j hj]; exact e⟩
theorem ltB_iff (a b : ByteArray) : ltB a b = decide (a.data.toList < b.data.toList) := by rw [ltB, bytesLess_eq, ByteArray.toList_eq, ByteArray.toList_eq]
theorem setIns_less {x z : ByteArray} (r : List ByteArray) (h : ltB x z = true) : setIns (x :: r) z = x :: setIns r z := by
  unfold setIns
  rw [List.dropWhile_cons_of_pos (p := fun y => ltB y z) h, List.takeWhile_cons_of_pos (p := fun y => ltB y z) h]
  split <;> rfl
theorem setIns_not {x z : ByteArray} (r : List ByteArray) (h : ltB x z = false) : setIns (x :: r) z = if x = z then x :: r else z :: x :: r := by
  have h' : ¬ ltB x z = true := by rw [h]; simp
  unfold setIns
  rw [List.dropWhile_cons_of_neg (p := fun y => ltB y z) h', List.takeWhile_cons_of_neg (p := fun y => ltB y z) h', List.head?_cons, List.nil_append]
  simp only [Option.some.injEq]
theorem data_inj {a b : ByteArray} (h : a.data.toList = b.data.toList) : a = b := toList_inj (by rw [ByteArray.toList_eq, ByteArray.toList_eq]; exact h)
theorem setIns_pair (z : ByteArray) : ∀ (o : List ByteArray), o.Pairwise (fun a b => a.data.toList < b.data.toList) → (setIns o z).Pairwise (fun a b => a.data.toList < b.data.toList)
  | [], _ => by simp [setIns]
  | x :: r, h => by
    have h1 := List.pairwise_cons.1 h
    cases hx : ltB x z with
    | true =>
      have hlt : x.data.toList < z.data.toList := by rw [ltB_iff] at hx; exact of_decide_eq_true hx
      rw [setIns_less r hx]
      refine List.pairwise_cons.2 ⟨?_, setIns_pair z r h1.2⟩
      intro y hy
      rcases setIns_mem.1 hy with rfl | hy
      · exact hlt
      · exact h1.1 y hy
    | false =>
      have hnl : ¬ x.data.toList < z.data.toList := by rw [ltB_iff] at hx; exact of_decide_eq_false hx
      rw [setIns_not r hx]
      split
      · exact h
      · rename_i hne
        have hzx : z.data.toList < x.data.toList := tx_lt (tx_not.1 hnl) (fun e => hne (data_inj e.symm))
        refine List.pairwise_cons.2 ⟨?_, h⟩
        intro y hy
        rcases List.mem_cons.1 hy with rfl | hy
        · exact hzx
        · exact tx_trans hzx (h1.1 y hy)
theorem setL_pair (l : List ByteArray) : (setL l).Pairwise (fun a b => a.data.toList < b.data.toList) := by
  have : ∀ (l o : List ByteArray), o.Pairwise (fun a b => a.data.toList < b.data.toList) → (l.foldl setIns o).Pairwise (fun a b => a.data.toList < b.data.toList) := by
    intro l
    induction l with
    | nil => intro o h; exact h
    | cons a r ih => intro o h; exact ih _ (setIns_pair a o h)
  exact this l [] List.Pairwise.nil
/-- The library's Sort and Compact make the model's set. -/
theorem compact_set (ss : List ByteArray) : Lib.compact ((ss.map fun s => s.data.toList).mergeSort fun x y => decide (x ≤ y)) = (setL ss).map fun s => s.data.toList := by
  have hp := List.pairwise_mergeSort (le := fun x y : List UInt8 => decide (x ≤ y)) (by intro a b c h1 h2; exact decide_eq_true (tx_le (of_decide_eq_true h1) (of_decide_eq_true h2))) (by intro a b; rcases List.le_total a b with h | h <;> simp [h]) (ss.map fun s => s.data.toList)
  have hc := compact_sorted _ (hp.imp (by intro a b h; exact of_decide_eq_true h))
  refine strict_eq hc.1 (List.pairwise_map.2 (setL_pair ss)) fun x => ?_
  rw [hc.2, List.mem_mergeSort, List.mem_map, List.mem_map]
  constructor
  · rintro ⟨s, hs, e⟩; exact ⟨s, (setL_mem ss s).2 hs, e⟩
  · rintro ⟨s, hs, e⟩; exact ⟨s, (setL_mem ss s).1 hs, e⟩

end Go.Proofs.YtpddholoehmjkaaGreatDoor

set_option linter.unusedVariables false
namespace Go.Proofs.YtpddholoehmjkaaGreatDoor
open Go.RowKit Go.Sort

theorem enc_data (ss : List ByteArray) : (ss.map fun s => s.data.toList).map encStr = ss.map Value.string := by
  rw [List.map_map]
  apply List.map_congr_left
  intro s _
  rfl
theorem set_left {w w1 : World} {g cap nn q : Nat} {os : Array Obj} {ss : List ByteArray} (hown : w1.ownsRow w.heap.size 9 1 (.slice (some ⟨g, 0, none⟩) ss.length cap) ss.length (ss.map Value.string)) (hbel : Below w.heap.size w w1) (hbg : w.heap.size ≤ g) :
    let so := (ss.map fun s => s.data.toList).mergeSort fun x y => decide (x ≤ y)
    let w3 := putRow encStr (Sort.ahead (grow (putRow encStr (Sort.ahead w1 nn) g 0 so.toArray) os) q) g 0 (Lib.compact so ++ List.replicate (so.length - (Lib.compact so).length) []).toArray
    w3.ownsRow w.heap.size 9 1 (.slice (some ⟨g, 0, none⟩) (setL ss).length cap) (setL ss).length ((setL ss).map Value.string) ∧ Below w.heap.size w w3 := by
  intro so w3
  have hl2 : so.length = (ss.map fun s => s.data.toList).length := List.length_mergeSort _
  have hle := Lib.compact_length_le so
  have hcs : Lib.compact so = (setL ss).map fun s => s.data.toList := compact_set ss
  have hcl : (Lib.compact so).length = (setL ss).length := by rw [hcs, List.length_map]
  have hl3 : so.length = ss.length := by rw [hl2, List.length_map]
  rcases hown.2 with ⟨h0, _⟩ | ⟨g', cap', cur, hv, hbase, hb, h1, h2, h3, h4⟩
  · cases h0
  cases hv
  have hs := ownsRow_sorted (n := nn) (os := os) (ss := so) (ts := so) rfl hbase hb (by rw [hl3]; exact h1) h2 h3
  have hc := Lib.ownsRow_putRow (q := q) (k := (Lib.compact so).length) (ys := Lib.compact so ++ List.replicate (so.length - (Lib.compact so).length) []) hs (by simp; omega) (by omega)
  rw [List.take_left] at hc
  refine ⟨?_, Lib.below_putRow (hbel.grown (grownBy_sorted _) hbel.size (fun j hj => by cases hj; exact hbase)) hbg⟩
  have e1 : (setL ss).map Value.string = (Lib.compact so).map encStr := by rw [hcs, enc_data]
  rw [e1, ← hcl]
  exact hc

end Go.Proofs.YtpddholoehmjkaaGreatDoor

set_option linter.unusedVariables false
namespace Go.Proofs.YtpddholoehmjkaaGreatDoor
open Go.RowKit Go.Shelf
attribute [local go_sem] Oper.semAt_some

abbrev Bit := { b : Nat // b ≤ 1 }
def bitOf (s : ByteArray) (q : Nat) : Bit := ⟨(s.data.toList.getD (q / 8) 0).toNat / 2 ^ (7 - q % 8) % 2, by omega⟩
def bitsTo (s : ByteArray) (k : Nat) : List Bit := (List.range k).map (bitOf s)
theorem bitsTo_succ (s : ByteArray) (k : Nat) : bitsTo s (k + 1) = bitsTo s k ++ [bitOf s k] := by simp [bitsTo, List.range_succ]
theorem bitsTo_length (s : ByteArray) (k : Nat) : (bitsTo s k).length = k := by simp [bitsTo]

end Go.Proofs.YtpddholoehmjkaaGreatDoor

set_option linter.unusedVariables false
namespace Go.Proofs.YtpddholoehmjkaaGreatDoor
open Go.RowKit Go.Shelf
attribute [local go_sem] Oper.semAt_some

def KeepsAt (Bs : Nat) (W W' : World) : Prop := W'.cell? ⟨Bs, 0, none⟩ = W.cell? ⟨Bs, 0, none⟩
theorem KeepsAt.t {Bs : Nat} {A B C : World} (h : KeepsAt Bs A B) (k : KeepsAt Bs B C) : KeepsAt Bs A C := Eq.trans k h
theorem KeepsAt.b {Bs : Nat} {w : World} (hb : Bs < w.heap.size) (W : World) (l : Nat) (o o' : Obj) (hl : w.heap.size ≤ l) (h : W.heap[l]? = some o) (_ : o.isCells = false) (_ : o.isWalk = false) : KeepsAt Bs W (W.putObj l o') := by
  have hB : Below (Bs + 1) W (W.putObj l o') := belowK_b (w := w) (by omega) W l o o' hl h (by assumption) (by assumption)
  exact hB.cell (p := ⟨Bs, 0, none⟩) (by show Bs < Bs + 1; omega)

end Go.Proofs.YtpddholoehmjkaaGreatDoor

namespace Go.Proofs.YtpddholoehmjkaaGreatDoor
open Go.RowKit

def valB (l : List Nat) : Nat := l.foldl (fun n b => n * 2 + b) 0
theorem valB_snoc (l : List Nat) (b : Nat) : valB (l ++ [b]) = valB l * 2 + b := by simp [valB]
theorem valB_lt (l : List Nat) (h : ∀ x ∈ l, x ≤ 1) : valB l + 1 ≤ 2 ^ l.length := by
  suffices ∀ (l : List Nat) (a : Nat), (∀ x ∈ l, x ≤ 1) → l.foldl (fun n b => n * 2 + b) a + 1 ≤ (a + 1) * 2 ^ l.length by
    have := this l 0 h
    simpa [valB] using this
  intro l
  induction l with
  | nil => intro a _; simp
  | cons x r ih =>
    intro a hx
    have h1 := hx x (by simp)
    have h2 := ih (a * 2 + x) (fun y hy => hx y (by simp [hy]))
    simp only [List.foldl_cons, List.length_cons, Nat.pow_succ]
    have h3 : (a * 2 + x + 1) * 2 ^ r.length ≤ (a + 1) * 2 * 2 ^ r.length := Nat.mul_le_mul_right _ (by omega)
    have h4 : (a + 1) * 2 * 2 ^ r.length = (a + 1) * (2 ^ r.length * 2) := by rw [Nat.mul_assoc, Nat.mul_comm 2]
    omega
/-- One bit more: the full bytes, and the bits that wait. -/
def stepB (s : List UInt8 × List Nat) (b : Nat) : List UInt8 × List Nat :=
  if s.2.length = 7 then (s.1 ++ [UInt8.ofNat (valB (s.2 ++ [b]))], []) else (s.1, s.2 ++ [b])
def runB (s : List UInt8 × List Nat) (bs : List Nat) : List UInt8 × List Nat := bs.foldl stepB s
def okB (s : List UInt8 × List Nat) : Prop := s.2.length < 8 ∧ ∀ x ∈ s.2, x ≤ 1
theorem stepB_ok {s : List UInt8 × List Nat} {b : Nat} (h : okB s) (hb : b ≤ 1) : okB (stepB s b) := by
  unfold stepB
  split
  · exact ⟨by simp, by simp⟩
  · refine ⟨by have := h.1; simp; omega, ?_⟩
    intro x hx
    rcases List.mem_append.1 hx with hx | hx
    · exact h.2 x hx
    · simp at hx; omega
theorem stepB_len (s : List UInt8 × List Nat) (b : Nat) : (stepB s b).1.length ≤ s.1.length + 1 := by
  unfold stepB
  split <;> simp
theorem runB_snoc (s : List UInt8 × List Nat) (bs : List Nat) (b : Nat) : runB s (bs ++ [b]) = stepB (runB s bs) b := by simp [runB]
theorem runB_append (s : List UInt8 × List Nat) (xs ys : List Nat) : runB s (xs ++ ys) = runB (runB s xs) ys := by simp [runB]
theorem runB_ok {s : List UInt8 × List Nat} {bs : List Nat} (h : okB s) (hb : ∀ b ∈ bs, b ≤ 1) : okB (runB s bs) := by
  induction bs generalizing s with
  | nil => exact h
  | cons b r ih => exact ih (stepB_ok h (hb b (by simp))) (fun x hx => hb x (by simp [hx]))
theorem runB_len (s : List UInt8 × List Nat) (bs : List Nat) : (runB s bs).1.length ≤ s.1.length + bs.length := by
  induction bs generalizing s with
  | nil => simp [runB]
  | cons b r ih =>
    have h1 := ih (stepB s b)
    have h2 := stepB_len s b
    simp only [runB, List.foldl_cons, List.length_cons] at h1 ⊢
    omega
/-- The lowest bits of a number, the highest of them first. -/
def lowB (n : Nat) : Nat → List Nat
  | 0 => []
  | k + 1 => (n / 2 ^ k % 2) :: lowB n k
theorem lowB_ok (n k : Nat) : ∀ b ∈ lowB n k, b ≤ 1 := by
  induction k with
  | zero => simp [lowB]
  | succ k ih =>
    intro b hb
    rcases List.mem_cons.1 hb with rfl | hb
    · omega
    · exact ih b hb
theorem lowB_length (n k : Nat) : (lowB n k).length = k := by
  induction k with
  | zero => rfl
  | succ k ih => simp [lowB, ih]
theorem lowB_mod (n k m : Nat) (h : k ≤ m) : lowB (n % 2 ^ m) k = lowB n k := by
  induction k with
  | zero => rfl
  | succ k ih =>
    rw [lowB, lowB, ih (by omega)]
    congr 1
    have : 2 ^ m = 2 ^ k * (2 * 2 ^ (m - k - 1)) := by
      rw [← Nat.mul_assoc, ← Nat.pow_succ, ← Nat.pow_add]
      congr 1
      omega
    rw [this, Nat.mod_mul_right_div_self, Nat.mod_mul_right_mod]
def numB (k n : Nat) : List Nat := List.replicate (n / 2 ^ k) 1 ++ 0 :: lowB n k
theorem numB_ok (k n : Nat) : ∀ b ∈ numB k n, b ≤ 1 := by
  intro b hb
  rcases List.mem_append.1 hb with hb | hb
  · simp at hb; omega
  · rcases List.mem_cons.1 hb with rfl | hb
    · omega
    · exact lowB_ok n k b hb
theorem numB_length (k n : Nat) : (numB k n).length = n / 2 ^ k + 1 + k := by
  simp [numB, lowB_length]; omega
def bitsOf (k : Nat) (l : List Nat) : List Nat := l.flatMap (numB k)
theorem bitsOf_snoc (k : Nat) (l : List Nat) (n : Nat) : bitsOf k (l ++ [n]) = bitsOf k l ++ numB k n := by simp [bitsOf]
theorem bitsOf_ok (k : Nat) (l : List Nat) : ∀ b ∈ bitsOf k l, b ≤ 1 := by
  intro b hb
  obtain ⟨n, _, hb⟩ := List.mem_flatMap.1 hb
  exact numB_ok k n b hb
theorem bitsOf_length (k : Nat) (l : List Nat) (hk : k ≤ 8) (h : ∀ x ∈ l, x ≤ 60000) : (bitsOf k l).length ≤ l.length * 60009 := by
  induction l with
  | nil => simp [bitsOf]
  | cons n r ih =>
    have h1 := ih (fun x hx => h x (by simp [hx]))
    have h2 := h n (by simp)
    have h3 : n / 2 ^ k ≤ n := Nat.div_le_self _ _
    simp only [bitsOf, List.flatMap_cons, List.length_append, numB_length, List.length_cons] at h1 ⊢
    omega
/-- The state once the last byte is full. -/
def fillB (s : List UInt8 × List Nat) : List UInt8 := (runB s (List.replicate (if s.2 = [] then 0 else 8 - s.2.length) 0)).1
def riceB (k : Nat) (l : List Nat) : List UInt8 := fillB (runB ([], []) (bitsOf k l))
/-- Noughts one by one: the bytes are those of the full state as soon as nothing waits. -/
theorem fillB_step {s : List UInt8 × List Nat} (h : s.2.length < 8) (h0 : s.2 ≠ []) : fillB (stepB s 0) = fillB s := by
  have hne : s.2.length ≠ 0 := fun e => h0 (List.length_eq_zero_iff.1 e)
  have e8 : 8 - s.2.length = (8 - s.2.length - 1) + 1 := by omega
  have hr : fillB s = (runB (stepB s 0) (List.replicate (8 - s.2.length - 1) 0)).1 := by
    rw [fillB, if_neg h0, e8, List.replicate_succ]
    rfl
  rw [hr]
  unfold fillB
  by_cases h7 : s.2.length = 7
  · have : (stepB s 0).2 = [] := by simp [stepB, h7]
    rw [if_pos this, h7]
  · have h2 : (stepB s 0).2 = s.2 ++ [0] := by simp [stepB, h7]
    have h3 : (stepB s 0).2 ≠ [] := by rw [h2]; simp
    rw [if_neg h3, h2]
    simp only [List.length_append, List.length_cons, List.length_nil]
    rw [show 8 - (s.2.length + (0 + 1)) = 8 - s.2.length - 1 from by omega]
theorem fillB_end {s : List UInt8 × List Nat} (h0 : s.2 = []) : fillB s = s.1 := by
  rw [fillB, if_pos h0]
  rfl

end Go.Proofs.YtpddholoehmjkaaGreatDoor

namespace Go.Proofs.YtpddholoehmjkaaGreatDoor
open Go.RowKit

/-! ### The bits of a text -/
def byteBits (c : UInt8) : List Nat := [c.toNat / 128 % 2, c.toNat / 64 % 2, c.toNat / 32 % 2, c.toNat / 16 % 2, c.toNat / 8 % 2, c.toNat / 4 % 2, c.toNat / 2 % 2, c.toNat % 2]
def unpack (o : List UInt8) : List Nat := o.flatMap byteBits
theorem unpack_append (a b : List UInt8) : unpack (a ++ b) = unpack a ++ unpack b := by simp [unpack]
theorem unpack_length (o : List UInt8) : (unpack o).length = 8 * o.length := by
  induction o with
  | nil => rfl
  | cons c r ih =>
    have : unpack (c :: r) = byteBits c ++ unpack r := rfl
    rw [this, List.length_append, ih]
    simp [byteBits]
    omega
theorem byteBits_val (l : List Nat) (h8 : l.length = 8) (h : ∀ x ∈ l, x ≤ 1) : byteBits (UInt8.ofNat (valB l)) = l := by
  match l, h8 with
  | [a, b, c, d, e, f, g, i], _ =>
    have ha := h a (by simp)
    have hb := h b (by simp)
    have hc := h c (by simp)
    have hd := h d (by simp)
    have he := h e (by simp)
    have hf := h f (by simp)
    have hg := h g (by simp)
    have hi := h i (by simp)
    have hv : valB [a, b, c, d, e, f, g, i] = a * 128 + b * 64 + c * 32 + d * 16 + e * 8 + f * 4 + g * 2 + i := by
      simp only [valB, List.foldl_cons, List.foldl_nil]
      omega
    have hn : (UInt8.ofNat (valB [a, b, c, d, e, f, g, i])).toNat = a * 128 + b * 64 + c * 32 + d * 16 + e * 8 + f * 4 + g * 2 + i := by
      rw [hv]
      simp
      omega
    simp only [byteBits, hn, List.cons.injEq, and_true]
    refine ⟨?_, ?_, ?_, ?_, ?_, ?_, ?_, ?_⟩ <;> omega
theorem unpack_step {s : List UInt8 × List Nat} {b : Nat} (h : okB s) (hb : b ≤ 1) : unpack (stepB s b).1 ++ (stepB s b).2 = unpack s.1 ++ s.2 ++ [b] := by
  unfold stepB
  split
  · rename_i h7
    have hall : ∀ x ∈ s.2 ++ [b], x ≤ 1 := by
      intro x hx
      rcases List.mem_append.1 hx with hx | hx
      · exact h.2 x hx
      · simp at hx; omega
    have e : unpack [UInt8.ofNat (valB (s.2 ++ [b]))] = s.2 ++ [b] := by
      have : unpack [UInt8.ofNat (valB (s.2 ++ [b]))] = byteBits (UInt8.ofNat (valB (s.2 ++ [b]))) := by simp [unpack]
      rw [this, byteBits_val _ (by simp [h7]) hall]
    rw [unpack_append, e]
    simp
  · simp
theorem unpack_run (bs : List Nat) : ∀ (s : List UInt8 × List Nat), okB s → (∀ b ∈ bs, b ≤ 1) → unpack (runB s bs).1 ++ (runB s bs).2 = unpack s.1 ++ s.2 ++ bs := by
  induction bs with
  | nil => intro s _ _; simp [runB]
  | cons b r ih =>
    intro s h hb
    have h1 := hb b (by simp)
    have := ih (stepB s b) (stepB_ok h h1) (fun x hx => hb x (by simp [hx]))
    have e : runB s (b :: r) = runB (stepB s b) r := rfl
    rw [e, this, unpack_step h h1]
    simp
theorem run_zeros (m : Nat) : ∀ (s : List UInt8 × List Nat), okB s → s.2.length + m = 8 → m ≠ 0 → (runB s (List.replicate m 0)).2 = [] := by
  induction m with
  | zero => intro s _ _ h; exact absurd rfl h
  | succ m ih =>
    intro s h hl _
    have e : runB s (List.replicate (m + 1) 0) = runB (stepB s 0) (List.replicate m 0) := rfl
    rw [e]
    by_cases h7 : s.2.length = 7
    · have hm : m = 0 := by omega
      subst hm
      simp [runB, stepB, h7]
    · have h2 : (stepB s 0).2 = s.2 ++ [0] := by simp [stepB, h7]
      refine ih _ (stepB_ok h (by omega)) (by rw [h2]; simp; omega) (by omega)
theorem unpack_fill {s : List UInt8 × List Nat} (h : okB s) : ∃ z, z < 8 ∧ unpack (fillB s) = unpack s.1 ++ s.2 ++ List.replicate z 0 := by
  by_cases h0 : s.2 = []
  · exact ⟨0, by omega, by rw [fillB_end h0, h0]; simp⟩
  · have hne : s.2.length ≠ 0 := fun e => h0 (List.length_eq_zero_iff.1 e)
    refine ⟨8 - s.2.length, by omega, ?_⟩
    have h8 := h.1
    have hu := unpack_run (List.replicate (8 - s.2.length) 0) s h (by intro b hb; simp at hb; omega)
    have hz := run_zeros (8 - s.2.length) s h (by omega) (by omega)
    rw [hz, List.append_nil] at hu
    rw [fillB, if_neg h0]
    exact hu
theorem unpack_rice (k : Nat) (l : List Nat) : ∃ z, z < 8 ∧ unpack (riceB k l) = bitsOf k l ++ List.replicate z 0 := by
  have hk : okB (runB ([], []) (bitsOf k l)) := runB_ok ⟨by simp, by simp⟩ (bitsOf_ok k l)
  obtain ⟨z, hz, h⟩ := unpack_fill hk
  refine ⟨z, hz, ?_⟩
  rw [riceB, h, unpack_run (bitsOf k l) ([], []) ⟨by simp, by simp⟩ (bitsOf_ok k l)]
  simp [unpack]

/-! ### The program's reader -/
def takeM (k : Nat) : Nat × Bool × Nat → Nat → (Nat × Bool × Nat) × Option Nat
  | (n, true, left), b => if 1 < left then ((n * 2 + b, true, left - 1), none) else ((0, false, 0), some (n * 2 + b))
  | (n, false, left), b => if b = 1 then ((n + 1, false, left), none) else if 0 < k then ((n, true, k), none) else ((0, false, 0), some n)
def readT (k many : Nat) : List Nat → Nat × Bool × Nat → List Nat → List Nat
  | [], _, out => out
  | b :: r, st, out => if out.length = many then out else readT k many r (takeM k st b).1 (out ++ (takeM k st b).2.toList)
theorem readT_ones (k many m : Nat) (rest : List Nat) : ∀ (n : Nat) (out : List Nat), out.length ≠ many → readT k many (List.replicate m 1 ++ rest) (n, false, 0) out = readT k many rest (n + m, false, 0) out := by
  induction m with
  | zero => intro n out _; simp
  | succ m ih =>
    intro n out h
    rw [List.replicate_succ, List.cons_append, readT, if_neg h]
    simp only [takeM, if_true, Option.toList, List.append_nil]
    rw [ih (n + 1) out h, show n + 1 + m = n + (m + 1) from by omega]
theorem readT_low (k many x : Nat) (rest : List Nat) : ∀ (j n : Nat) (out : List Nat), out.length ≠ many → n = x / 2 ^ (j + 1) → readT k many (lowB x (j + 1) ++ rest) (n, true, j + 1) out = readT k many rest (0, false, 0) (out ++ [x]) := by
  intro j
  induction j with
  | zero =>
    intro n out h hn
    rw [show lowB x (0 + 1) = [x / 2 ^ 0 % 2] from rfl, List.cons_append, readT, if_neg h]
    have : n * 2 + x / 2 ^ 0 % 2 = x := by rw [hn]; simp; omega
    simp only [takeM, List.nil_append, show ¬ (1 < 0 + 1) from by omega, if_false, Option.toList, this]
  | succ j ih =>
    intro n out h hn
    rw [show lowB x (j + 1 + 1) = (x / 2 ^ (j + 1) % 2) :: lowB x (j + 1) from rfl, List.cons_append, readT, if_neg h]
    simp only [takeM, show 1 < j + 1 + 1 from by omega, if_true, Option.toList, List.append_nil, show j + 1 + 1 - 1 = j + 1 from by omega]
    refine ih _ out h ?_
    rw [hn, Nat.pow_succ 2 (j + 1), ← Nat.div_div_eq_div_mul]
    omega
theorem readT_num (k many x : Nat) (rest : List Nat) (out : List Nat) (h : out.length ≠ many) : readT k many (numB k x ++ rest) (0, false, 0) out = readT k many rest (0, false, 0) (out ++ [x]) := by
  rw [numB, List.append_assoc, readT_ones k many _ _ 0 out h, List.cons_append, readT, if_neg h, Nat.zero_add]
  cases k with
  | zero => simp [takeM, lowB]
  | succ j =>
    simp only [takeM, show ¬ (0 = 1) from by omega, if_false, show 0 < j + 1 from by omega, if_true, Option.toList, List.append_nil]
    exact readT_low (j + 1) many x rest j _ out h rfl
theorem readT_all (k many : Nat) (l : List Nat) : ∀ (out rest : List Nat), out.length + l.length = many → readT k many (bitsOf k l ++ rest) (0, false, 0) out = out ++ l := by
  induction l with
  | nil =>
    intro out rest h
    have ho : out.length = many := by simpa using h
    cases rest with
    | nil => simp [bitsOf, readT]
    | cons b r => simp [bitsOf, readT, ho]
  | cons x l ih =>
    intro out rest h
    have : bitsOf k (x :: l) = numB k x ++ bitsOf k l := by simp [bitsOf]
    rw [this, List.append_assoc, readT_num k many x _ out (by simp at h; omega), ih (out ++ [x]) rest (by simp at h ⊢; omega)]
    simp
/-- What was written is read. -/
theorem readT_rice (k : Nat) (l : List Nat) : readT k l.length (unpack (riceB k l)) (0, false, 0) [] = l := by
  obtain ⟨z, _, h⟩ := unpack_rice k l
  rw [h, readT_all k l.length l [] _ (by simp)]
  rfl

end Go.Proofs.YtpddholoehmjkaaGreatDoor

set_option linter.unusedVariables false
namespace Go.Proofs.YtpddholoehmjkaaGreatDoor
open Go.RowKit

theorem or1 (n b : Nat) (hn : n < 1000000000000) (hb : b ≤ 1) : bits .or .i64 ((n : Int) * 2) (b : Int) = ((n * 2 + b : Nat) : Int) := by
  have e : (n : Int) * 2 = ((n * 2 : Nat) : Int) := by omega
  rw [e, (bits_nat .i64 63 (by decide) (fun m h0 h1 => by rw [IntKind.wrap_i64]; omega) (n * 2) b (by omega) (by omega)).2]
  have := (Nat.two_pow_add_eq_or_of_lt (i := 1) (by omega : b < 2 ^ 1) n).symm
  rw [show (2 : Nat) ^ 1 * n = n * 2 from by omega] at this
  rw [this]

end Go.Proofs.YtpddholoehmjkaaGreatDoor

set_option linter.unusedVariables false
namespace Go.Proofs.YtpddholoehmjkaaGreatDoor
open Go.Shelf Go.RowKit

theorem infoIntB : (Tryz.prog.info? 3).map (fun i => (i.zero, i.size, i.bytes)) = some (some (.int .i64 0), 1, 8) := by kernel_rfl
theorem infoByteB : (Tryz.prog.info? 5).map (fun i => (i.zero, i.size, i.bytes)) = some (some (.int .u8 0), 1, 1) := by kernel_rfl
def intCells (l : List Nat) : List Value := l.map fun n : Nat => Value.int .i64 (n : Int)
def SAt (b : Nat) (v u : Value) (w : World) : Prop := w.heap[b]? = some (.cells #[v, u] 220 (0, 0))
theorem SAt.c0 {b : Nat} {v u : Value} {w : World} (h : SAt b v u w) : w.cell? ⟨b, 0, none⟩ = some v := by rw [Lib.cell_of_heap h]; rfl
theorem SAt.c1 {b : Nat} {v u : Value} {w : World} (h : SAt b v u w) : w.cell? ⟨b, 1, none⟩ = some u := by rw [Lib.cell_of_heap h]; rfl
theorem SAt.fz {b : Nat} {v u : Value} {w : World} (h : SAt b v u w) (i : Nat) : w.frozen? ⟨b, i, none⟩ = false := Lib.frozen_of_heap h i
theorem SAt.lt {b : Nat} {v u : Value} {w : World} (h : SAt b v u w) : b < w.heap.size := by
  rcases Nat.lt_or_ge b w.heap.size with h' | h'
  · exact h'
  · simp [SAt, Array.getElem?_eq_none h'] at h
theorem SAt.set0 {b : Nat} {v u : Value} {w : World} (h : SAt b v u w) (x : Value) : SAt b x u (w.setCell ⟨b, 0, none⟩ x) := by
  unfold SAt at h ⊢
  simp only [World.setCell, Array.getElem?_modify, h]
  simp
theorem SAt.set1 {b : Nat} {v u : Value} {w : World} (h : SAt b v u w) (x : Value) : SAt b v x (w.setCell ⟨b, 1, none⟩ x) := by
  unfold SAt at h ⊢
  simp only [World.setCell, Array.getElem?_modify, h]
  simp
/-- A row that the call has made stands if its block stands. -/
theorem ownsRow_keep {base : Nat} {e : TypeId} {v : Value} {n : Nat} {xs : List Value} {w w' : World} (h : w.ownsRow base e 1 v n xs) (hk : ∀ g, v.ownBlock = some g → w'.heap[g]? = w.heap[g]?) : w'.ownsRow base e 1 v n xs := by
  refine ⟨h.1, ?_⟩
  rcases h.2 with h2 | ⟨g, cap, cur, hv, h2⟩
  · exact .inl h2
  · refine .inr ⟨g, cap, cur, hv, h2.1, ?_, h2.2.2⟩
    rw [hk g (by rw [hv]; rfl)]
    exact h2.2.1
theorem ownsRow_type {base : Nat} {e : TypeId} {v : Value} {n : Nat} {xs : List Value} {w : World} (h : w.ownsRow base e 1 v n xs) (g : Nat) (hg : v.ownBlock = some g) : ∃ cur, w.heap[g]? = some (.cells cur e (0, 0)) ∧ g < w.heap.size := by
  rcases h.2 with ⟨h2, _⟩ | ⟨g', cap, cur, hv, h2⟩
  · rw [h2] at hg; cases hg
  · rw [hv] at hg
    obtain rfl : g' = g := by simpa [Value.ownBlock] using hg
    refine ⟨cur, h2.2.1, ?_⟩
    rcases Nat.lt_or_ge g' w.heap.size with h' | h'
    · exact h'
    · have := h2.2.1
      simp [Array.getElem?_eq_none h'] at this
theorem intCell_at {base : Nat} {e : TypeId} {g n cap : Nat} {m : List Nat} {w : World} (h : w.ownsRow base e 1 (.slice (some ⟨g, 0, none⟩) n cap) n (intCells m)) (i : Nat) (hi : i < m.length) : w.cell? ⟨g, i, none⟩ = some (.int .i64 ((m.getD i 0 : Nat) : Int)) := by
  have hl : m.length = n := by have := h.1; simpa [intCells] using this
  rcases h.2 with ⟨h2, _⟩ | ⟨g', cap', cur, hv, _, hc, _, _, _, ht⟩
  · cases h2
  · simp only [Value.slice.injEq, Option.some.injEq, Addr.mk.injEq, and_true, true_and] at hv
    obtain ⟨rfl, rfl⟩ := hv
    rw [Lib.cell_of_heap hc, ← Array.getElem?_toList]
    have h3 : cur.toList[i]? = (intCells m)[i]? := by rw [← ht, List.getElem?_take]; simp [← hl, hi]
    rw [h3]
    simp [intCells, List.getElem?_eq_getElem hi]
theorem take_valB (m : List Nat) (j : Nat) (hj : j < m.length) : valB (m.take (j + 1)) = valB (m.take j) * 2 + m.getD j 0 := by
  have : m.take (j + 1) = m.take j ++ [m.getD j 0] := by
    rw [List.take_add_one, List.getElem?_eq_getElem hj]
    simp [List.getElem?_eq_getElem hj]
  rw [this, valB_snoc]
/-- The writer: its full bytes, and the bits that wait. -/
def SB (B b : Nat) (s : List UInt8 × List Nat) (w : World) : Prop :=
  B ≤ b ∧ ∃ v u, SAt b v u w ∧ w.ownsRow B 5 1 v s.1.length (Lib.byteCells s.1) ∧ w.ownsRow B 3 1 u s.2.length (intCells s.2)

set_option maxHeartbeats 1000000 in
set_option maxRecDepth 100000 in
theorem putS (B b : Nat) (s : List UInt8 × List Nat) (bit : Nat) (w : World) (h : SB B b s w) (hok : okB s) (hb : bit ≤ 1) (hlen : s.1.length + 1 ≤ 1000000000) :
    Calls Tryz.prog 224 #[.pointer (some ⟨b, 0, none⟩), .int .i64 (bit : Int)] w fun e w' => e = .returned (.tuple #[]) ∧ SB B b (stepB s bit) w' ∧ Below B w w' := by
  obtain ⟨o, l⟩ := s
  obtain ⟨i1, hi1, hz1, hz2, hz3⟩ := info_parts infoIntB
  obtain ⟨i0, hi0, hy1, hy2, hy3⟩ := info_parts infoByteB
  obtain ⟨hB, v, u, hs, ho, hl⟩ := h
  have c0 := hs.c0
  have c1 := hs.c1
  have HSS : Hid (SAt b v u w) := hs
  have hlt := hs.lt
  have HO : Hid (w.ownsRow B 5 1 v o.length (Lib.byteCells o)) := ho
  clear hs ho
  go_enter Tryz.func224, Tryz.ntmps224
  go_wp2_with (at_builtin; refine wp_app1 rfl _ _ 52 rfl B 3 i1 (.int .i64 0) 8 Tryz.underlying52 hi1 hz1 hz2 hz3 rfl _ l.length (intCells l) rfl hl (.int .i64 (bit : Int)) rfl rfl ?c3 ?c4 ?c5 ?_)
  case c3 => have := hok.1; unfold maxLen; dsimp only at this; omega
  case c4 => have := hok.1; dsimp only at this; omega
  case c5 => omega
  intro g cap w2 hown hb2 hoth
  have hub : u.ownBlock ≠ some b := by
    intro he
    obtain ⟨cur, hc, _⟩ := ownsRow_type hl b he
    rw [HSS.out] at hc
    simp only [Option.some.injEq, Obj.cells.injEq] at hc
    exact absurd hc.2.1 (by decide)
  have hs2 : SAt b v u w2 := by
    unfold SAt
    rw [hoth b hlt hub]
    exact HSS.out
  have HO2 : Hid (w2.ownsRow B 5 1 v o.length (Lib.byteCells o)) := by
    refine ownsRow_keep HO.out (fun g' hg' => ?_)
    obtain ⟨cur, hc, hlt'⟩ := ownsRow_type HO.out g' hg'
    refine hoth g' hlt' (fun he => ?_)
    obtain ⟨cur2, hc2, _⟩ := ownsRow_type hl g' he
    rw [hc] at hc2
    simp only [Option.some.injEq, Obj.cells.injEq] at hc2
    exact absurd hc2.2.1 (by decide)
  have hgb : g ≠ b := by
    intro he
    obtain ⟨cur, hc, _⟩ := ownsRow_type hown g rfl
    rw [he, hs2] at hc
    simp only [Option.some.injEq, Obj.cells.injEq] at hc
    exact absurd hc.2.1 (by decide)
  have hvb : v.ownBlock ≠ some b := by
    intro he
    obtain ⟨cur, hc, _⟩ := ownsRow_type HO2.out b he
    rw [hs2] at hc
    simp only [Option.some.injEq, Obj.cells.injEq] at hc
    exact absurd hc.2.1 (by decide)
  have d0 := hs2.c0
  have d1 := hs2.c1
  have f0 := hs2.fz 0
  have f1 := hs2.fz 1
  obtain ⟨w3, hw3⟩ : ∃ w3, w3 = w2.setCell ⟨b, 1, none⟩ (.slice (some ⟨g, 0, none⟩) (l.length + 1) cap) := ⟨_, rfl⟩
  have HW3 : Hid (w3 = w2.setCell ⟨b, 1, none⟩ (.slice (some ⟨g, 0, none⟩) (l.length + 1) cap)) := hw3
  have HS3 : Hid (SAt b v (.slice (some ⟨g, 0, none⟩) (l.length + 1) cap) w3) := by rw [hw3]; exact hs2.set1 _
  have HO3 : Hid (w3.ownsRow B 5 1 v o.length (Lib.byteCells o)) := by
    rw [hw3]
    exact ownsRow_keep HO2.out (fun g' hg' => Below.heap_setCell w2 ⟨b, 1, none⟩ _ g' (fun e => hvb (by rw [hg', e])))
  have HL3 : Hid (w3.ownsRow B 3 1 (.slice (some ⟨g, 0, none⟩) (l.length + 1) cap) (l.length + 1) (intCells (l ++ [bit]))) := by
    rw [hw3]
    have : intCells (l ++ [bit]) = intCells l ++ [.int .i64 (bit : Int)] := by simp [intCells]
    rw [this]
    exact ownsRow_keep hown (fun g' hg' => Below.heap_setCell w2 ⟨b, 1, none⟩ _ g' (fun e => hgb (by simpa [Value.ownBlock, e] using hg')))
  have HB3 : Hid (Below B w w3) := by rw [hw3]; exact hb2.setCell (p := ⟨b, 1, none⟩) hB _
  clear hw3 hl hown hoth hb2 hs2 HO HO2 HSS c0 c1
  by_cases h7 : l.length = 7
  · have HS : Hid (stepB (o, l) bit = (o ++ [UInt8.ofNat (valB (l ++ [bit]))], [])) := by
      show _ = _
      simp [stepB, h7]
    rw [h7] at HS3 HL3 HW3
    have HW8 : Hid (w2.setCell ⟨b, 1, none⟩ (.slice (some ⟨g, 0, none⟩) 8 cap) = w3) := by show _ = _; rw [HW3.out]
    have h8 : ((l.length + 1 : Nat) : Int) = 8 := by omega
    have hbl : ∀ x ∈ l ++ [bit], x ≤ 1 := by
      intro x hx
      rcases List.mem_append.1 hx with hx | hx
      · exact hok.2 x hx
      · simp at hx; omega
    have hml : (l ++ [bit]).length = 8 := by simp [h7]
    go_wp2_with fail
    rw [HW8.out]
    have c1 : w3.cell? ⟨b, 1, none⟩ = some (.slice (some ⟨g, 0, none⟩) 8 cap) := HS3.out.c1
    have HBL : Hid (∀ x ∈ l ++ [bit], x ≤ 1) := hbl
    have HML : Hid ((l ++ [bit]).length = 8) := hml
    obtain ⟨m, hm⟩ : ∃ m, m = l ++ [bit] := ⟨_, rfl⟩
    rw [← hm] at HL3 HS HBL HML
    have g0 := HS3.out.fz 0
    have g1 := HS3.out.fz 1
    have c0 := HS3.out.c0
    have hlt3 := HS3.out.lt
    clear hm hbl hml d0 d1 f0 f1 HW8 HW3 h8 h7
    go_loop [4, 5] (fun n i => ∃ j x : Nat, j ≤ 8 ∧ i = .int .i64 (j : Int) ∧ n = .int .i64 (x : Int) ∧ x < 256 ∧ Hid (x = valB (m.take j))) (fun _ i => 8 - (intOf i).toNat)
    case atStart => exact ⟨0, 0, by omega, rfl, rfl, by omega, rfl⟩
    case round =>
      obtain ⟨j, x, hj, rfl, rfl, hx, HX⟩ := hrel
      by_cases hj8 : j < 8
      · have hjm : j < m.length := by rw [HML.out]; exact hj8
        have cj := intCell_at HL3.out j hjm
        have HX2 : Hid (x * 2 + m.getD j 0 = valB (m.take (j + 1))) := by show _ = _; rw [take_valB m j hjm, ← HX.out]
        have hy : m.getD j 0 ≤ 1 := by
          rw [List.getD_eq_getElem?_getD, List.getElem?_eq_getElem hjm]
          exact HBL.out _ (List.getElem_mem hjm)
        have hxx : x * 2 + m.getD j 0 < 256 := by
          have h1 := valB_lt (m.take (j + 1)) (fun y hy => HBL.out y (List.mem_of_mem_take hy))
          have h2 : (m.take (j + 1)).length ≤ 8 := by simp [HML.out]; omega
          have h3 : 2 ^ (m.take (j + 1)).length ≤ 2 ^ 8 := Nat.pow_le_pow_right (by decide) h2
          rw [HX2.out]
          omega
        generalize m.getD j 0 = y at cj HX2 hy hxx
        have lj : (j : Int) < 8 := by omega
        have HJ : Hid (j + 1 ≤ 8) := hj8
        clear hjm HX
        go_wp2_with fail
        go_round
        case rel => exact ⟨j + 1, x * 2 + y, HJ.out, by go_num, by go_num, hxx, HX2⟩
        case measure => simp [intOf]; omega
      · have HX2 : Hid (x = valB m) := by
          show _ = _
          rw [HX.out, List.take_of_length_le (by rw [HML.out]; omega)]
        have rx : (x : Int) % 256 = (x : Int) := by omega
        go_wp2_with (at_builtin; refine wp_app1 rfl _ _ 35 rfl B 5 i0 (.int .u8 0) 1 Tryz.underlying35 hi0 hy1 hy2 hy3 rfl _ o.length (Lib.byteCells o) rfl HO3.out (.int .u8 (x : Int)) rfl rfl ?c3 ?c4 ?c5 ?_)
        case c3 => unfold maxLen; omega
        case c4 => omega
        case c5 => omega
        intro g4 cap4 w4 hown4 hb4 hoth4
        have hs4 : SAt b v (.slice (some ⟨g, 0, none⟩) (7 + 1) cap) w4 := by
          unfold SAt
          rw [hoth4 b hlt3 hvb]
          exact HS3.out
        have e0 := hs4.fz 0
        have e1 := hs4.fz 1
        have k0 := hs4.c0
        have k1 := hs4.c1
        have HS4 : Hid (SAt b v (.slice (some ⟨g, 0, none⟩) (7 + 1) cap) w4) := hs4
        have HO4 : Hid (w4.ownsRow B 5 1 (.slice (some ⟨g4, 0, none⟩) (o.length + 1) cap4) (o.length + 1) (Lib.byteCells o ++ [.int .u8 (x : Int)])) := hown4
        have HB4 : Hid (Below B w3 w4) := hb4
        have hg4 : g4 ≠ b := by
          intro he
          obtain ⟨cur, hc, _⟩ := ownsRow_type hown4 g4 rfl
          rw [he, hs4] at hc
          simp only [Option.some.injEq, Obj.cells.injEq] at hc
          exact absurd hc.2.1 (by decide)
        clear hs4 hown4 hb4 hoth4 c0 c1 g0 g1
        go_wp2_with fail
        go_end0
        rw [HS.out]
        refine ⟨rfl, ⟨hB, _, _, (HS4.out.set0 _).set1 _, ?_, ⟨rfl, .inl ⟨rfl, rfl⟩⟩⟩, ((HB3.out.trans HB4.out).setCell (p := ⟨b, 0, none⟩) hB _).setCell (p := ⟨b, 1, none⟩) hB _⟩
        have hbc : Lib.byteCells (o ++ [UInt8.ofNat (valB m)]) = Lib.byteCells o ++ [.int .u8 (x : Int)] := by
          rw [← HX2.out]
          have : ((UInt8.ofNat x).toNat : Int) = (x : Int) := by simp; omega
          simp only [Lib.byteCells, List.map_append, List.map_cons, List.map_nil, this]
        show World.ownsRow _ _ _ _ _ (o ++ [UInt8.ofNat (valB m)]).length _
        rw [hbc, List.length_append]
        exact ownsRow_keep HO4.out (fun g' hg' => by
          have : g' ≠ b := by
            intro e
            exact hg4 (by simpa [Value.ownBlock, e] using hg')
          rw [Below.heap_setCell _ ⟨b, 1, none⟩ _ g' this, Below.heap_setCell _ ⟨b, 0, none⟩ _ g' this])
  · have HS : Hid (stepB (o, l) bit = (o, l ++ [bit])) := by
      show _ = _
      simp [stepB, h7]
    have h8 : ((l.length : Int) + 1 == 8) = false := by simp; omega
    have HL1 : Hid (l.length + 1 = (l ++ [bit]).length) := by show _ = _; simp
    go_wp2_with fail
    go_end0
    rw [HS.out, ← HW3.out]
    refine ⟨rfl, ⟨hB, v, _, HS3.out, HO3.out, ?_⟩, HB3.out⟩
    have := HL3.out
    rw [HL1.out] at this ⊢
    exact this

end Go.Proofs.YtpddholoehmjkaaGreatDoor

set_option linter.unusedVariables false
namespace Go.Proofs.YtpddholoehmjkaaGreatDoor
open Go.RowKit Go.Shelf
attribute [local go_sem] Oper.semAt_some

theorem infoIntG : (Tryz.prog.info? 3).map (fun i => (i.zero, i.size, i.bytes)) = some (some (.int .i64 0), 1, 8) := by kernel_rfl
theorem makeCap (n : Nat) (hn : n ≤ 1099511627776) (w : World) : (Instr.makeSlice 52 (.int .i64 0) (.int .i64 (n : Int))).run Tryz.prog w = .ok (.slice (some ⟨w.heap.size, 0, none⟩) 0 n) (w.alloc (.cells (madeCells #[.int .i64 0] n) 3)) := by
  obtain ⟨i, hi, hz, hs, hb⟩ := info_parts infoIntG
  have hb' : (i.bytes : Int) * (n : Int) ≤ 281474976710656 := by rw [hb]; omega
  have hr := run_make (P := Tryz.prog) w 52 3 i (.int .i64 0) Tryz.underlying52 hi hz .i64 .i64 0 (n : Int) (by omega) (by omega) hb' (by omega)
  simp only [Int.toNat_natCast, hs, Nat.mul_one, Value.cells, Int.toNat_zero] at hr
  exact hr

end Go.Proofs.YtpddholoehmjkaaGreatDoor

namespace Go.Proofs.YtpddholoehmjkaaGreatDoor
open Go.RowKit

def numOk (z : Int) : Bool := decide (0 ≤ z ∧ z ≤ 60000)
def bitsOk (k : Int) : Bool := decide (0 ≤ k ∧ k ≤ 8)
def riceOkB (zs : List Int) (k : Int) : Bool := decide (zs.length ≤ 40) && bitsOk k && zs.all numOk
def ricePut (zs : List Int) (k : Int) : List UInt8 := if riceOkB zs k = true then riceB k.toNat (zs.map Int.toNat) else []
/-- The numbers lie there. -/
def At (w : World) (g : Nat) (zs : List Int) : Prop := g < w.heap.size ∧ ∀ i, i < zs.length → w.cell? ⟨g, i, none⟩ = some (.int .i64 (zs.getD i 0))
theorem At.below {w w' : World} {g B : Nat} {zs : List Int} (h : At w g zs) (hb : Below B w w') (hg : g < B) : At w' g zs :=
  ⟨Nat.lt_of_lt_of_le h.1 hb.size, fun i hi => by rw [hb.cell (p := ⟨g, i, none⟩) hg]; exact h.2 i hi⟩
theorem At.drew {w : World} {g : Nat} {zs : List Int} (h : At w g zs) : At w.drew g zs := h
theorem riceOk_len {zs : List Int} {k : Int} (h : riceOkB zs k = true) : zs.length ≤ 40 := by
  simp only [riceOkB, Bool.and_eq_true] at h
  exact of_decide_eq_true h.1.1
theorem riceOk_bits {zs : List Int} {k : Int} (h : riceOkB zs k = true) : 0 ≤ k ∧ k ≤ 8 := by
  simp only [riceOkB, Bool.and_eq_true] at h
  exact of_decide_eq_true h.1.2
theorem riceOk_at {zs : List Int} {k : Int} (h : riceOkB zs k = true) (i : Nat) (hi : i < zs.length) : 0 ≤ zs.getD i 0 ∧ zs.getD i 0 ≤ 60000 := by
  simp only [riceOkB, Bool.and_eq_true, List.all_eq_true] at h
  have := h.2 (zs.getD i 0) (by simp [List.getElem?_eq_getElem hi])
  exact of_decide_eq_true this
theorem riceOk_no {zs : List Int} {k : Int} (i : Nat) (hi : i < zs.length) (h : ¬ (0 ≤ zs.getD i 0 ∧ zs.getD i 0 ≤ 60000)) : riceOkB zs k = false := by
  cases hh : riceOkB zs k with
  | false => rfl
  | true => exact absurd (riceOk_at hh i hi) h
theorem riceOk_yes {zs : List Int} {k : Int} (h1 : zs.length ≤ 40) (h2 : 0 ≤ k ∧ k ≤ 8) (h3 : ∀ i, i < zs.length → 0 ≤ zs.getD i 0 ∧ zs.getD i 0 ≤ 60000) : riceOkB zs k = true := by
  have e1 : decide (zs.length ≤ 40) = true := decide_eq_true h1
  have e2 : bitsOk k = true := decide_eq_true h2
  simp only [riceOkB, e1, e2, Bool.true_and, List.all_eq_true]
  intro z hz
  obtain ⟨i, hi, rfl⟩ := List.mem_iff_getElem.1 hz
  have := h3 i hi
  rw [List.getD_eq_getElem?_getD, List.getElem?_eq_getElem hi] at this
  exact decide_eq_true this
theorem ricePut_yes {zs : List Int} {k : Int} (h : riceOkB zs k = true) : ricePut zs k = riceB k.toNat (zs.map Int.toNat) := by
  rw [ricePut, if_pos h]
theorem ricePut_no {zs : List Int} {k : Int} (h : riceOkB zs k = false) : ricePut zs k = [] := by
  rw [ricePut, if_neg (by rw [h]; decide)]
/-- The first so many numbers written. -/
def upTo (k : Nat) (zs : List Int) (i : Nat) : List UInt8 × List Nat := runB ([], []) (bitsOf k ((zs.map Int.toNat).take i))
theorem upTo_zero (k : Nat) (zs : List Int) : upTo k zs 0 = ([], []) := by simp [upTo, bitsOf, runB]
theorem upTo_succ (k : Nat) (zs : List Int) (i : Nat) (hi : i < zs.length) : upTo k zs (i + 1) = runB (upTo k zs i) (numB k (zs.getD i 0).toNat) := by
  have h : (zs.map Int.toNat).take (i + 1) = (zs.map Int.toNat).take i ++ [(zs.getD i 0).toNat] := by
    rw [List.take_add_one, List.getElem?_map, List.getElem?_eq_getElem hi]
    simp [List.getElem?_eq_getElem hi]
  rw [upTo, h, bitsOf_snoc, runB_append]
  rfl
theorem upTo_ok (k : Nat) (zs : List Int) (i : Nat) : okB (upTo k zs i) := runB_ok ⟨by simp, by simp⟩ (bitsOf_ok _ _)
theorem upTo_len {k : Nat} {zs : List Int} (hk : k ≤ 8) (hl : zs.length ≤ 40) (h : ∀ i, i < zs.length → 0 ≤ zs.getD i 0 ∧ zs.getD i 0 ≤ 60000) (i : Nat) : (upTo k zs i).1.length ≤ 10000000 := by
  have h1 := runB_len ([], []) (bitsOf k ((zs.map Int.toNat).take i))
  have h2 := bitsOf_length k ((zs.map Int.toNat).take i) hk (by
    intro x hx
    have hx' := List.mem_of_mem_take hx
    obtain ⟨z, hz, rfl⟩ := List.mem_map.1 hx'
    obtain ⟨j, hj, rfl⟩ := List.mem_iff_getElem.1 hz
    have := h j hj
    rw [List.getD_eq_getElem?_getD, List.getElem?_eq_getElem hj] at this
    simp at this
    omega)
  have h3 : ((zs.map Int.toNat).take i).length ≤ 40 := by simp; omega
  have h4 : ((zs.map Int.toNat).take i).length * 60009 ≤ 40 * 60009 := Nat.mul_le_mul_right _ h3
  simp only [List.length_nil] at h1
  show (runB ([], []) (bitsOf k ((zs.map Int.toNat).take i))).1.length ≤ _
  omega
theorem upTo_end (k : Nat) (zs : List Int) : fillB (upTo k zs zs.length) = riceB k (zs.map Int.toNat) := by
  rw [upTo, riceB, List.take_of_length_le (by simp)]

end Go.Proofs.YtpddholoehmjkaaGreatDoor

set_option linter.unusedVariables false
namespace Go.Proofs.YtpddholoehmjkaaGreatDoor
open Go.RowKit

/-- A row of integers of the call's own. -/
def ZRow (B : Nat) (v : Value) (zs : List Int) (w : World) : Prop := (∃ g cap, v = .slice (some ⟨g, 0, none⟩) zs.length cap) ∧ w.ownsRow B 3 1 v zs.length (zs.map (Value.int .i64))
theorem zrow_new (w : World) : ZRow w.heap.size (.slice (some ⟨w.heap.size, 0, none⟩) 0 0) [] (w.alloc (.cells #[] 3)) :=
  ⟨⟨_, _, rfl⟩, rfl, .inr ⟨_, _, #[], rfl, Nat.le_refl _, heap_alloc_new w _, Nat.le_refl _, by unfold maxLen; omega, rfl, rfl⟩⟩
theorem ZRow.block {B : Nat} {v : Value} {zs : List Int} {w : World} (h : ZRow B v zs w) : ∃ g cap cur, v = .slice (some ⟨g, 0, none⟩) zs.length cap ∧ B ≤ g ∧ g < w.heap.size ∧ w.heap[g]? = some (.cells cur 3 (0, 0)) ∧ cur.toList.take zs.length = zs.map (Value.int .i64) := by
  obtain ⟨⟨g, cap, rfl⟩, hl, h2⟩ := h
  rcases h2 with ⟨h2, _⟩ | ⟨g', cap', cur, hv, h3, h4, h5, h6, h7, h8⟩
  · cases h2
  · simp only [Value.slice.injEq, Option.some.injEq, Addr.mk.injEq, and_true] at hv
    obtain ⟨rfl, _, rfl⟩ := hv
    refine ⟨g, cap, cur, rfl, h3, ?_, h4, by simpa using h8⟩
    exact (Array.getElem?_eq_some_iff.1 h4).1
theorem ZRow.keep {B C : Nat} {v : Value} {zs : List Int} {w w' : World} (h : ZRow B v zs w) (hk : ∀ g, B ≤ g → g < w.heap.size → w'.heap[g]? = w.heap[g]?) : ZRow B v zs w' := by
  have hb := h.block
  refine ⟨h.1, ownsRow_keep h.2 (fun g hg => ?_)⟩
  obtain ⟨g', cap, cur, rfl, h1, h2, _⟩ := hb
  obtain rfl : g' = g := by simpa [Value.ownBlock] using hg
  exact hk g' h1 h2
theorem ZRow.only {B b : Nat} {v : Value} {zs : List Int} {w w' : World} (h : ZRow B v zs w) (ho : Only b w w') (hb : b < B) : ZRow B v zs w' := h.keep (C := B) (fun g hg _ => ho.block g (by omega))
theorem ZRow.at {B g n cap : Nat} {zs : List Int} {w : World} (h : ZRow B (.slice (some ⟨g, 0, none⟩) n cap) zs w) : At w g zs ∧ n = zs.length := by
  obtain ⟨g', cap', cur, hv, h1, h2, h3, h4⟩ := h.block
  simp only [Value.slice.injEq, Option.some.injEq, Addr.mk.injEq, and_true] at hv
  obtain ⟨rfl, rfl, rfl⟩ := hv
  refine ⟨⟨h2, fun i hi => ?_⟩, rfl⟩
  rw [Lib.cell_of_heap h3]
  have : cur.toList[i]? = (zs.map (Value.int .i64))[i]? := by rw [← h4, List.getElem?_take]; simp [hi]
  rw [← Array.getElem?_toList, this]
  simp [List.getElem?_eq_getElem hi]

def nums5 : List Int := [0, 1, 3, 8, 20]
def nums7 : List Int := [0, 1, 5, 31, 32, 100, 700]
def nums3 : List Int := [-1, 60000, 60001]
theorem nums5_in : ∀ i : Fin 5, 0 ≤ nums5.getD i.val 0 ∧ nums5.getD i.val 0 ≤ 20 := by decide

end Go.Proofs.YtpddholoehmjkaaGreatDoor

