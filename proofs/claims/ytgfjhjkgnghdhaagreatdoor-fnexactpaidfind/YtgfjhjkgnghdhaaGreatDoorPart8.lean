/-
  Texts that the last part needs, joined.
-/
import Derived.Test.YtgfjhjkgnghdhaaGreatDoorPart1
import Derived.Test.YtgfjhjkgnghdhaaGreatDoorPart2
import Derived.Test.YtgfjhjkgnghdhaaGreatDoorPart3
import Derived.Test.YtgfjhjkgnghdhaaGreatDoorPart4
import Derived.Test.YtgfjhjkgnghdhaaGreatDoorPart5
import Derived.Test.YtgfjhjkgnghdhaaGreatDoorPart6
import Derived.Test.YtgfjhjkgnghdhaaGreatDoorPart7
import Derived.Laws.ResultCell
import Derived.BigRegion
import Derived.Deep.RegionWith
set_option linter.unusedVariables false
namespace Go.Proofs.YtgfjhjkgnghdhaaGreatDoor
open Go.RowKit Go.Deep

/-- A list of heads in memory, as the specification needs it. -/
structure ChainSp (g n cap : Nat) (l : List HeadV) (w : World) : Prop where
  at_ : AtHead w g l
  len : n = l.length
  max : n ≤ 1048576
  cap : n ≤ cap
  wf : ∀ i, i < l.length → wfHead (l.getD i default)
theorem ChainSp.below {g n cap : Nat} {l : List HeadV} {w w' : World} (h : ChainSp g n cap l w) (hb : Below w.heap.size w w') : ChainSp g n cap l w' :=
  ⟨h.at_.below hb h.at_.1, h.len, h.max, h.cap, h.wf⟩
theorem ChainSp.ahead {g n cap : Nat} {l : List HeadV} {w : World} (h : ChainSp g n cap l w) {k : Nat} (hk : k < n) (hs : ∀ q, q < k → stepC l q = true) : AheadS g k (l.take k) w :=
  ⟨h.at_.take k, by rw [List.length_take, ← h.len]; omega, by have := h.max; omega, take_ok hs⟩
theorem ChainSp.whole {g n cap : Nat} {l : List HeadV} {w : World} (h : ChainSp g n cap l w) (hc : chainCk l = 0) : AheadS g n l w := ⟨h.at_, h.len, h.max, ck_ok hc⟩
theorem step_far {l : List HeadV} {k : Nat} (hk : k < l.length) (h : 20 ≤ k) : stepC l k = false := by
  rw [stepC, standsB, decide_eq_false (by rw [List.length_take]; omega), Bool.and_false]
theorem step_near {l : List HeadV} {k : Nat} (hk : k < l.length) (h : k < 20) : stepC l k = fitsB (l.take k) (l.getD k default) := by
  rw [stepC, standsB, decide_eq_true (by rw [List.length_take]; omega), Bool.and_true]

set_option linter.unusedSimpArgs false in
set_option maxHeartbeats 8000000 in
set_option maxRecDepth 100000 in
theorem specL4Check (g n cap : Nat) (l : List HeadV) (w : World) (hC : ChainSp g n cap l w) :
    Calls Tryz.prog 26 #[.slice (some ⟨g, 0, none⟩) n cap] w fun e w' => e = .returned (.int .i64 (chainCk l : Int)) ∧ Below w.heap.size w w' := by
  have HC : Hid (ChainSp g n cap l w) := hC
  have hm := hC.max
  have hcap := hC.cap
  have HGO : Hid ((∀ q, q < n → stepC l q = true) → chainCk l = 0) := fun hq => ck_good (by rw [← hC.len]; exact hq)
  have HBA : Hid (∀ k, k < n → stepC l k = false → (∀ q, q < k → stepC l q = true) → chainCk l = k + 1) := fun k hk hf hq => ck_bad (by rw [← hC.len]; exact hk) hf hq
  generalize chainCk l = R at HGO HBA ⊢
  clear hC
  go_enter Tryz.func26, Tryz.ntmps26
  go_wp2_with fail
  go_loopw [3] (fun i wr => ∃ k : Nat, k ≤ n ∧ i = .int .i64 (k : Int) ∧ Hid (Below w.heap.size w wr) ∧ Hid (∀ q, q < k → stepC l q = true)) (fun i _ => n - (intOf i).toNat)
  case atStart => exact ⟨0, by omega, rfl, Below.refl _ _, fun q hq => by omega⟩
  case round =>
    obtain ⟨k, hk, rfl, HB, HQ⟩ := hrel
    by_cases hlt : k < n
    · have HCr : Hid (ChainSp g n cap l wr) := HC.out.below HB.out
      have hkl : k < l.length := by rw [← HC.out.len]; exact hlt
      have c0 := AtHead.c0 HCr.out.at_ k hkl
      have c1 := AtHead.c1 HCr.out.at_ k hkl
      have c2 := AtHead.c2 HCr.out.at_ k hkl
      have c3 := AtHead.c3 HCr.out.at_ k hkl
      have c4 := AtHead.c4 HCr.out.at_ k hkl
      have hgl := HCr.out.at_.1
      have lk : (k : Int) < (n : Int) := by omega
      have lk0 : (0 : Int) ≤ (k : Int) := by omega
      have lkc : (k : Int) ≤ (cap : Int) := by omega
      have hc0 : ¬ cap = 0 := by omega
      have hwk : IntKind.i64.wrap ((k : Int) + 1) = (k : Int) + 1 := by rw [IntKind.wrap_i64]; omega
      have HB2 := HBA.out k hlt
      have HBk : Hid (stepC l k = false → R = k + 1) := fun hf => HB2 hf HQ.out
      have HQ2 : Hid (stepC l k = true → ∀ q, q < k + 1 → stepC l q = true) := by
        intro h q hq
        rcases Nat.lt_or_ge q k with h' | h'
        · exact HQ.out q h'
        · obtain rfl : q = k := by omega
          exact h
      have HFA : Hid (20 ≤ k → stepC l k = false) := fun h => step_far hkl h
      have HNE : Hid (k < 20 → stepC l k = fitsB (l.take k) (l.getD k default)) := fun h => step_near hkl h
      have hft := fun (w' : World) (hb : Below wr.heap.size wr w') => specL4Fits g k cap (l.take k) (l.getD k default) w' ((HCr.out.below hb).ahead hlt HQ.out) (HCr.out.wf k hkl).1 (HCr.out.wf k hkl).2
      clear hkl HB2 HGO HBA HQ
      generalize fitsB (l.take k) (l.getD k default) = b at hft HNE
      generalize stepC l k = sb at HBk HQ2 HFA HNE
      generalize l.getD k default = h at c0 c1 c2 c3 c4 hft
      unfold headVal at hft
      have HK1 : Hid (k + 1 ≤ n) := hlt
      have hheld : ∀ w1 : World, Below wr.heap.size wr.drew w1 → (fun w' => w'.cell? ⟨g, k * 5, none⟩ = some (.string h.prev) ∧ w'.cell? ⟨g, k * 5 + 1, none⟩ = some (.string h.root) ∧ w'.cell? ⟨g, k * 5 + 2, none⟩ = some (.int .i64 h.time) ∧ w'.cell? ⟨g, k * 5 + 3, none⟩ = some (.int .i64 h.diff) ∧ w'.cell? ⟨g, k * 5 + 4, none⟩ = some (.int .i64 h.nonce)) w1 := fun w' hb => ⟨(hb.cell (p := ⟨g, k * 5, none⟩) hgl).trans c0, (hb.cell (p := ⟨g, k * 5 + 1, none⟩) hgl).trans c1, (hb.cell (p := ⟨g, k * 5 + 2, none⟩) hgl).trans c2, (hb.cell (p := ⟨g, k * 5 + 3, none⟩) hgl).trans c3, (hb.cell (p := ⟨g, k * 5 + 4, none⟩) hgl).trans c4⟩
      by_cases h20 : k < 20
      · have hge : decide ((20 : Int) ≤ (k : Int)) = false := decide_eq_false (by omega)
        obtain rfl : sb = b := HNE.out h20
        have hbd : Below wr.heap.size wr wr.drew := (Below.refl _ _).drew
        cases sb with
        | false =>
          have HV : Hid (R = k + 1) := HBk.out rfl
          clear HBk HQ2 HFA HNE h20 hlt hk lkc
          have lkc : (k : Int) ≤ (cap : Int) := by omega
          go_wp2_with fail
          refine wp_region_noPanic ?_
          refine wp_region_held_drew (S := fun w' => w'.cell? ⟨g, k * 5, none⟩ = some (.string h.prev) ∧ w'.cell? ⟨g, k * 5 + 1, none⟩ = some (.string h.root) ∧ w'.cell? ⟨g, k * 5 + 2, none⟩ = some (.int .i64 h.time) ∧ w'.cell? ⟨g, k * 5 + 3, none⟩ = some (.int .i64 h.diff) ∧ w'.cell? ⟨g, k * 5 + 4, none⟩ = some (.int .i64 h.nonce)) (by kernel_rfl) (⟨c0, c1, c2, c3, c4⟩) (fun hHeld => ?_)
          refine takeL 0 (v := ?_) rfl (by kernel_rfl) (by kernel_rfl) (by kernel_rfl) (fun _ _ _ h => h) (by kernel_rfl) ?_ (by assumption) ?_
          rotate_left
          · intro w hSw; (try dsimp only at hSw); first | (go_simp; done) | (go_simp; with_reducible rfl)
          try simp only [Act.put, List.setIfInBounds_toArray, List.set_cons_zero, List.set_cons_succ]
          refine takeL 1 (v := ?_) rfl (by kernel_rfl) (by kernel_rfl) (by kernel_rfl) (fun _ _ _ h => h) (by kernel_rfl) ?_ (by assumption) ?_
          rotate_left
          · intro w hSw; (try dsimp only at hSw); first | (go_simp; done) | (go_simp; with_reducible rfl)
          try simp only [Act.put, List.setIfInBounds_toArray, List.set_cons_zero, List.set_cons_succ]
          refine takeL 2 (v := ?_) rfl (by kernel_rfl) (by kernel_rfl) (by kernel_rfl) (fun _ _ _ h => h) (by kernel_rfl) ?_ (by assumption) ?_
          rotate_left
          · intro w hSw; (try dsimp only at hSw); first | (go_simp; done) | (go_simp; with_reducible rfl)
          try simp only [Act.put, List.setIfInBounds_toArray, List.set_cons_zero, List.set_cons_succ]
          refine takeL 3 (v := ?_) rfl (by kernel_rfl) (by kernel_rfl) (by kernel_rfl) (fun _ _ _ h => h) (by kernel_rfl) ?_ (by assumption) ?_
          rotate_left
          · intro w hSw; (try dsimp only at hSw); first | (go_simp; done) | (go_simp; with_reducible rfl)
          try simp only [Act.put, List.setIfInBounds_toArray, List.set_cons_zero, List.set_cons_succ]
          refine takeL 4 (v := ?_) rfl (by kernel_rfl) (by kernel_rfl) (by kernel_rfl) (fun _ _ _ h => h) (by kernel_rfl) ?_ (by assumption) ?_
          rotate_left
          · intro w hSw; (try dsimp only at hSw); first | (go_simp; done) | (go_simp; with_reducible rfl)
          try simp only [Act.put, List.setIfInBounds_toArray, List.set_cons_zero, List.set_cons_succ]
          refine takeL 5 (v := ?_) rfl (by kernel_rfl) (by kernel_rfl) (by kernel_rfl) (fun _ _ _ h => h) (by kernel_rfl) ?_ (by assumption) ?_
          rotate_left
          · intro w hSw; (try dsimp only at hSw); first | (go_simp; done) | (go_simp; with_reducible rfl)
          try simp only [Act.put, List.setIfInBounds_toArray, List.set_cons_zero, List.set_cons_succ]
          refine takeL 6 (v := ?_) rfl (by kernel_rfl) (by kernel_rfl) (by kernel_rfl) (fun _ _ _ h => h) (by kernel_rfl) ?_ (by assumption) ?_
          rotate_left
          · intro w hSw; (try dsimp only at hSw); first | (go_simp; done) | (go_simp; with_reducible rfl)
          try simp only [Act.put, List.setIfInBounds_toArray, List.set_cons_zero, List.set_cons_succ]
          refine takeL 7 (v := ?_) rfl (by kernel_rfl) (by kernel_rfl) (by kernel_rfl) (fun _ _ _ h => h) (by kernel_rfl) ?_ (by assumption) ?_
          rotate_left
          · intro w hSw; (try dsimp only at hSw); first | (go_simp; done) | (go_simp; with_reducible rfl)
          try simp only [Act.put, List.setIfInBounds_toArray, List.set_cons_zero, List.set_cons_succ]
          refine takeL 8 (v := ?_) rfl (by kernel_rfl) (by kernel_rfl) (by kernel_rfl) (fun _ _ _ h => h) (by kernel_rfl) ?_ (by assumption) ?_
          rotate_left
          · intro w hSw; (try dsimp only at hSw); first | (go_simp; done) | (go_simp; with_reducible rfl)
          try simp only [Act.put, List.setIfInBounds_toArray, List.set_cons_zero, List.set_cons_succ]
          refine takeL 9 (v := ?_) rfl (by kernel_rfl) (by kernel_rfl) (by kernel_rfl) (fun _ _ _ h => h) (by kernel_rfl) ?_ (by assumption) ?_
          rotate_left
          · intro w hSw; (try dsimp only at hSw); first | (go_simp; done) | (go_simp; with_reducible rfl)
          try simp only [Act.put, List.setIfInBounds_toArray, List.set_cons_zero, List.set_cons_succ]
          refine callL 10 rfl (by kernel_rfl) (fun K hK => ?_)
          go_simp
          refine (hft _ hbd).mono ?_
          rintro e w1 ⟨rfl, b1⟩
          have HB1 : Hid (Below w.heap.size w w1) := HB.out.drew.trans (b1.mono HB.out.size)
          have HH := hheld _ b1
          go_wp2_with fail
          refine hK.out _ _ ?_ (fun hHeld => ?_)
          · exact HH
          clear hK K
          try simp only [Act.put, List.setIfInBounds_toArray, List.set_cons_zero, List.set_cons_succ]
          refine takeL 11 (v := ?_) rfl (by kernel_rfl) (by kernel_rfl) (by kernel_rfl) (fun _ _ _ h => h) (by kernel_rfl) ?_ (by assumption) ?_
          rotate_left
          · intro w hSw; (try dsimp only at hSw); first | (go_simp; done) | (go_simp; with_reducible rfl)
          try simp only [Act.put, List.setIfInBounds_toArray, List.set_cons_zero, List.set_cons_succ]
          refine takeL 12 (v := ?_) rfl (by kernel_rfl) (by kernel_rfl) (by kernel_rfl) (fun _ _ _ h => h) (by kernel_rfl) ?_ (by assumption) ?_
          rotate_left
          · intro w hSw; (try dsimp only at hSw); first | (go_simp; done) | (go_simp; with_reducible rfl)
          try simp only [Act.put, List.setIfInBounds_toArray, List.set_cons_zero, List.set_cons_succ]
          refine wpAnyH_done (by kernel_rfl) ?_ _
          refine NoPanic.normal ?_
          go_wp2_with fail
          go_ret
          exact ⟨by rw [HV.out]; rfl, HB1.out⟩
        | true =>
          have HQ3 : Hid (∀ q, q < k + 1 → stepC l q = true) := HQ2.out rfl
          clear HBk HQ2 HFA HNE h20 hlt hk lkc
          have lkc : (k : Int) ≤ (cap : Int) := by omega
          go_wp2_with fail
          refine wp_region_noPanic ?_
          refine wp_region_held_drew (S := fun w' => w'.cell? ⟨g, k * 5, none⟩ = some (.string h.prev) ∧ w'.cell? ⟨g, k * 5 + 1, none⟩ = some (.string h.root) ∧ w'.cell? ⟨g, k * 5 + 2, none⟩ = some (.int .i64 h.time) ∧ w'.cell? ⟨g, k * 5 + 3, none⟩ = some (.int .i64 h.diff) ∧ w'.cell? ⟨g, k * 5 + 4, none⟩ = some (.int .i64 h.nonce)) (by kernel_rfl) (⟨c0, c1, c2, c3, c4⟩) (fun hHeld => ?_)
          refine takeL 0 (v := ?_) rfl (by kernel_rfl) (by kernel_rfl) (by kernel_rfl) (fun _ _ _ h => h) (by kernel_rfl) ?_ (by assumption) ?_
          rotate_left
          · intro w hSw; (try dsimp only at hSw); first | (go_simp; done) | (go_simp; with_reducible rfl)
          try simp only [Act.put, List.setIfInBounds_toArray, List.set_cons_zero, List.set_cons_succ]
          refine takeL 1 (v := ?_) rfl (by kernel_rfl) (by kernel_rfl) (by kernel_rfl) (fun _ _ _ h => h) (by kernel_rfl) ?_ (by assumption) ?_
          rotate_left
          · intro w hSw; (try dsimp only at hSw); first | (go_simp; done) | (go_simp; with_reducible rfl)
          try simp only [Act.put, List.setIfInBounds_toArray, List.set_cons_zero, List.set_cons_succ]
          refine takeL 2 (v := ?_) rfl (by kernel_rfl) (by kernel_rfl) (by kernel_rfl) (fun _ _ _ h => h) (by kernel_rfl) ?_ (by assumption) ?_
          rotate_left
          · intro w hSw; (try dsimp only at hSw); first | (go_simp; done) | (go_simp; with_reducible rfl)
          try simp only [Act.put, List.setIfInBounds_toArray, List.set_cons_zero, List.set_cons_succ]
          refine takeL 3 (v := ?_) rfl (by kernel_rfl) (by kernel_rfl) (by kernel_rfl) (fun _ _ _ h => h) (by kernel_rfl) ?_ (by assumption) ?_
          rotate_left
          · intro w hSw; (try dsimp only at hSw); first | (go_simp; done) | (go_simp; with_reducible rfl)
          try simp only [Act.put, List.setIfInBounds_toArray, List.set_cons_zero, List.set_cons_succ]
          refine takeL 4 (v := ?_) rfl (by kernel_rfl) (by kernel_rfl) (by kernel_rfl) (fun _ _ _ h => h) (by kernel_rfl) ?_ (by assumption) ?_
          rotate_left
          · intro w hSw; (try dsimp only at hSw); first | (go_simp; done) | (go_simp; with_reducible rfl)
          try simp only [Act.put, List.setIfInBounds_toArray, List.set_cons_zero, List.set_cons_succ]
          refine takeL 5 (v := ?_) rfl (by kernel_rfl) (by kernel_rfl) (by kernel_rfl) (fun _ _ _ h => h) (by kernel_rfl) ?_ (by assumption) ?_
          rotate_left
          · intro w hSw; (try dsimp only at hSw); first | (go_simp; done) | (go_simp; with_reducible rfl)
          try simp only [Act.put, List.setIfInBounds_toArray, List.set_cons_zero, List.set_cons_succ]
          refine takeL 6 (v := ?_) rfl (by kernel_rfl) (by kernel_rfl) (by kernel_rfl) (fun _ _ _ h => h) (by kernel_rfl) ?_ (by assumption) ?_
          rotate_left
          · intro w hSw; (try dsimp only at hSw); first | (go_simp; done) | (go_simp; with_reducible rfl)
          try simp only [Act.put, List.setIfInBounds_toArray, List.set_cons_zero, List.set_cons_succ]
          refine takeL 7 (v := ?_) rfl (by kernel_rfl) (by kernel_rfl) (by kernel_rfl) (fun _ _ _ h => h) (by kernel_rfl) ?_ (by assumption) ?_
          rotate_left
          · intro w hSw; (try dsimp only at hSw); first | (go_simp; done) | (go_simp; with_reducible rfl)
          try simp only [Act.put, List.setIfInBounds_toArray, List.set_cons_zero, List.set_cons_succ]
          refine takeL 8 (v := ?_) rfl (by kernel_rfl) (by kernel_rfl) (by kernel_rfl) (fun _ _ _ h => h) (by kernel_rfl) ?_ (by assumption) ?_
          rotate_left
          · intro w hSw; (try dsimp only at hSw); first | (go_simp; done) | (go_simp; with_reducible rfl)
          try simp only [Act.put, List.setIfInBounds_toArray, List.set_cons_zero, List.set_cons_succ]
          refine takeL 9 (v := ?_) rfl (by kernel_rfl) (by kernel_rfl) (by kernel_rfl) (fun _ _ _ h => h) (by kernel_rfl) ?_ (by assumption) ?_
          rotate_left
          · intro w hSw; (try dsimp only at hSw); first | (go_simp; done) | (go_simp; with_reducible rfl)
          try simp only [Act.put, List.setIfInBounds_toArray, List.set_cons_zero, List.set_cons_succ]
          refine callL 10 rfl (by kernel_rfl) (fun K hK => ?_)
          go_simp
          refine (hft _ hbd).mono ?_
          rintro e w1 ⟨rfl, b1⟩
          have HB1 : Hid (Below w.heap.size w w1) := HB.out.drew.trans (b1.mono HB.out.size)
          have HH := hheld _ b1
          go_wp2_with fail
          refine hK.out _ _ ?_ (fun hHeld => ?_)
          · exact HH
          clear hK K
          try simp only [Act.put, List.setIfInBounds_toArray, List.set_cons_zero, List.set_cons_succ]
          refine takeL 11 (v := ?_) rfl (by kernel_rfl) (by kernel_rfl) (by kernel_rfl) (fun _ _ _ h => h) (by kernel_rfl) ?_ (by assumption) ?_
          rotate_left
          · intro w hSw; (try dsimp only at hSw); first | (go_simp; done) | (go_simp; with_reducible rfl)
          try simp only [Act.put, List.setIfInBounds_toArray, List.set_cons_zero, List.set_cons_succ]
          refine takeL 12 (v := ?_) rfl (by kernel_rfl) (by kernel_rfl) (by kernel_rfl) (fun _ _ _ h => h) (by kernel_rfl) ?_ (by assumption) ?_
          rotate_left
          · intro w hSw; (try dsimp only at hSw); first | (go_simp; done) | (go_simp; with_reducible rfl)
          try simp only [Act.put, List.setIfInBounds_toArray, List.set_cons_zero, List.set_cons_succ]
          refine wpAnyH_done (by kernel_rfl) ?_ _
          refine NoPanic.normal ?_
          go_wp2_with fail
          go_roundw
          case rel => exact ⟨k + 1, HK1.out, by go_num, HB1, HQ3⟩
          case measure => have := HK1.out; simp [intOf]; omega
      · have hge : decide ((20 : Int) ≤ (k : Int)) = true := decide_eq_true (by omega)
        have HV : Hid (R = k + 1) := HBk.out (HFA.out (by omega))
        clear HBk HQ2 HFA HNE h20 hlt hk lkc
        have lkc : (k : Int) ≤ (cap : Int) := by omega
        go_wp2_with fail
        refine wp_region_noPanic ?_
        refine wp_region_held_drew (S := fun w' => w'.cell? ⟨g, k * 5, none⟩ = some (.string h.prev) ∧ w'.cell? ⟨g, k * 5 + 1, none⟩ = some (.string h.root) ∧ w'.cell? ⟨g, k * 5 + 2, none⟩ = some (.int .i64 h.time) ∧ w'.cell? ⟨g, k * 5 + 3, none⟩ = some (.int .i64 h.diff) ∧ w'.cell? ⟨g, k * 5 + 4, none⟩ = some (.int .i64 h.nonce)) (by kernel_rfl) (⟨c0, c1, c2, c3, c4⟩) (fun hHeld => ?_)
        refine takeL 0 (v := ?_) rfl (by kernel_rfl) (by kernel_rfl) (by kernel_rfl) (fun _ _ _ h => h) (by kernel_rfl) ?_ (by assumption) ?_
        rotate_left
        · intro w hSw; (try dsimp only at hSw); first | (go_simp; done) | (go_simp; with_reducible rfl)
        try simp only [Act.put, List.setIfInBounds_toArray, List.set_cons_zero, List.set_cons_succ]
        refine takeL 1 (v := ?_) rfl (by kernel_rfl) (by kernel_rfl) (by kernel_rfl) (fun _ _ _ h => h) (by kernel_rfl) ?_ (by assumption) ?_
        rotate_left
        · intro w hSw; (try dsimp only at hSw); first | (go_simp; done) | (go_simp; with_reducible rfl)
        try simp only [Act.put, List.setIfInBounds_toArray, List.set_cons_zero, List.set_cons_succ]
        refine takeL 2 (v := ?_) rfl (by kernel_rfl) (by kernel_rfl) (by kernel_rfl) (fun _ _ _ h => h) (by kernel_rfl) ?_ (by assumption) ?_
        rotate_left
        · intro w hSw; (try dsimp only at hSw); first | (go_simp; done) | (go_simp; with_reducible rfl)
        try simp only [Act.put, List.setIfInBounds_toArray, List.set_cons_zero, List.set_cons_succ]
        refine skipL 3 rfl (by kernel_rfl) (by kernel_rfl) (by kernel_rfl) (fun _ _ _ h => h) (by kernel_rfl) (by assumption) ?_
        try simp only [Act.put, List.setIfInBounds_toArray, List.set_cons_zero, List.set_cons_succ]
        refine skipL 4 rfl (by kernel_rfl) (by kernel_rfl) (by kernel_rfl) (fun _ _ _ h => h) (by kernel_rfl) (by assumption) ?_
        try simp only [Act.put, List.setIfInBounds_toArray, List.set_cons_zero, List.set_cons_succ]
        refine skipL 5 rfl (by kernel_rfl) (by kernel_rfl) (by kernel_rfl) (fun _ _ _ h => h) (by kernel_rfl) (by assumption) ?_
        try simp only [Act.put, List.setIfInBounds_toArray, List.set_cons_zero, List.set_cons_succ]
        refine skipL 6 rfl (by kernel_rfl) (by kernel_rfl) (by kernel_rfl) (fun _ _ _ h => h) (by kernel_rfl) (by assumption) ?_
        try simp only [Act.put, List.setIfInBounds_toArray, List.set_cons_zero, List.set_cons_succ]
        refine skipL 7 rfl (by kernel_rfl) (by kernel_rfl) (by kernel_rfl) (fun _ _ _ h => h) (by kernel_rfl) (by assumption) ?_
        try simp only [Act.put, List.setIfInBounds_toArray, List.set_cons_zero, List.set_cons_succ]
        refine skipL 8 rfl (by kernel_rfl) (by kernel_rfl) (by kernel_rfl) (fun _ _ _ h => h) (by kernel_rfl) (by assumption) ?_
        try simp only [Act.put, List.setIfInBounds_toArray, List.set_cons_zero, List.set_cons_succ]
        refine skipL 9 rfl (by kernel_rfl) (by kernel_rfl) (by kernel_rfl) (fun _ _ _ h => h) (by kernel_rfl) (by assumption) ?_
        try simp only [Act.put, List.setIfInBounds_toArray, List.set_cons_zero, List.set_cons_succ]
        refine skipL 10 rfl (by kernel_rfl) (by kernel_rfl) (by kernel_rfl) (fun _ _ _ h => h) (by kernel_rfl) (by assumption) ?_
        try simp only [Act.put, List.setIfInBounds_toArray, List.set_cons_zero, List.set_cons_succ]
        refine skipL 11 rfl (by kernel_rfl) (by kernel_rfl) (by kernel_rfl) (fun _ _ _ h => h) (by kernel_rfl) (by assumption) ?_
        try simp only [Act.put, List.setIfInBounds_toArray, List.set_cons_zero, List.set_cons_succ]
        refine takeL 12 (v := ?_) rfl (by kernel_rfl) (by kernel_rfl) (by kernel_rfl) (fun _ _ _ h => h) (by kernel_rfl) ?_ (by assumption) ?_
        rotate_left
        · intro w hSw; (try dsimp only at hSw); first | (go_simp; done) | (go_simp; with_reducible rfl)
        try simp only [Act.put, List.setIfInBounds_toArray, List.set_cons_zero, List.set_cons_succ]
        refine wpAnyH_done (by kernel_rfl) ?_ _
        refine NoPanic.normal ?_
        go_wp2_with fail
        go_ret
        exact ⟨by rw [HV.out]; rfl, HB.out.drew⟩
    · obtain rfl : k = n := by omega
      have HV : Hid (R = 0) := HGO.out HQ.out
      clear HGO HBA
      go_wp2_with fail
      go_ret
      exact ⟨by rw [HV.out]; rfl, HB.out⟩

end Go.Proofs.YtgfjhjkgnghdhaaGreatDoor

set_option linter.unusedVariables false
namespace Go.Proofs.YtgfjhjkgnghdhaaGreatDoor
open Go.RowKit Go.Deep

def ptsOf (bs : List BlkV) : List (HeadV × List ByteArray) := bs.map fun b => (b.h, b.ss)
def allOk (ps : List (HeadV × List ByteArray)) : Bool := ps.all fun p => blockOkB p.1 p.2
def okP (ps : List (HeadV × List ByteArray)) : Bool := decide (chainCk (ps.map (·.1)) = 0) && allOk ps
theorem pts_heads (bs : List BlkV) : (ptsOf bs).map (·.1) = bs.map (·.h) := by simp [ptsOf]
theorem blk_mem {bs : List BlkV} {k : Nat} (h : k < bs.length) : bs.getD k default ∈ bs := by rw [List.getD_eq_getElem?_getD, List.getElem?_eq_getElem h]; exact List.getElem_mem h
theorem allOk_bad {bs : List BlkV} {k : Nat} (hk : k < bs.length) (h : blockOkB (bs.getD k default).h (bs.getD k default).ss = false) : allOk (ptsOf bs) = false := by
  rw [allOk, List.all_eq_false]
  refine ⟨((bs.getD k default).h, (bs.getD k default).ss), List.mem_map.2 ⟨_, blk_mem hk, rfl⟩, ?_⟩
  simp only [h]
  decide
theorem allOk_good {bs : List BlkV} (h : ∀ k, k < bs.length → blockOkB (bs.getD k default).h (bs.getD k default).ss = true) : allOk (ptsOf bs) = true := by
  rw [allOk, List.all_eq_true]
  intro p hp
  obtain ⟨b, hb, rfl⟩ := List.mem_map.1 hp
  obtain ⟨i, hi, he⟩ := List.mem_iff_getElem.1 hb
  have := h i hi
  rw [List.getD_eq_getElem?_getD, List.getElem?_eq_getElem hi] at this
  rw [← he]
  exact this
theorem okP_no {bs : List BlkV} (h : chainCk (bs.map (·.h)) ≠ 0) : okP (ptsOf bs) = false := by rw [okP, pts_heads, decide_eq_false h, Bool.false_and]
theorem okP_yes {bs : List BlkV} (h : chainCk (bs.map (·.h)) = 0) : okP (ptsOf bs) = allOk (ptsOf bs) := by rw [okP, pts_heads, decide_eq_true h, Bool.true_and]

theorem makeHead0 (n : Nat) (hn : n ≤ 1048576) (w : World) : (Instr.makeSlice 55 (.int .i64 0) (.int .i64 (n : Int))).run Tryz.prog w = .ok (.slice (some ⟨w.heap.size, 0, none⟩) 0 n) (w.alloc (.cells ((List.replicate n zeroHead).flatMap enHead).toArray 41)) := by
  obtain ⟨i, hi, hz, hs, hb⟩ := info_parts infoHead
  have hb' : (i.bytes : Int) * (n : Int) ≤ 281474976710656 := by rw [hb]; omega
  have hr := run_make (P := Tryz.prog) w 55 41 i _ Tryz.underlying55 hi hz .i64 .i64 0 (n : Int) (by omega) (by omega) hb' (by omega)
  simp only [Int.toNat_natCast, hs, Value.cells] at hr
  rw [← made_flat 5 enHead enHead_len (by decide) zeroHead n]
  exact hr

set_option maxHeartbeats 2000000 in
set_option maxRecDepth 100000 in
theorem implBlockHeads (g n cap : Nat) (bs : List BlkV) (w : World) (h : AtBlk w g bs) (hn : n = bs.length) (hm : n ≤ 1048576) :
    Calls Tryz.prog 31 #[.slice (some ⟨g, 0, none⟩) n cap] w fun e w' => ∃ v, e = .returned v ∧ HRow w.heap.size v (bs.map (·.h)) w' ∧ Below w.heap.size w w' := by
  obtain ⟨i0, hi, hz0, hz1, hz2⟩ := info3 infoHead
  have hmk := makeHead0 n hm w
  have HA : Hid (AtBlk w g bs) := h
  have HN : Hid (n = bs.length) := hn
  have HE : Hid (bs.map (·.h) = (bs.take n).map (·.h)) := by show _ = _; rw [hn, List.take_length]
  have R0 : Hid (HRow w.heap.size (.slice (some ⟨w.heap.size, 0, none⟩) 0 n) [] (w.alloc (.cells ((List.replicate n zeroHead).flatMap enHead).toArray 41))) := frow_cap _ _ _ _ enHead_len zeroHead w (by unfold maxLen; omega)
  have B0 : Hid (Below w.heap.size w (w.alloc (.cells ((List.replicate n zeroHead).flatMap enHead).toArray 41))) := (Below.refl _ w).alloc (Nat.le_refl _) _
  clear h hn
  generalize w.alloc (.cells ((List.replicate n zeroHead).flatMap enHead).toArray 41) = w0 at hmk R0 B0
  go_enter Tryz.func31, Tryz.ntmps31
  go_wp2_with fail
  clear hmk
  go_loopw [3, 11] (fun v i wr => ∃ k g2 c2 : Nat, k ≤ n ∧ i = .int .i64 (k : Int) ∧ v = .slice (some ⟨g2, 0, none⟩) k c2 ∧ Hid (HRow w.heap.size v ((bs.take k).map (·.h)) wr) ∧ Hid (Below w.heap.size w wr)) (fun _ i _ => n - (intOf i).toNat)
  case atStart => exact ⟨0, w.heap.size, n, by omega, rfl, rfl, R0, B0⟩
  case round =>
    clear R0 B0
    obtain ⟨k, g2, c2, hk, rfl, rfl, R, HB⟩ := hrel
    by_cases hlt : k < n
    · have hkl : k < bs.length := by rw [← HN.out]; exact hlt
      have HAr : Hid (AtBlk wr g bs) := HA.out.below HB.out HA.out.1
      have q0 := AtBlk.c0 HAr.out k hkl
      have q1 := AtBlk.c1 HAr.out k hkl
      have q2 := AtBlk.c2 HAr.out k hkl
      have q3 := AtBlk.c3 HAr.out k hkl
      have q4 := AtBlk.c4 HAr.out k hkl
      have q5 := AtBlk.c5 HAr.out k hkl
      have lk : (k : Int) < (n : Int) := by omega
      have lk0 : (0 : Int) ≤ (k : Int) := by omega
      have wk : IntKind.i64.wrap ((k : Int) + 1) = (k : Int) + 1 := by rw [IntKind.wrap_i64]; omega
      have HK : Hid (k + 1 ≤ n) := hlt
      have HL : Hid ((bs.take k).length = k) := by show _ = _; rw [List.length_take]; omega
      have HT : Hid ((bs.take (k + 1)).map (·.h) = (bs.take k).map (·.h) ++ [(bs.getD k default).h]) := take_map hkl
      have HOW0 : Hid (wr.ownsRow w.heap.size 41 5 (.slice (some ⟨g2, 0, none⟩) k c2) k (((bs.take k).map (·.h)).flatMap enHead)) := by
        have := R.out.2
        rw [List.length_map, HL.out] at this
        exact this
      generalize bs.getD k default = b at q0 q1 q2 q3 q4 q5 HT
      obtain ⟨p, bg, bn, bc, bss⟩ := b
      dsimp only at q0 q1 q2 q3 q4 q5 HT
      have HOW : Hid ((wr.alloc (.cells #[.string p.prev, .string p.root, .int .i64 p.time, .int .i64 p.diff, .int .i64 p.nonce, .slice (some ⟨bg, 0, none⟩) bn bc] 43)).ownsRow w.heap.size 41 5 (.slice (some ⟨g2, 0, none⟩) k c2) k (((bs.take k).map (·.h)).flatMap enHead)) := World.ownsRow.alloc HOW0.out _
      have hsz : w.heap.size ≤ (wr.alloc (.cells #[.string p.prev, .string p.root, .int .i64 p.time, .int .i64 p.diff, .int .i64 p.nonce, .slice (some ⟨bg, 0, none⟩) bn bc] 43)).heap.size := Nat.le_trans HB.out.size (by simp)
      have HBA : Hid (Below w.heap.size w (wr.alloc (.cells #[.string p.prev, .string p.root, .int .i64 p.time, .int .i64 p.diff, .int .i64 p.nonce, .slice (some ⟨bg, 0, none⟩) bn bc] 43))) := HB.out.alloc HB.out.size _
      have hu := enHead_one p
      have hx1 : k + 1 ≤ maxLen := by unfold maxLen; omega
      have hx2 : (k + 1) * 56 ≤ 140737488355328 := by omega
      clear hkl R HOW0
      go_wp2_with (at_builtin; refine wp_appN rfl _ _ 55 rfl w.heap.size 41 i0 (.agg #[.string ⟨#[]⟩, .string ⟨#[]⟩, .int .i64 0, .int .i64 0, .int .i64 0]) 5 56 1 Tryz.underlying55 hi hz0 hz1 hz2 rfl (by decide) (by decide) _ _ _ rfl HOW.out (enHead p) (by simp [Act.eval]) rfl hu hx1 hx2 hsz ?_; intro g4 c4 w4 hown4 hb4 hkeep4)
      have R4 : Hid (HRow w.heap.size (.slice (some ⟨g4, 0, none⟩) (k + 1) c4) ((bs.take (k + 1)).map (·.h)) w4) := by
        refine FRow.of ?_ ?_
        · rw [HT.out, List.flatMap_append]
          simpa using hown4
        · rw [HT.out, List.length_append, List.length_map, HL.out]; rfl
      have B4 : Hid (Below w.heap.size w w4) := HBA.out.trans hb4
      clear hown4 hb4 hkeep4
      go_wp2_with fail
      go_roundw
      case rel => exact ⟨k + 1, g4, c4, HK.out, by go_num, rfl, R4, B4⟩
      case measure => have := HK.out; simp [intOf]; omega
    · obtain rfl : k = n := by omega
      go_wp2_with fail
      go_ret
      exact ⟨_, rfl, by rw [HE.out]; exact R.out, HB.out⟩

/-- A list of blocks in memory. -/
structure Blks (g n cap : Nat) (bs : List BlkV) (w : World) : Prop where
  at_ : AtBlk w g bs
  items : ∀ b ∈ bs, ItemsAt w b
  len : n = bs.length
  max : n ≤ 1048576
theorem Blks.below {g n cap : Nat} {bs : List BlkV} {w w' : World} (h : Blks g n cap bs w) (hb : Below w.heap.size w w') : Blks g n cap bs w' :=
  ⟨h.at_.below hb h.at_.1, fun b hb' => ⟨(h.items b hb').1.below hb (h.items b hb').1.1, (h.items b hb').2⟩, h.len, h.max⟩

set_option maxHeartbeats 2000000 in
set_option maxRecDepth 100000 in
theorem implChainOk (g n cap : Nat) (bs : List BlkV) (w : World) (h : Blks g n cap bs w) (hK : RowG w shaK) (hP : TabP w) (hE : ErrT w) :
    Calls Tryz.prog 17 #[.slice (some ⟨g, 0, none⟩) n cap] w fun e w' => e = .returned (.bool (okP (ptsOf bs))) ∧ Below w.heap.size w w' := by
  have hbh := implBlockHeads g n cap bs w h.at_ h.len h.max
  have HA : Hid (Blks g n cap bs w) := h
  have HK : Hid (RowG w shaK) := hK
  have HP : Hid (TabP w) := hP
  have HE : Hid (ErrT w) := hE
  have hm := h.max
  have HN : Hid (n = bs.length) := h.len
  have HNO : Hid (chainCk (bs.map (·.h)) ≠ 0 → okP (ptsOf bs) = false) := fun hc => okP_no hc
  have HBAD0 : Hid (chainCk (bs.map (·.h)) = 0 → ∀ k, k < n → blockOkB (bs.getD k default).h (bs.getD k default).ss = false → okP (ptsOf bs) = false) := fun hc k hk hf => by rw [okP_yes hc]; exact allOk_bad (by rw [← HN.out]; exact hk) hf
  have HGOO0 : Hid (chainCk (bs.map (·.h)) = 0 → (∀ k, k < n → blockOkB (bs.getD k default).h (bs.getD k default).ss = true) → okP (ptsOf bs) = true) := fun hc hq => by rw [okP_yes hc]; exact allOk_good (by rw [← HN.out]; exact hq)
  generalize okP (ptsOf bs) = R at HNO HBAD0 HGOO0 ⊢
  clear h hK hP hE
  go_enter Tryz.func17, Tryz.ntmps17
  go_wp2_with fail
  refine hbh.mono ?_
  rintro e w1 ⟨v, rfl, r1, b1⟩
  obtain ⟨g2, c2, hv⟩ := r1.1
  subst hv
  have hat := FRow.at enHead_len r1
  rw [List.length_map, ← HN.out] at hat ⊢
  have hck := implChainCheck g2 n c2 (bs.map (·.h)) w1 ⟨hat.1, by rw [List.length_map]; exact HN.out, hm, hat.2.2.2, HK.out.below b1 HK.out.lt, TabP.below HP.out b1 (Nat.le_refl _)⟩ (HE.out.below b1 HE.out.lt)
  have HB1 : Hid (Below w.heap.size w w1) := b1
  clear hbh hat r1 b1
  cases hc : chainCk (bs.map (·.h)) with
  | succ m =>
    have HV : Hid (R = false) := HNO.out (by rw [hc]; omega)
    rw [hc] at hck
    have hz : ¬ ((m + 1 : Nat) : Int) = 0 := by omega
    clear HNO HBAD0 HGOO0
    generalize m + 1 = m1 at hck hz
    clear hc
    go_wp2_with fail
    refine hck.mono ?_
    rintro e w2 ⟨rfl, b2⟩
    go_wp2_with fail
    go_ret
    exact ⟨by rw [HV.out]; rfl, HB1.out.trans (b2.mono HB1.out.size)⟩
  | zero =>
    have HBAD : Hid (∀ k, k < n → blockOkB (bs.getD k default).h (bs.getD k default).ss = false → R = false) := HBAD0.out hc
    have HGOO : Hid ((∀ k, k < n → blockOkB (bs.getD k default).h (bs.getD k default).ss = true) → R = true) := HGOO0.out hc
    rw [hc] at hck
    have hz : ((0 : Nat) : Int) = 0 := rfl
    rw [hz] at hck
    clear hc hz HNO HBAD0 HGOO0
    go_wp2_with fail
    refine hck.mono ?_
    rintro e w2 ⟨rfl, b2⟩
    have HB2 : Hid (Below w.heap.size w w2) := HB1.out.trans (b2.mono HB1.out.size)
    clear hck b2 HB1
    go_wp2_with fail
    go_loopw [11] (fun i wr => ∃ k : Nat, k ≤ n ∧ i = .int .i64 (k : Int) ∧ Hid (Below w.heap.size w wr) ∧ Hid (∀ q, q < k → blockOkB (bs.getD q default).h (bs.getD q default).ss = true)) (fun i _ => n - (intOf i).toNat)
    case atStart => exact ⟨0, by omega, rfl, HB2, fun q hq => by omega⟩
    case round =>
      clear HB2
      obtain ⟨k, hk, rfl, HB, HQ⟩ := hrel
      by_cases hlt : k < n
      · have hkl : k < bs.length := by rw [← HN.out]; exact hlt
        have HAr : Hid (Blks g n cap bs wr) := HA.out.below HB.out
        have q0 := AtBlk.c0 HAr.out.at_ k hkl
        have q1 := AtBlk.c1 HAr.out.at_ k hkl
        have q2 := AtBlk.c2 HAr.out.at_ k hkl
        have q3 := AtBlk.c3 HAr.out.at_ k hkl
        have q4 := AtBlk.c4 HAr.out.at_ k hkl
        have q5 := AtBlk.c5 HAr.out.at_ k hkl
        have HIT : Hid (ItemsAt wr (bs.getD k default)) := HAr.out.items _ (blk_mem hkl)
        have HBk : Hid (blockOkB (bs.getD k default).h (bs.getD k default).ss = false → R = false) := HBAD.out k hlt
        have HQ2 : Hid (blockOkB (bs.getD k default).h (bs.getD k default).ss = true → ∀ q, q < k + 1 → blockOkB (bs.getD q default).h (bs.getD q default).ss = true) := by
          intro h q hq
          rcases Nat.lt_or_ge q k with h' | h'
          · exact HQ.out q h'
          · obtain rfl : q = k := by omega
            exact h
        have lk : (k : Int) < (n : Int) := by omega
        have lk0 : (0 : Int) ≤ (k : Int) := by omega
        have wk : IntKind.i64.wrap ((k : Int) + 1) = (k : Int) + 1 := by rw [IntKind.wrap_i64]; omega
        have HK1 : Hid (k + 1 ≤ n) := hlt
        have hok := fun (w' : World) (hb : Below wr.heap.size wr w') => implBlockOk (bs.getD k default).h (bs.getD k default).g (bs.getD k default).n (bs.getD k default).cap (bs.getD k default).ss w' (HIT.out.1.below hb HIT.out.1.1) HIT.out.2 (HK.out.below (HB.out.trans (hb.mono HB.out.size)) HK.out.lt) (TabP.below HP.out (HB.out.trans (hb.mono HB.out.size)) (Nat.le_refl _))
        generalize blockOkB (bs.getD k default).h (bs.getD k default).ss = b at hok HBk HQ2
        clear HIT HQ HBAD HGOO hkl
        generalize bs.getD k default = bb at q0 q1 q2 q3 q4 q5 hok
        obtain ⟨p, bg, bn, bc, bss⟩ := bb
        unfold blockVal at hok
        dsimp only at q0 q1 q2 q3 q4 q5 hok
        have L0 : Hid (Below wr.heap.size wr (wr.alloc (.cells #[.string p.prev, .string p.root, .int .i64 p.time, .int .i64 p.diff, .int .i64 p.nonce, .slice (some ⟨bg, 0, none⟩) bn bc] 43))) := (Below.refl _ wr).alloc (Nat.le_refl _) _
        go_wp2_with fail
        refine (hok _ L0.out).mono ?_
        rintro e w3 ⟨rfl, b3⟩
        have HB3 : Hid (Below w.heap.size w w3) := HB.out.trans ((L0.out.trans (b3.mono L0.out.size)).mono HB.out.size)
        clear hok q0 q1 q2 q3 q4 q5 b3 L0
        cases b with
        | false =>
          have HV : Hid (R = false) := HBk.out rfl
          clear HBk HQ2
          go_wp2_with fail
          go_ret
          exact ⟨by rw [HV.out]; rfl, HB3.out⟩
        | true =>
          have HQ3 : Hid (∀ q, q < k + 1 → blockOkB (bs.getD q default).h (bs.getD q default).ss = true) := HQ2.out rfl
          clear HBk HQ2
          go_wp2_with fail
          go_roundw
          case rel => exact ⟨k + 1, HK1.out, by go_num, HB3, HQ3⟩
          case measure => have := HK1.out; simp [intOf]; omega
      · obtain rfl : k = n := by omega
        have HV : Hid (R = true) := HGOO.out HQ.out
        clear HBAD HGOO HQ
        go_wp2_with fail
        go_ret
        exact ⟨by rw [HV.out]; rfl, HB.out⟩

/-- What the specification needs of a list of blocks: short texts, few items. -/
structure BlksS (g n cap : Nat) (bs : List BlkV) (w : World) : Prop where
  b : Blks g n cap bs w
  wf : ∀ b ∈ bs, wfHead b.h
  few : ∀ b ∈ bs, b.n ≤ 1048576
  small : ∀ b ∈ bs, ∀ i, i < b.ss.length → (b.ss.getD i ByteArray.empty).size ≤ 1048576
theorem BlksS.below {g n cap : Nat} {bs : List BlkV} {w w' : World} (h : BlksS g n cap bs w) (hb : Below w.heap.size w w') : BlksS g n cap bs w' :=
  ⟨h.b.below hb, h.wf, h.few, h.small⟩

set_option maxHeartbeats 2000000 in
set_option maxRecDepth 100000 in
theorem specL4Blocks (g n cap : Nat) (bs : List BlkV) (w : World) (h : BlksS g n cap bs w) :
    Calls Tryz.prog 14 #[.slice (some ⟨g, 0, none⟩) n cap] w fun e w' => e = .returned (.bool (okP (ptsOf bs))) ∧ Below w.heap.size w w' := by
  have HA : Hid (BlksS g n cap bs w) := h
  have hm := h.b.max
  have HN : Hid (n = bs.length) := h.b.len
  have HBAD : Hid (∀ k, k < n → blockOkB (bs.getD k default).h (bs.getD k default).ss = false → okP (ptsOf bs) = false) := fun k hk hf => by
    rw [okP, allOk_bad (by rw [← HN.out]; exact hk) hf, Bool.and_false]
  have HGOO : Hid ((∀ k, k < n → blockOkB (bs.getD k default).h (bs.getD k default).ss = true) → okP (ptsOf bs) = decide (chainCk (bs.map (·.h)) = 0)) := fun hq => by
    rw [okP, allOk_good (by rw [← HN.out]; exact hq), Bool.and_true, pts_heads]
  clear h
  generalize okP (ptsOf bs) = R at HBAD HGOO ⊢
  go_enter Tryz.func14, Tryz.ntmps14
  go_wp2_with fail
  go_loopw [3] (fun i wr => ∃ k : Nat, k ≤ n ∧ i = .int .i64 (k : Int) ∧ Hid (Below w.heap.size w wr) ∧ Hid (∀ q, q < k → blockOkB (bs.getD q default).h (bs.getD q default).ss = true)) (fun i _ => n - (intOf i).toNat)
  case atStart => exact ⟨0, by omega, rfl, Below.refl _ _, fun q hq => by omega⟩
  case round =>
    obtain ⟨k, hk, rfl, HB, HQ⟩ := hrel
    by_cases hlt : k < n
    · have hkl : k < bs.length := by rw [← HN.out]; exact hlt
      have HAr : Hid (BlksS g n cap bs wr) := HA.out.below HB.out
      have q0 := AtBlk.c0 HAr.out.b.at_ k hkl
      have q1 := AtBlk.c1 HAr.out.b.at_ k hkl
      have q2 := AtBlk.c2 HAr.out.b.at_ k hkl
      have q3 := AtBlk.c3 HAr.out.b.at_ k hkl
      have q4 := AtBlk.c4 HAr.out.b.at_ k hkl
      have q5 := AtBlk.c5 HAr.out.b.at_ k hkl
      have HIT : Hid (ItemsAt wr (bs.getD k default)) := HAr.out.b.items _ (blk_mem hkl)
      have HBk : Hid (blockOkB (bs.getD k default).h (bs.getD k default).ss = false → R = false) := HBAD.out k hlt
      have HQ2 : Hid (blockOkB (bs.getD k default).h (bs.getD k default).ss = true → ∀ q, q < k + 1 → blockOkB (bs.getD q default).h (bs.getD q default).ss = true) := by
        intro h q hq
        rcases Nat.lt_or_ge q k with h' | h'
        · exact HQ.out q h'
        · obtain rfl : q = k := by omega
          exact h
      have lk : (k : Int) < (n : Int) := by omega
      have lk0 : (0 : Int) ≤ (k : Int) := by omega
      have wk : IntKind.i64.wrap ((k : Int) + 1) = (k : Int) + 1 := by rw [IntKind.wrap_i64]; omega
      have HK1 : Hid (k + 1 ≤ n) := hlt
      have hok := specL3BlockOk (bs.getD k default).h (bs.getD k default).g (bs.getD k default).n (bs.getD k default).cap (bs.getD k default).ss wr HIT.out.1 HIT.out.2 (HAr.out.wf _ (blk_mem hkl)).1 (HAr.out.wf _ (blk_mem hkl)).2 (HAr.out.few _ (blk_mem hkl)) (HAr.out.small _ (blk_mem hkl))
      generalize blockOkB (bs.getD k default).h (bs.getD k default).ss = b at hok HBk HQ2
      clear HIT HQ HBAD HGOO hkl
      generalize bs.getD k default = bb at q0 q1 q2 q3 q4 q5 hok
      obtain ⟨p, bg, bn, bc, bss⟩ := bb
      unfold blockVal at hok
      dsimp only at q0 q1 q2 q3 q4 q5 hok
      go_wp2_with fail
      refine hok.mono ?_
      rintro e w3 ⟨rfl, b3⟩
      have HB3 : Hid (Below w.heap.size w w3) := HB.out.trans (b3.mono HB.out.size)
      clear hok q0 q1 q2 q3 q4 q5 b3
      cases b with
      | false =>
        have HV : Hid (R = false) := HBk.out rfl
        clear HBk HQ2
        go_wp2_with fail
        go_ret
        exact ⟨by rw [HV.out]; rfl, HB3.out⟩
      | true =>
        have HQ3 : Hid (∀ q, q < k + 1 → blockOkB (bs.getD q default).h (bs.getD q default).ss = true) := HQ2.out rfl
        clear HBk HQ2
        go_wp2_with fail
        go_roundw
        case rel => exact ⟨k + 1, HK1.out, by go_num, HB3, HQ3⟩
        case measure => have := HK1.out; simp [intOf]; omega
    · obtain rfl : k = n := by omega
      have HV : Hid (R = decide (chainCk (bs.map (·.h)) = 0)) := HGOO.out HQ.out
      have HAr : Hid (BlksS g k cap bs wr) := HA.out.below HB.out
      have hhd := specL4Heads g k cap bs wr HAr.out.b.at_ HN.out hm
      clear HBAD HGOO HQ
      go_wp2_with fail
      refine hhd.mono ?_
      rintro e w1 ⟨v, rfl, r1, b1⟩
      obtain ⟨g2, c2, hv⟩ := r1.1
      subst hv
      have hat := FRow.at enHead_len r1
      rw [List.length_map, ← HN.out] at hat ⊢
      have hck := specL4Check g2 k c2 (bs.map (·.h)) w1 ⟨hat.1, by rw [List.length_map]; exact HN.out, hm, hat.2.2.2, fun i hi => by
        rw [List.length_map] at hi
        rw [getD_map hi]
        exact HA.out.wf _ (blk_mem hi)⟩
      have HB1 : Hid (Below w.heap.size w w1) := HB.out.trans (b1.mono HB.out.size)
      generalize chainCk (bs.map (·.h)) = m at hck HV
      clear hhd hat r1 b1
      go_wp2_with fail
      refine hck.mono ?_
      rintro e w2 ⟨rfl, b2⟩
      have HB2 : Hid (Below w.heap.size w w2) := HB1.out.trans (b2.mono HB1.out.size)
      clear hck b2
      rcases Nat.eq_zero_or_pos m with h0 | h0
      · subst h0
        go_wp2_with fail
        go_ret
        exact ⟨by rw [HV.out]; rfl, HB2.out⟩
      · have hm0 : ((m : Int) == 0) = false := beq_eq_false_iff_ne.2 (by omega)
        have hm1 : ¬ (m : Int) = 0 := by omega
        have HD : Hid (decide (m = 0) = false) := decide_eq_false (by omega)
        go_wp2_with fail
        go_ret
        exact ⟨by rw [HV.out, HD.out]; first | rfl | (simp; omega), HB2.out⟩

end Go.Proofs.YtgfjhjkgnghdhaaGreatDoor

set_option linter.unusedVariables false
namespace Go.Proofs.YtgfjhjkgnghdhaaGreatDoor
open Go.RowKit

set_option maxHeartbeats 1000000 in
set_option maxRecDepth 100000 in
theorem implClone (s : ByteArray) (w : World) (hs : s.size ≤ 281474976710656) :
    Calls Tryz.prog 34 #[.string s] w fun e w' => e = .returned (.string s) ∧ Below w.heap.size w w' := by
  go_enter Tryz.func34, Tryz.ntmps34
  go_wp2_with fail
  refine (Tryz.stringslite_Clone s w hs).mono ?_
  rintro e w1 ⟨rfl, b1⟩
  go_wp2_with fail
  go_ret
  exact ⟨rfl, b1⟩

/-- A head's block. -/
def HBk (w : World) (g : Nat) (p r : ByteArray) (t d n : Int) : Prop := w.heap[g]? = some (.cells #[.string p, .string r, .int .i64 t, .int .i64 d, .int .i64 n] 41 (0, 0))
theorem HBk.lt {w : World} {g : Nat} {p r : ByteArray} {t d n : Int} (h : HBk w g p r t d n) : g < w.heap.size := by
  rcases Nat.lt_or_ge g w.heap.size with h' | h'
  · exact h'
  · simp [HBk, Array.getElem?_eq_none h'] at h
theorem HBk.below {w w' : World} {g B : Nat} {p r : ByteArray} {t d n : Int} (h : HBk w g p r t d n) (hb : Below B w w') (hg : g < B) : HBk w' g p r t d n := by
  unfold HBk at h ⊢
  rw [hb.block g hg]
  exact h
theorem HBk.facts {w : World} {g : Nat} {p r : ByteArray} {t d n : Int} (h : HBk w g p r t d n) : w.cell? ⟨g, 0, none⟩ = some (.string p) ∧ w.cell? ⟨g, 1, none⟩ = some (.string r) ∧ w.cell? ⟨g, 2, none⟩ = some (.int .i64 t) ∧ w.cell? ⟨g, 3, none⟩ = some (.int .i64 d) ∧ w.cell? ⟨g, 4, none⟩ = some (.int .i64 n) ∧ w.frozen? ⟨g, 0, none⟩ = false ∧ w.frozen? ⟨g, 1, none⟩ = false ∧ w.frozen? ⟨g, 2, none⟩ = false ∧ w.frozen? ⟨g, 3, none⟩ = false ∧ w.frozen? ⟨g, 4, none⟩ = false := by
  refine ⟨?_, ?_, ?_, ?_, ?_, Lib.frozen_of_heap h 0, Lib.frozen_of_heap h 1, Lib.frozen_of_heap h 2, Lib.frozen_of_heap h 3, Lib.frozen_of_heap h 4⟩ <;> (rw [Lib.cell_of_heap h]; rfl)
theorem HBk.other {w : World} {g g' j : Nat} {p r : ByteArray} {t d n : Int} (h : HBk w g p r t d n) (hg : g' ≠ g) (v : Value) : HBk (w.setCell ⟨g', j, none⟩ v) g p r t d n := by
  unfold HBk at h ⊢; simp [World.setCell, Array.getElem?_modify, h, hg]
theorem HBk.new (w : World) (p r : ByteArray) (t d n : Int) : HBk (w.alloc (.cells #[.string p, .string r, .int .i64 t, .int .i64 d, .int .i64 n] 41)) w.heap.size p r t d n := heap_alloc_new w _
/-- A head handed in at block g, the head handed back at block g + 1, g being the first block behind w. -/
def HTwo (w w' : World) (p r : ByteArray) (t d n : Int) (p2 r2 : ByteArray) (t2 d2 n2 : Int) : Prop := HBk w' w.heap.size p r t d n ∧ HBk w' (w.heap.size + 1) p2 r2 t2 d2 n2 ∧ Below w.heap.size w w'
theorem HTwo.new (w : World) (p r : ByteArray) (t d n : Int) (p2 r2 : ByteArray) (t2 d2 n2 : Int) : HTwo w ((w.alloc (.cells #[.string p, .string r, .int .i64 t, .int .i64 d, .int .i64 n] 41)).alloc (.cells #[.string p2, .string r2, .int .i64 t2, .int .i64 d2, .int .i64 n2] 41)) p r t d n p2 r2 t2 d2 n2 := by
  refine ⟨?_, ?_, ((Below.refl _ w).alloc (Nat.le_refl _) _).alloc (by simp) _⟩
  · exact (HBk.new w p r t d n).below ((Below.refl _ _).alloc (Nat.le_refl _) _) (by simp)
  · have := HBk.new (w.alloc (.cells #[.string p, .string r, .int .i64 t, .int .i64 d, .int .i64 n] 41)) p2 r2 t2 d2 n2
    rwa [show (w.alloc (.cells #[.string p, .string r, .int .i64 t, .int .i64 d, .int .i64 n] 41)).heap.size = w.heap.size + 1 from by simp] at this
theorem HTwo.call {w w' w'' : World} {p r : ByteArray} {t d n : Int} {p2 r2 : ByteArray} {t2 d2 n2 : Int} (h : HTwo w w' p r t d n p2 r2 t2 d2 n2) (hb : Below w'.heap.size w' w'') : HTwo w w'' p r t d n p2 r2 t2 d2 n2 :=
  ⟨h.1.below hb h.1.lt, h.2.1.below hb h.2.1.lt, h.2.2.trans (hb.mono h.2.2.size)⟩
end Go.Proofs.YtgfjhjkgnghdhaaGreatDoor

set_option linter.unusedVariables false
namespace Go.Proofs.YtgfjhjkgnghdhaaGreatDoor
open Go.RowKit Go.Deep

theorem sameT (a b : ByteArray) : (a.toList == b.toList) = decide (a = b) := by
  rw [Bool.eq_iff_iff, beq_iff_eq, decide_eq_true_eq, ByteArray.toList_eq, ByteArray.toList_eq]
  constructor
  · intro h
    exact ByteArray.ext (by simpa using h)
  · intro h
    rw [h]
set_option maxHeartbeats 1000000 in
set_option maxRecDepth 100000 in
theorem implIndex1 (g c : Nat) (it x : ByteArray) (w : World) (h : w.cell? ⟨g, 0, none⟩ = some (.string it)) :
    Calls Tryz.prog 47 #[.slice (some ⟨g, 0, none⟩) 1 c, .string x] w fun e w' => e = .returned (.int .i64 (if x = it then 0 else -1)) ∧ w' = w := by
  have hs := sameT x it
  by_cases hx : x = it
  · have HV : Hid ((if x = it then (0 : Int) else -1) = 0) := if_pos hx
    rw [decide_eq_true hx] at hs
    generalize (if x = it then (0 : Int) else -1) = R at HV ⊢
    clear hx
    go_enter Tryz.func47, Tryz.ntmps47
    go_wp2_with fail
    go_loopw [8] (fun i wr => i = .int .i64 0 ∧ Hid (wr = w)) (fun _ _ => 0)
    case atStart => exact ⟨rfl, rfl⟩
    case round =>
      obtain ⟨rfl, HW⟩ := hrel
      have h1 : wr.cell? ⟨g, 0, none⟩ = some (.string it) := by rw [HW.out]; exact h
      go_wp2_with fail
      go_ret
      exact ⟨by rw [HV.out]; rfl, HW.out⟩
  · have HV : Hid ((if x = it then (0 : Int) else -1) = -1) := if_neg hx
    rw [decide_eq_false hx] at hs
    generalize (if x = it then (0 : Int) else -1) = R at HV ⊢
    clear hx
    go_enter Tryz.func47, Tryz.ntmps47
    go_wp2_with fail
    go_loopw [8] (fun i wr => ∃ k : Nat, k ≤ 1 ∧ i = .int .i64 (k : Int) ∧ Hid (wr = w)) (fun i _ => 1 - (intOf i).toNat)
    case atStart => exact ⟨0, by omega, rfl, rfl⟩
    case round =>
      obtain ⟨k, hk, rfl, HW⟩ := hrel
      have h1 : wr.cell? ⟨g, 0, none⟩ = some (.string it) := by rw [HW.out]; exact h
      by_cases h0 : k = 0
      · subst h0
        go_wp2_with fail
        go_roundw
        case rel => exact ⟨1, Nat.le_refl _, rfl, HW⟩
        case measure => simp [intOf]
      · obtain rfl : k = 1 := by omega
        go_wp2_with fail
        go_ret
        exact ⟨by rw [HV.out]; rfl, HW.out⟩
set_option maxHeartbeats 1000000 in
set_option maxRecDepth 100000 in
theorem implContains1 (g c : Nat) (it x : ByteArray) (w : World) (h : w.cell? ⟨g, 0, none⟩ = some (.string it)) :
    Calls Tryz.prog 33 #[.slice (some ⟨g, 0, none⟩) 1 c, .string x] w fun e w' => e = .returned (.bool (decide (x = it))) ∧ w' = w := by
  have hix := implIndex1 g c it x w h
  by_cases hx : x = it
  · rw [if_pos hx] at hix
    rw [decide_eq_true hx]
    clear hx h
    go_enter Tryz.func33, Tryz.ntmps33
    go_wp2_with fail
    refine hix.mono ?_
    rintro e w1 ⟨rfl, rfl⟩
    go_wp2_with fail
    go_ret
    exact ⟨rfl, rfl⟩
  · rw [if_neg hx] at hix
    rw [decide_eq_false hx]
    clear hx h
    go_enter Tryz.func33, Tryz.ntmps33
    go_wp2_with fail
    refine hix.mono ?_
    rintro e w1 ⟨rfl, rfl⟩
    go_wp2_with fail
    go_ret
    exact ⟨rfl, rfl⟩

set_option maxHeartbeats 4000000 in
set_option maxRecDepth 100000 in
theorem implBlockHits (a : Int) (h : HeadV) (bg bn bc : Nat) (ss : List ByteArray) (gw cw : Nat) (it : ByteArray) (w : World) (hA : AtS w bg ss) (hn : bn = ss.length) (hm : bn ≤ 1048576) (hz : ∀ i, i < ss.length → (ss.getD i ByteArray.empty).size ≤ 281474976710656) (hg : gw < w.heap.size) (hc : w.cell? ⟨gw, 0, none⟩ = some (.string it)) :
    Calls Tryz.prog 18 #[.int .i64 a, .agg #[.string h.prev, .string h.root, .int .i64 h.time, .int .i64 h.diff, .int .i64 h.nonce, .slice (some ⟨bg, 0, none⟩) bn bc], .slice (some ⟨gw, 0, none⟩) 1 cw] w fun e w' => ∃ v, e = .returned v ∧ HtRow w.heap.size v (bhT a it ss bn) w' ∧ Below w.heap.size w w' := by
  obtain ⟨i0, hi, hz0, hz1, hz2⟩ := info3 infoHit
  have HA : Hid (AtS w bg ss) := hA
  have HN : Hid (bn = ss.length) := hn
  have HZ : Hid (∀ i, i < ss.length → (ss.getD i ByteArray.empty).size ≤ 281474976710656) := hz
  have HC : Hid (gw < w.heap.size ∧ w.cell? ⟨gw, 0, none⟩ = some (.string it)) := ⟨hg, hc⟩
  have B0 : Hid (Below w.heap.size w (w.alloc (.cells #[.string h.prev, .string h.root, .int .i64 h.time, .int .i64 h.diff, .int .i64 h.nonce, .slice (some ⟨bg, 0, none⟩) bn bc] 43))) := (Below.refl _ w).alloc (Nat.le_refl _) _
  clear hA hn hz hg hc
  go_enter Tryz.func18, Tryz.ntmps18
  go_wp2_with fail
  generalize w.alloc (.cells #[.string h.prev, .string h.root, .int .i64 h.time, .int .i64 h.diff, .int .i64 h.nonce, .slice (some ⟨bg, 0, none⟩) bn bc] 43) = W0 at B0 ⊢
  go_loopw [7, 13] (fun v i wr => ∃ (k : Nat) (v7 : Value), k ≤ bn ∧ i = .int .i64 (k : Int) ∧ v = v7 ∧ Hid (HtRow w.heap.size v7 (bhT a it ss k) wr) ∧ Hid (Below w.heap.size w wr)) (fun _ i _ => bn - (intOf i).toNat)
  case atStart => exact ⟨0, _, by omega, rfl, rfl, HtRow.nil _ _, B0⟩
  case round =>
    clear B0
    obtain ⟨k, v7, hk, rfl, hv7, HR, HB⟩ := hrel
    replace hv7 := hv7.symm
    subst hv7
    by_cases hlt : k < bn
    · have hkl : k < ss.length := by rw [← HN.out]; exact hlt
      have c0 := (HA.out.below HB.out HA.out.1).2 k hkl
      have lk : (k : Int) < (bn : Int) := by omega
      have lk0 : (0 : Int) ≤ (k : Int) := by omega
      have wk : IntKind.i64.wrap ((k : Int) + 1) = (k : Int) + 1 := by rw [IntKind.wrap_i64]; omega
      have HK1 : Hid (k + 1 ≤ bn) := hlt
      have hcl := fun w' => implClone (ss.getD k ByteArray.empty) w' (HZ.out k hkl)
      have hct := implContains1 gw cw it (ss.getD k ByteArray.empty) wr ((HB.out.cell (p := ⟨gw, 0, none⟩) HC.out.1).trans HC.out.2)
      have HYES : Hid (ss.getD k ByteArray.empty = it → bhT a it ss (k + 1) = bhT a it ss k ++ [⟨a, it⟩]) := fun hh => bhT_yes hh
      have HNO : Hid (¬ ss.getD k ByteArray.empty = it → bhT a it ss (k + 1) = bhT a it ss k) := fun hh => bhT_no hh
      have HLE : Hid ((bhT a it ss k).length ≤ k) := bhT_len a it ss k
      clear hkl
      generalize ss.getD k ByteArray.empty = x at c0 hcl hct HYES HNO
      obtain ⟨L2, hL2⟩ : ∃ L2, L2 = bhT a it ss (k + 1) := ⟨_, rfl⟩
      have HE : Hid (L2 = bhT a it ss (k + 1)) := hL2
      rw [← hL2] at HYES HNO
      clear hL2
      generalize bhT a it ss k = L at HR HYES HNO HLE
      by_cases hx : x = it
      · have HV : Hid (L2 = L ++ [⟨a, it⟩]) := HYES.out hx
        rw [decide_eq_true hx] at hct
        subst hx
        clear HYES HNO
        go_wp2_with fail
        refine hct.mono ?_
        rintro e w1 ⟨rfl, rfl⟩
        go_wp2_with fail
        refine (hcl _).mono ?_
        rintro e w2 ⟨rfl, b2⟩
        have B2 : Hid (Below w.heap.size w w2) := HB.out.trans (b2.mono HB.out.size)
        have HOW : Hid (w2.ownsRow w.heap.size 48 2 v7 L.length (L.flatMap enHit)) := HR.out.below b2
        have hx1 : L.length + 1 ≤ maxLen := by have := HLE.out; unfold maxLen; omega
        have hx2 : (L.length + 1) * 24 ≤ 140737488355328 := by have := HLE.out; omega
        have hu := hEnc_one ⟨a, x⟩
        have hsz := B2.out.size
        clear HR HB b2 hct hcl
        go_wp2_with (at_builtin; refine wp_appN rfl _ _ 24 rfl w.heap.size 48 i0 (.agg #[.int .i64 0, .string ⟨#[]⟩]) 2 24 1 Tryz.underlying24 hi hz0 hz1 hz2 rfl (by decide) (by decide) _ _ _ rfl HOW.out (enHit ⟨a, x⟩) (by first | rfl | simp [Act.eval]) rfl hu hx1 hx2 hsz ?_; intro g4 c4 w4 hown4 hb4 hkeep4)
        have R4 : Hid (HtRow w.heap.size (.slice (some ⟨g4, 0, none⟩) (L.length + 1) c4) L2 w4) := by
          have e1 : L2.length = L.length + 1 := by rw [HV.out]; simp
          show World.ownsRow _ _ _ _ _ _ _
          rw [e1, HV.out, List.flatMap_append]
          simpa using hown4
        have B4 : Hid (Below w.heap.size w w4) := B2.out.trans hb4
        clear hown4 hb4 hkeep4 B2 HOW
        go_wp2_with fail
        go_roundw
        case rel => exact ⟨k + 1, _, HK1.out, by go_num, rfl, by rw [← HE.out]; exact R4, B4⟩
        case measure => have := HK1.out; simp [intOf]; omega
      · have HV : Hid (L2 = L) := HNO.out hx
        rw [decide_eq_false hx] at hct
        clear HYES HNO hx hcl
        go_wp2_with fail
        refine hct.mono ?_
        rintro e w1 ⟨rfl, rfl⟩
        go_wp2_with fail
        go_roundw
        case rel => exact ⟨k + 1, _, HK1.out, by go_num, rfl, by rw [← HE.out, HV.out]; exact HR, HB⟩
        case measure => have := HK1.out; simp [intOf]; omega
    · obtain rfl : k = bn := by omega
      go_wp2_with fail
      go_ret
      exact ⟨_, rfl, HR.out, HB.out⟩

end Go.Proofs.YtgfjhjkgnghdhaaGreatDoor

set_option linter.unusedVariables false
namespace Go.Proofs.YtgfjhjkgnghdhaaGreatDoor
open Go.RowKit Go.Deep

theorem drewAllocH (w : World) (o : Obj) : (w.alloc o).drew = w.drew.alloc o := rfl
theorem tag_hit {B g0 g c n : Nat} {l : List HitV} {w : World} {cs : Array Value} (h : HtRow B (.slice (some ⟨g, 0, none⟩) n c) l w) (hc : CBk w g0 43 cs) : g ≠ g0 := by
  intro e
  subst e
  rcases h.2 with ⟨h1, _⟩ | ⟨g', cap', cur, hv, hB, hg, _⟩
  · cases h1
  · simp only [Value.slice.injEq, Option.some.injEq, Addr.mk.injEq, and_true] at hv
    obtain ⟨rfl, _, _⟩ := hv
    unfold CBk at hc
    rw [hg] at hc
    simp at hc

set_option maxHeartbeats 4000000 in
set_option maxRecDepth 100000 in
theorem specL8Hits (a : Int) (h : HeadV) (bg bn bc : Nat) (ss : List ByteArray) (gw cw : Nat) (it : ByteArray) (w : World) (hA : AtS w bg ss) (hn : bn = ss.length) (hm : bn ≤ 1048576) (hg : gw < w.heap.size) (hc : w.cell? ⟨gw, 0, none⟩ = some (.string it)) :
    Calls Tryz.prog 15 #[.agg #[.string h.prev, .string h.root, .int .i64 h.time, .int .i64 h.diff, .int .i64 h.nonce, .slice (some ⟨bg, 0, none⟩) bn bc], .int .i64 a, .slice (some ⟨gw, 0, none⟩) 1 cw] w fun e w' => ∃ v, e = .returned v ∧ HtRow w.heap.size v (bhT a it ss bn) w' ∧ Below w.heap.size w w' := by
  obtain ⟨i0, hi, hz0, hz1, hz2⟩ := info3 infoHit
  have HA : Hid (AtS w bg ss) := hA
  have HN : Hid (bn = ss.length) := hn
  have HC : Hid (gw < w.heap.size ∧ w.cell? ⟨gw, 0, none⟩ = some (.string it)) := ⟨hg, hc⟩
  have B0 : Hid (Below w.heap.size w ((w.alloc (.cells #[.string h.prev, .string h.root, .int .i64 h.time, .int .i64 h.diff, .int .i64 h.nonce, .slice (some ⟨bg, 0, none⟩) bn bc] 43)).alloc (.cells #[] 48))) := ((Below.refl _ w).alloc (Nat.le_refl _) _).alloc (by simp) _
  have C0 : Hid (CBk ((w.alloc (.cells #[.string h.prev, .string h.root, .int .i64 h.time, .int .i64 h.diff, .int .i64 h.nonce, .slice (some ⟨bg, 0, none⟩) bn bc] 43)).alloc (.cells #[] 48)) w.heap.size 43 #[.string h.prev, .string h.root, .int .i64 h.time, .int .i64 h.diff, .int .i64 h.nonce, .slice (some ⟨bg, 0, none⟩) bn bc]) := (CBk.new w _ _).alloc _
  have R0 : Hid (HtRow w.heap.size (.slice (some ⟨w.heap.size + 1, 0, none⟩) 0 0) [] ((w.alloc (.cells #[.string h.prev, .string h.root, .int .i64 h.time, .int .i64 h.diff, .int .i64 h.nonce, .slice (some ⟨bg, 0, none⟩) bn bc] 43)).alloc (.cells #[] 48))) := by
    have := (frow_new enHit 48 2 (w.alloc (.cells #[.string h.prev, .string h.root, .int .i64 h.time, .int .i64 h.diff, .int .i64 h.nonce, .slice (some ⟨bg, 0, none⟩) bn bc] 43))).2
    rw [show (w.alloc (.cells #[.string h.prev, .string h.root, .int .i64 h.time, .int .i64 h.diff, .int .i64 h.nonce, .slice (some ⟨bg, 0, none⟩) bn bc] 43)).heap.size = w.heap.size + 1 from by simp] at this
    exact HtRow.mono (B := w.heap.size + 1) this (Nat.le_succ _)
  clear hA hn hg hc
  go_enter Tryz.func15, Tryz.ntmps15
  go_wp2_with fail
  generalize (w.alloc (.cells #[.string h.prev, .string h.root, .int .i64 h.time, .int .i64 h.diff, .int .i64 h.nonce, .slice (some ⟨bg, 0, none⟩) bn bc] 43)).alloc (.cells #[] 48) = W0 at B0 C0 R0 ⊢
  obtain ⟨g0, hg0⟩ : ∃ g0, g0 = w.heap.size := ⟨_, rfl⟩
  have HG : Hid (g0 = w.heap.size) := hg0
  have R0' : Hid (HtRow w.heap.size (.slice (some ⟨g0 + 1, 0, none⟩) 0 0) [] W0) := by rw [hg0]; exact R0
  rw [← hg0] at C0 ⊢
  clear hg0 R0
  go_loopw [7, 8] (fun v i wr => ∃ (k : Nat) (v7 : Value), k ≤ bn ∧ i = .int .i64 (k : Int) ∧ v = v7 ∧ Hid (HtRow w.heap.size v7 (bhT a it ss k) wr) ∧ Hid (Below w.heap.size w wr) ∧ Hid (CBk wr g0 43 #[.string h.prev, .string h.root, .int .i64 h.time, .int .i64 h.diff, .int .i64 h.nonce, .slice (some ⟨bg, 0, none⟩) bn bc])) (fun _ i _ => bn - (intOf i).toNat)
  case atStart => exact ⟨0, _, by omega, rfl, rfl, R0', B0, C0⟩
  case round =>
    clear B0 R0' C0
    obtain ⟨k, v7, hk, rfl, hv7, HR, HB, CB⟩ := hrel
    replace hv7 := hv7.symm
    subst hv7
    obtain ⟨d0, d1, d2, d3, d4, d5⟩ := CB.out.out6
    by_cases hlt : k < bn
    · have hkl : k < ss.length := by rw [← HN.out]; exact hlt
      have c0 := (HA.out.below HB.out HA.out.1).2 k hkl
      have cw0 := (HB.out.cell (p := ⟨gw, 0, none⟩) HC.out.1).trans HC.out.2
      have lk : (k : Int) < (bn : Int) := by omega
      have lk0 : (0 : Int) ≤ (k : Int) := by omega
      have wk : IntKind.i64.wrap ((k : Int) + 1) = (k : Int) + 1 := by rw [IntKind.wrap_i64]; omega
      have HK1 : Hid (k + 1 ≤ bn) := hlt
      have HYES : Hid (ss.getD k ByteArray.empty = it → bhT a it ss (k + 1) = bhT a it ss k ++ [⟨a, it⟩]) := fun hh => bhT_yes hh
      have HNO : Hid (¬ ss.getD k ByteArray.empty = it → bhT a it ss (k + 1) = bhT a it ss k) := fun hh => bhT_no hh
      have HLE : Hid ((bhT a it ss k).length ≤ k) := bhT_len a it ss k
      clear hkl
      generalize ss.getD k ByteArray.empty = x at c0 HYES HNO
      obtain ⟨L2, hL2⟩ : ∃ L2, L2 = bhT a it ss (k + 1) := ⟨_, rfl⟩
      have HE : Hid (L2 = bhT a it ss (k + 1)) := hL2
      rw [← hL2] at HYES HNO
      clear hL2
      generalize bhT a it ss k = L at HR HYES HNO HLE
      have hst := sameT it x
      by_cases hx : x = it
      · have HV : Hid (L2 = L ++ [⟨a, it⟩]) := HYES.out hx
        rw [decide_eq_true hx.symm] at hst
        have HXE : Hid (x = it) := hx
        clear HYES HNO hx
        go_wp2_with fail
        go_loopw [7, 9] (fun v i w2 => i = .int .i64 0 ∧ v = v7 ∧ Hid (HtRow w.heap.size v7 L w2 ∧ Below w.heap.size w w2 ∧ CBk w2 g0 43 #[.string h.prev, .string h.root, .int .i64 h.time, .int .i64 h.diff, .int .i64 h.nonce, .slice (some ⟨bg, 0, none⟩) bn bc] ∧ w2.cell? ⟨bg, k, none⟩ = some (.string x) ∧ w2.cell? ⟨gw, 0, none⟩ = some (.string it))) (fun _ _ _ => 0)
        case atStart => exact ⟨rfl, rfl, HR.out, HB.out, CB.out, c0, cw0⟩
        case round =>
          clear HR HB CB c0 cw0 d0 d1 d2 d3 d4 d5
          obtain ⟨rfl, hv9, HS⟩ := hrel
          replace hv9 := hv9.symm
          subst hv9
          have HR : Hid (HtRow w.heap.size v7 L wr) := HS.out.1
          have HB : Hid (Below w.heap.size w wr) := HS.out.2.1
          have CB : Hid (CBk wr g0 43 #[.string h.prev, .string h.root, .int .i64 h.time, .int .i64 h.diff, .int .i64 h.nonce, .slice (some ⟨bg, 0, none⟩) bn bc]) := HS.out.2.2.1
          have c0 := HS.out.2.2.2.1
          have cw0 := HS.out.2.2.2.2
          clear HS
          obtain ⟨d0, d1, d2, d3, d4, d5⟩ := CB.out.out6
          have B2 : Hid (Below w.heap.size w wr.drew) := HB.out.drew
          have HOW : Hid (wr.drew.ownsRow w.heap.size 48 2 v7 L.length (L.flatMap enHit)) := HR.out
          have CB2 : Hid (CBk wr.drew g0 43 #[.string h.prev, .string h.root, .int .i64 h.time, .int .i64 h.diff, .int .i64 h.nonce, .slice (some ⟨bg, 0, none⟩) bn bc]) := CB.out
          have hx1 : L.length + 1 ≤ maxLen := by have := HLE.out; unfold maxLen; omega
          have hx2 : (L.length + 1) * 24 ≤ 140737488355328 := by have := HLE.out; omega
          have hu := hEnc_one ⟨a, x⟩
          have hsz := B2.out.size
          have HXI : Hid (x = it) := HXE.out
          go_wp2_with fail
          go_big_region
          go_wp2_with (at_builtin; rw [drewAllocH]; refine wp_appN rfl _ _ 24 rfl w.heap.size 48 i0 (.agg #[.int .i64 0, .string ⟨#[]⟩]) 2 24 1 Tryz.underlying24 hi hz0 hz1 hz2 rfl (by decide) (by decide) _ _ _ rfl HOW.out (enHit ⟨a, x⟩) (by first | rfl | simp [Act.eval]) rfl hu hx1 hx2 hsz ?_; intro g4 c4 w4 hown4 hb4 hkeep4)
          have R4 : Hid (HtRow w.heap.size (.slice (some ⟨g4, 0, none⟩) (L.length + 1) c4) L2 w4) := by
            have e1 : L2.length = L.length + 1 := by rw [HV.out]; simp
            show World.ownsRow _ _ _ _ _ _ _
            rw [e1, HV.out, List.flatMap_append, ← HXI.out]
            simpa using hown4
          have B4 : Hid (Below w.heap.size w w4) := B2.out.trans hb4
          have C4 : Hid (CBk w4 g0 43 #[.string h.prev, .string h.root, .int .i64 h.time, .int .i64 h.diff, .int .i64 h.nonce, .slice (some ⟨bg, 0, none⟩) bn bc]) := (hkeep4 g0 CB2.out.lt (by
            intro e9
            have hr9 := HR.out
            rcases hr9.forms with ⟨h9, _⟩ | ⟨g9, c9, h9, _⟩
            · rw [h9] at e9; cases e9
            · rw [h9] at e9 hr9
              have e2 : some g9 = some g0 := by first | exact e9 | simpa [Value.ownBlock] using e9
              exact tag_hit hr9 CB.out (Option.some.inj e2))).trans CB2.out
          clear hown4 hb4 hkeep4 B2 HOW CB2 CB HR HB
          go_wp2_with fail
          go_roundw
          case rel => exact ⟨k + 1, _, HK1.out, by go_num, rfl, by rw [← HE.out]; exact R4, B4, C4⟩
          case measure => have := HK1.out; simp [intOf]; omega
      · have HV : Hid (L2 = L) := HNO.out hx
        rw [decide_eq_false (fun e => hx e.symm)] at hst
        clear HYES HNO hx
        go_wp2_with fail
        go_loopw [7, 9] (fun v i w2 => ∃ k9 : Nat, k9 ≤ 1 ∧ i = .int .i64 (k9 : Int) ∧ v = v7 ∧ Hid (HtRow w.heap.size v7 L w2 ∧ Below w.heap.size w w2 ∧ CBk w2 g0 43 #[.string h.prev, .string h.root, .int .i64 h.time, .int .i64 h.diff, .int .i64 h.nonce, .slice (some ⟨bg, 0, none⟩) bn bc] ∧ w2.cell? ⟨bg, k, none⟩ = some (.string x) ∧ w2.cell? ⟨gw, 0, none⟩ = some (.string it))) (fun _ i _ => 1 - (intOf i).toNat)
        case atStart => exact ⟨0, by omega, rfl, rfl, HR.out, HB.out, CB.out, c0, cw0⟩
        case round =>
          clear HR HB CB c0 cw0 d0 d1 d2 d3 d4 d5
          obtain ⟨k9, hk9, rfl, hv9, HS⟩ := hrel
          replace hv9 := hv9.symm
          subst hv9
          obtain ⟨d0, d1, d2, d3, d4, d5⟩ := CBk.out6 HS.out.2.2.1
          have c0 := HS.out.2.2.2.1
          have cw0 := HS.out.2.2.2.2
          by_cases h9 : k9 = 0
          · subst h9
            go_wp2_with fail
            go_big_region
            go_wp2_with fail
            go_roundw
            case rel => exact ⟨1, Nat.le_refl _, rfl, rfl, HS.out.1, HS.out.2.1.drew, HS.out.2.2.1, HS.out.2.2.2.1, HS.out.2.2.2.2⟩
            case measure => simp [intOf]
          · obtain rfl : k9 = 1 := by omega
            go_wp2_with fail
            go_roundw
            case rel => exact ⟨k + 1, _, HK1.out, by go_num, rfl, by rw [← HE.out, HV.out]; exact HS.out.1, HS.out.2.1, HS.out.2.2.1⟩
            case measure => have := HK1.out; simp [intOf]; omega
    · obtain rfl : k = bn := by omega
      go_wp2_with fail
      go_ret
      exact ⟨_, rfl, HR.out, HB.out⟩

end Go.Proofs.YtgfjhjkgnghdhaaGreatDoor

set_option linter.unusedVariables false
namespace Go.Proofs.YtgfjhjkgnghdhaaGreatDoor
open Go.ChangeShapes Go.WideShapes Go.ChangeAt Go.RowKit Go.Deep

structure LBlk where
  h : HeadV
  a : Option Addr
  n : Nat
  cap : Nat
  zs : List ByteArray
instance : Inhabited LBlk := ⟨⟨default, none, 0, 0, []⟩⟩
def enL (b : LBlk) : List Value := [.string b.h.prev, .string b.h.root, .int .i64 b.h.time, .int .i64 b.h.diff, .int .i64 b.h.nonce, .slice b.a b.n b.cap]
theorem enL_len (b : LBlk) : (enL b).length = 6 := rfl
def wfL (W : World) (b : LBlk) : Prop := wfHead b.h ∧ IsTexts W b.a b.n b.cap b.zs
abbrev IsBlks (w : World) (a : Option Addr) (len cap : Nat) (l : List LBlk) : Prop := IsFlat enL (wfL w) 6 w a len cap l
theorem texts_below {w w' : World} {a : Option Addr} {len cap : Nat} {zs : List ByteArray} (h : IsTexts w a len cap zs) (hb : Below w.heap.size w w') : IsTexts w' a len cap zs := by
  rcases h with h1 | ⟨x, hx, h1, h2, h3, h4, h5⟩
  · exact .inl h1
  · refine .inr ⟨x, hx, h1, h2, h3, fun i hi => ?_, h5⟩
    have := h4 i hi
    rw [← this]
    exact hb.cell (cell_lt this)
theorem partsL {cs : List Value} {h : HeadV} {b : Value} (hl : cs.length = 6) (h0 : (cs.drop 0).take 5 = enHead h) (h1 : (cs.drop 5).take 1 = [b]) : cs = enHead h ++ [b] := by
  have e : cs = (cs.drop 0).take 5 ++ (cs.drop 5).take 1 := by
    match cs, hl with
    | [x0, x1, x2, x3, x4, x5], _ => rfl
  rw [e, h0, h1]
set_option maxRecDepth 100000 in
theorem invL {H : Type} {enc : TypeId × Value → H} {W : World} {base : Nat} {held : Bool} (n : Nat) (cs : List Value) (y : DataW H × List MemPlace) (h : DataW.trod enc Tryz.prog W base (fun _ => true) held n 38 cs = some y) (hl : cs.length = 6) : ∃ v : LBlk, cs = enL v ∧ wfL W v := by
  obtain ⟨xs, n, _, _, _, hlen, hx⟩ := DataW.trod_struct Tryz.underlying38 h
  match xs, hlen with
  | [y0, y1], _ =>
    have g0 := hx 0 _ rfl
    have g1 := hx 1 _ rfl
    replace g0 : DataW.trod enc Tryz.prog W base (fun _ => true) held n 35 ((cs.drop 0).take (Tryz.prog.cellsOf 35)) = some y0 := g0
    replace g1 : DataW.trod enc Tryz.prog W base (fun _ => true) held n 36 ((cs.drop 5).take (Tryz.prog.cellsOf 36)) = some y1 := g1
    rw [sizeHead] at g0
    rw [cellsStrs] at g1
    obtain ⟨x, hx0, hxw⟩ := invHead _ _ _ g0 (by rw [List.length_take, List.length_drop, hl]; decide)
    rcases open_strings Tryz.underlying36 Tryz.underlying9 (by kernel_rfl) g1 with ⟨hcs1, _⟩ | ⟨a, l, c, zs, hcs1, _, hl1, hm, hz, _, hcell, hwz⟩
    · exact ⟨⟨x, none, 0, 0, []⟩, partsL hl hx0 hcs1, hxw, .inl ⟨rfl, rfl, rfl, rfl⟩⟩
    · exact ⟨⟨x, some a, l, c, zs⟩, partsL hl hx0 hcs1, hxw, .inr ⟨a, rfl, hl1, hm, by simpa using hz, hcell, hwz⟩⟩
theorem open_blocks {H : Type} {enc : TypeId × Value → H} {W : World} {base : Nat} {held : Bool} {a : Option Addr} {len cap : Nat} {d : DataW H} {p : List MemPlace} (h : DataW.Trod enc Tryz.prog W base (fun _ => true) held 22 (.slice a len cap) d p) : ∃ l : List LBlk, IsBlks W a len cap l :=
  open_flat enL (wfL W) Tryz.underlying22 cellsLBlock (fun n cs y h1 h2 => invL n cs y h1 h2) h
theorem cellsL {w : World} {x : Addr} {b : LBlk} (h : ∀ j, j < 6 → w.cell? (x.add j) = (enL b)[j]?) : w.cell? x = some (.string b.h.prev) ∧ w.cell? ⟨x.block, x.off + 1, none⟩ = some (.string b.h.root) ∧ w.cell? ⟨x.block, x.off + 2, none⟩ = some (.int .i64 b.h.time) ∧ w.cell? ⟨x.block, x.off + 3, none⟩ = some (.int .i64 b.h.diff) ∧ w.cell? ⟨x.block, x.off + 4, none⟩ = some (.int .i64 b.h.nonce) ∧ w.cell? ⟨x.block, x.off + 5, none⟩ = some (.slice b.a b.n b.cap) := by
  exact ⟨h 0 (by decide), h 1 (by decide), h 2 (by decide), h 3 (by decide), h 4 (by decide), h 5 (by decide)⟩

def SzQ (zs : List ByteArray) (len : Nat) (e : Ending) : Prop := e = .returned (.int .i64 (-1)) ∨ ∃ r : Nat, e = .returned (.int .i64 (r : Int)) ∧ r ≤ 1048576 ∧ len ≤ 1048576 ∧ ∀ i, i < len → (zs.getD i ByteArray.empty).size ≤ 1048576
set_option maxHeartbeats 1000000 in
set_option maxRecDepth 100000 in
theorem szStrsQ (r0 : Nat) (hr0 : r0 ≤ 1048576) (a : Option Addr) (len cap : Nat) (zs : List ByteArray) (w : World) (h0 : IsTexts w a len cap zs) :
    Calls Tryz.prog 24 #[.slice a len cap, .int .i64 (r0 : Int)] w fun e w' => w = w' ∧ SzQ zs len e := by
  by_cases hl : (r0 : Int) < (len : Int)
  · have hneg : (r0 : Int) - (len : Int) < 0 := by omega
    have hlm : len ≤ 140737488355328 ∨ True := .inr trivial
    have hcap : len ≤ maxLen := by
      rcases h0 with ⟨_, hl0, _⟩ | ⟨x, _, hlc, hm, _⟩
      · omega
      · omega
    unfold maxLen at hcap
    have hwr : IntKind.i64.wrap ((r0 : Int) - (len : Int)) = (r0 : Int) - (len : Int) := by rw [IntKind.wrap_i64]; omega
    clear h0 hlm
    go_enter Tryz.func24, Tryz.ntmps24
    go_wp2
    go_ret
    exact ⟨rfl, .inl rfl⟩
  · have hn : len ≤ 1048576 := by omega
    have HF : Hid (∀ k, k < len → ∃ x : Addr, a = some x ∧ w.cell? (x.add k) = some (.string (zs.getD k ByteArray.empty)) ∧ (zs.getD k ByteArray.empty).size ≤ maxLen) := by
      intro k hk
      rcases h0 with ⟨_, hl, _⟩ | ⟨x, hx, hlc, _, hzl, hcell, hsz⟩
      · omega
      · refine ⟨x, hx, hcell k (by omega), hsz _ ?_⟩
        have : k < zs.length := by omega
        simp [List.getElem?_eq_getElem this]
    have hwr : IntKind.i64.wrap ((r0 : Int) - (len : Int)) = (r0 : Int) - (len : Int) := by rw [IntKind.wrap_i64]; omega
    have hneg : ¬ (r0 : Int) - (len : Int) < 0 := by omega
    clear h0
    go_enter Tryz.func24, Tryz.ntmps24
    go_wp2
    go_loop [1, 5] (fun l i => ∃ k r : Nat, k ≤ len ∧ r ≤ 1048576 ∧ l = .int .i64 (r : Int) ∧ i = .int .i64 (k : Int) ∧ Hid (∀ j, j < k → (zs.getD j ByteArray.empty).size ≤ 1048576)) (fun _ i => len - (intOf i).toNat)
    case atStart => exact ⟨0, r0 - len, by omega, by omega, by show Value.int .i64 _ = Value.int .i64 _; congr 1; omega, rfl, fun j hj => by omega⟩
    case round =>
      obtain ⟨k, r, hk, hr, rfl, rfl, HA⟩ := hrel
      by_cases hlt : k < len
      · obtain ⟨x, rfl, hc, hz⟩ := HF.out k hlt
        have HK : Hid (k + 1 ≤ len) := hlt
        have HZ : Hid (∀ z : ByteArray, z = zs.getD k ByteArray.empty → z.size ≤ 1048576 → ∀ j, j < k + 1 → (zs.getD j ByteArray.empty).size ≤ 1048576) := by
          intro z hz1 hz2 j hj
          rcases Nat.lt_or_ge j k with h' | h'
          · exact HA.out j h'
          · obtain rfl : j = k := by omega
            rw [← hz1]; exact hz2
        obtain ⟨z, hze⟩ : ∃ z, z = zs.getD k ByteArray.empty := ⟨_, rfl⟩
        rw [← hze] at hc hz
        have HE : Hid (z = zs.getD k ByteArray.empty) := hze
        unfold maxLen at hz
        clear hze
        have lk : (k : Int) < (len : Int) := by omega
        by_cases hneg2 : (r : Int) - (z.size : Int) < 0
        · go_wp2_with fail
          go_ret
          exact ⟨rfl, .inl rfl⟩
        · have HS : Hid (z.size ≤ r) := by show _ ≤ _; omega
          go_wp2_with fail
          go_round
          case rel => exact ⟨k + 1, r - z.size, HK.out, by omega, by have := HS.out; show Value.int .i64 _ = Value.int .i64 _; congr 1; omega, by go_num, HZ.out z HE.out (by have := HS.out; omega)⟩
          case measure => have := HK.out; simp [intOf]; omega
      · go_wp2_with fail
        go_ret
        exact ⟨rfl, .inr ⟨r, rfl, hr, hn, by exact fun i hi => HA.out i (by omega)⟩⟩

theorem infoBlkL : (Tryz.prog.info? 43).map (fun i => (i.zero, i.size, i.bytes)) = some (some (.agg #[.string ⟨#[]⟩, .string ⟨#[]⟩, .int .i64 0, .int .i64 0, .int .i64 0, .slice none 0 0]), 6, 80) := by kernel_rfl
/-- What the measure of a block tells. -/
def smallL (b : LBlk) : Prop := smallHead b.h ∧ b.n ≤ 1048576 ∧ ∀ i, i < b.n → (b.zs.getD i ByteArray.empty).size ≤ 1048576
set_option maxHeartbeats 1000000 in
set_option maxRecDepth 100000 in
theorem szBlkR (r0 : Nat) (hr0 : r0 ≤ 1048576) (h : HeadV) (a : Option Addr) (len cap : Nat) (zs : List ByteArray) (w : World) (hw : wfHead h) (h0 : IsTexts w a len cap zs) :
    Calls Tryz.prog 13 #[blockVal h (.slice a len cap), .int .i64 (r0 : Int)] w fun e w' => Below w.heap.size w w' ∧ (e = .returned (.int .i64 (-1)) ∨ ∃ q : Nat, e = .returned (.int .i64 (q : Int)) ∧ q ≤ 1048576 ∧ smallL ⟨h, a, len, cap, zs⟩) := by
  unfold blockVal
  have hsz := fun w' => szHead1 h r0 w' hr0 hw
  have B0 : Hid (CBk _ w.heap.size 38 #[.string h.prev, .string h.root, .int .i64 h.time, .int .i64 h.diff, .int .i64 h.nonce, .slice a len cap]) := CBk.new w 38 #[.string h.prev, .string h.root, .int .i64 h.time, .int .i64 h.diff, .int .i64 h.nonce, .slice a len cap]
  have L0 : Hid (Below w.heap.size w (w.alloc (.cells #[.string h.prev, .string h.root, .int .i64 h.time, .int .i64 h.diff, .int .i64 h.nonce, .slice a len cap] 38))) := (Below.refl _ w).alloc (Nat.le_refl _) _
  have HIT : Hid (∀ w', Below w.heap.size w w' → IsTexts w' a len cap zs) := fun w' hb => texts_below h0 hb
  clear hw h0
  go_enter Tryz.func13, Tryz.ntmps13
  go_wp2_with fail
  refine (hsz _).mono ?_
  rintro e w1 ⟨b1, rfl | ⟨q, rfl, hq, hsm⟩⟩
  · go_wp2_with fail
    go_ret
    exact ⟨L0.out.trans (b1.mono L0.out.size), .inl rfl⟩
  have L1 : Hid (Below w.heap.size w w1) := L0.out.trans (b1.mono L0.out.size)
  have B1 := (B0.out.call b1).six
  obtain ⟨c0, c1, c2, c3, c4, c5, _⟩ := B1
  have HSM : Hid (smallHead h) := hsm
  have hq0 : ¬ (q : Int) < 0 := by omega
  clear hsm B0 L0 b1 hsz
  go_wp2_with fail
  refine (szStrsQ q (by omega) a len cap zs _ (HIT.out _ L1.out)).mono ?_
  rintro e w2 ⟨rfl, hok⟩
  rcases hok with rfl | ⟨r, rfl, hr, h1, h2⟩
  · go_wp2_with fail
    go_ret
    exact ⟨L1.out, .inl rfl⟩
  · have HSZ : Hid (smallL ⟨h, a, len, cap, zs⟩) := ⟨HSM.out, h1, h2⟩
    have hr0 : ¬ (r : Int) < 0 := by omega
    clear h2
    go_wp2_with fail
    go_ret
    exact ⟨L1.out, .inr ⟨r, rfl, by omega, HSZ.out⟩⟩

set_option maxHeartbeats 1000000 in
set_option maxRecDepth 100000 in
theorem szBlks (r0 : Nat) (hr0 : r0 ≤ 1048576) (a : Option Addr) (len cap : Nat) (ls : List LBlk) (w : World) (h : IsBlks w a len cap ls) :
    Calls Tryz.prog 4 #[.slice a len cap, .int .i64 (r0 : Int)] w fun e w' => Below w.heap.size w w' ∧ (e = .returned (.int .i64 (-1)) ∨ ∃ r : Nat, e = .returned (.int .i64 (r : Int)) ∧ r ≤ 1048576 ∧ len ≤ 1048576 ∧ ∀ i, i < len → smallL (ls.getD i default)) := by
  have HP : Hid (IsBlks w a len cap ls) := h
  have hlm : len ≤ maxLen := h.max
  unfold maxLen at hlm
  have hw : IntKind.i64.wrap ((r0 : Int) - (len : Int)) = (r0 : Int) - (len : Int) := by rw [IntKind.wrap_i64]; omega
  clear h
  by_cases hl : r0 < len
  · have hl' : (r0 : Int) - (len : Int) < 0 := by omega
    go_enter Tryz.func4, Tryz.ntmps4
    go_wp2_with fail
    go_ret
    exact ⟨Below.refl _ _, .inl rfl⟩
  · have hl' : ¬ (r0 : Int) - (len : Int) < 0 := by omega
    go_enter Tryz.func4, Tryz.ntmps4
    go_wp2_with fail
    clear hw hl'
    go_loopw [1, 5] (fun l i wr => ∃ (r k : Nat), k ≤ len ∧ r ≤ 1048576 ∧ i = .int .i64 (k : Int) ∧ l = .int .i64 (r : Int) ∧ Hid (Below w.heap.size w wr) ∧ Hid (∀ i, i < k → smallL (ls.getD i default))) (fun _ i _ => len - (intOf i).toNat)
    case atStart => exact ⟨r0 - len, 0, by omega, by omega, rfl, by show Value.int .i64 _ = Value.int .i64 _; congr 1; omega, Below.refl _ _, fun i hi => by omega⟩
    case round =>
      obtain ⟨r, k, hk, hr, rfl, rfl, HB, HS⟩ := hrel
      by_cases hlt : k < len
      · obtain ⟨x, rfl, hp, hwf⟩ := HP.out.at enL_len HB.out k hlt
        obtain ⟨c0, c1, c2, c3, c4, c5⟩ := cellsL hp
        have lk : (k : Int) < (len : Int) := by omega
        have HK : Hid (k + 1 ≤ len) := hlt
        have HN : Hid (smallL (ls.getD k default) → ∀ i, i < k + 1 → smallL (ls.getD i default)) := by
          intro h1 i hi
          rcases Nat.lt_or_ge i k with h' | h'
          · exact HS.out i h'
          · obtain rfl : i = k := by omega
            exact h1
        clear hp
        generalize ls.getD k default = b at c0 c1 c2 c3 c4 c5 hwf HN
        obtain ⟨p, ba, bn, bc, bz⟩ := b
        have hsb := szBlkR r hr p ba bn bc bz wr hwf.1 (texts_below hwf.2 HB.out)
        unfold blockVal at hsb
        dsimp only at c0 c1 c2 c3 c4 c5
        clear hwf
        go_wp2_with fail
        refine hsb.mono ?_
        rintro e w1 ⟨b1, rfl | ⟨q, rfl, hq, hps⟩⟩
        · go_wp2_with fail
          go_ret
          exact ⟨HB.out.trans (b1.mono HB.out.size), .inl rfl⟩
        · have HQ2 : Hid (∀ i, i < k + 1 → smallL (ls.getD i default)) := HN.out hps
          clear HN hps hsb
          have hq0 : ¬ (q : Int) < 0 := by omega
          go_wp2_with fail
          go_roundw
          case rel => exact ⟨q, k + 1, HK.out, by omega, by go_num, rfl, HB.out.trans (b1.mono HB.out.size), HQ2⟩
          case measure => have := HK.out; simp [intOf]; omega
      · go_wp2_with fail
        go_ret
        exact ⟨HB.out, .inr ⟨r, rfl, by omega, by omega, fun i hi => HS.out i (by omega)⟩⟩

def zeroL : LBlk := ⟨zeroHead, none, 0, 0, []⟩
def toL (b : BlkV) : LBlk := ⟨b.h, some ⟨b.g, 0, none⟩, b.n, b.cap, b.ss⟩
abbrev RowL (w : World) (g : Nat) (l : List LBlk) : Prop := RowF enL 43 w g l
theorem makeL (n : Nat) (hn : n ≤ 1048576) (w : World) : (Instr.makeSlice 26 (.int .i64 (n : Int)) (.int .i64 (n : Int))).run Tryz.prog w = .ok (.slice (some ⟨w.heap.size, 0, none⟩) n n) (w.alloc (.cells ((List.replicate n zeroL).flatMap enL).toArray 43)) := by
  obtain ⟨i, hi, hz, hs, hb⟩ := info3 infoBlkL
  have hb' : (i.bytes : Int) * (n : Int) ≤ 281474976710656 := by rw [hb]; omega
  have hr := run_make (P := Tryz.prog) w 26 43 i _ Tryz.underlying26 hi hz .i64 .i64 (n : Int) (n : Int) (by omega) (by omega) hb' (by omega)
  simp only [Int.toNat_natCast, hs, Value.cells] at hr
  rw [← made_flat 6 enL enL_len (by decide) zeroL n]
  exact hr
theorem RowL.put {w : World} {g : Nat} {l : List LBlk} (h : RowL w g l) (i : Nat) (hi : i < l.length) (b : LBlk) :
    RowL ((((((w.setCell ⟨g, i * 6, none⟩ (.string b.h.prev)).setCell ⟨g, i * 6 + 1, none⟩ (.string b.h.root)).setCell ⟨g, i * 6 + 2, none⟩ (.int .i64 b.h.time)).setCell ⟨g, i * 6 + 3, none⟩ (.int .i64 b.h.diff)).setCell ⟨g, i * 6 + 4, none⟩ (.int .i64 b.h.nonce)).setCell ⟨g, i * 6 + 5, none⟩ (.slice b.a b.n b.cap)) g (l.set i b) := by
  show _ = _
  rw [← flat_put 6 enL enL_len l i b hi]
  exact (rowSet (rowSet (rowSet (rowSet (rowSet (rowSet h _) _) _) _) _) _)
theorem toL_flat (cs : List BlkV) : (cs.map toL).flatMap enL = cs.flatMap enBlk := by
  induction cs with
  | nil => rfl
  | cons c cs ih => rw [List.map_cons, List.flatMap_cons, List.flatMap_cons, ih]; rfl
/-- What is handed in, block by block: the head, the items. -/
def ptsL (ls : List LBlk) : List (HeadV × List ByteArray) := ls.map fun b => (b.h, b.zs.take b.n)
theorem ptsL_take {ls : List LBlk} {k : Nat} (hk : k < ls.length) : ptsL (ls.take (k + 1)) = ptsL (ls.take k) ++ [((ls.getD k default).h, (ls.getD k default).zs.take (ls.getD k default).n)] := by
  unfold ptsL
  rw [List.take_add_one, List.getElem?_eq_getElem hk, List.map_append]
  simp [List.getElem?_eq_getElem hk]
/-- The copy of a list of blocks: in memory of its own. -/
structure CopyB (B g n : Nat) (ls : List LBlk) (cs : List BlkV) (w : World) : Prop where
  row : RowF enBlk 43 w g cs
  len : n = cs.length
  pts : cs.map (fun b => (b.h, b.ss)) = ptsL ls
  items : ∀ c ∈ cs, RowS w c.g c.ss ∧ c.n = c.ss.length ∧ c.cap = c.n ∧ g < c.g
  lo : B ≤ g
theorem CopyB.below {B g n : Nat} {ls : List LBlk} {cs : List BlkV} {w w' : World} (h : CopyB B g n ls cs w) (hb : Below w.heap.size w w') : CopyB B g n ls cs w' :=
  ⟨h.row.below hb h.row.lt, h.len, h.pts, fun c hc => ⟨(h.items c hc).1.below hb (h.items c hc).1.lt, (h.items c hc).2⟩, h.lo⟩
theorem CopyB.at {B g n : Nat} {ls : List LBlk} {cs : List BlkV} {w : World} (h : CopyB B g n ls cs w) : AtBlk w g cs := h.row.at 6 enBlk_len
theorem CopyB.its {B g n : Nat} {ls : List LBlk} {cs : List BlkV} {w : World} (h : CopyB B g n ls cs w) : ∀ c ∈ cs, ItemsAt w c := fun c hc => ⟨(h.items c hc).1.at, (h.items c hc).2.1⟩

set_option maxHeartbeats 2000000 in
set_option maxRecDepth 100000 in
theorem toBlks (a : Option Addr) (len cap : Nat) (ls : List LBlk) (w w0 : World) (h0 : IsBlks w0 a len cap ls) (hw : Below w0.heap.size w0 w) (hn : len ≤ 1048576) (hs : ∀ i, i < len → smallL (ls.getD i default)) :
    Calls Tryz.prog 6 #[.slice a len cap] w fun e w' => ∃ cs, e = .returned (.slice (some ⟨w.heap.size, 0, none⟩) len len) ∧ CopyB w.heap.size w.heap.size len ls cs w' ∧ Below w.heap.size w w' := by
  have hmk := makeL len hn w
  have HP : Hid (IsBlks w0 a len cap ls) := h0
  have HW : Hid (Below w0.heap.size w0 w) := hw
  have HLn : Hid (ls.length = len) := h0.len
  have HSM : Hid (∀ i, i < len → smallL (ls.getD i default)) := hs
  have A0 : Hid (RowL (w.alloc (.cells ((List.replicate len zeroL).flatMap enL).toArray 43)) w.heap.size (([] : List BlkV).map toL ++ List.replicate (len - 0) zeroL)) := heap_alloc_new w _
  have B0 : Hid (Below w.heap.size w (w.alloc (.cells ((List.replicate len zeroL).flatMap enL).toArray 43))) := (Below.refl _ w).alloc (Nat.le_refl _) _
  clear h0 hw hs
  generalize w.alloc (.cells ((List.replicate len zeroL).flatMap enL).toArray 43) = wm at hmk A0 B0
  go_enter Tryz.func6, Tryz.ntmps6
  go_wp2_with fail
  clear hmk
  go_loopw [4] (fun i wr => ∃ (k : Nat) (cs : List BlkV), k ≤ len ∧ i = .int .i64 (k : Int) ∧ Hid (cs.length = k ∧ RowL wr w.heap.size (cs.map toL ++ List.replicate (len - k) zeroL) ∧ cs.map (fun b => (b.h, b.ss)) = ptsL (ls.take k) ∧ ∀ c ∈ cs, RowS wr c.g c.ss ∧ c.n = c.ss.length ∧ c.cap = c.n ∧ w.heap.size < c.g) ∧ Hid (Below w.heap.size w wr)) (fun i _ => len - (intOf i).toNat)
  case atStart => exact ⟨0, [], by omega, rfl, ⟨rfl, A0.out, rfl, fun c hc => by cases hc⟩, B0⟩
  case round =>
    clear A0 B0
    obtain ⟨k, cs, hk, rfl, HR, HB⟩ := hrel
    by_cases hlt : k < len
    · obtain ⟨x, rfl, hp, hwf⟩ := HP.out.at enL_len (HW.out.trans (HB.out.mono HW.out.size)) k hlt
      obtain ⟨c0, c1, c2, c3, c4, c5⟩ := cellsL hp
      have HK : Hid (k + 1 ≤ len) := hlt
      have HPT : Hid (ptsL (ls.take (k + 1)) = ptsL (ls.take k) ++ [((ls.getD k default).h, (ls.getD k default).zs.take (ls.getD k default).n)]) := ptsL_take (by rw [HLn.out]; exact hlt)
      have HKL : Hid (k < (cs.map toL ++ List.replicate (len - k) zeroL).length) := by show _ < _; simp [HR.out.1]; omega
      have hsmk := HSM.out k hlt
      have lk : (k : Int) < (len : Int) := by omega
      have hgl : w.heap.size < wr.heap.size := HR.out.2.1.lt
      clear hp
      generalize ls.getD k default = b at c0 c1 c2 c3 c4 c5 hwf HPT hsmk
      obtain ⟨p, ba, bn, bc, bz⟩ := b
      have htb := toBlock1 p ba bn bc bz wr w0 hwf.2 (HW.out.trans (HB.out.mono HW.out.size)) hsmk.2.1
      have HBL : Hid (bn = (bz.take bn).length) := hwf.2.len
      unfold blockVal at htb
      dsimp only at c0 c1 c2 c3 c4 c5 HPT
      clear hwf hsmk
      go_wp2_with fail
      refine htb.mono ?_
      rintro e w1 ⟨g1, rfl, r1, hg1, b1⟩
      unfold blockVal
      have HR1 : Hid (RowL w1 w.heap.size (cs.map toL ++ List.replicate (len - k) zeroL)) := HR.out.2.1.below b1 HR.out.2.1.lt
      have HB1 : Hid (Below w.heap.size w w1) := HB.out.trans (b1.mono HB.out.size)
      have HI1 : Hid (∀ c ∈ cs ++ [(⟨p, g1, bn, bn, bz.take bn⟩ : BlkV)], RowS w1 c.g c.ss ∧ c.n = c.ss.length ∧ c.cap = c.n ∧ w.heap.size < c.g) := by
        intro c hc
        rcases List.mem_append.1 hc with h' | h'
        · have := HR.out.2.2.2 c h'
          exact ⟨this.1.below b1 this.1.lt, this.2⟩
        · rw [List.mem_singleton.1 h']
          exact ⟨r1, HBL.out, rfl, by show w.heap.size < g1; omega⟩
      have HCL : Hid (cs.length = k) := HR.out.1
      have HCP : Hid ((cs ++ [(⟨p, g1, bn, bn, bz.take bn⟩ : BlkV)]).map (fun b : BlkV => (b.h, b.ss)) = ptsL (ls.take (k + 1))) := by
        show _ = _
        rw [HPT.out, List.map_append, HR.out.2.2.1]
        rfl
      have HSE : Hid ((cs.map toL ++ List.replicate (len - k) zeroL).set k ⟨p, some ⟨g1, 0, none⟩, bn, bn, bz.take bn⟩ = (cs ++ [(⟨p, g1, bn, bn, bz.take bn⟩ : BlkV)]).map toL ++ List.replicate (len - (k + 1)) zeroL) := by
        show _ = _
        have e1 : (cs.map toL).length = k := by rw [List.length_map]; exact HR.out.1
        rw [List.set_append_right _ _ (by omega), e1, Nat.sub_self, show len - k = (len - (k + 1)) + 1 from by omega, List.replicate_succ, List.set_cons_zero, List.map_append, List.append_assoc]
        rfl
      have f0 := HR1.out.frozen (k * 6)
      have f1 := HR1.out.frozen (k * 6 + 1)
      have f2 := HR1.out.frozen (k * 6 + 2)
      have f3 := HR1.out.frozen (k * 6 + 3)
      have f4 := HR1.out.frozen (k * 6 + 4)
      have f5 := HR1.out.frozen (k * 6 + 5)
      have d0 := (HR1.out.at 6 enL_len).2 k 0 HKL.out (by decide)
      have d1 := (HR1.out.at 6 enL_len).2 k 1 HKL.out (by decide)
      have d2 := (HR1.out.at 6 enL_len).2 k 2 HKL.out (by decide)
      have d3 := (HR1.out.at 6 enL_len).2 k 3 HKL.out (by decide)
      have d4 := (HR1.out.at 6 enL_len).2 k 4 HKL.out (by decide)
      have d5 := (HR1.out.at 6 enL_len).2 k 5 HKL.out (by decide)
      have HPU := RowL.put HR1.out k HKL.out ⟨p, some ⟨g1, 0, none⟩, bn, bn, bz.take bn⟩
      dsimp only at HPU
      have HPU2 : Hid _ := HPU
      have HLL : Hid (w.heap.size < w1.heap.size) := by show _ < _; have := b1.size; omega
      clear HPU
      generalize (cs.map toL ++ List.replicate (len - k) zeroL).getD k default = o at d0 d1 d2 d3 d4 d5
      obtain ⟨op, oa, on, oc, oz⟩ := o
      simp only [enL, List.getElem?_cons_zero, List.getElem?_cons_succ, Nat.add_zero] at d0 d1 d2 d3 d4 d5
      have HIK : Hid (∀ (j : Nat) (v : Value) (w2 : World), (∀ c ∈ cs ++ [(⟨p, g1, bn, bn, bz.take bn⟩ : BlkV)], RowS w2 c.g c.ss ∧ c.n = c.ss.length ∧ c.cap = c.n ∧ w.heap.size < c.g) → (∀ c ∈ cs ++ [(⟨p, g1, bn, bn, bz.take bn⟩ : BlkV)], RowS (w2.setCell ⟨w.heap.size, j, none⟩ v) c.g c.ss ∧ c.n = c.ss.length ∧ c.cap = c.n ∧ w.heap.size < c.g)) := fun j v w2 hh c hc => ⟨rowS_other (hh c hc).1 (by have := (hh c hc).2.2.2; omega) j v, (hh c hc).2⟩
      clear b1 c0 c1 c2 c3 c4 c5 htb HR r1
      go_wp2_with fail
      go_roundw
      case rel =>
        refine ⟨k + 1, cs ++ [(⟨p, g1, bn, bn, bz.take bn⟩ : BlkV)], HK.out, by go_num, ⟨by rw [List.length_append, HCL.out]; rfl, ?_, HCP.out, ?_⟩, ((((((HB1.out.setCell (p := ⟨w.heap.size, k * 6, none⟩) (Nat.le_refl _) _).setCell (p := ⟨w.heap.size, k * 6 + 1, none⟩) (Nat.le_refl _) _).setCell (p := ⟨w.heap.size, k * 6 + 2, none⟩) (Nat.le_refl _) _).setCell (p := ⟨w.heap.size, k * 6 + 3, none⟩) (Nat.le_refl _) _).setCell (p := ⟨w.heap.size, k * 6 + 4, none⟩) (Nat.le_refl _) _).setCell (p := ⟨w.heap.size, k * 6 + 5, none⟩) (Nat.le_refl _) _)⟩
        · have := HPU2.out
          rw [HSE.out] at this
          exact this
        · exact HIK.out _ _ _ (HIK.out _ _ _ (HIK.out _ _ _ (HIK.out _ _ _ (HIK.out _ _ _ (HIK.out _ _ _ (HI1.out))))))
      case measure => have := HK.out; simp [intOf]; omega
    · obtain rfl : k = len := by omega
      have HF : Hid (CopyB w.heap.size w.heap.size k ls cs wr) := by
        refine ⟨?_, HR.out.1.symm, ?_, HR.out.2.2.2, Nat.le_refl _⟩
        · have := HR.out.2.1
          rw [Nat.sub_self, List.replicate_zero, List.append_nil] at this
          unfold RowL RowF at this
          rw [toL_flat] at this
          exact this
        · rw [HR.out.2.2.1, List.take_of_length_le (by rw [HLn.out]; exact Nat.le_refl _)]
      go_wp2_with fail
      go_ret
      exact ⟨cs, rfl, HF.out, HB.out⟩

set_option maxHeartbeats 2000000 in
set_option maxRecDepth 100000 in
theorem eqBlks (g1 g2 n c1 c2 : Nat) (xs bs : List BlkV) (w : World) (h1 : AtBlk w g1 xs) (h2 : AtBlk w g2 bs) (i1 : ∀ b ∈ xs, ItemsAt w b) (i2 : ∀ b ∈ bs, ItemsAt w b) (hpt : xs.map (fun b => (b.h, b.ss)) = bs.map (fun b => (b.h, b.ss))) (hn : n = xs.length) (hm : n ≤ 1048576) (hf : ∀ b ∈ xs, b.n ≤ 1073741824) :
    Calls Tryz.prog 9 #[.slice (some ⟨g1, 0, none⟩) n c1, .slice (some ⟨g2, 0, none⟩) n c2] w fun e w' => e = .returned (.bool true) ∧ Below w.heap.size w w' := by
  have hnb : n = bs.length := by
    have := congrArg List.length hpt
    rw [List.length_map, List.length_map] at this
    omega
  have HA : Hid (AtBlk w g1 xs ∧ AtBlk w g2 bs ∧ (∀ b ∈ xs, ItemsAt w b) ∧ (∀ b ∈ bs, ItemsAt w b) ∧ Below w.heap.size w w) := ⟨h1, h2, i1, i2, Below.refl _ w⟩
  have HN : Hid (n = xs.length ∧ n = bs.length) := ⟨hn, hnb⟩
  have HPT : Hid (∀ k, k < n → (xs.getD k default).h = (bs.getD k default).h ∧ (xs.getD k default).ss = (bs.getD k default).ss) := by
    intro k hk
    have e := congrArg (fun l => l[k]?) hpt
    have ha : k < xs.length := by omega
    have hb : k < bs.length := by omega
    simp only [List.getElem?_map, List.getElem?_eq_getElem ha, List.getElem?_eq_getElem hb, Option.map_some, Option.some.injEq, Prod.mk.injEq] at e
    rw [List.getD_eq_getElem?_getD, List.getElem?_eq_getElem ha, List.getD_eq_getElem?_getD, List.getElem?_eq_getElem hb]
    exact e
  have HFW : Hid (∀ b ∈ xs, b.n ≤ 1073741824) := hf
  clear h1 h2 hn i1 i2 hpt hnb hf
  go_enter Tryz.func9, Tryz.ntmps9
  go_wp2_with fail
  go_loopw [5] (fun i wr => ∃ k : Nat, k ≤ n ∧ i = .int .i64 (k : Int) ∧ Hid (AtBlk wr g1 xs ∧ AtBlk wr g2 bs ∧ (∀ b ∈ xs, ItemsAt wr b) ∧ (∀ b ∈ bs, ItemsAt wr b) ∧ Below w.heap.size w wr)) (fun i _ => n - (intOf i).toNat)
  case atStart => exact ⟨0, by omega, rfl, HA⟩
  case round =>
    clear HA
    obtain ⟨k, hk, rfl, HA⟩ := hrel
    by_cases hlt : k < n
    · have hka : k < xs.length := by have := HN.out; omega
      have hkb : k < bs.length := by have := HN.out; omega
      have d0 := AtBlk.c0 HA.out.1 k hka
      have e0 := AtBlk.c0 HA.out.2.1 k hkb
      have d1 := AtBlk.c1 HA.out.1 k hka
      have e1 := AtBlk.c1 HA.out.2.1 k hkb
      have d2 := AtBlk.c2 HA.out.1 k hka
      have e2 := AtBlk.c2 HA.out.2.1 k hkb
      have d3 := AtBlk.c3 HA.out.1 k hka
      have e3 := AtBlk.c3 HA.out.2.1 k hkb
      have d4 := AtBlk.c4 HA.out.1 k hka
      have e4 := AtBlk.c4 HA.out.2.1 k hkb
      have d5 := AtBlk.c5 HA.out.1 k hka
      have e5 := AtBlk.c5 HA.out.2.1 k hkb
      have ma : xs.getD k default ∈ xs := by rw [List.getD_eq_getElem?_getD, List.getElem?_eq_getElem hka]; exact List.getElem_mem hka
      have mb : bs.getD k default ∈ bs := by rw [List.getD_eq_getElem?_getD, List.getElem?_eq_getElem hkb]; exact List.getElem_mem hkb
      have ia := HA.out.2.2.1 _ ma
      have ib := HA.out.2.2.2.1 _ mb
      have hfa := HFW.out _ ma
      have hpt := HPT.out k hlt
      have HK : Hid (k + 1 ≤ n) := hlt
      generalize xs.getD k default = p at d0 d1 d2 d3 d4 d5 ia hpt hfa
      generalize bs.getD k default = q at e0 e1 e2 e3 e4 e5 ib hpt
      obtain ⟨ph, pg, pn, pc, ps⟩ := p
      obtain ⟨qh, qg, qn, qc, qs⟩ := q
      dsimp only at d0 d1 d2 d3 d4 d5 e0 e1 e2 e3 e4 e5 hpt hfa
      obtain ⟨rfl, rfl⟩ := hpt
      obtain ⟨ia1, ia2⟩ := ia
      obtain ⟨ib1, ib2⟩ := ib
      dsimp only at ia1 ia2 ib1 ib2
      obtain rfl : pn = qn := by omega
      have heq := fun (w' : World) (hb : Below wr.heap.size wr w') => eqBlock1 ph pg qg pn pc qc ps w' (ia1.below hb ia1.1) (ib1.below hb ib1.1) ia2 hfa
      have lk : (k : Int) < (n : Int) := by omega
      have hbd : Below wr.heap.size wr wr.drew := (Below.refl _ _).drew
      unfold blockVal at heq
      clear hka hkb ma mb ia1 ib1 ia2 ib2 HPT HFW hfa
      go_wp2_with fail
      go_region_with (go_at_call 20; refine (heq _ hbd).mono ?_; rintro e w1 ⟨rfl, b1⟩)
      all_goals
        have HA1 : Hid (AtBlk w1 g1 xs ∧ AtBlk w1 g2 bs ∧ (∀ b ∈ xs, ItemsAt w1 b) ∧ (∀ b ∈ bs, ItemsAt w1 b) ∧ Below w.heap.size w w1) := ⟨HA.out.1.drew.below b1 HA.out.1.1, HA.out.2.1.drew.below b1 HA.out.2.1.1, fun b hb => ⟨(HA.out.2.2.1 b hb).1.below (hbd.trans b1) (HA.out.2.2.1 b hb).1.1, (HA.out.2.2.1 b hb).2⟩, fun b hb => ⟨(HA.out.2.2.2.1 b hb).1.below (hbd.trans b1) (HA.out.2.2.2.1 b hb).1.1, (HA.out.2.2.2.1 b hb).2⟩, HA.out.2.2.2.2.drew.trans (b1.mono HA.out.2.2.2.2.size)⟩
        clear b1
        go_wp2_with fail
        go_roundw
        case rel => exact ⟨k + 1, HK.out, by go_num, HA1⟩
        case measure => have := HK.out; simp [intOf]; omega
    · go_wp2_with fail
      go_ret
      exact ⟨rfl, HA.out.2.2.2.2⟩

end Go.Proofs.YtgfjhjkgnghdhaaGreatDoor

set_option linter.unusedVariables false
namespace Go.Proofs.YtgfjhjkgnghdhaaGreatDoor
open Go.RowKit Go.Deep

theorem ptsL_mem {ls : List LBlk} {p : HeadV × List ByteArray} (h : p ∈ ptsL ls) : ∃ i, i < ls.length ∧ p = ((ls.getD i default).h, (ls.getD i default).zs.take (ls.getD i default).n) := by
  obtain ⟨b, hb, rfl⟩ := List.mem_map.1 h
  obtain ⟨i, hi, he⟩ := List.mem_iff_getElem.1 hb
  refine ⟨i, hi, ?_⟩
  rw [List.getD_eq_getElem?_getD, List.getElem?_eq_getElem hi]
  simp [he]
theorem CopyB.blks {B g n : Nat} {ls : List LBlk} {cs : List BlkV} {w : World} (h : CopyB B g n ls cs w) (hn : n ≤ 1048576) : Blks g n n cs w := ⟨h.at, h.its, h.len, hn⟩
theorem CopyB.mem {B g n : Nat} {ls : List LBlk} {cs : List BlkV} {w : World} (h : CopyB B g n ls cs w) {c : BlkV} (hc : c ∈ cs) : ∃ i, i < ls.length ∧ c.h = (ls.getD i default).h ∧ c.ss = (ls.getD i default).zs.take (ls.getD i default).n := by
  have hm : (c.h, c.ss) ∈ ptsL ls := by
    rw [← h.pts]
    exact List.mem_map.2 ⟨c, hc, rfl⟩
  obtain ⟨i, hi, he⟩ := ptsL_mem hm
  exact ⟨i, hi, (Prod.mk.inj he).1, (Prod.mk.inj he).2⟩
theorem CopyB.few {B g n : Nat} {ls : List LBlk} {cs : List BlkV} {w : World} (h : CopyB B g n ls cs w) (hl : ls.length = n) (hs : ∀ i, i < n → smallL (ls.getD i default)) : ∀ c ∈ cs, c.n ≤ 1048576 := by
  intro c hc
  obtain ⟨i, hi, _, h2⟩ := h.mem hc
  rw [(h.items c hc).2.1, h2, List.length_take]
  have := (hs i (by omega)).2.1
  omega
theorem CopyB.blksS {B g n : Nat} {ls : List LBlk} {cs : List BlkV} {w : World} (h : CopyB B g n ls cs w) (hn : n ≤ 1048576) (hl : ls.length = n) (hs : ∀ i, i < n → smallL (ls.getD i default)) : BlksS g n n cs w := by
  refine ⟨h.blks hn, fun c hc => ?_, h.few hl hs, fun c hc j hj => ?_⟩
  · obtain ⟨i, hi, h1, _⟩ := h.mem hc
    rw [h1]
    have := (hs i (by omega)).1
    unfold smallHead at this
    unfold wfHead maxLen
    omega
  · obtain ⟨i, hi, _, h2⟩ := h.mem hc
    rw [h2] at hj ⊢
    rw [List.length_take] at hj
    have := (hs i (by omega)).2.2 j (by omega)
    rw [List.getD_eq_getElem?_getD, List.getElem?_take_of_lt (by omega), ← List.getD_eq_getElem?_getD]
    exact this

end Go.Proofs.YtgfjhjkgnghdhaaGreatDoor

