/-
  Texts that the last part needs, joined.
-/
import Derived.Test.YtoifgpmbeicmnaaGreatDoorPart1
import Derived.Test.YtoifgpmbeicmnaaGreatDoorPart2
import Derived.Test.YtoifgpmbeicmnaaGreatDoorPart3
import Derived.Test.YtoifgpmbeicmnaaGreatDoorPart4
import Derived.Test.YtoifgpmbeicmnaaGreatDoorPart5
import Derived.Test.YtoifgpmbeicmnaaGreatDoorPart6
import Derived.Test.YtoifgpmbeicmnaaGreatDoorPart7
import Derived.Test.YtoifgpmbeicmnaaGreatDoorPart8
import Derived.Test.YtoifgpmbeicmnaaGreatDoorPart9
import Derived.Test.YtoifgpmbeicmnaaGreatDoorPart10
import Derived.Test.YtoifgpmbeicmnaaGreatDoorPart11
import Derived.Test.YtoifgpmbeicmnaaGreatDoorPart12
import Derived.Laws.ResultCell
import Derived.Deep.Cut
set_option linter.unusedVariables false
namespace Go.Proofs.YtoifgpmbeicmnaaGreatDoor
open Go.RowKit Go.Deep

/-- A list of heads in memory, as the specification needs it. -/
structure ChainSp (g n cap : Nat) (l : List HeadV) (w : World) : Prop where
  at_ : AtHead w g l
  len : n = l.length
  max : n ≤ 1048576
  cap : n ≤ cap
  wf : ∀ i, i < l.length → wfHead (l.getD i default)
theorem ChainSp.below {g n cap : Nat} {l : List HeadV} {w w' : World} (h : ChainSp g n cap l w) (hb : Below w.heap.size w w') : ChainSp g n cap l w' :=
  ⟨h.at_.below hb h.at_.1, h.len, h.max, h.cap, h.wf⟩
theorem ChainSp.ahead {g n cap : Nat} {l : List HeadV} {w : World} (h : ChainSp g n cap l w) {k : Nat} (hk : k < n) (hs : ∀ q, q < k → stepC l q = true) : AheadS g k (l.take k) w :=
  ⟨h.at_.take k, by rw [List.length_take, ← h.len]; omega, by have := h.max; omega, take_ok hs⟩
theorem ChainSp.whole {g n cap : Nat} {l : List HeadV} {w : World} (h : ChainSp g n cap l w) (hc : chainCk l = 0) : AheadS g n l w := ⟨h.at_, h.len, h.max, ck_ok hc⟩
theorem step_far {l : List HeadV} {k : Nat} (hk : k < l.length) (h : 20 ≤ k) : stepC l k = false := by
  rw [stepC, standsB, decide_eq_false (by rw [List.length_take]; omega), Bool.and_false]
theorem step_near {l : List HeadV} {k : Nat} (hk : k < l.length) (h : k < 20) : stepC l k = fitsB (l.take k) (l.getD k default) := by
  rw [stepC, standsB, decide_eq_true (by rw [List.length_take]; omega), Bool.and_true]

set_option linter.unusedSimpArgs false in
set_option maxHeartbeats 8000000 in
set_option maxRecDepth 100000 in
theorem specL4Check (g n cap : Nat) (l : List HeadV) (w : World) (hC : ChainSp g n cap l w) :
    Calls Tryz.prog 36 #[.slice (some ⟨g, 0, none⟩) n cap] w fun e w' => e = .returned (.int .i64 (chainCk l : Int)) ∧ Below w.heap.size w w' := by
  have HC : Hid (ChainSp g n cap l w) := hC
  have hm := hC.max
  have hcap := hC.cap
  have HGO : Hid ((∀ q, q < n → stepC l q = true) → chainCk l = 0) := fun hq => ck_good (by rw [← hC.len]; exact hq)
  have HBA : Hid (∀ k, k < n → stepC l k = false → (∀ q, q < k → stepC l q = true) → chainCk l = k + 1) := fun k hk hf hq => ck_bad (by rw [← hC.len]; exact hk) hf hq
  generalize chainCk l = R at HGO HBA ⊢
  clear hC
  go_enter Tryz.func36, Tryz.ntmps36
  go_wp2_with fail
  go_loopw [3] (fun i wr => ∃ k : Nat, k ≤ n ∧ i = .int .i64 (k : Int) ∧ Hid (Below w.heap.size w wr) ∧ Hid (∀ q, q < k → stepC l q = true)) (fun i _ => n - (intOf i).toNat)
  case atStart => exact ⟨0, by omega, rfl, Below.refl _ _, fun q hq => by omega⟩
  case round =>
    obtain ⟨k, hk, rfl, HB, HQ⟩ := hrel
    by_cases hlt : k < n
    · have HCr : Hid (ChainSp g n cap l wr) := HC.out.below HB.out
      have hkl : k < l.length := by rw [← HC.out.len]; exact hlt
      have c0 := AtHead.c0 HCr.out.at_ k hkl
      have c1 := AtHead.c1 HCr.out.at_ k hkl
      have c2 := AtHead.c2 HCr.out.at_ k hkl
      have c3 := AtHead.c3 HCr.out.at_ k hkl
      have c4 := AtHead.c4 HCr.out.at_ k hkl
      have hgl := HCr.out.at_.1
      have lk : (k : Int) < (n : Int) := by omega
      have lk0 : (0 : Int) ≤ (k : Int) := by omega
      have lkc : (k : Int) ≤ (cap : Int) := by omega
      have hc0 : ¬ cap = 0 := by omega
      have hwk : IntKind.i64.wrap ((k : Int) + 1) = (k : Int) + 1 := by rw [IntKind.wrap_i64]; omega
      have HB2 := HBA.out k hlt
      have HBk : Hid (stepC l k = false → R = k + 1) := fun hf => HB2 hf HQ.out
      have HQ2 : Hid (stepC l k = true → ∀ q, q < k + 1 → stepC l q = true) := by
        intro h q hq
        rcases Nat.lt_or_ge q k with h' | h'
        · exact HQ.out q h'
        · obtain rfl : q = k := by omega
          exact h
      have HFA : Hid (20 ≤ k → stepC l k = false) := fun h => step_far hkl h
      have HNE : Hid (k < 20 → stepC l k = fitsB (l.take k) (l.getD k default)) := fun h => step_near hkl h
      have hft := fun (w' : World) (hb : Below wr.heap.size wr w') => specL4Fits g k cap (l.take k) (l.getD k default) w' ((HCr.out.below hb).ahead hlt HQ.out) (HCr.out.wf k hkl).1 (HCr.out.wf k hkl).2
      clear hkl HB2 HGO HBA HQ
      generalize fitsB (l.take k) (l.getD k default) = b at hft HNE
      generalize stepC l k = sb at HBk HQ2 HFA HNE
      generalize l.getD k default = h at c0 c1 c2 c3 c4 hft
      unfold headVal at hft
      have HK1 : Hid (k + 1 ≤ n) := hlt
      have hheld : ∀ w1 : World, Below wr.heap.size wr.drew w1 → (fun w' => w'.cell? ⟨g, k * 5, none⟩ = some (.string h.prev) ∧ w'.cell? ⟨g, k * 5 + 1, none⟩ = some (.string h.root) ∧ w'.cell? ⟨g, k * 5 + 2, none⟩ = some (.int .i64 h.time) ∧ w'.cell? ⟨g, k * 5 + 3, none⟩ = some (.int .i64 h.diff) ∧ w'.cell? ⟨g, k * 5 + 4, none⟩ = some (.int .i64 h.nonce)) w1 := fun w' hb => ⟨(hb.cell (p := ⟨g, k * 5, none⟩) hgl).trans c0, (hb.cell (p := ⟨g, k * 5 + 1, none⟩) hgl).trans c1, (hb.cell (p := ⟨g, k * 5 + 2, none⟩) hgl).trans c2, (hb.cell (p := ⟨g, k * 5 + 3, none⟩) hgl).trans c3, (hb.cell (p := ⟨g, k * 5 + 4, none⟩) hgl).trans c4⟩
      by_cases h20 : k < 20
      · have hge : decide ((20 : Int) ≤ (k : Int)) = false := decide_eq_false (by omega)
        obtain rfl : sb = b := HNE.out h20
        have hbd : Below wr.heap.size wr wr.drew := (Below.refl _ _).drew
        cases sb with
        | false =>
          have HV : Hid (R = k + 1) := HBk.out rfl
          clear HBk HQ2 HFA HNE h20 hlt hk lkc
          have lkc : (k : Int) ≤ (cap : Int) := by omega
          go_wp2_with fail
          refine wp_region_noPanic ?_
          refine wp_region_held_drew (S := fun w' => w'.cell? ⟨g, k * 5, none⟩ = some (.string h.prev) ∧ w'.cell? ⟨g, k * 5 + 1, none⟩ = some (.string h.root) ∧ w'.cell? ⟨g, k * 5 + 2, none⟩ = some (.int .i64 h.time) ∧ w'.cell? ⟨g, k * 5 + 3, none⟩ = some (.int .i64 h.diff) ∧ w'.cell? ⟨g, k * 5 + 4, none⟩ = some (.int .i64 h.nonce)) (by kernel_rfl) (⟨c0, c1, c2, c3, c4⟩) (fun hHeld => ?_)
          refine takeL 0 (v := ?_) rfl (by kernel_rfl) (by kernel_rfl) (by kernel_rfl) (fun _ _ _ h => h) (by kernel_rfl) ?_ (by assumption) ?_
          rotate_left
          · intro w hSw; (try dsimp only at hSw); first | (go_simp; done) | (go_simp; with_reducible rfl)
          try simp only [Act.put, List.setIfInBounds_toArray, List.set_cons_zero, List.set_cons_succ]
          refine takeL 1 (v := ?_) rfl (by kernel_rfl) (by kernel_rfl) (by kernel_rfl) (fun _ _ _ h => h) (by kernel_rfl) ?_ (by assumption) ?_
          rotate_left
          · intro w hSw; (try dsimp only at hSw); first | (go_simp; done) | (go_simp; with_reducible rfl)
          try simp only [Act.put, List.setIfInBounds_toArray, List.set_cons_zero, List.set_cons_succ]
          refine takeL 2 (v := ?_) rfl (by kernel_rfl) (by kernel_rfl) (by kernel_rfl) (fun _ _ _ h => h) (by kernel_rfl) ?_ (by assumption) ?_
          rotate_left
          · intro w hSw; (try dsimp only at hSw); first | (go_simp; done) | (go_simp; with_reducible rfl)
          try simp only [Act.put, List.setIfInBounds_toArray, List.set_cons_zero, List.set_cons_succ]
          refine takeL 3 (v := ?_) rfl (by kernel_rfl) (by kernel_rfl) (by kernel_rfl) (fun _ _ _ h => h) (by kernel_rfl) ?_ (by assumption) ?_
          rotate_left
          · intro w hSw; (try dsimp only at hSw); first | (go_simp; done) | (go_simp; with_reducible rfl)
          try simp only [Act.put, List.setIfInBounds_toArray, List.set_cons_zero, List.set_cons_succ]
          refine takeL 4 (v := ?_) rfl (by kernel_rfl) (by kernel_rfl) (by kernel_rfl) (fun _ _ _ h => h) (by kernel_rfl) ?_ (by assumption) ?_
          rotate_left
          · intro w hSw; (try dsimp only at hSw); first | (go_simp; done) | (go_simp; with_reducible rfl)
          try simp only [Act.put, List.setIfInBounds_toArray, List.set_cons_zero, List.set_cons_succ]
          refine takeL 5 (v := ?_) rfl (by kernel_rfl) (by kernel_rfl) (by kernel_rfl) (fun _ _ _ h => h) (by kernel_rfl) ?_ (by assumption) ?_
          rotate_left
          · intro w hSw; (try dsimp only at hSw); first | (go_simp; done) | (go_simp; with_reducible rfl)
          try simp only [Act.put, List.setIfInBounds_toArray, List.set_cons_zero, List.set_cons_succ]
          refine takeL 6 (v := ?_) rfl (by kernel_rfl) (by kernel_rfl) (by kernel_rfl) (fun _ _ _ h => h) (by kernel_rfl) ?_ (by assumption) ?_
          rotate_left
          · intro w hSw; (try dsimp only at hSw); first | (go_simp; done) | (go_simp; with_reducible rfl)
          try simp only [Act.put, List.setIfInBounds_toArray, List.set_cons_zero, List.set_cons_succ]
          refine takeL 7 (v := ?_) rfl (by kernel_rfl) (by kernel_rfl) (by kernel_rfl) (fun _ _ _ h => h) (by kernel_rfl) ?_ (by assumption) ?_
          rotate_left
          · intro w hSw; (try dsimp only at hSw); first | (go_simp; done) | (go_simp; with_reducible rfl)
          try simp only [Act.put, List.setIfInBounds_toArray, List.set_cons_zero, List.set_cons_succ]
          refine takeL 8 (v := ?_) rfl (by kernel_rfl) (by kernel_rfl) (by kernel_rfl) (fun _ _ _ h => h) (by kernel_rfl) ?_ (by assumption) ?_
          rotate_left
          · intro w hSw; (try dsimp only at hSw); first | (go_simp; done) | (go_simp; with_reducible rfl)
          try simp only [Act.put, List.setIfInBounds_toArray, List.set_cons_zero, List.set_cons_succ]
          refine takeL 9 (v := ?_) rfl (by kernel_rfl) (by kernel_rfl) (by kernel_rfl) (fun _ _ _ h => h) (by kernel_rfl) ?_ (by assumption) ?_
          rotate_left
          · intro w hSw; (try dsimp only at hSw); first | (go_simp; done) | (go_simp; with_reducible rfl)
          try simp only [Act.put, List.setIfInBounds_toArray, List.set_cons_zero, List.set_cons_succ]
          refine callL 10 rfl (by kernel_rfl) (fun K hK => ?_)
          go_simp
          refine (hft _ hbd).mono ?_
          rintro e w1 ⟨rfl, b1⟩
          have HB1 : Hid (Below w.heap.size w w1) := HB.out.drew.trans (b1.mono HB.out.size)
          have HH := hheld _ b1
          go_wp2_with fail
          refine hK.out _ _ ?_ (fun hHeld => ?_)
          · exact HH
          clear hK K
          try simp only [Act.put, List.setIfInBounds_toArray, List.set_cons_zero, List.set_cons_succ]
          refine takeL 11 (v := ?_) rfl (by kernel_rfl) (by kernel_rfl) (by kernel_rfl) (fun _ _ _ h => h) (by kernel_rfl) ?_ (by assumption) ?_
          rotate_left
          · intro w hSw; (try dsimp only at hSw); first | (go_simp; done) | (go_simp; with_reducible rfl)
          try simp only [Act.put, List.setIfInBounds_toArray, List.set_cons_zero, List.set_cons_succ]
          refine takeL 12 (v := ?_) rfl (by kernel_rfl) (by kernel_rfl) (by kernel_rfl) (fun _ _ _ h => h) (by kernel_rfl) ?_ (by assumption) ?_
          rotate_left
          · intro w hSw; (try dsimp only at hSw); first | (go_simp; done) | (go_simp; with_reducible rfl)
          try simp only [Act.put, List.setIfInBounds_toArray, List.set_cons_zero, List.set_cons_succ]
          refine wpAnyH_done (by kernel_rfl) ?_ _
          refine NoPanic.normal ?_
          go_wp2_with fail
          go_ret
          exact ⟨by rw [HV.out]; rfl, HB1.out⟩
        | true =>
          have HQ3 : Hid (∀ q, q < k + 1 → stepC l q = true) := HQ2.out rfl
          clear HBk HQ2 HFA HNE h20 hlt hk lkc
          have lkc : (k : Int) ≤ (cap : Int) := by omega
          go_wp2_with fail
          refine wp_region_noPanic ?_
          refine wp_region_held_drew (S := fun w' => w'.cell? ⟨g, k * 5, none⟩ = some (.string h.prev) ∧ w'.cell? ⟨g, k * 5 + 1, none⟩ = some (.string h.root) ∧ w'.cell? ⟨g, k * 5 + 2, none⟩ = some (.int .i64 h.time) ∧ w'.cell? ⟨g, k * 5 + 3, none⟩ = some (.int .i64 h.diff) ∧ w'.cell? ⟨g, k * 5 + 4, none⟩ = some (.int .i64 h.nonce)) (by kernel_rfl) (⟨c0, c1, c2, c3, c4⟩) (fun hHeld => ?_)
          refine takeL 0 (v := ?_) rfl (by kernel_rfl) (by kernel_rfl) (by kernel_rfl) (fun _ _ _ h => h) (by kernel_rfl) ?_ (by assumption) ?_
          rotate_left
          · intro w hSw; (try dsimp only at hSw); first | (go_simp; done) | (go_simp; with_reducible rfl)
          try simp only [Act.put, List.setIfInBounds_toArray, List.set_cons_zero, List.set_cons_succ]
          refine takeL 1 (v := ?_) rfl (by kernel_rfl) (by kernel_rfl) (by kernel_rfl) (fun _ _ _ h => h) (by kernel_rfl) ?_ (by assumption) ?_
          rotate_left
          · intro w hSw; (try dsimp only at hSw); first | (go_simp; done) | (go_simp; with_reducible rfl)
          try simp only [Act.put, List.setIfInBounds_toArray, List.set_cons_zero, List.set_cons_succ]
          refine takeL 2 (v := ?_) rfl (by kernel_rfl) (by kernel_rfl) (by kernel_rfl) (fun _ _ _ h => h) (by kernel_rfl) ?_ (by assumption) ?_
          rotate_left
          · intro w hSw; (try dsimp only at hSw); first | (go_simp; done) | (go_simp; with_reducible rfl)
          try simp only [Act.put, List.setIfInBounds_toArray, List.set_cons_zero, List.set_cons_succ]
          refine takeL 3 (v := ?_) rfl (by kernel_rfl) (by kernel_rfl) (by kernel_rfl) (fun _ _ _ h => h) (by kernel_rfl) ?_ (by assumption) ?_
          rotate_left
          · intro w hSw; (try dsimp only at hSw); first | (go_simp; done) | (go_simp; with_reducible rfl)
          try simp only [Act.put, List.setIfInBounds_toArray, List.set_cons_zero, List.set_cons_succ]
          refine takeL 4 (v := ?_) rfl (by kernel_rfl) (by kernel_rfl) (by kernel_rfl) (fun _ _ _ h => h) (by kernel_rfl) ?_ (by assumption) ?_
          rotate_left
          · intro w hSw; (try dsimp only at hSw); first | (go_simp; done) | (go_simp; with_reducible rfl)
          try simp only [Act.put, List.setIfInBounds_toArray, List.set_cons_zero, List.set_cons_succ]
          refine takeL 5 (v := ?_) rfl (by kernel_rfl) (by kernel_rfl) (by kernel_rfl) (fun _ _ _ h => h) (by kernel_rfl) ?_ (by assumption) ?_
          rotate_left
          · intro w hSw; (try dsimp only at hSw); first | (go_simp; done) | (go_simp; with_reducible rfl)
          try simp only [Act.put, List.setIfInBounds_toArray, List.set_cons_zero, List.set_cons_succ]
          refine takeL 6 (v := ?_) rfl (by kernel_rfl) (by kernel_rfl) (by kernel_rfl) (fun _ _ _ h => h) (by kernel_rfl) ?_ (by assumption) ?_
          rotate_left
          · intro w hSw; (try dsimp only at hSw); first | (go_simp; done) | (go_simp; with_reducible rfl)
          try simp only [Act.put, List.setIfInBounds_toArray, List.set_cons_zero, List.set_cons_succ]
          refine takeL 7 (v := ?_) rfl (by kernel_rfl) (by kernel_rfl) (by kernel_rfl) (fun _ _ _ h => h) (by kernel_rfl) ?_ (by assumption) ?_
          rotate_left
          · intro w hSw; (try dsimp only at hSw); first | (go_simp; done) | (go_simp; with_reducible rfl)
          try simp only [Act.put, List.setIfInBounds_toArray, List.set_cons_zero, List.set_cons_succ]
          refine takeL 8 (v := ?_) rfl (by kernel_rfl) (by kernel_rfl) (by kernel_rfl) (fun _ _ _ h => h) (by kernel_rfl) ?_ (by assumption) ?_
          rotate_left
          · intro w hSw; (try dsimp only at hSw); first | (go_simp; done) | (go_simp; with_reducible rfl)
          try simp only [Act.put, List.setIfInBounds_toArray, List.set_cons_zero, List.set_cons_succ]
          refine takeL 9 (v := ?_) rfl (by kernel_rfl) (by kernel_rfl) (by kernel_rfl) (fun _ _ _ h => h) (by kernel_rfl) ?_ (by assumption) ?_
          rotate_left
          · intro w hSw; (try dsimp only at hSw); first | (go_simp; done) | (go_simp; with_reducible rfl)
          try simp only [Act.put, List.setIfInBounds_toArray, List.set_cons_zero, List.set_cons_succ]
          refine callL 10 rfl (by kernel_rfl) (fun K hK => ?_)
          go_simp
          refine (hft _ hbd).mono ?_
          rintro e w1 ⟨rfl, b1⟩
          have HB1 : Hid (Below w.heap.size w w1) := HB.out.drew.trans (b1.mono HB.out.size)
          have HH := hheld _ b1
          go_wp2_with fail
          refine hK.out _ _ ?_ (fun hHeld => ?_)
          · exact HH
          clear hK K
          try simp only [Act.put, List.setIfInBounds_toArray, List.set_cons_zero, List.set_cons_succ]
          refine takeL 11 (v := ?_) rfl (by kernel_rfl) (by kernel_rfl) (by kernel_rfl) (fun _ _ _ h => h) (by kernel_rfl) ?_ (by assumption) ?_
          rotate_left
          · intro w hSw; (try dsimp only at hSw); first | (go_simp; done) | (go_simp; with_reducible rfl)
          try simp only [Act.put, List.setIfInBounds_toArray, List.set_cons_zero, List.set_cons_succ]
          refine takeL 12 (v := ?_) rfl (by kernel_rfl) (by kernel_rfl) (by kernel_rfl) (fun _ _ _ h => h) (by kernel_rfl) ?_ (by assumption) ?_
          rotate_left
          · intro w hSw; (try dsimp only at hSw); first | (go_simp; done) | (go_simp; with_reducible rfl)
          try simp only [Act.put, List.setIfInBounds_toArray, List.set_cons_zero, List.set_cons_succ]
          refine wpAnyH_done (by kernel_rfl) ?_ _
          refine NoPanic.normal ?_
          go_wp2_with fail
          go_roundw
          case rel => exact ⟨k + 1, HK1.out, by go_num, HB1, HQ3⟩
          case measure => have := HK1.out; simp [intOf]; omega
      · have hge : decide ((20 : Int) ≤ (k : Int)) = true := decide_eq_true (by omega)
        have HV : Hid (R = k + 1) := HBk.out (HFA.out (by omega))
        clear HBk HQ2 HFA HNE h20 hlt hk lkc
        have lkc : (k : Int) ≤ (cap : Int) := by omega
        go_wp2_with fail
        refine wp_region_noPanic ?_
        refine wp_region_held_drew (S := fun w' => w'.cell? ⟨g, k * 5, none⟩ = some (.string h.prev) ∧ w'.cell? ⟨g, k * 5 + 1, none⟩ = some (.string h.root) ∧ w'.cell? ⟨g, k * 5 + 2, none⟩ = some (.int .i64 h.time) ∧ w'.cell? ⟨g, k * 5 + 3, none⟩ = some (.int .i64 h.diff) ∧ w'.cell? ⟨g, k * 5 + 4, none⟩ = some (.int .i64 h.nonce)) (by kernel_rfl) (⟨c0, c1, c2, c3, c4⟩) (fun hHeld => ?_)
        refine takeL 0 (v := ?_) rfl (by kernel_rfl) (by kernel_rfl) (by kernel_rfl) (fun _ _ _ h => h) (by kernel_rfl) ?_ (by assumption) ?_
        rotate_left
        · intro w hSw; (try dsimp only at hSw); first | (go_simp; done) | (go_simp; with_reducible rfl)
        try simp only [Act.put, List.setIfInBounds_toArray, List.set_cons_zero, List.set_cons_succ]
        refine takeL 1 (v := ?_) rfl (by kernel_rfl) (by kernel_rfl) (by kernel_rfl) (fun _ _ _ h => h) (by kernel_rfl) ?_ (by assumption) ?_
        rotate_left
        · intro w hSw; (try dsimp only at hSw); first | (go_simp; done) | (go_simp; with_reducible rfl)
        try simp only [Act.put, List.setIfInBounds_toArray, List.set_cons_zero, List.set_cons_succ]
        refine takeL 2 (v := ?_) rfl (by kernel_rfl) (by kernel_rfl) (by kernel_rfl) (fun _ _ _ h => h) (by kernel_rfl) ?_ (by assumption) ?_
        rotate_left
        · intro w hSw; (try dsimp only at hSw); first | (go_simp; done) | (go_simp; with_reducible rfl)
        try simp only [Act.put, List.setIfInBounds_toArray, List.set_cons_zero, List.set_cons_succ]
        refine skipL 3 rfl (by kernel_rfl) (by kernel_rfl) (by kernel_rfl) (fun _ _ _ h => h) (by kernel_rfl) (by assumption) ?_
        try simp only [Act.put, List.setIfInBounds_toArray, List.set_cons_zero, List.set_cons_succ]
        refine skipL 4 rfl (by kernel_rfl) (by kernel_rfl) (by kernel_rfl) (fun _ _ _ h => h) (by kernel_rfl) (by assumption) ?_
        try simp only [Act.put, List.setIfInBounds_toArray, List.set_cons_zero, List.set_cons_succ]
        refine skipL 5 rfl (by kernel_rfl) (by kernel_rfl) (by kernel_rfl) (fun _ _ _ h => h) (by kernel_rfl) (by assumption) ?_
        try simp only [Act.put, List.setIfInBounds_toArray, List.set_cons_zero, List.set_cons_succ]
        refine skipL 6 rfl (by kernel_rfl) (by kernel_rfl) (by kernel_rfl) (fun _ _ _ h => h) (by kernel_rfl) (by assumption) ?_
        try simp only [Act.put, List.setIfInBounds_toArray, List.set_cons_zero, List.set_cons_succ]
        refine skipL 7 rfl (by kernel_rfl) (by kernel_rfl) (by kernel_rfl) (fun _ _ _ h => h) (by kernel_rfl) (by assumption) ?_
        try simp only [Act.put, List.setIfInBounds_toArray, List.set_cons_zero, List.set_cons_succ]
        refine skipL 8 rfl (by kernel_rfl) (by kernel_rfl) (by kernel_rfl) (fun _ _ _ h => h) (by kernel_rfl) (by assumption) ?_
        try simp only [Act.put, List.setIfInBounds_toArray, List.set_cons_zero, List.set_cons_succ]
        refine skipL 9 rfl (by kernel_rfl) (by kernel_rfl) (by kernel_rfl) (fun _ _ _ h => h) (by kernel_rfl) (by assumption) ?_
        try simp only [Act.put, List.setIfInBounds_toArray, List.set_cons_zero, List.set_cons_succ]
        refine skipL 10 rfl (by kernel_rfl) (by kernel_rfl) (by kernel_rfl) (fun _ _ _ h => h) (by kernel_rfl) (by assumption) ?_
        try simp only [Act.put, List.setIfInBounds_toArray, List.set_cons_zero, List.set_cons_succ]
        refine skipL 11 rfl (by kernel_rfl) (by kernel_rfl) (by kernel_rfl) (fun _ _ _ h => h) (by kernel_rfl) (by assumption) ?_
        try simp only [Act.put, List.setIfInBounds_toArray, List.set_cons_zero, List.set_cons_succ]
        refine takeL 12 (v := ?_) rfl (by kernel_rfl) (by kernel_rfl) (by kernel_rfl) (fun _ _ _ h => h) (by kernel_rfl) ?_ (by assumption) ?_
        rotate_left
        · intro w hSw; (try dsimp only at hSw); first | (go_simp; done) | (go_simp; with_reducible rfl)
        try simp only [Act.put, List.setIfInBounds_toArray, List.set_cons_zero, List.set_cons_succ]
        refine wpAnyH_done (by kernel_rfl) ?_ _
        refine NoPanic.normal ?_
        go_wp2_with fail
        go_ret
        exact ⟨by rw [HV.out]; rfl, HB.out.drew⟩
    · obtain rfl : k = n := by omega
      have HV : Hid (R = 0) := HGO.out HQ.out
      clear HGO HBA
      go_wp2_with fail
      go_ret
      exact ⟨by rw [HV.out]; rfl, HB.out⟩

end Go.Proofs.YtoifgpmbeicmnaaGreatDoor

set_option linter.unusedVariables false
namespace Go.Proofs.YtoifgpmbeicmnaaGreatDoor
open Go.RowKit Go.Deep

def ptsOf (bs : List BlkV) : List (HeadV × List ByteArray) := bs.map fun b => (b.h, b.ss)
def allOk (ps : List (HeadV × List ByteArray)) : Bool := ps.all fun p => blockOkB p.1 p.2
def okP (ps : List (HeadV × List ByteArray)) : Bool := decide (chainCk (ps.map (·.1)) = 0) && allOk ps
theorem pts_heads (bs : List BlkV) : (ptsOf bs).map (·.1) = bs.map (·.h) := by simp [ptsOf]
theorem blk_mem {bs : List BlkV} {k : Nat} (h : k < bs.length) : bs.getD k default ∈ bs := by rw [List.getD_eq_getElem?_getD, List.getElem?_eq_getElem h]; exact List.getElem_mem h
theorem allOk_bad {bs : List BlkV} {k : Nat} (hk : k < bs.length) (h : blockOkB (bs.getD k default).h (bs.getD k default).ss = false) : allOk (ptsOf bs) = false := by
  rw [allOk, List.all_eq_false]
  refine ⟨((bs.getD k default).h, (bs.getD k default).ss), List.mem_map.2 ⟨_, blk_mem hk, rfl⟩, ?_⟩
  simp only [h]
  decide
theorem allOk_good {bs : List BlkV} (h : ∀ k, k < bs.length → blockOkB (bs.getD k default).h (bs.getD k default).ss = true) : allOk (ptsOf bs) = true := by
  rw [allOk, List.all_eq_true]
  intro p hp
  obtain ⟨b, hb, rfl⟩ := List.mem_map.1 hp
  obtain ⟨i, hi, he⟩ := List.mem_iff_getElem.1 hb
  have := h i hi
  rw [List.getD_eq_getElem?_getD, List.getElem?_eq_getElem hi] at this
  rw [← he]
  exact this
theorem okP_no {bs : List BlkV} (h : chainCk (bs.map (·.h)) ≠ 0) : okP (ptsOf bs) = false := by rw [okP, pts_heads, decide_eq_false h, Bool.false_and]
theorem okP_yes {bs : List BlkV} (h : chainCk (bs.map (·.h)) = 0) : okP (ptsOf bs) = allOk (ptsOf bs) := by rw [okP, pts_heads, decide_eq_true h, Bool.true_and]

theorem makeHead0 (n : Nat) (hn : n ≤ 1048576) (w : World) : (Instr.makeSlice 52 (.int .i64 0) (.int .i64 (n : Int))).run Tryz.prog w = .ok (.slice (some ⟨w.heap.size, 0, none⟩) 0 n) (w.alloc (.cells ((List.replicate n zeroHead).flatMap enHead).toArray 25)) := by
  obtain ⟨i, hi, hz, hs, hb⟩ := info_parts infoHead
  have hb' : (i.bytes : Int) * (n : Int) ≤ 281474976710656 := by rw [hb]; omega
  have hr := run_make (P := Tryz.prog) w 52 25 i _ Tryz.underlying52 hi hz .i64 .i64 0 (n : Int) (by omega) (by omega) hb' (by omega)
  simp only [Int.toNat_natCast, hs, Value.cells] at hr
  rw [← made_flat 5 enHead enHead_len (by decide) zeroHead n]
  exact hr

set_option maxHeartbeats 2000000 in
set_option maxRecDepth 100000 in
theorem implBlockHeads (g n cap : Nat) (bs : List BlkV) (w : World) (h : AtBlk w g bs) (hn : n = bs.length) (hm : n ≤ 1048576) :
    Calls Tryz.prog 21 #[.slice (some ⟨g, 0, none⟩) n cap] w fun e w' => ∃ v, e = .returned v ∧ HRow w.heap.size v (bs.map (·.h)) w' ∧ Below w.heap.size w w' := by
  obtain ⟨i0, hi, hz0, hz1, hz2⟩ := info3 infoHead
  have hmk := makeHead0 n hm w
  have HA : Hid (AtBlk w g bs) := h
  have HN : Hid (n = bs.length) := hn
  have HE : Hid (bs.map (·.h) = (bs.take n).map (·.h)) := by show _ = _; rw [hn, List.take_length]
  have R0 : Hid (HRow w.heap.size (.slice (some ⟨w.heap.size, 0, none⟩) 0 n) [] (w.alloc (.cells ((List.replicate n zeroHead).flatMap enHead).toArray 25))) := frow_cap _ _ _ _ enHead_len zeroHead w (by unfold maxLen; omega)
  have B0 : Hid (Below w.heap.size w (w.alloc (.cells ((List.replicate n zeroHead).flatMap enHead).toArray 25))) := (Below.refl _ w).alloc (Nat.le_refl _) _
  clear h hn
  generalize w.alloc (.cells ((List.replicate n zeroHead).flatMap enHead).toArray 25) = w0 at hmk R0 B0
  go_enter Tryz.func21, Tryz.ntmps21
  go_wp2_with fail
  clear hmk
  go_loopw [3, 11] (fun v i wr => ∃ k g2 c2 : Nat, k ≤ n ∧ i = .int .i64 (k : Int) ∧ v = .slice (some ⟨g2, 0, none⟩) k c2 ∧ Hid (HRow w.heap.size v ((bs.take k).map (·.h)) wr) ∧ Hid (Below w.heap.size w wr)) (fun _ i _ => n - (intOf i).toNat)
  case atStart => exact ⟨0, w.heap.size, n, by omega, rfl, rfl, R0, B0⟩
  case round =>
    clear R0 B0
    obtain ⟨k, g2, c2, hk, rfl, rfl, R, HB⟩ := hrel
    by_cases hlt : k < n
    · have hkl : k < bs.length := by rw [← HN.out]; exact hlt
      have HAr : Hid (AtBlk wr g bs) := HA.out.below HB.out HA.out.1
      have q0 := AtBlk.c0 HAr.out k hkl
      have q1 := AtBlk.c1 HAr.out k hkl
      have q2 := AtBlk.c2 HAr.out k hkl
      have q3 := AtBlk.c3 HAr.out k hkl
      have q4 := AtBlk.c4 HAr.out k hkl
      have q5 := AtBlk.c5 HAr.out k hkl
      have lk : (k : Int) < (n : Int) := by omega
      have lk0 : (0 : Int) ≤ (k : Int) := by omega
      have wk : IntKind.i64.wrap ((k : Int) + 1) = (k : Int) + 1 := by rw [IntKind.wrap_i64]; omega
      have HK : Hid (k + 1 ≤ n) := hlt
      have HL : Hid ((bs.take k).length = k) := by show _ = _; rw [List.length_take]; omega
      have HT : Hid ((bs.take (k + 1)).map (·.h) = (bs.take k).map (·.h) ++ [(bs.getD k default).h]) := take_map hkl
      have HOW0 : Hid (wr.ownsRow w.heap.size 25 5 (.slice (some ⟨g2, 0, none⟩) k c2) k (((bs.take k).map (·.h)).flatMap enHead)) := by
        have := R.out.2
        rw [List.length_map, HL.out] at this
        exact this
      generalize bs.getD k default = b at q0 q1 q2 q3 q4 q5 HT
      obtain ⟨p, bg, bn, bc, bss⟩ := b
      dsimp only at q0 q1 q2 q3 q4 q5 HT
      have HOW : Hid ((wr.alloc (.cells #[.string p.prev, .string p.root, .int .i64 p.time, .int .i64 p.diff, .int .i64 p.nonce, .slice (some ⟨bg, 0, none⟩) bn bc] 48)).ownsRow w.heap.size 25 5 (.slice (some ⟨g2, 0, none⟩) k c2) k (((bs.take k).map (·.h)).flatMap enHead)) := World.ownsRow.alloc HOW0.out _
      have hsz : w.heap.size ≤ (wr.alloc (.cells #[.string p.prev, .string p.root, .int .i64 p.time, .int .i64 p.diff, .int .i64 p.nonce, .slice (some ⟨bg, 0, none⟩) bn bc] 48)).heap.size := Nat.le_trans HB.out.size (by simp)
      have HBA : Hid (Below w.heap.size w (wr.alloc (.cells #[.string p.prev, .string p.root, .int .i64 p.time, .int .i64 p.diff, .int .i64 p.nonce, .slice (some ⟨bg, 0, none⟩) bn bc] 48))) := HB.out.alloc HB.out.size _
      have hu := enHead_one p
      have hx1 : k + 1 ≤ maxLen := by unfold maxLen; omega
      have hx2 : (k + 1) * 56 ≤ 140737488355328 := by omega
      clear hkl R HOW0
      go_wp2_with (at_builtin; refine wp_appN rfl _ _ 52 rfl w.heap.size 25 i0 (.agg #[.string ⟨#[]⟩, .string ⟨#[]⟩, .int .i64 0, .int .i64 0, .int .i64 0]) 5 56 1 Tryz.underlying52 hi hz0 hz1 hz2 rfl (by decide) (by decide) _ _ _ rfl HOW.out (enHead p) (by simp [Act.eval]) rfl hu hx1 hx2 hsz ?_; intro g4 c4 w4 hown4 hb4 hkeep4)
      have R4 : Hid (HRow w.heap.size (.slice (some ⟨g4, 0, none⟩) (k + 1) c4) ((bs.take (k + 1)).map (·.h)) w4) := by
        refine FRow.of ?_ ?_
        · rw [HT.out, List.flatMap_append]
          simpa using hown4
        · rw [HT.out, List.length_append, List.length_map, HL.out]; rfl
      have B4 : Hid (Below w.heap.size w w4) := HBA.out.trans hb4
      clear hown4 hb4 hkeep4
      go_wp2_with fail
      go_roundw
      case rel => exact ⟨k + 1, g4, c4, HK.out, by go_num, rfl, R4, B4⟩
      case measure => have := HK.out; simp [intOf]; omega
    · obtain rfl : k = n := by omega
      go_wp2_with fail
      go_ret
      exact ⟨_, rfl, by rw [HE.out]; exact R.out, HB.out⟩

/-- A list of blocks in memory. -/
structure Blks (g n cap : Nat) (bs : List BlkV) (w : World) : Prop where
  at_ : AtBlk w g bs
  items : ∀ b ∈ bs, ItemsAt w b
  len : n = bs.length
  max : n ≤ 1048576
theorem Blks.below {g n cap : Nat} {bs : List BlkV} {w w' : World} (h : Blks g n cap bs w) (hb : Below w.heap.size w w') : Blks g n cap bs w' :=
  ⟨h.at_.below hb h.at_.1, fun b hb' => ⟨(h.items b hb').1.below hb (h.items b hb').1.1, (h.items b hb').2⟩, h.len, h.max⟩

set_option maxHeartbeats 2000000 in
set_option maxRecDepth 100000 in
theorem implChainOk (g n cap : Nat) (bs : List BlkV) (w : World) (h : Blks g n cap bs w) (hK : RowG w shaK) (hP : TabP w) (hE : ErrT w) :
    Calls Tryz.prog 18 #[.slice (some ⟨g, 0, none⟩) n cap] w fun e w' => e = .returned (.bool (okP (ptsOf bs))) ∧ Below w.heap.size w w' := by
  have hbh := implBlockHeads g n cap bs w h.at_ h.len h.max
  have HA : Hid (Blks g n cap bs w) := h
  have HK : Hid (RowG w shaK) := hK
  have HP : Hid (TabP w) := hP
  have HE : Hid (ErrT w) := hE
  have hm := h.max
  have HN : Hid (n = bs.length) := h.len
  have HNO : Hid (chainCk (bs.map (·.h)) ≠ 0 → okP (ptsOf bs) = false) := fun hc => okP_no hc
  have HBAD0 : Hid (chainCk (bs.map (·.h)) = 0 → ∀ k, k < n → blockOkB (bs.getD k default).h (bs.getD k default).ss = false → okP (ptsOf bs) = false) := fun hc k hk hf => by rw [okP_yes hc]; exact allOk_bad (by rw [← HN.out]; exact hk) hf
  have HGOO0 : Hid (chainCk (bs.map (·.h)) = 0 → (∀ k, k < n → blockOkB (bs.getD k default).h (bs.getD k default).ss = true) → okP (ptsOf bs) = true) := fun hc hq => by rw [okP_yes hc]; exact allOk_good (by rw [← HN.out]; exact hq)
  generalize okP (ptsOf bs) = R at HNO HBAD0 HGOO0 ⊢
  clear h hK hP hE
  go_enter Tryz.func18, Tryz.ntmps18
  go_wp2_with fail
  refine hbh.mono ?_
  rintro e w1 ⟨v, rfl, r1, b1⟩
  obtain ⟨g2, c2, hv⟩ := r1.1
  subst hv
  have hat := FRow.at enHead_len r1
  rw [List.length_map, ← HN.out] at hat ⊢
  have hck := implChainCheck g2 n c2 (bs.map (·.h)) w1 ⟨hat.1, by rw [List.length_map]; exact HN.out, hm, hat.2.2.2, HK.out.below b1 HK.out.lt, TabP.below HP.out b1 (Nat.le_refl _)⟩ (HE.out.below b1 HE.out.lt)
  have HB1 : Hid (Below w.heap.size w w1) := b1
  clear hbh hat r1 b1
  cases hc : chainCk (bs.map (·.h)) with
  | succ m =>
    have HV : Hid (R = false) := HNO.out (by rw [hc]; omega)
    rw [hc] at hck
    have hz : ¬ ((m + 1 : Nat) : Int) = 0 := by omega
    clear HNO HBAD0 HGOO0
    generalize m + 1 = m1 at hck hz
    clear hc
    go_wp2_with fail
    refine hck.mono ?_
    rintro e w2 ⟨rfl, b2⟩
    go_wp2_with fail
    go_ret
    exact ⟨by rw [HV.out]; rfl, HB1.out.trans (b2.mono HB1.out.size)⟩
  | zero =>
    have HBAD : Hid (∀ k, k < n → blockOkB (bs.getD k default).h (bs.getD k default).ss = false → R = false) := HBAD0.out hc
    have HGOO : Hid ((∀ k, k < n → blockOkB (bs.getD k default).h (bs.getD k default).ss = true) → R = true) := HGOO0.out hc
    rw [hc] at hck
    have hz : ((0 : Nat) : Int) = 0 := rfl
    rw [hz] at hck
    clear hc hz HNO HBAD0 HGOO0
    go_wp2_with fail
    refine hck.mono ?_
    rintro e w2 ⟨rfl, b2⟩
    have HB2 : Hid (Below w.heap.size w w2) := HB1.out.trans (b2.mono HB1.out.size)
    clear hck b2 HB1
    go_wp2_with fail
    go_loopw [11] (fun i wr => ∃ k : Nat, k ≤ n ∧ i = .int .i64 (k : Int) ∧ Hid (Below w.heap.size w wr) ∧ Hid (∀ q, q < k → blockOkB (bs.getD q default).h (bs.getD q default).ss = true)) (fun i _ => n - (intOf i).toNat)
    case atStart => exact ⟨0, by omega, rfl, HB2, fun q hq => by omega⟩
    case round =>
      clear HB2
      obtain ⟨k, hk, rfl, HB, HQ⟩ := hrel
      by_cases hlt : k < n
      · have hkl : k < bs.length := by rw [← HN.out]; exact hlt
        have HAr : Hid (Blks g n cap bs wr) := HA.out.below HB.out
        have q0 := AtBlk.c0 HAr.out.at_ k hkl
        have q1 := AtBlk.c1 HAr.out.at_ k hkl
        have q2 := AtBlk.c2 HAr.out.at_ k hkl
        have q3 := AtBlk.c3 HAr.out.at_ k hkl
        have q4 := AtBlk.c4 HAr.out.at_ k hkl
        have q5 := AtBlk.c5 HAr.out.at_ k hkl
        have HIT : Hid (ItemsAt wr (bs.getD k default)) := HAr.out.items _ (blk_mem hkl)
        have HBk : Hid (blockOkB (bs.getD k default).h (bs.getD k default).ss = false → R = false) := HBAD.out k hlt
        have HQ2 : Hid (blockOkB (bs.getD k default).h (bs.getD k default).ss = true → ∀ q, q < k + 1 → blockOkB (bs.getD q default).h (bs.getD q default).ss = true) := by
          intro h q hq
          rcases Nat.lt_or_ge q k with h' | h'
          · exact HQ.out q h'
          · obtain rfl : q = k := by omega
            exact h
        have lk : (k : Int) < (n : Int) := by omega
        have lk0 : (0 : Int) ≤ (k : Int) := by omega
        have wk : IntKind.i64.wrap ((k : Int) + 1) = (k : Int) + 1 := by rw [IntKind.wrap_i64]; omega
        have HK1 : Hid (k + 1 ≤ n) := hlt
        have hok := fun (w' : World) (hb : Below wr.heap.size wr w') => implBlockOk (bs.getD k default).h (bs.getD k default).g (bs.getD k default).n (bs.getD k default).cap (bs.getD k default).ss w' (HIT.out.1.below hb HIT.out.1.1) HIT.out.2 (HK.out.below (HB.out.trans (hb.mono HB.out.size)) HK.out.lt) (TabP.below HP.out (HB.out.trans (hb.mono HB.out.size)) (Nat.le_refl _))
        generalize blockOkB (bs.getD k default).h (bs.getD k default).ss = b at hok HBk HQ2
        clear HIT HQ HBAD HGOO hkl
        generalize bs.getD k default = bb at q0 q1 q2 q3 q4 q5 hok
        obtain ⟨p, bg, bn, bc, bss⟩ := bb
        unfold blockVal at hok
        dsimp only at q0 q1 q2 q3 q4 q5 hok
        have L0 : Hid (Below wr.heap.size wr (wr.alloc (.cells #[.string p.prev, .string p.root, .int .i64 p.time, .int .i64 p.diff, .int .i64 p.nonce, .slice (some ⟨bg, 0, none⟩) bn bc] 48))) := (Below.refl _ wr).alloc (Nat.le_refl _) _
        go_wp2_with fail
        refine (hok _ L0.out).mono ?_
        rintro e w3 ⟨rfl, b3⟩
        have HB3 : Hid (Below w.heap.size w w3) := HB.out.trans ((L0.out.trans (b3.mono L0.out.size)).mono HB.out.size)
        clear hok q0 q1 q2 q3 q4 q5 b3 L0
        cases b with
        | false =>
          have HV : Hid (R = false) := HBk.out rfl
          clear HBk HQ2
          go_wp2_with fail
          go_ret
          exact ⟨by rw [HV.out]; rfl, HB3.out⟩
        | true =>
          have HQ3 : Hid (∀ q, q < k + 1 → blockOkB (bs.getD q default).h (bs.getD q default).ss = true) := HQ2.out rfl
          clear HBk HQ2
          go_wp2_with fail
          go_roundw
          case rel => exact ⟨k + 1, HK1.out, by go_num, HB3, HQ3⟩
          case measure => have := HK1.out; simp [intOf]; omega
      · obtain rfl : k = n := by omega
        have HV : Hid (R = true) := HGOO.out HQ.out
        clear HBAD HGOO HQ
        go_wp2_with fail
        go_ret
        exact ⟨by rw [HV.out]; rfl, HB.out⟩

/-- What the specification needs of a list of blocks: short texts, few items. -/
structure BlksS (g n cap : Nat) (bs : List BlkV) (w : World) : Prop where
  b : Blks g n cap bs w
  wf : ∀ b ∈ bs, wfHead b.h
  few : ∀ b ∈ bs, b.n ≤ 1048576
  small : ∀ b ∈ bs, ∀ i, i < b.ss.length → (b.ss.getD i ByteArray.empty).size ≤ 1048576
theorem BlksS.below {g n cap : Nat} {bs : List BlkV} {w w' : World} (h : BlksS g n cap bs w) (hb : Below w.heap.size w w') : BlksS g n cap bs w' :=
  ⟨h.b.below hb, h.wf, h.few, h.small⟩

set_option maxHeartbeats 2000000 in
set_option maxRecDepth 100000 in
theorem specL4Blocks (g n cap : Nat) (bs : List BlkV) (w : World) (h : BlksS g n cap bs w) :
    Calls Tryz.prog 14 #[.slice (some ⟨g, 0, none⟩) n cap] w fun e w' => e = .returned (.bool (okP (ptsOf bs))) ∧ Below w.heap.size w w' := by
  have HA : Hid (BlksS g n cap bs w) := h
  have hm := h.b.max
  have HN : Hid (n = bs.length) := h.b.len
  have HBAD : Hid (∀ k, k < n → blockOkB (bs.getD k default).h (bs.getD k default).ss = false → okP (ptsOf bs) = false) := fun k hk hf => by
    rw [okP, allOk_bad (by rw [← HN.out]; exact hk) hf, Bool.and_false]
  have HGOO : Hid ((∀ k, k < n → blockOkB (bs.getD k default).h (bs.getD k default).ss = true) → okP (ptsOf bs) = decide (chainCk (bs.map (·.h)) = 0)) := fun hq => by
    rw [okP, allOk_good (by rw [← HN.out]; exact hq), Bool.and_true, pts_heads]
  clear h
  generalize okP (ptsOf bs) = R at HBAD HGOO ⊢
  go_enter Tryz.func14, Tryz.ntmps14
  go_wp2_with fail
  go_loopw [3] (fun i wr => ∃ k : Nat, k ≤ n ∧ i = .int .i64 (k : Int) ∧ Hid (Below w.heap.size w wr) ∧ Hid (∀ q, q < k → blockOkB (bs.getD q default).h (bs.getD q default).ss = true)) (fun i _ => n - (intOf i).toNat)
  case atStart => exact ⟨0, by omega, rfl, Below.refl _ _, fun q hq => by omega⟩
  case round =>
    obtain ⟨k, hk, rfl, HB, HQ⟩ := hrel
    by_cases hlt : k < n
    · have hkl : k < bs.length := by rw [← HN.out]; exact hlt
      have HAr : Hid (BlksS g n cap bs wr) := HA.out.below HB.out
      have q0 := AtBlk.c0 HAr.out.b.at_ k hkl
      have q1 := AtBlk.c1 HAr.out.b.at_ k hkl
      have q2 := AtBlk.c2 HAr.out.b.at_ k hkl
      have q3 := AtBlk.c3 HAr.out.b.at_ k hkl
      have q4 := AtBlk.c4 HAr.out.b.at_ k hkl
      have q5 := AtBlk.c5 HAr.out.b.at_ k hkl
      have HIT : Hid (ItemsAt wr (bs.getD k default)) := HAr.out.b.items _ (blk_mem hkl)
      have HBk : Hid (blockOkB (bs.getD k default).h (bs.getD k default).ss = false → R = false) := HBAD.out k hlt
      have HQ2 : Hid (blockOkB (bs.getD k default).h (bs.getD k default).ss = true → ∀ q, q < k + 1 → blockOkB (bs.getD q default).h (bs.getD q default).ss = true) := by
        intro h q hq
        rcases Nat.lt_or_ge q k with h' | h'
        · exact HQ.out q h'
        · obtain rfl : q = k := by omega
          exact h
      have lk : (k : Int) < (n : Int) := by omega
      have lk0 : (0 : Int) ≤ (k : Int) := by omega
      have wk : IntKind.i64.wrap ((k : Int) + 1) = (k : Int) + 1 := by rw [IntKind.wrap_i64]; omega
      have HK1 : Hid (k + 1 ≤ n) := hlt
      have hok := specL3BlockOk (bs.getD k default).h (bs.getD k default).g (bs.getD k default).n (bs.getD k default).cap (bs.getD k default).ss wr HIT.out.1 HIT.out.2 (HAr.out.wf _ (blk_mem hkl)).1 (HAr.out.wf _ (blk_mem hkl)).2 (HAr.out.few _ (blk_mem hkl)) (HAr.out.small _ (blk_mem hkl))
      generalize blockOkB (bs.getD k default).h (bs.getD k default).ss = b at hok HBk HQ2
      clear HIT HQ HBAD HGOO hkl
      generalize bs.getD k default = bb at q0 q1 q2 q3 q4 q5 hok
      obtain ⟨p, bg, bn, bc, bss⟩ := bb
      unfold blockVal at hok
      dsimp only at q0 q1 q2 q3 q4 q5 hok
      go_wp2_with fail
      refine hok.mono ?_
      rintro e w3 ⟨rfl, b3⟩
      have HB3 : Hid (Below w.heap.size w w3) := HB.out.trans (b3.mono HB.out.size)
      clear hok q0 q1 q2 q3 q4 q5 b3
      cases b with
      | false =>
        have HV : Hid (R = false) := HBk.out rfl
        clear HBk HQ2
        go_wp2_with fail
        go_ret
        exact ⟨by rw [HV.out]; rfl, HB3.out⟩
      | true =>
        have HQ3 : Hid (∀ q, q < k + 1 → blockOkB (bs.getD q default).h (bs.getD q default).ss = true) := HQ2.out rfl
        clear HBk HQ2
        go_wp2_with fail
        go_roundw
        case rel => exact ⟨k + 1, HK1.out, by go_num, HB3, HQ3⟩
        case measure => have := HK1.out; simp [intOf]; omega
    · obtain rfl : k = n := by omega
      have HV : Hid (R = decide (chainCk (bs.map (·.h)) = 0)) := HGOO.out HQ.out
      have HAr : Hid (BlksS g k cap bs wr) := HA.out.below HB.out
      have hhd := specL4Heads g k cap bs wr HAr.out.b.at_ HN.out hm
      clear HBAD HGOO HQ
      go_wp2_with fail
      refine hhd.mono ?_
      rintro e w1 ⟨v, rfl, r1, b1⟩
      obtain ⟨g2, c2, hv⟩ := r1.1
      subst hv
      have hat := FRow.at enHead_len r1
      rw [List.length_map, ← HN.out] at hat ⊢
      have hck := specL4Check g2 k c2 (bs.map (·.h)) w1 ⟨hat.1, by rw [List.length_map]; exact HN.out, hm, hat.2.2.2, fun i hi => by
        rw [List.length_map] at hi
        rw [getD_map hi]
        exact HA.out.wf _ (blk_mem hi)⟩
      have HB1 : Hid (Below w.heap.size w w1) := HB.out.trans (b1.mono HB.out.size)
      generalize chainCk (bs.map (·.h)) = m at hck HV
      clear hhd hat r1 b1
      go_wp2_with fail
      refine hck.mono ?_
      rintro e w2 ⟨rfl, b2⟩
      have HB2 : Hid (Below w.heap.size w w2) := HB1.out.trans (b2.mono HB1.out.size)
      clear hck b2
      rcases Nat.eq_zero_or_pos m with h0 | h0
      · subst h0
        go_wp2_with fail
        go_ret
        exact ⟨by rw [HV.out]; rfl, HB2.out⟩
      · have hm0 : ((m : Int) == 0) = false := beq_eq_false_iff_ne.2 (by omega)
        have hm1 : ¬ (m : Int) = 0 := by omega
        have HD : Hid (decide (m = 0) = false) := decide_eq_false (by omega)
        go_wp2_with fail
        go_ret
        exact ⟨by rw [HV.out, HD.out]; first | rfl | (simp; omega), HB2.out⟩

end Go.Proofs.YtoifgpmbeicmnaaGreatDoor

set_option linter.unusedVariables false
namespace Go.Proofs.YtoifgpmbeicmnaaGreatDoor
open Go.RowKit Go.Deep

structure PdV where
  a : Int
  h : HeadV
  pk : List PeakV
  st : List PeakV
  sd : List SideV
def zeroPd : PdV := ⟨0, ⟨⟨#[]⟩, ⟨#[]⟩, 0, 0, 0⟩, [], [], []⟩
/-- The place, and the place of the item, are there. -/
def inPd (ps : List (HeadV × List ByteArray)) (x y : Int) : Prop := okP ps = true ∧ (0 ≤ x ∧ x < (ps.length : Int)) ∧ (0 ≤ y ∧ y < ((ps.getD x.toNat default).2.length : Int))
open Classical in
noncomputable def paidOfL (ps : List (HeadV × List ByteArray)) (x y : Int) : PdV := if inPd ps x y then ⟨x, (ps.getD x.toNat default).1, ofP (ps.map (·.1)) ps.length, notesN (leafF (ps.map (·.1))) x.toNat ps.length, sidesR (ps.getD x.toNat default).2.length ((ps.getD x.toNat default).2.map rootItemB) y.toNat⟩ else zeroPd
theorem paidOfL_no {ps : List (HeadV × List ByteArray)} {x y : Int} (h : ¬ inPd ps x y) : paidOfL ps x y = zeroPd := by rw [paidOfL, if_neg h]
theorem paidOfL_yes {ps : List (HeadV × List ByteArray)} {X Y : Nat} (h : inPd ps (X : Int) (Y : Int)) : paidOfL ps (X : Int) (Y : Int) = ⟨(X : Int), (ps.getD X default).1, ofP (ps.map (·.1)) ps.length, notesN (leafF (ps.map (·.1))) X ps.length, sidesR (ps.getD X default).2.length ((ps.getD X default).2.map rootItemB) Y⟩ := by
  rw [paidOfL, if_pos h]
  rfl
/-- The nine cells of a proof that was handed back. -/
def pdCells (v : PdV) (vp vs vd : Value) : Array Value := #[.int .i64 v.a, .string v.h.prev, .string v.h.root, .int .i64 v.h.time, .int .i64 v.h.diff, .int .i64 v.h.nonce, vp, vs, vd]
def PdPost (B : Nat) (v : PdV) (w : World) (e : Ending) (w' : World) : Prop := ∃ vp vs vd, e = .returned (.agg (pdCells v vp vs vd)) ∧ Pks B vp v.pk w' ∧ Pks B vs v.st w' ∧ Sds B vd v.sd w' ∧ Below w.heap.size w w'
/-- The three lists of an answer are apart. -/
def Dis3 (v : PdV) (e : Ending) : Prop := ∀ vp vs vd b, e = .returned (.agg (pdCells v vp vs vd)) → (blkOf vp b → ¬ blkOf vs b ∧ ¬ blkS vd b) ∧ (blkOf vs b → ¬ blkS vd b)
theorem blkS_of (v : Value) (b : Nat) : blkS v b ↔ blkOf v b := by
  cases v with
  | slice a n c => cases a <;> exact Iff.rfl
  | _ => exact Iff.rfl
/-- A list of sides and one of peaks stand in blocks of different types. -/
theorem sd_pk {w : World} {B C : Nat} {u v : Value} {p : List PeakV} {s : List SideV} (hp : Pks B u p w) (hs : Sds C v s w) (b : Nat) (h1 : blkOf u b) : ¬ blkS v b := by
  intro h2
  rcases hp with ⟨rfl, _⟩ | ⟨g, cap, rfl, _, ⟨cur, hc, _⟩, _⟩
  · exact absurd h1 (by simp [blkOf])
  rcases hs with ⟨rfl, _⟩ | ⟨g', cap', rfl, _, ⟨cur', hc', _⟩, _⟩
  · exact absurd h2 (by simp [blkS])
  have e1 : g = b := h1
  have e2 : g' = b := h2
  subst e1
  subst e2
  rw [hc] at hc'
  simp only [Option.some.injEq, Obj.cells.injEq] at hc'
  exact absurd hc'.2.1 (by decide)
theorem inPd_facts {ps : List (HeadV × List ByteArray)} {x y : Int} (h : inPd ps x y) : headsB (ps.map (·.1)) = true ∧ (∀ p ∈ ps, itemsOkB p.2 = true) := by
  obtain ⟨h1, _, _⟩ := h
  rw [okP, Bool.and_eq_true, decide_eq_true_eq] at h1
  refine ⟨heads_good (ck_len h1.1) (ck_ok h1.1), fun p hp => ?_⟩
  have h2 := h1.2
  rw [allOk, List.all_eq_true] at h2
  have h3 := h2 p hp
  simp only [blockOkB, Bool.and_eq_true] at h3
  exact h3.2.2.1
theorem pd_len (bs : List BlkV) : (ptsOf bs).length = bs.length := by simp [ptsOf]
theorem pd_at {bs : List BlkV} {k : Nat} (h : k < bs.length) : (ptsOf bs).getD k default = ((bs.getD k default).h, (bs.getD k default).ss) := by
  simp [ptsOf, List.getD_eq_getElem?_getD, List.getElem?_eq_getElem h]
end Go.Proofs.YtoifgpmbeicmnaaGreatDoor

set_option linter.unusedVariables false
namespace Go.Proofs.YtoifgpmbeicmnaaGreatDoor
open Go.RowKit Go.Deep

/-- A block of heads that may be written. -/
def HdBk (w : World) (g n : Nat) : Prop := ∃ cur : Array Value, w.heap[g]? = some (.cells cur 25 (0, 0)) ∧ n * 5 ≤ cur.size
theorem HdBk.lt {w : World} {g n : Nat} (h : HdBk w g n) : g < w.heap.size := by
  obtain ⟨cur, h1, _⟩ := h
  rcases Nat.lt_or_ge g w.heap.size with h' | h'
  · exact h'
  · simp [Array.getElem?_eq_none h'] at h1
theorem HdBk.keep {w w' : World} {g n : Nat} (h : HdBk w g n) (hk : w'.heap[g]? = w.heap[g]?) : HdBk w' g n := by
  obtain ⟨cur, h1, h2⟩ := h
  exact ⟨cur, hk.trans h1, h2⟩
theorem HdBk.below {w w' : World} {g n B : Nat} (h : HdBk w g n) (hb : Below B w w') (hg : g < B) : HdBk w' g n := h.keep (hb.block g hg)
theorem HdBk.cell {w : World} {g n : Nat} (h : HdBk w g n) (i : Nat) (hi : i < n * 5) : (∃ v, w.cell? ⟨g, i, none⟩ = some v) ∧ w.frozen? ⟨g, i, none⟩ = false := by
  obtain ⟨cur, h1, h2⟩ := h
  refine ⟨?_, Lib.frozen_of_heap h1 i⟩
  rw [Lib.cell_of_heap h1]
  have hic : i < cur.size := by omega
  exact ⟨cur[i], Array.getElem?_eq_getElem hic⟩
theorem HdBk.set {w : World} {g n : Nat} (h : HdBk w g n) (i : Nat) (v : Value) : HdBk (w.setCell ⟨g, i, none⟩ v) g n := by
  obtain ⟨cur, h1, h2⟩ := h
  exact ⟨cur.setIfInBounds i v, by simp [World.setCell, Array.getElem?_modify, h1], by simpa using h2⟩
theorem HdBk.of {w : World} {g : Nat} {l : List HeadV} (h : RowHead w g l) : HdBk w g l.length := ⟨_, h, by simp [flat_length 5 enHead enHead_len]⟩
def MHPost (g n k : Nat) (w : World) (e : Ending) (w' : World) : Prop := e = .returned (.int .i64 ((k + 5 * n : Nat) : Int)) ∧ (∀ c, c < w.heap.size → c ≠ g → w'.heap[c]? = w.heap[c]?) ∧ Below 0 w w'
end Go.Proofs.YtoifgpmbeicmnaaGreatDoor

set_option linter.unusedVariables false
namespace Go.Proofs.YtoifgpmbeicmnaaGreatDoor
open Go.ChangeShapes Go.WideShapes Go.ChangeAt Go.RowKit Go.Deep

set_option maxHeartbeats 2000000 in
set_option maxRecDepth 100000 in
theorem eqProofP {B C : Nat} {u1 u2 v1 v2 : Value} {p s : List PeakV} {w : World} (h1 : Pks B u1 p w) (h2 : Pks B u2 s w) (h3 : Pks C v1 p w) (h4 : Pks C v2 s w) (hp : p.length ≤ 1048576) (hs : s.length ≤ 1048576) :
    Calls Tryz.prog 24 #[.agg #[u1, u2], .agg #[v1, v2]] w fun e w' => e = .returned (.bool true) ∧ Below w.heap.size w w' := by
  obtain ⟨a1, n1, c1, rfl⟩ := pks_slice h1
  obtain ⟨a2, n2, c2, rfl⟩ := pks_slice h2
  obtain ⟨a3, n3, c3, rfl⟩ := pks_slice h3
  obtain ⟨a4, n4, c4, rfl⟩ := pks_slice h4
  have b0 : Below w.heap.size w ((w.alloc (.cells #[.slice a1 n1 c1, .slice a2 n2 c2] 28)).alloc (.cells #[.slice a3 n3 c3, .slice a4 n4 c4] 28)) := ((Below.refl _ w).alloc (Nat.le_refl _) _).alloc (by simp) _
  have k0 : CBk ((w.alloc (.cells #[.slice a1 n1 c1, .slice a2 n2 c2] 28)).alloc (.cells #[.slice a3 n3 c3, .slice a4 n4 c4] 28)) w.heap.size 28 #[.slice a1 n1 c1, .slice a2 n2 c2] := (CBk.new w _ _).alloc _
  have k1 : CBk ((w.alloc (.cells #[.slice a1 n1 c1, .slice a2 n2 c2] 28)).alloc (.cells #[.slice a3 n3 c3, .slice a4 n4 c4] 28)) (w.heap.size + 1) 28 #[.slice a3 n3 c3, .slice a4 n4 c4] := by
    have := CBk.new (w.alloc (.cells #[.slice a1 n1 c1, .slice a2 n2 c2] 28)) 28 #[.slice a3 n3 c3, .slice a4 n4 c4]
    rwa [show (w.alloc (.cells #[.slice a1 n1 c1, .slice a2 n2 c2] 28)).heap.size = w.heap.size + 1 from by simp] at this
  have heq := pksEq (h1.below b0) (h3.below b0) hp
  have H2 : Hid (∀ w', Below w.heap.size w w' → Calls Tryz.prog 57 #[.slice a2 n2 c2, .slice a4 n4 c4] w' fun e w'' => e = .returned (.bool true) ∧ Below w'.heap.size w' w'') := fun w' hb => pksEq (h2.below hb) (h4.below hb) hs
  have B0 : Hid _ := b0
  have K0 : Hid (CBk _ w.heap.size 28 #[.slice a1 n1 c1, .slice a2 n2 c2]) := k0
  have K1 : Hid (CBk _ (w.heap.size + 1) 28 #[.slice a3 n3 c3, .slice a4 n4 c4]) := k1
  clear b0 k0 k1 h1 h2 h3 h4
  go_enter Tryz.func24, Tryz.ntmps24
  go_wp2_with fail
  refine heq.mono ?_
  rintro e w1 ⟨rfl, b1⟩
  have B1 : Hid (Below w.heap.size w w1) := B0.out.trans (b1.mono B0.out.size)
  have M0 := (K0.out.call b1).cell 1
  have M1 := (K1.out.call b1).cell 1
  have m0 : w1.cell? ⟨w.heap.size, 1, none⟩ = some (.slice a2 n2 c2) := M0
  have m1 : w1.cell? ⟨w.heap.size + 1, 1, none⟩ = some (.slice a4 n4 c4) := M1
  have hq := H2.out w1 B1.out
  clear M0 M1 b1 heq H2 K0 K1 B0
  go_wp2_with fail
  refine hq.mono ?_
  rintro e w2 ⟨rfl, b2⟩
  have B2 : Hid (Below w.heap.size w w2) := B1.out.trans (b2.mono B1.out.size)
  clear b2 hq m0 m1
  go_wp2_with fail
  go_ret
  exact ⟨rfl, B2.out⟩
theorem markPeaksNilK (k : Nat) (w : World) : Calls Tryz.prog 60 #[.slice none 0 0, .int .i64 (k : Int)] w fun e w' => e = .returned (.int .i64 (k : Int)) ∧ w' = w := by
  go_enter Tryz.func60, Tryz.ntmps60
  go_wp2_with fail
  go_loopw [1, 5] (fun m i wr => m = .int .i64 (k : Int) ∧ i = .int .i64 0 ∧ Hid (wr = w)) (fun _ _ _ => 0)
  case atStart => exact ⟨rfl, rfl, rfl⟩
  case round =>
    obtain ⟨rfl, rfl, HW⟩ := hrel
    go_wp2_with fail
    go_ret
    exact ⟨rfl, HW.out⟩
theorem heldPeaksNilK (k : Nat) (w : World) : Calls Tryz.prog 61 #[.slice none 0 0, .int .i64 (k : Int)] w fun e w' => e = .returned (.int .i64 (k : Int)) ∧ w' = w := by
  go_enter Tryz.func61, Tryz.ntmps61
  go_wp2_with fail
  go_loopw [1, 5] (fun m i wr => m = .int .i64 (k : Int) ∧ i = .int .i64 0 ∧ Hid (wr = w)) (fun _ _ _ => 0)
  case atStart => exact ⟨rfl, rfl, rfl⟩
  case round =>
    obtain ⟨rfl, rfl, HW⟩ := hrel
    go_wp2_with fail
    go_ret
    exact ⟨rfl, HW.out⟩
/-- A list of peaks that holds its marks from k on. -/
def HeldK (v : Value) (n k : Nat) (w : World) : Prop := (v = .slice none 0 0 ∧ n = 0) ∨ ∃ g cap, v = .slice (some ⟨g, 0, none⟩) n cap ∧ g < w.heap.size ∧ MkP w g k n
theorem HeldK.below {v : Value} {n k : Nat} {w w' : World} (h : HeldK v n k w) (hb : Below w.heap.size w w') : HeldK v n k w' := by
  rcases h with h | ⟨g, cap, h1, h2, h3⟩
  · exact .inl h
  · exact .inr ⟨g, cap, h1, Nat.lt_of_lt_of_le h2 hb.size, h3.below hb h2⟩
theorem HeldK.keep {v : Value} {n k : Nat} {w w' : World} (h : HeldK v n k w) (hs : w.heap.size ≤ w'.heap.size) (hk : ∀ g, blkOf v g → w'.heap[g]? = w.heap[g]?) : HeldK v n k w' := by
  rcases h with h | ⟨g, cap, rfl, h2, h3⟩
  · exact .inl h
  · have hg := hk g rfl
    refine .inr ⟨g, cap, rfl, Nat.lt_of_lt_of_le h2 hs, fun i hi => ?_⟩
    obtain ⟨m1, m2, m3⟩ := h3 i hi
    exact ⟨(World.cell?_of_block (a := ⟨g, i * 3, none⟩) hg).trans m1, (World.cell?_of_block (a := ⟨g, i * 3 + 1, none⟩) hg).trans m2, (World.cell?_of_block (a := ⟨g, i * 3 + 2, none⟩) hg).trans m3⟩
theorem pksMarkK {B : Nat} {v : Value} {l : List PeakV} {w : World} (k : Nat) (hk : k ≤ 1000000000) (h : Pks B v l w) (hn : l.length ≤ 1048576) : Calls Tryz.prog 60 #[v, .int .i64 (k : Int)] w fun e w' => e = .returned (.int .i64 ((k + 3 * l.length : Nat) : Int)) ∧ HeldK v l.length k w' ∧ Below 0 w w' ∧ ∀ b, b < w.heap.size → ¬ blkOf v b → w'.heap[b]? = w.heap[b]? := by
  rcases h with ⟨rfl, rfl⟩ | ⟨g, cap, rfl, a, b, hB⟩
  · exact (markPeaksNilK k w).mono fun e w' ⟨he, hw⟩ => ⟨he, .inl ⟨rfl, rfl⟩, by rw [hw]; exact Below.refl _ _, fun b _ _ => by rw [hw]⟩
  · refine (markPeaks g l.length cap k w b (by omega) hk).mono ?_
    rintro e w' ⟨rfl, hc, hu, hfr, hb⟩
    exact ⟨rfl, .inr ⟨g, cap, rfl, hb.lt, hc⟩, hfr, fun c hc1 hc2 => hu c hc1 (fun he => hc2 (by rw [he]; rfl))⟩
theorem pksHeldK {v : Value} {n k : Nat} {w : World} (h : HeldK v n k w) (hn : n ≤ 1048576) (hk : k ≤ 1000000000) : Calls Tryz.prog 61 #[v, .int .i64 (k : Int)] w fun e w' => e = .returned (.int .i64 ((k + 3 * n : Nat) : Int)) ∧ Below w.heap.size w w' := by
  rcases h with ⟨rfl, rfl⟩ | ⟨g, cap, rfl, hg, hc⟩
  · exact (heldPeaksNilK k w).mono fun e w' ⟨he, hw⟩ => ⟨he, by rw [hw]; exact Below.refl _ _⟩
  · exact heldPeaks g n cap k w hg hc (by omega) hk
/-- A proof that holds its marks. -/
def HeldPf (u v : Value) (n m : Nat) (w : World) : Prop := HeldK u n 1 w ∧ HeldK v m (1 + 3 * n) w ∧ (∃ a c d, u = .slice a c d) ∧ (∃ a c d, v = .slice a c d)
theorem HeldPf.below {u v : Value} {n m : Nat} {w w' : World} (h : HeldPf u v n m w) (hb : Below w.heap.size w w') : HeldPf u v n m w' := ⟨h.1.below hb, h.2.1.below hb, h.2.2.1, h.2.2.2⟩
set_option maxHeartbeats 2000000 in
set_option maxRecDepth 100000 in
theorem markProofP {B : Nat} {u v : Value} {p s : List PeakV} {w : World} (h1 : Pks B u p w) (h2 : Pks B v s w) (hd : ∀ b, blkOf u b → ¬ blkOf v b) (hp : p.length ≤ 1048576) (hs : s.length ≤ 1048576) :
    Calls Tryz.prog 29 #[.agg #[u, v], .int .i64 1] w fun e w' => e = .returned (.int .i64 ((1 + 3 * p.length + 3 * s.length : Nat) : Int)) ∧ HeldPf u v p.length s.length w' ∧ Below 0 w w' ∧ ∀ b, b < w.heap.size → ¬ blkOf u b → ¬ blkOf v b → w'.heap[b]? = w.heap[b]? := by
  obtain ⟨a1, n1, c1, rfl⟩ := pks_slice h1
  obtain ⟨a2, n2, c2, rfl⟩ := pks_slice h2
  have b0 : Below w.heap.size w (w.alloc (.cells #[.slice a1 n1 c1, .slice a2 n2 c2] 28)) := (Below.refl _ w).alloc (Nat.le_refl _) _
  have k0 : CBk (w.alloc (.cells #[.slice a1 n1 c1, .slice a2 n2 c2] 28)) w.heap.size 28 #[.slice a1 n1 c1, .slice a2 n2 c2] := CBk.new w _ _
  have hmk := pksMarkK 1 (by omega) (h1.below b0) hp
  have HV1 : Hid (∀ b, blkOf (.slice a1 n1 c1) b → b < w.heap.size) := fun b hb => (h1.blk hb).1
  have HV2 : Hid (∀ b, blkOf (.slice a2 n2 c2) b → b < w.heap.size) := fun b hb => (h2.blk hb).1
  have HPS : Hid (Pks B (.slice a2 n2 c2) s w) := h2
  have HD : Hid (∀ b, blkOf (.slice a1 n1 c1) b → ¬ blkOf (.slice a2 n2 c2) b) := hd
  have HB0 : Hid (Below w.heap.size w (w.alloc (.cells #[.slice a1 n1 c1, .slice a2 n2 c2] 28))) := b0
  have HK0 : Hid (CBk (w.alloc (.cells #[.slice a1 n1 c1, .slice a2 n2 c2] 28)) w.heap.size 28 #[.slice a1 n1 c1, .slice a2 n2 c2]) := k0
  clear b0 k0 h1 h2 hd
  obtain ⟨np, hnp⟩ : ∃ np, np = p.length := ⟨_, rfl⟩
  rw [← hnp] at hmk hp ⊢
  clear hnp p
  have e1 : ((1 : Nat) : Int) = 1 := rfl
  rw [e1] at hmk
  obtain ⟨Q, hQ⟩ : ∃ Q : Ending → World → Prop, Q = fun e w' => e = .returned (.int .i64 ((1 + 3 * np + 3 * s.length : Nat) : Int)) ∧ HeldPf (.slice a1 n1 c1) (.slice a2 n2 c2) np s.length w' ∧ Below 0 w w' ∧ ∀ b, b < w.heap.size → ¬ blkOf (.slice a1 n1 c1) b → ¬ blkOf (.slice a2 n2 c2) b → w'.heap[b]? = w.heap[b]? := ⟨_, rfl⟩
  show Calls _ _ _ _ (fun e w' => e = .returned (.int .i64 ((1 + 3 * np + 3 * s.length : Nat) : Int)) ∧ HeldPf (.slice a1 n1 c1) (.slice a2 n2 c2) np s.length w' ∧ Below 0 w w' ∧ ∀ b, b < w.heap.size → ¬ blkOf (.slice a1 n1 c1) b → ¬ blkOf (.slice a2 n2 c2) b → w'.heap[b]? = w.heap[b]?)
  rw [← hQ]
  have HQ : Hid (Q = fun e w' => e = .returned (.int .i64 ((1 + 3 * np + 3 * s.length : Nat) : Int)) ∧ HeldPf (.slice a1 n1 c1) (.slice a2 n2 c2) np s.length w' ∧ Below 0 w w' ∧ ∀ b, b < w.heap.size → ¬ blkOf (.slice a1 n1 c1) b → ¬ blkOf (.slice a2 n2 c2) b → w'.heap[b]? = w.heap[b]?) := hQ
  clear hQ
  obtain ⟨k2, hk2⟩ : ∃ k2, k2 = 1 + 3 * np := ⟨_, rfl⟩
  have HK2 : Hid (k2 = 1 + 3 * np) := hk2
  have HKB : Hid (k2 ≤ 1000000000) := by show _ ≤ _; omega
  rw [← hk2] at hmk
  clear hk2 e1
  go_enter Tryz.func29, Tryz.ntmps29
  go_wp2_with fail
  refine hmk.mono ?_
  rintro e w1 ⟨rfl, h1, f1, u1⟩
  have HU1 : Hid (∀ b, b < w.heap.size → ¬ blkOf (.slice a1 n1 c1) b → w1.heap[b]? = w.heap[b]?) := fun b hb hn => (u1 b (Nat.lt_of_lt_of_le hb HB0.out.size) hn).trans (HB0.out.block b hb)
  have HF1 : Hid (Below 0 w w1) := (HB0.out.mono (Nat.zero_le _)).trans f1
  have HP1 : Hid (Pks B (.slice a2 n2 c2) s w1) := HPS.out.keep HF1.out.size (fun g hg => HU1.out g (HV2.out g hg) (fun hc => HD.out g hc hg))
  have HM1 : Hid (HeldK (.slice a1 n1 c1) np 1 w1) := h1
  have hc1 : CBk w1 w.heap.size 28 #[.slice a1 n1 c1, .slice a2 n2 c2] := (u1 w.heap.size HK0.out.lt (fun hb => by have := HV1.out _ hb; omega)).trans HK0.out
  have m0 : w1.cell? ⟨w.heap.size, 1, none⟩ = some (.slice a2 n2 c2) := hc1.cell 1
  have hmk2 := pksMarkK k2 HKB.out HP1.out hs
  clear hc1 h1 f1 u1 hmk HK0 HB0 HPS
  obtain ⟨ns, hns⟩ : ∃ ns, ns = s.length := ⟨_, rfl⟩
  have HNS : Hid (ns = s.length) := hns
  rw [← hns] at hmk2
  clear hns
  obtain ⟨k3, hk3⟩ : ∃ k3, k3 = k2 + 3 * ns := ⟨_, rfl⟩
  have HK3 : Hid (k3 = k2 + 3 * ns) := hk3
  rw [← hk3] at hmk2
  clear hk3
  go_wp2_with fail
  refine hmk2.mono ?_
  rintro e w2 ⟨rfl, h2, f2, u2⟩
  have HFQ : Hid (Q (.returned (.int .i64 (k3 : Int))) w2) := by
    rw [HQ.out]
    refine ⟨by rw [HK3.out, HK2.out, HNS.out], ⟨HM1.out.keep f2.size (fun g hg => u2 g (Nat.lt_of_lt_of_le (HV1.out g hg) HF1.out.size) (HD.out g hg)), ?_, ⟨_, _, _, rfl⟩, ⟨_, _, _, rfl⟩⟩, HF1.out.trans f2, fun b hb hn1 hn2 => (u2 b (Nat.lt_of_lt_of_le hb HF1.out.size) hn2).trans (HU1.out b hb hn1)⟩
    rw [← HK2.out, ← HNS.out]
    exact h2
  clear h2 f2 u2 hmk2 m0
  go_wp2_with fail
  exact HFQ.out
set_option maxHeartbeats 2000000 in
set_option maxRecDepth 100000 in
theorem heldProofP {u v : Value} {n m : Nat} {w : World} (h : HeldPf u v n m w) (hn : n ≤ 1048576) (hm : m ≤ 1048576) :
    Calls Tryz.prog 31 #[.agg #[u, v], .int .i64 1] w fun e w' => e = .returned (.int .i64 ((1 + 3 * n + 3 * m : Nat) : Int)) ∧ Below w.heap.size w w' := by
  obtain ⟨g1, g2, ⟨a1, n1, c1, rfl⟩, ⟨a2, n2, c2, rfl⟩⟩ := h
  have b0 : Below w.heap.size w (w.alloc (.cells #[.slice a1 n1 c1, .slice a2 n2 c2] 28)) := (Below.refl _ w).alloc (Nat.le_refl _) _
  have hh1 := pksHeldK (g1.below b0) hn (by omega)
  have HH2 : Hid (∀ w', Below w.heap.size w w' → Calls Tryz.prog 61 #[.slice a2 n2 c2, .int .i64 ((1 + 3 * n : Nat) : Int)] w' fun e w'' => e = .returned (.int .i64 ((1 + 3 * n + 3 * m : Nat) : Int)) ∧ Below w'.heap.size w' w'') := fun w' hb => pksHeldK (g2.below hb) hm (by omega)
  have HB0 : Hid (Below w.heap.size w (w.alloc (.cells #[.slice a1 n1 c1, .slice a2 n2 c2] 28))) := b0
  have HK0 : Hid (CBk (w.alloc (.cells #[.slice a1 n1 c1, .slice a2 n2 c2] 28)) w.heap.size 28 #[.slice a1 n1 c1, .slice a2 n2 c2]) := CBk.new w _ _
  clear b0 g1 g2
  obtain ⟨k2, hk2⟩ : ∃ k2, k2 = 1 + 3 * n := ⟨_, rfl⟩
  obtain ⟨k3, hk3⟩ : ∃ k3, k3 = 1 + 3 * n + 3 * m := ⟨_, rfl⟩
  rw [← hk3]
  rw [← hk3, ← hk2] at HH2
  rw [← hk2] at hh1
  have e1 : ((1 : Nat) : Int) = 1 := rfl
  rw [e1] at hh1
  have q2 : ¬ (k2 : Int) < 0 := by omega
  have q3 : ¬ (k3 : Int) < 0 := by omega
  clear hk2 hk3 e1
  go_enter Tryz.func31, Tryz.ntmps31
  go_wp2_with fail
  refine hh1.mono ?_
  rintro e w1 ⟨rfl, b1⟩
  have HB1 : Hid (Below w.heap.size w w1) := HB0.out.trans (b1.mono HB0.out.size)
  have m0 : w1.cell? ⟨w.heap.size, 1, none⟩ = some (.slice a2 n2 c2) := (HK0.out.call b1).cell 1
  have hh2 := HH2.out w1 HB1.out
  clear hh1 b1 HH2 HB0 HK0
  go_wp2_with fail
  refine hh2.mono ?_
  rintro e w2 ⟨rfl, b2⟩
  have HB2 : Hid (Below w.heap.size w w2) := HB1.out.trans (b2.mono HB1.out.size)
  clear hh2 b2 m0
  go_wp2_with fail
  go_ret
  exact ⟨rfl, HB2.out⟩
end Go.Proofs.YtoifgpmbeicmnaaGreatDoor

set_option linter.unusedVariables false
namespace Go.Proofs.YtoifgpmbeicmnaaGreatDoor
open Go.ChangeShapes Go.WideShapes Go.ChangeAt Go.RowKit Go.Deep

theorem CBk.nineP {w : World} {g : Nat} {T : TypeId} {a b c d e f x y z : Value} (h : CBk w g T #[a, b, c, d, e, f, x, y, z]) : w.cell? ⟨g, 0, none⟩ = some a ∧ w.cell? ⟨g, 1, none⟩ = some b ∧ w.cell? ⟨g, 2, none⟩ = some c ∧ w.cell? ⟨g, 3, none⟩ = some d ∧ w.cell? ⟨g, 4, none⟩ = some e ∧ w.cell? ⟨g, 5, none⟩ = some f ∧ w.cell? ⟨g, 6, none⟩ = some x ∧ w.cell? ⟨g, 7, none⟩ = some y ∧ w.cell? ⟨g, 8, none⟩ = some z :=
  ⟨h.cell 0, h.cell 1, h.cell 2, h.cell 3, h.cell 4, h.cell 5, h.cell 6, h.cell 7, h.cell 8⟩
set_option maxHeartbeats 4000000 in
set_option maxRecDepth 100000 in
theorem eqPaidP {B C : Nat} {u1 u2 u3 v1 v2 v3 : Value} {v : PdV} {w : World} (h1 : Pks B u1 v.pk w) (h2 : Pks B u2 v.st w) (h3 : Sds B u3 v.sd w) (k1 : Pks C v1 v.pk w) (k2 : Pks C v2 v.st w) (k3 : Sds C v3 v.sd w) (hp : v.pk.length ≤ 1048576) (hs : v.st.length ≤ 1048576) (hd : v.sd.length ≤ 1048576) :
    Calls Tryz.prog 8 #[.agg (pdCells v u1 u2 u3), .agg (pdCells v v1 v2 v3)] w fun e w' => e = .returned (.bool true) ∧ Below w.heap.size w w' := by
  obtain ⟨a1, n1, c1, rfl⟩ := pks_slice h1
  obtain ⟨a2, n2, c2, rfl⟩ := pks_slice h2
  obtain ⟨a3, n3, c3, rfl⟩ := sds_slice h3
  obtain ⟨b1, m1, d1, rfl⟩ := pks_slice k1
  obtain ⟨b2, m2, d2, rfl⟩ := pks_slice k2
  obtain ⟨b3', m3, d3, rfl⟩ := sds_slice k3
  unfold pdCells
  have hq1 : Hid (∀ w', Calls Tryz.prog 23 #[.agg #[.string v.h.prev, .string v.h.root, .int .i64 v.h.time, .int .i64 v.h.diff, .int .i64 v.h.nonce], .agg #[.string v.h.prev, .string v.h.root, .int .i64 v.h.time, .int .i64 v.h.diff, .int .i64 v.h.nonce]] w' fun e w'' => e = .returned (.bool true) ∧ Below w'.heap.size w' w'') := fun w' => eqHeadA v.h w'
  have hq2 : Hid (∀ w', Below w.heap.size w w' → Calls Tryz.prog 24 #[.agg #[.slice a1 n1 c1, .slice a2 n2 c2], .agg #[.slice b1 m1 d1, .slice b2 m2 d2]] w' fun e w'' => e = .returned (.bool true) ∧ Below w'.heap.size w' w'') := fun w' hb => eqProofP (h1.below hb) (h2.below hb) (k1.below hb) (k2.below hb) hp hs
  have hq3 : Hid (∀ w', Below w.heap.size w w' → Calls Tryz.prog 25 #[.slice a3 n3 c3, .slice b3' m3 d3] w' fun e w'' => e = .returned (.bool true) ∧ Below w'.heap.size w' w'') := fun w' hb => sdsEq (h3.below hb) (k3.below hb) hd
  clear h1 h2 h3 k1 k2 k3 hp hs hd
  have C0 : Hid (CBk ((w.alloc (.cells #[.int .i64 v.a, .string v.h.prev, .string v.h.root, .int .i64 v.h.time, .int .i64 v.h.diff, .int .i64 v.h.nonce, .slice a1 n1 c1, .slice a2 n2 c2, .slice a3 n3 c3] 31)).alloc (.cells #[.int .i64 v.a, .string v.h.prev, .string v.h.root, .int .i64 v.h.time, .int .i64 v.h.diff, .int .i64 v.h.nonce, .slice b1 m1 d1, .slice b2 m2 d2, .slice b3' m3 d3] 31)) w.heap.size 31 #[.int .i64 v.a, .string v.h.prev, .string v.h.root, .int .i64 v.h.time, .int .i64 v.h.diff, .int .i64 v.h.nonce, .slice a1 n1 c1, .slice a2 n2 c2, .slice a3 n3 c3]) := (CBk.new w _ _).alloc _
  have D0 : Hid (CBk ((w.alloc (.cells #[.int .i64 v.a, .string v.h.prev, .string v.h.root, .int .i64 v.h.time, .int .i64 v.h.diff, .int .i64 v.h.nonce, .slice a1 n1 c1, .slice a2 n2 c2, .slice a3 n3 c3] 31)).alloc (.cells #[.int .i64 v.a, .string v.h.prev, .string v.h.root, .int .i64 v.h.time, .int .i64 v.h.diff, .int .i64 v.h.nonce, .slice b1 m1 d1, .slice b2 m2 d2, .slice b3' m3 d3] 31)) (w.heap.size + 1) 31 #[.int .i64 v.a, .string v.h.prev, .string v.h.root, .int .i64 v.h.time, .int .i64 v.h.diff, .int .i64 v.h.nonce, .slice b1 m1 d1, .slice b2 m2 d2, .slice b3' m3 d3]) := by
    have := CBk.new (w.alloc (.cells #[.int .i64 v.a, .string v.h.prev, .string v.h.root, .int .i64 v.h.time, .int .i64 v.h.diff, .int .i64 v.h.nonce, .slice a1 n1 c1, .slice a2 n2 c2, .slice a3 n3 c3] 31)) 31 #[.int .i64 v.a, .string v.h.prev, .string v.h.root, .int .i64 v.h.time, .int .i64 v.h.diff, .int .i64 v.h.nonce, .slice b1 m1 d1, .slice b2 m2 d2, .slice b3' m3 d3]
    rwa [show (w.alloc (.cells #[.int .i64 v.a, .string v.h.prev, .string v.h.root, .int .i64 v.h.time, .int .i64 v.h.diff, .int .i64 v.h.nonce, .slice a1 n1 c1, .slice a2 n2 c2, .slice a3 n3 c3] 31)).heap.size = w.heap.size + 1 from by simp] at this
  have L0 : Hid (Below w.heap.size w ((w.alloc (.cells #[.int .i64 v.a, .string v.h.prev, .string v.h.root, .int .i64 v.h.time, .int .i64 v.h.diff, .int .i64 v.h.nonce, .slice a1 n1 c1, .slice a2 n2 c2, .slice a3 n3 c3] 31)).alloc (.cells #[.int .i64 v.a, .string v.h.prev, .string v.h.root, .int .i64 v.h.time, .int .i64 v.h.diff, .int .i64 v.h.nonce, .slice b1 m1 d1, .slice b2 m2 d2, .slice b3' m3 d3] 31))) := ((Below.refl _ w).alloc (Nat.le_refl _) _).alloc (by simp) _
  go_enter Tryz.func8, Tryz.ntmps8
  go_wp2_with fail
  refine (hq1.out _).mono ?_
  rintro e w1 ⟨rfl, x1⟩
  have C1 : Hid (CBk w1 w.heap.size 31 #[.int .i64 v.a, .string v.h.prev, .string v.h.root, .int .i64 v.h.time, .int .i64 v.h.diff, .int .i64 v.h.nonce, .slice a1 n1 c1, .slice a2 n2 c2, .slice a3 n3 c3]) := C0.out.call x1
  have D1 : Hid (CBk w1 (w.heap.size + 1) 31 #[.int .i64 v.a, .string v.h.prev, .string v.h.root, .int .i64 v.h.time, .int .i64 v.h.diff, .int .i64 v.h.nonce, .slice b1 m1 d1, .slice b2 m2 d2, .slice b3' m3 d3]) := D0.out.call x1
  have L1 : Hid (Below w.heap.size w w1) := L0.out.trans (x1.mono L0.out.size)
  obtain ⟨e0, e1, e2, e3, e4, e5, e6, e7, e8⟩ := C1.out.nineP
  obtain ⟨f0, f1, f2, f3, f4, f5, f6, f7, f8⟩ := D1.out.nineP
  clear C0 D0 L0 x1 hq1
  go_wp2_with fail
  refine (hq2.out _ L1.out).mono ?_
  rintro e w2 ⟨rfl, x2⟩
  have C2 : Hid (CBk w2 w.heap.size 31 #[.int .i64 v.a, .string v.h.prev, .string v.h.root, .int .i64 v.h.time, .int .i64 v.h.diff, .int .i64 v.h.nonce, .slice a1 n1 c1, .slice a2 n2 c2, .slice a3 n3 c3]) := C1.out.call x2
  have D2 : Hid (CBk w2 (w.heap.size + 1) 31 #[.int .i64 v.a, .string v.h.prev, .string v.h.root, .int .i64 v.h.time, .int .i64 v.h.diff, .int .i64 v.h.nonce, .slice b1 m1 d1, .slice b2 m2 d2, .slice b3' m3 d3]) := D1.out.call x2
  have L2 : Hid (Below w.heap.size w w2) := L1.out.trans (x2.mono L1.out.size)
  clear e0 e1 e2 e3 e4 e5 e6 e7 e8 f0 f1 f2 f3 f4 f5 f6 f7 f8 C1 D1 L1 x2 hq2
  obtain ⟨e0, e1, e2, e3, e4, e5, e6, e7, e8⟩ := C2.out.nineP
  obtain ⟨f0, f1, f2, f3, f4, f5, f6, f7, f8⟩ := D2.out.nineP
  go_wp2_with fail
  refine (hq3.out _ L2.out).mono ?_
  rintro e w3 ⟨rfl, x3⟩
  go_wp2_with fail
  go_ret
  exact ⟨rfl, L2.out.trans (x3.mono L2.out.size)⟩
/-- A proof that an item is there that holds its marks. -/
def HeldPd (u1 u2 u3 : Value) (n m k : Nat) (w : World) : Prop := HeldPf u1 u2 n m w ∧ HeldS u3 k (1 + 3 * n + 3 * m) w ∧ ∃ a c d, u3 = .slice a c d
theorem HeldPd.below {u1 u2 u3 : Value} {n m k : Nat} {w w' : World} (h : HeldPd u1 u2 u3 n m k w) (hb : Below w.heap.size w w') : HeldPd u1 u2 u3 n m k w' := ⟨h.1.below hb, h.2.1.below hb, h.2.2⟩
theorem HeldPf.keep {u v : Value} {n m : Nat} {w w' : World} (h : HeldPf u v n m w) (hs : w.heap.size ≤ w'.heap.size) (hu : ∀ g, blkOf u g → w'.heap[g]? = w.heap[g]?) (hv : ∀ g, blkOf v g → w'.heap[g]? = w.heap[g]?) : HeldPf u v n m w' := ⟨h.1.keep hs hu, h.2.1.keep hs hv, h.2.2.1, h.2.2.2⟩
set_option maxHeartbeats 4000000 in
set_option maxRecDepth 100000 in
theorem markPaidP {B : Nat} {u1 u2 u3 : Value} {v : PdV} {w : World} (h1 : Pks B u1 v.pk w) (h2 : Pks B u2 v.st w) (h3 : Sds B u3 v.sd w) (hdp : ∀ b, blkOf u1 b → ¬ blkOf u2 b) (hp : v.pk.length ≤ 1048576) (hs : v.st.length ≤ 1048576) (hd : v.sd.length ≤ 1048576) :
    Calls Tryz.prog 11 #[.agg (pdCells v u1 u2 u3), .int .i64 1] w fun e w' => e = .returned (.int .i64 ((1 + 3 * v.pk.length + 3 * v.st.length + 2 * v.sd.length : Nat) : Int)) ∧ HeldPd u1 u2 u3 v.pk.length v.st.length v.sd.length w' ∧ Below 0 w w' ∧ ∀ b, b < w.heap.size → ¬ blkOf u1 b → ¬ blkOf u2 b → ¬ blkS u3 b → w'.heap[b]? = w.heap[b]? := by
  have hsp1 := fun b => sd_pk h1 h3 b
  have hsp2 := fun b => sd_pk h2 h3 b
  obtain ⟨a1, n1, c1, rfl⟩ := pks_slice h1
  obtain ⟨a2, n2, c2, rfl⟩ := pks_slice h2
  obtain ⟨a3, n3, c3, rfl⟩ := sds_slice h3
  have b0 : Below w.heap.size w (w.alloc (.cells #[.int .i64 v.a, .string v.h.prev, .string v.h.root, .int .i64 v.h.time, .int .i64 v.h.diff, .int .i64 v.h.nonce, .slice a1 n1 c1, .slice a2 n2 c2, .slice a3 n3 c3] 31)) := (Below.refl _ w).alloc (Nat.le_refl _) _
  have hmk := markProofP (h1.below b0) (h2.below b0) hdp hp hs
  have HV1 : Hid (∀ b, blkOf (.slice a1 n1 c1) b → b < w.heap.size) := fun b hb => (h1.blk hb).1
  have HV2 : Hid (∀ b, blkOf (.slice a2 n2 c2) b → b < w.heap.size) := fun b hb => (h2.blk hb).1
  have HV3 : Hid (∀ b, blkS (.slice a3 n3 c3) b → b < w.heap.size) := fun b hb => (h3.blk hb).1
  have HPS : Hid (Sds B (.slice a3 n3 c3) v.sd w) := h3
  have HD1 : Hid (∀ b, blkOf (.slice a1 n1 c1) b → ¬ blkS (.slice a3 n3 c3) b) := fun b => hsp1 b
  have HD2 : Hid (∀ b, blkOf (.slice a2 n2 c2) b → ¬ blkS (.slice a3 n3 c3) b) := fun b => hsp2 b
  have HB0 : Hid (Below w.heap.size w (w.alloc (.cells #[.int .i64 v.a, .string v.h.prev, .string v.h.root, .int .i64 v.h.time, .int .i64 v.h.diff, .int .i64 v.h.nonce, .slice a1 n1 c1, .slice a2 n2 c2, .slice a3 n3 c3] 31))) := b0
  have HK0 : Hid (CBk (w.alloc (.cells #[.int .i64 v.a, .string v.h.prev, .string v.h.root, .int .i64 v.h.time, .int .i64 v.h.diff, .int .i64 v.h.nonce, .slice a1 n1 c1, .slice a2 n2 c2, .slice a3 n3 c3] 31)) w.heap.size 31 #[.int .i64 v.a, .string v.h.prev, .string v.h.root, .int .i64 v.h.time, .int .i64 v.h.diff, .int .i64 v.h.nonce, .slice a1 n1 c1, .slice a2 n2 c2, .slice a3 n3 c3]) := CBk.new w _ _
  clear b0 h1 h2 h3 hdp hsp1 hsp2
  unfold pdCells
  obtain ⟨Q, hQ⟩ : ∃ Q : Ending → World → Prop, Q = fun e w' => e = .returned (.int .i64 ((1 + 3 * v.pk.length + 3 * v.st.length + 2 * v.sd.length : Nat) : Int)) ∧ HeldPd (.slice a1 n1 c1) (.slice a2 n2 c2) (.slice a3 n3 c3) v.pk.length v.st.length v.sd.length w' ∧ Below 0 w w' ∧ ∀ b, b < w.heap.size → ¬ blkOf (.slice a1 n1 c1) b → ¬ blkOf (.slice a2 n2 c2) b → ¬ blkS (.slice a3 n3 c3) b → w'.heap[b]? = w.heap[b]? := ⟨_, rfl⟩
  have HQ : Hid (∀ (k3 : Nat) (w' : World), k3 = 1 + 3 * v.pk.length + 3 * v.st.length + 2 * v.sd.length → HeldPd (.slice a1 n1 c1) (.slice a2 n2 c2) (.slice a3 n3 c3) v.pk.length v.st.length v.sd.length w' → Below 0 w w' → (∀ b, b < w.heap.size → ¬ blkOf (.slice a1 n1 c1) b → ¬ blkOf (.slice a2 n2 c2) b → ¬ blkS (.slice a3 n3 c3) b → w'.heap[b]? = w.heap[b]?) → Q (.returned (.int .i64 (k3 : Int))) w') := fun k3 w' h1 h2 h3 h4 => by rw [hQ, h1]; exact ⟨rfl, h2, h3, h4⟩
  refine Calls.mono (R := Q) ?_ (fun e w' h => by rw [hQ] at h; exact h)
  clear hQ
  obtain ⟨k2, hk2⟩ : ∃ k2, k2 = 1 + 3 * v.pk.length + 3 * v.st.length := ⟨_, rfl⟩
  have HK2 : Hid (k2 = 1 + 3 * v.pk.length + 3 * v.st.length) := hk2
  have HKB : Hid (k2 ≤ 1000000000) := by show _ ≤ _; omega
  rw [← hk2] at hmk
  clear hk2
  go_enter Tryz.func11, Tryz.ntmps11
  go_wp2_with fail
  refine hmk.mono ?_
  rintro e w1 ⟨rfl, h1, f1, u1⟩
  have HU1 : Hid (∀ b, b < w.heap.size → ¬ blkOf (.slice a1 n1 c1) b → ¬ blkOf (.slice a2 n2 c2) b → w1.heap[b]? = w.heap[b]?) := fun b hb hn hm => (u1 b (Nat.lt_of_lt_of_le hb HB0.out.size) hn hm).trans (HB0.out.block b hb)
  have HF1 : Hid (Below 0 w w1) := (HB0.out.mono (Nat.zero_le _)).trans f1
  have HP1 : Hid (Sds B (.slice a3 n3 c3) v.sd w1) := HPS.out.keep HF1.out.size (fun g hg => HU1.out g (HV3.out g hg) (fun hc => HD1.out g hc hg) (fun hc => HD2.out g hc hg))
  have HM1 : Hid (HeldPf (.slice a1 n1 c1) (.slice a2 n2 c2) v.pk.length v.st.length w1) := h1
  have hc1 : CBk w1 w.heap.size 31 #[.int .i64 v.a, .string v.h.prev, .string v.h.root, .int .i64 v.h.time, .int .i64 v.h.diff, .int .i64 v.h.nonce, .slice a1 n1 c1, .slice a2 n2 c2, .slice a3 n3 c3] := (u1 w.heap.size HK0.out.lt (fun hb => by have := HV1.out _ hb; omega) (fun hb => by have := HV2.out _ hb; omega)).trans HK0.out
  have m0 : w1.cell? ⟨w.heap.size, 8, none⟩ = some (.slice a3 n3 c3) := hc1.cell 8
  have hmk2 := sdsMark k2 HKB.out HP1.out hd
  clear hc1 h1 f1 u1 hmk HK0 HB0 HPS
  obtain ⟨k3, hk3⟩ : ∃ k3, k3 = k2 + 2 * v.sd.length := ⟨_, rfl⟩
  have HK3 : Hid (k3 = k2 + 2 * v.sd.length) := hk3
  rw [← hk3] at hmk2
  clear hk3
  go_wp2_with fail
  refine hmk2.mono ?_
  rintro e w2 ⟨rfl, h2, f2, u2⟩
  have HFQ : Hid (Q (.returned (.int .i64 (k3 : Int))) w2) := by
    refine HQ.out k3 w2 (by rw [HK3.out, HK2.out]) ⟨HM1.out.keep f2.size (fun g hg => u2 g (Nat.lt_of_lt_of_le (HV1.out g hg) HF1.out.size) (HD1.out g hg)) (fun g hg => u2 g (Nat.lt_of_lt_of_le (HV2.out g hg) HF1.out.size) (HD2.out g hg)), ?_, ⟨_, _, _, rfl⟩⟩ (HF1.out.trans f2) (fun b hb hn1 hn2 hn3 => (u2 b (Nat.lt_of_lt_of_le hb HF1.out.size) hn3).trans (HU1.out b hb hn1 hn2))
    rw [← HK2.out]
    exact h2
  clear h2 f2 u2 hmk2 m0
  go_wp2_with fail
  exact HFQ.out
set_option maxHeartbeats 4000000 in
set_option maxRecDepth 100000 in
theorem heldPaidP {u1 u2 u3 : Value} {v : PdV} {w : World} (h : HeldPd u1 u2 u3 v.pk.length v.st.length v.sd.length w) (hp : v.pk.length ≤ 1048576) (hs : v.st.length ≤ 1048576) (hd : v.sd.length ≤ 1048576) :
    Calls Tryz.prog 12 #[.agg (pdCells v u1 u2 u3), .int .i64 1] w fun e w' => e = .returned (.int .i64 ((1 + 3 * v.pk.length + 3 * v.st.length + 2 * v.sd.length : Nat) : Int)) ∧ Below w.heap.size w w' := by
  obtain ⟨g1, g2, ⟨a3, n3, c3, rfl⟩⟩ := h
  obtain ⟨a1, n1, c1, rfl⟩ := g1.2.2.1
  obtain ⟨a2, n2, c2, rfl⟩ := g1.2.2.2
  have b0 : Below w.heap.size w (w.alloc (.cells #[.int .i64 v.a, .string v.h.prev, .string v.h.root, .int .i64 v.h.time, .int .i64 v.h.diff, .int .i64 v.h.nonce, .slice a1 n1 c1, .slice a2 n2 c2, .slice a3 n3 c3] 31)) := (Below.refl _ w).alloc (Nat.le_refl _) _
  have hh1 := heldProofP (g1.below b0) hp hs
  have HH2 : Hid (∀ w', Below w.heap.size w w' → Calls Tryz.prog 32 #[.slice a3 n3 c3, .int .i64 ((1 + 3 * v.pk.length + 3 * v.st.length : Nat) : Int)] w' fun e w'' => e = .returned (.int .i64 ((1 + 3 * v.pk.length + 3 * v.st.length + 2 * v.sd.length : Nat) : Int)) ∧ Below w'.heap.size w' w'') := fun w' hb => sdsHeld (g2.below hb) hd (by omega)
  have HB0 : Hid (Below w.heap.size w (w.alloc (.cells #[.int .i64 v.a, .string v.h.prev, .string v.h.root, .int .i64 v.h.time, .int .i64 v.h.diff, .int .i64 v.h.nonce, .slice a1 n1 c1, .slice a2 n2 c2, .slice a3 n3 c3] 31))) := b0
  have HK0 : Hid (CBk (w.alloc (.cells #[.int .i64 v.a, .string v.h.prev, .string v.h.root, .int .i64 v.h.time, .int .i64 v.h.diff, .int .i64 v.h.nonce, .slice a1 n1 c1, .slice a2 n2 c2, .slice a3 n3 c3] 31)) w.heap.size 31 #[.int .i64 v.a, .string v.h.prev, .string v.h.root, .int .i64 v.h.time, .int .i64 v.h.diff, .int .i64 v.h.nonce, .slice a1 n1 c1, .slice a2 n2 c2, .slice a3 n3 c3]) := CBk.new w _ _
  clear b0 g1 g2
  unfold pdCells
  obtain ⟨k2, hk2⟩ : ∃ k2, k2 = 1 + 3 * v.pk.length + 3 * v.st.length := ⟨_, rfl⟩
  obtain ⟨k3, hk3⟩ : ∃ k3, k3 = 1 + 3 * v.pk.length + 3 * v.st.length + 2 * v.sd.length := ⟨_, rfl⟩
  rw [← hk3]
  rw [← hk3, ← hk2] at HH2
  rw [← hk2] at hh1
  have q2 : ¬ (k2 : Int) < 0 := by omega
  have q3 : ¬ (k3 : Int) < 0 := by omega
  clear hk2 hk3
  go_enter Tryz.func12, Tryz.ntmps12
  go_wp2_with fail
  refine hh1.mono ?_
  rintro e w1 ⟨rfl, x1⟩
  have HB1 : Hid (Below w.heap.size w w1) := HB0.out.trans (x1.mono HB0.out.size)
  have m0 : w1.cell? ⟨w.heap.size, 8, none⟩ = some (.slice a3 n3 c3) := (HK0.out.call x1).cell 8
  have hh2 := HH2.out w1 HB1.out
  clear hh1 x1 HH2 HB0 HK0
  go_wp2_with fail
  refine hh2.mono ?_
  rintro e w2 ⟨rfl, x2⟩
  have HB2 : Hid (Below w.heap.size w w2) := HB1.out.trans (x2.mono HB1.out.size)
  clear hh2 x2 m0
  go_wp2_with fail
  go_ret
  exact ⟨rfl, HB2.out⟩
end Go.Proofs.YtoifgpmbeicmnaaGreatDoor

set_option linter.unusedVariables false
namespace Go.Proofs.YtoifgpmbeicmnaaGreatDoor
open Go.RowKit

theorem find_first {p : Nat → Bool} : ∀ (n k : Nat), k < n → p k = true → (∀ j, j < k → p j = false) → (List.range n).find? p = some k
  | 0, k, hk, _, _ => by omega
  | n + 1, k, hk, hp, hj => by
    rw [List.range_succ, List.find?_append]
    by_cases h : k < n
    · rw [find_first n k h hp hj]
      rfl
    · obtain rfl : k = n := by omega
      have : (List.range k).find? p = none := List.find?_eq_none.2 fun j hj' => by rw [hj j (List.mem_range.1 hj')]; decide
      rw [this]
      simp [hp]
theorem find_none {p : Nat → Bool} {n : Nat} (h : ∀ j, j < n → p j = false) : (List.range n).find? p = none := List.find?_eq_none.2 fun j hj' => by rw [h j (List.mem_range.1 hj')]; decide
/-- A head with another number. -/
def headNo (h : HeadV) (k : Nat) : HeadV := { h with nonce := (k : Int) }
def zeroH : HeadV := ⟨⟨#[]⟩, ⟨#[]⟩, 0, 0, 0⟩
def headMine (h : HeadV) : HeadV × Bool := match (List.range 401).find? fun k => headMeets (headNo h k) with
  | some k => (headNo h k, true)
  | none => (zeroH, false)
theorem headMine_yes {h : HeadV} {k : Nat} (hk : k ≤ 400) (hm : headMeets (headNo h k) = true) (hj : ∀ j, j < k → headMeets (headNo h j) = false) : headMine h = (headNo h k, true) := by
  unfold headMine
  rw [find_first 401 k (by omega) hm hj]
theorem headMine_no {h : HeadV} (hj : ∀ j, j < 401 → headMeets (headNo h j) = false) : headMine h = (zeroH, false) := by
  unfold headMine
  rw [find_none hj]

set_option maxHeartbeats 1000000 in
set_option maxRecDepth 100000 in
theorem implClone (s : ByteArray) (w : World) (hs : s.size ≤ 281474976710656) :
    Calls Tryz.prog 44 #[.string s] w fun e w' => e = .returned (.string s) ∧ Below w.heap.size w w' := by
  go_enter Tryz.func44, Tryz.ntmps44
  go_wp2_with fail
  refine (Tryz.stringslite_Clone s w hs).mono ?_
  rintro e w1 ⟨rfl, b1⟩
  go_wp2_with fail
  go_ret
  exact ⟨rfl, b1⟩

theorem results_row_tmp {P : Program} {fn : Func} {p u : Tmp} {ty : TypeId} (h : fn.results = #[.cell p ty, .tmp u]) (tmps : Array Value) (w : World) (g : Nat) (t : TypeId) (cs : Array Value) (fr : Nat × Nat) (d : TypeDesc)
    (hp : tmps.getD p undef = .pointer (some ⟨g, 0, none⟩)) (hg : w.heap[g]? = some (.cells cs t fr))
    (hu : P.underlying ty = some d) (hd : (match d with | .struct _ | .array _ _ => true | _ => false) = true) (hi : (P.info? ty).map (·.size) = some cs.size) :
    (results fn tmps).run P w = .ok (.tuple #[.agg cs, tmps.getD u undef]) w := by
  rw [results_cell_tmp h, hp]
  simp [asAddr, run_loadVar_row w g t ty cs fr d hg hu hd hi, Result.andThen]
/-- A head's block. -/
def HBk (w : World) (g : Nat) (p r : ByteArray) (t d n : Int) : Prop := w.heap[g]? = some (.cells #[.string p, .string r, .int .i64 t, .int .i64 d, .int .i64 n] 25 (0, 0))
theorem HBk.lt {w : World} {g : Nat} {p r : ByteArray} {t d n : Int} (h : HBk w g p r t d n) : g < w.heap.size := by
  rcases Nat.lt_or_ge g w.heap.size with h' | h'
  · exact h'
  · simp [HBk, Array.getElem?_eq_none h'] at h
theorem HBk.below {w w' : World} {g B : Nat} {p r : ByteArray} {t d n : Int} (h : HBk w g p r t d n) (hb : Below B w w') (hg : g < B) : HBk w' g p r t d n := by
  unfold HBk at h ⊢
  rw [hb.block g hg]
  exact h
theorem HBk.facts {w : World} {g : Nat} {p r : ByteArray} {t d n : Int} (h : HBk w g p r t d n) : w.cell? ⟨g, 0, none⟩ = some (.string p) ∧ w.cell? ⟨g, 1, none⟩ = some (.string r) ∧ w.cell? ⟨g, 2, none⟩ = some (.int .i64 t) ∧ w.cell? ⟨g, 3, none⟩ = some (.int .i64 d) ∧ w.cell? ⟨g, 4, none⟩ = some (.int .i64 n) ∧ w.frozen? ⟨g, 0, none⟩ = false ∧ w.frozen? ⟨g, 1, none⟩ = false ∧ w.frozen? ⟨g, 2, none⟩ = false ∧ w.frozen? ⟨g, 3, none⟩ = false ∧ w.frozen? ⟨g, 4, none⟩ = false := by
  refine ⟨?_, ?_, ?_, ?_, ?_, Lib.frozen_of_heap h 0, Lib.frozen_of_heap h 1, Lib.frozen_of_heap h 2, Lib.frozen_of_heap h 3, Lib.frozen_of_heap h 4⟩ <;> (rw [Lib.cell_of_heap h]; rfl)
theorem HBk.set0 {w : World} {g : Nat} {p r : ByteArray} {t d n : Int} (h : HBk w g p r t d n) (q : ByteArray) : HBk (w.setCell ⟨g, 0, none⟩ (.string q)) g q r t d n := by
  unfold HBk at h ⊢; simp [World.setCell, Array.getElem?_modify, h]
theorem HBk.set1 {w : World} {g : Nat} {p r : ByteArray} {t d n : Int} (h : HBk w g p r t d n) (q : ByteArray) : HBk (w.setCell ⟨g, 1, none⟩ (.string q)) g p q t d n := by
  unfold HBk at h ⊢; simp [World.setCell, Array.getElem?_modify, h]
theorem HBk.set2 {w : World} {g : Nat} {p r : ByteArray} {t d n : Int} (h : HBk w g p r t d n) (q : Int) : HBk (w.setCell ⟨g, 2, none⟩ (.int .i64 q)) g p r q d n := by
  unfold HBk at h ⊢; simp [World.setCell, Array.getElem?_modify, h]
theorem HBk.set3 {w : World} {g : Nat} {p r : ByteArray} {t d n : Int} (h : HBk w g p r t d n) (q : Int) : HBk (w.setCell ⟨g, 3, none⟩ (.int .i64 q)) g p r t q n := by
  unfold HBk at h ⊢; simp [World.setCell, Array.getElem?_modify, h]
theorem HBk.set4 {w : World} {g : Nat} {p r : ByteArray} {t d n : Int} (h : HBk w g p r t d n) (q : Int) : HBk (w.setCell ⟨g, 4, none⟩ (.int .i64 q)) g p r t d q := by
  unfold HBk at h ⊢; simp [World.setCell, Array.getElem?_modify, h]
theorem HBk.other {w : World} {g g' j : Nat} {p r : ByteArray} {t d n : Int} (h : HBk w g p r t d n) (hg : g' ≠ g) (v : Value) : HBk (w.setCell ⟨g', j, none⟩ v) g p r t d n := by
  unfold HBk at h ⊢; simp [World.setCell, Array.getElem?_modify, h, hg]
theorem HBk.new (w : World) (p r : ByteArray) (t d n : Int) : HBk (w.alloc (.cells #[.string p, .string r, .int .i64 t, .int .i64 d, .int .i64 n] 25)) w.heap.size p r t d n := heap_alloc_new w _
/-- A head handed in at block g, the head handed back at block g + 1, g being the first block behind w. -/
def HTwo (w w' : World) (p r : ByteArray) (t d n : Int) (p2 r2 : ByteArray) (t2 d2 n2 : Int) : Prop := HBk w' w.heap.size p r t d n ∧ HBk w' (w.heap.size + 1) p2 r2 t2 d2 n2 ∧ Below w.heap.size w w'
theorem HTwo.new (w : World) (p r : ByteArray) (t d n : Int) (p2 r2 : ByteArray) (t2 d2 n2 : Int) : HTwo w ((w.alloc (.cells #[.string p, .string r, .int .i64 t, .int .i64 d, .int .i64 n] 25)).alloc (.cells #[.string p2, .string r2, .int .i64 t2, .int .i64 d2, .int .i64 n2] 25)) p r t d n p2 r2 t2 d2 n2 := by
  refine ⟨?_, ?_, ((Below.refl _ w).alloc (Nat.le_refl _) _).alloc (by simp) _⟩
  · exact (HBk.new w p r t d n).below ((Below.refl _ _).alloc (Nat.le_refl _) _) (by simp)
  · have := HBk.new (w.alloc (.cells #[.string p, .string r, .int .i64 t, .int .i64 d, .int .i64 n] 25)) p2 r2 t2 d2 n2
    rwa [show (w.alloc (.cells #[.string p, .string r, .int .i64 t, .int .i64 d, .int .i64 n] 25)).heap.size = w.heap.size + 1 from by simp] at this
theorem HTwo.call {w w' w'' : World} {p r : ByteArray} {t d n : Int} {p2 r2 : ByteArray} {t2 d2 n2 : Int} (h : HTwo w w' p r t d n p2 r2 t2 d2 n2) (hb : Below w'.heap.size w' w'') : HTwo w w'' p r t d n p2 r2 t2 d2 n2 :=
  ⟨h.1.below hb h.1.lt, h.2.1.below hb h.2.1.lt, h.2.2.trans (hb.mono h.2.2.size)⟩
theorem HTwo.set0 {w w' : World} {p r : ByteArray} {t d n : Int} {p2 r2 : ByteArray} {t2 d2 n2 : Int} (h : HTwo w w' p r t d n p2 r2 t2 d2 n2) (q : ByteArray) : HTwo w (w'.setCell ⟨w.heap.size, 0, none⟩ (.string q)) q r t d n p2 r2 t2 d2 n2 :=
  ⟨h.1.set0 q, h.2.1.other (by omega) _, h.2.2.setCell (p := ⟨w.heap.size, 0, none⟩) (Nat.le_refl _) _⟩
theorem HTwo.set1 {w w' : World} {p r : ByteArray} {t d n : Int} {p2 r2 : ByteArray} {t2 d2 n2 : Int} (h : HTwo w w' p r t d n p2 r2 t2 d2 n2) (q : ByteArray) : HTwo w (w'.setCell ⟨w.heap.size, 1, none⟩ (.string q)) p q t d n p2 r2 t2 d2 n2 :=
  ⟨h.1.set1 q, h.2.1.other (by omega) _, h.2.2.setCell (p := ⟨w.heap.size, 1, none⟩) (Nat.le_refl _) _⟩
theorem HTwo.set4 {w w' : World} {p r : ByteArray} {t d n : Int} {p2 r2 : ByteArray} {t2 d2 n2 : Int} (h : HTwo w w' p r t d n p2 r2 t2 d2 n2) (q : Int) : HTwo w (w'.setCell ⟨w.heap.size, 4, none⟩ (.int .i64 q)) p r t d q p2 r2 t2 d2 n2 :=
  ⟨h.1.set4 q, h.2.1.other (by omega) _, h.2.2.setCell (p := ⟨w.heap.size, 4, none⟩) (Nat.le_refl _) _⟩
theorem HTwo.back {w w' : World} {p r : ByteArray} {t d n : Int} {p2 r2 : ByteArray} {t2 d2 n2 : Int} (h : HTwo w w' p r t d n p2 r2 t2 d2 n2) (p3 r3 : ByteArray) (t3 d3 n3 : Int) : HTwo w (((((w'.setCell ⟨w.heap.size + 1, 0, none⟩ (.string p3)).setCell ⟨w.heap.size + 1, 1, none⟩ (.string r3)).setCell ⟨w.heap.size + 1, 2, none⟩ (.int .i64 t3)).setCell ⟨w.heap.size + 1, 3, none⟩ (.int .i64 d3)).setCell ⟨w.heap.size + 1, 4, none⟩ (.int .i64 n3)) p r t d n p3 r3 t3 d3 n3 :=
  ⟨((((h.1.other (by omega) _).other (by omega) _).other (by omega) _).other (by omega) _).other (by omega) _, ((((h.2.1.set0 p3).set1 r3).set2 t3).set3 d3).set4 n3,
    ((((h.2.2.setCell (p := ⟨w.heap.size + 1, 0, none⟩) (Nat.le_succ _) _).setCell (p := ⟨w.heap.size + 1, 1, none⟩) (Nat.le_succ _) _).setCell (p := ⟨w.heap.size + 1, 2, none⟩) (Nat.le_succ _) _).setCell (p := ⟨w.heap.size + 1, 3, none⟩) (Nat.le_succ _) _).setCell (p := ⟨w.heap.size + 1, 4, none⟩) (Nat.le_succ _) _⟩

set_option maxHeartbeats 1000000 in
set_option maxRecDepth 100000 in
theorem implHeadCopy (h : HeadV) (w : World) (hp : h.prev.size ≤ 281474976710656) (hr : h.root.size ≤ 281474976710656) :
    Calls Tryz.prog 19 #[headVal h] w fun e w' => e = .returned (headVal h) ∧ Below w.heap.size w w' := by
  obtain ⟨p, r, t, d, n⟩ := h
  unfold headVal
  dsimp only at hp hr ⊢
  have S0 : Hid (HTwo w _ p r t d n ⟨#[]⟩ ⟨#[]⟩ 0 0 0) := HTwo.new w p r t d n ⟨#[]⟩ ⟨#[]⟩ 0 0 0
  have q1 := fun w' => implClone p w' hp
  have q2 := fun w' => implClone r w' hr
  clear hp hr
  go_enter Tryz.func19, Tryz.ntmps19
  go_wp2_with fail
  refine (q1 _).mono ?_
  rintro e w1 ⟨rfl, b1⟩
  have S1 : Hid (HTwo w w1 p r t d n ⟨#[]⟩ ⟨#[]⟩ 0 0 0) := S0.out.call b1
  obtain ⟨c0, c1, c2, c3, c4, z0, z1, z2, z3, z4⟩ := S1.out.1.facts
  clear S0 b1 q1
  have S2 : Hid (HTwo w (w1.setCell ⟨w.heap.size, 0, none⟩ (.string p)) p r t d n ⟨#[]⟩ ⟨#[]⟩ 0 0 0) := S1.out.set0 p
  go_wp2_with fail
  refine (q2 _).mono ?_
  rintro e w2 ⟨rfl, b2⟩
  have S3 : Hid (HTwo w w2 p r t d n ⟨#[]⟩ ⟨#[]⟩ 0 0 0) := S2.out.call b2
  clear c0 c1 c2 c3 c4 z0 z1 z2 z3 z4 S1 S2 b2 q2
  obtain ⟨c0, c1, c2, c3, c4, z0, z1, z2, z3, z4⟩ := S3.out.1.facts
  obtain ⟨d0, d1, d2, d3, d4, f0, f1, f2, f3, f4⟩ := S3.out.2.1.facts
  have S4 : Hid (HTwo w (((((((w2.setCell ⟨w.heap.size, 1, none⟩ (.string r))).setCell ⟨w.heap.size + 1, 0, none⟩ (.string p)).setCell ⟨w.heap.size + 1, 1, none⟩ (.string r)).setCell ⟨w.heap.size + 1, 2, none⟩ (.int .i64 t)).setCell ⟨w.heap.size + 1, 3, none⟩ (.int .i64 d)).setCell ⟨w.heap.size + 1, 4, none⟩ (.int .i64 n)) p r t d n p r t d n) := (S3.out.set1 r).back p r t d n
  go_wp2_with fail
  exact bodyPost_ret (results_cell_row (p := 2) rfl _ _ (w.heap.size + 1) 25 #[.string p, .string r, .int .i64 t, .int .i64 d, .int .i64 n] (0, 0) _ rfl S4.out.2.1 Tryz.underlying25 rfl (by kernel_rfl)) rfl ⟨rfl, S4.out.2.2⟩

end Go.Proofs.YtoifgpmbeicmnaaGreatDoor

set_option linter.unusedVariables false
namespace Go.Proofs.YtoifgpmbeicmnaaGreatDoor
open Go.RowKit Go.Deep

theorem CBk.nineZ {w : World} {g : Nat} {T : TypeId} {cs : Array Value} (h : CBk w g T cs) : w.frozen? ⟨g, 0, none⟩ = false ∧ w.frozen? ⟨g, 1, none⟩ = false ∧ w.frozen? ⟨g, 2, none⟩ = false ∧ w.frozen? ⟨g, 3, none⟩ = false ∧ w.frozen? ⟨g, 4, none⟩ = false ∧ w.frozen? ⟨g, 5, none⟩ = false ∧ w.frozen? ⟨g, 6, none⟩ = false ∧ w.frozen? ⟨g, 7, none⟩ = false ∧ w.frozen? ⟨g, 8, none⟩ = false :=
  ⟨h.frozen 0, h.frozen 1, h.frozen 2, h.frozen 3, h.frozen 4, h.frozen 5, h.frozen 6, h.frozen 7, h.frozen 8⟩
theorem set9_blk {w : World} {g6 : Nat} {T : TypeId} {y0 y1 y2 y3 y4 y5 y6 y7 y8 : Value} (h : CBk w g6 T #[y0, y1, y2, y3, y4, y5, y6, y7, y8]) (x0 x1 x2 x3 x4 x5 x6 x7 x8 : Value) : CBk (((((((((w.setCell ⟨g6, 0, none⟩ x0).setCell ⟨g6, 1, none⟩ x1).setCell ⟨g6, 2, none⟩ x2).setCell ⟨g6, 3, none⟩ x3).setCell ⟨g6, 4, none⟩ x4).setCell ⟨g6, 5, none⟩ x5).setCell ⟨g6, 6, none⟩ x6).setCell ⟨g6, 7, none⟩ x7).setCell ⟨g6, 8, none⟩ x8) g6 T #[x0, x1, x2, x3, x4, x5, x6, x7, x8] := by
  have h0 : CBk (w.setCell ⟨g6, 0, none⟩ x0) g6 T #[x0, y1, y2, y3, y4, y5, y6, y7, y8] := CBk.set (g := g6) (T := T) (cs := #[y0, y1, y2, y3, y4, y5, y6, y7, y8]) h 0 x0
  have h1 : CBk ((w.setCell ⟨g6, 0, none⟩ x0).setCell ⟨g6, 1, none⟩ x1) g6 T #[x0, x1, y2, y3, y4, y5, y6, y7, y8] := CBk.set (g := g6) (T := T) (cs := #[x0, y1, y2, y3, y4, y5, y6, y7, y8]) h0 1 x1
  have h2 : CBk (((w.setCell ⟨g6, 0, none⟩ x0).setCell ⟨g6, 1, none⟩ x1).setCell ⟨g6, 2, none⟩ x2) g6 T #[x0, x1, x2, y3, y4, y5, y6, y7, y8] := CBk.set (g := g6) (T := T) (cs := #[x0, x1, y2, y3, y4, y5, y6, y7, y8]) h1 2 x2
  have h3 : CBk ((((w.setCell ⟨g6, 0, none⟩ x0).setCell ⟨g6, 1, none⟩ x1).setCell ⟨g6, 2, none⟩ x2).setCell ⟨g6, 3, none⟩ x3) g6 T #[x0, x1, x2, x3, y4, y5, y6, y7, y8] := CBk.set (g := g6) (T := T) (cs := #[x0, x1, x2, y3, y4, y5, y6, y7, y8]) h2 3 x3
  have h4 : CBk (((((w.setCell ⟨g6, 0, none⟩ x0).setCell ⟨g6, 1, none⟩ x1).setCell ⟨g6, 2, none⟩ x2).setCell ⟨g6, 3, none⟩ x3).setCell ⟨g6, 4, none⟩ x4) g6 T #[x0, x1, x2, x3, x4, y5, y6, y7, y8] := CBk.set (g := g6) (T := T) (cs := #[x0, x1, x2, x3, y4, y5, y6, y7, y8]) h3 4 x4
  have h5 : CBk ((((((w.setCell ⟨g6, 0, none⟩ x0).setCell ⟨g6, 1, none⟩ x1).setCell ⟨g6, 2, none⟩ x2).setCell ⟨g6, 3, none⟩ x3).setCell ⟨g6, 4, none⟩ x4).setCell ⟨g6, 5, none⟩ x5) g6 T #[x0, x1, x2, x3, x4, x5, y6, y7, y8] := CBk.set (g := g6) (T := T) (cs := #[x0, x1, x2, x3, x4, y5, y6, y7, y8]) h4 5 x5
  have h6 : CBk (((((((w.setCell ⟨g6, 0, none⟩ x0).setCell ⟨g6, 1, none⟩ x1).setCell ⟨g6, 2, none⟩ x2).setCell ⟨g6, 3, none⟩ x3).setCell ⟨g6, 4, none⟩ x4).setCell ⟨g6, 5, none⟩ x5).setCell ⟨g6, 6, none⟩ x6) g6 T #[x0, x1, x2, x3, x4, x5, x6, y7, y8] := CBk.set (g := g6) (T := T) (cs := #[x0, x1, x2, x3, x4, x5, y6, y7, y8]) h5 6 x6
  have h7 : CBk ((((((((w.setCell ⟨g6, 0, none⟩ x0).setCell ⟨g6, 1, none⟩ x1).setCell ⟨g6, 2, none⟩ x2).setCell ⟨g6, 3, none⟩ x3).setCell ⟨g6, 4, none⟩ x4).setCell ⟨g6, 5, none⟩ x5).setCell ⟨g6, 6, none⟩ x6).setCell ⟨g6, 7, none⟩ x7) g6 T #[x0, x1, x2, x3, x4, x5, x6, x7, y8] := CBk.set (g := g6) (T := T) (cs := #[x0, x1, x2, x3, x4, x5, x6, y7, y8]) h6 7 x7
  have h8 : CBk (((((((((w.setCell ⟨g6, 0, none⟩ x0).setCell ⟨g6, 1, none⟩ x1).setCell ⟨g6, 2, none⟩ x2).setCell ⟨g6, 3, none⟩ x3).setCell ⟨g6, 4, none⟩ x4).setCell ⟨g6, 5, none⟩ x5).setCell ⟨g6, 6, none⟩ x6).setCell ⟨g6, 7, none⟩ x7).setCell ⟨g6, 8, none⟩ x8) g6 T #[x0, x1, x2, x3, x4, x5, x6, x7, x8] := CBk.set (g := g6) (T := T) (cs := #[x0, x1, x2, x3, x4, x5, x6, x7, y8]) h7 8 x8
  exact h8
theorem set9_other {w : World} {g g6 : Nat} (h : g ≠ g6) (x0 x1 x2 x3 x4 x5 x6 x7 x8 : Value) : (((((((((w.setCell ⟨g6, 0, none⟩ x0).setCell ⟨g6, 1, none⟩ x1).setCell ⟨g6, 2, none⟩ x2).setCell ⟨g6, 3, none⟩ x3).setCell ⟨g6, 4, none⟩ x4).setCell ⟨g6, 5, none⟩ x5).setCell ⟨g6, 6, none⟩ x6).setCell ⟨g6, 7, none⟩ x7).setCell ⟨g6, 8, none⟩ x8).heap[g]? = w.heap[g]? := by
  simp [World.setCell, Array.getElem?_modify, Ne.symm h]
theorem set9_size {w : World} {g6 : Nat} (x0 x1 x2 x3 x4 x5 x6 x7 x8 : Value) : w.heap.size = (((((((((w.setCell ⟨g6, 0, none⟩ x0).setCell ⟨g6, 1, none⟩ x1).setCell ⟨g6, 2, none⟩ x2).setCell ⟨g6, 3, none⟩ x3).setCell ⟨g6, 4, none⟩ x4).setCell ⟨g6, 5, none⟩ x5).setCell ⟨g6, 6, none⟩ x6).setCell ⟨g6, 7, none⟩ x7).setCell ⟨g6, 8, none⟩ x8).heap.size := by
  simp [World.setCell]
theorem set9_below {w0 w : World} {g6 : Nat} (hb : Below w0.heap.size w0 w) (hg : w0.heap.size ≤ g6) (x0 x1 x2 x3 x4 x5 x6 x7 x8 : Value) : Below w0.heap.size w0 (((((((((w.setCell ⟨g6, 0, none⟩ x0).setCell ⟨g6, 1, none⟩ x1).setCell ⟨g6, 2, none⟩ x2).setCell ⟨g6, 3, none⟩ x3).setCell ⟨g6, 4, none⟩ x4).setCell ⟨g6, 5, none⟩ x5).setCell ⟨g6, 6, none⟩ x6).setCell ⟨g6, 7, none⟩ x7).setCell ⟨g6, 8, none⟩ x8) :=
  ((((((((hb.setCell (p := ⟨g6, 0, none⟩) hg x0).setCell (p := ⟨g6, 1, none⟩) hg x1).setCell (p := ⟨g6, 2, none⟩) hg x2).setCell (p := ⟨g6, 3, none⟩) hg x3).setCell (p := ⟨g6, 4, none⟩) hg x4).setCell (p := ⟨g6, 5, none⟩) hg x5).setCell (p := ⟨g6, 6, none⟩) hg x6).setCell (p := ⟨g6, 7, none⟩) hg x7).setCell (p := ⟨g6, 8, none⟩) hg x8
/-- What is to be shown of the nine cells of the answer. -/
def Pd9 (w : World) (v : PdV) (dis : Prop) (e : Ending) (w' : World) : Prop := PdPost w.heap.size v w e w' ∧ (dis → Dis3 v e)
theorem pd_zero {w w' : World} {dis : Prop} (hb : Below w.heap.size w w') : Pd9 w zeroPd dis (.returned (.agg #[.int .i64 0, .string ⟨#[]⟩, .string ⟨#[]⟩, .int .i64 0, .int .i64 0, .int .i64 0, .slice none 0 0, .slice none 0 0, .slice none 0 0])) w' := by
  refine ⟨⟨.slice none 0 0, .slice none 0 0, .slice none 0 0, rfl, .inl ⟨rfl, rfl⟩, .inl ⟨rfl, rfl⟩, .inl ⟨rfl, rfl⟩, hb⟩, fun _ vp vs vd b he => ?_⟩
  simp only [pdCells, zeroPd, Ending.returned.injEq, Value.agg.injEq, Array.mk.injEq, List.cons.injEq, and_true, true_and] at he
  obtain ⟨rfl, rfl, rfl⟩ := he
  exact ⟨fun h => absurd h (by simp [blkOf]), fun h => absurd h (by simp [blkOf])⟩
theorem pd_fin {w w5 : World} {g6 : Nat} {v : PdV} {vp vs vd : Value} {dis : Prop} {B : Nat} (hp : Pks B vp v.pk w5) (hs : Pks B vs v.st w5) (hd : Sds B vd v.sd w5) (hB : g6 < B) (hg : w.heap.size ≤ g6) (hb : Below w.heap.size w w5) (hdis : dis → ∀ b, blkOf vp b → ¬ blkOf vs b) (x0 x1 x2 x3 x4 x5 x6 x7 x8 : Value) : Pd9 w v dis (.returned (.agg (pdCells v vp vs vd))) (((((((((w5.setCell ⟨g6, 0, none⟩ x0).setCell ⟨g6, 1, none⟩ x1).setCell ⟨g6, 2, none⟩ x2).setCell ⟨g6, 3, none⟩ x3).setCell ⟨g6, 4, none⟩ x4).setCell ⟨g6, 5, none⟩ x5).setCell ⟨g6, 6, none⟩ x6).setCell ⟨g6, 7, none⟩ x7).setCell ⟨g6, 8, none⟩ x8) := by
  have hk : ∀ b, B ≤ b → (((((((((w5.setCell ⟨g6, 0, none⟩ x0).setCell ⟨g6, 1, none⟩ x1).setCell ⟨g6, 2, none⟩ x2).setCell ⟨g6, 3, none⟩ x3).setCell ⟨g6, 4, none⟩ x4).setCell ⟨g6, 5, none⟩ x5).setCell ⟨g6, 6, none⟩ x6).setCell ⟨g6, 7, none⟩ x7).setCell ⟨g6, 8, none⟩ x8).heap[b]? = w5.heap[b]? := fun b hb => set9_other (by omega) x0 x1 x2 x3 x4 x5 x6 x7 x8
  have hsz : w5.heap.size ≤ (((((((((w5.setCell ⟨g6, 0, none⟩ x0).setCell ⟨g6, 1, none⟩ x1).setCell ⟨g6, 2, none⟩ x2).setCell ⟨g6, 3, none⟩ x3).setCell ⟨g6, 4, none⟩ x4).setCell ⟨g6, 5, none⟩ x5).setCell ⟨g6, 6, none⟩ x6).setCell ⟨g6, 7, none⟩ x7).setCell ⟨g6, 8, none⟩ x8).heap.size := Nat.le_of_eq (set9_size x0 x1 x2 x3 x4 x5 x6 x7 x8)
  have hp' := (hp.keep hsz (fun b hb => hk b (hp.blk hb).2)).mono (C := w.heap.size) (by omega)
  have hs' := (hs.keep hsz (fun b hb => hk b (hs.blk hb).2)).mono (C := w.heap.size) (by omega)
  have hd' := (hd.keep hsz (fun b hb => hk b (hd.blk hb).2)).mono (C := w.heap.size) (by omega)
  refine ⟨⟨vp, vs, vd, rfl, hp', hs', hd', set9_below hb hg x0 x1 x2 x3 x4 x5 x6 x7 x8⟩, fun hdd vp' vs' vd' b he => ?_⟩
  simp only [pdCells, Ending.returned.injEq, Value.agg.injEq, Array.mk.injEq, List.cons.injEq, and_true, true_and] at he
  obtain ⟨rfl, rfl, rfl⟩ := he
  exact ⟨fun h => ⟨hdis hdd b h, sd_pk hp hd b h⟩, fun h => sd_pk hs hd b h⟩
set_option maxHeartbeats 8000000 in
set_option maxRecDepth 100000 in
theorem implPaidOfNo (g n cap : Nat) (bs : List BlkV) (x y : Int) (w : World) (h : BlksS g n cap bs w) (hc : ¬ inPd (ptsOf bs) x y) (hK : RowG w shaK) (hP : TabP w) (hE : ErrT w) :
    Calls Tryz.prog 7 #[.slice (some ⟨g, 0, none⟩) n cap, .int .i64 x, .int .i64 y] w fun e w' => Pd9 w zeroPd True e w' := by
  have L0 : Hid (Below w.heap.size w (w.alloc (.cells #[.int .i64 0, .string ⟨#[]⟩, .string ⟨#[]⟩, .int .i64 0, .int .i64 0, .int .i64 0, .slice none 0 0, .slice none 0 0, .slice none 0 0] 31))) := (Below.refl _ w).alloc (Nat.le_refl _) _
  have hok := implChainOk g n cap bs _ (h.b.below L0.out) (hK.below L0.out hK.lt) (TabP.below hP L0.out (Nat.le_refl _)) (hE.below L0.out hE.lt)
  have T0 : Hid (CBk (w.alloc (.cells #[.int .i64 0, .string ⟨#[]⟩, .string ⟨#[]⟩, .int .i64 0, .int .i64 0, .int .i64 0, .slice none 0 0, .slice none 0 0, .slice none 0 0] 31)) w.heap.size 31 #[.int .i64 0, .string ⟨#[]⟩, .string ⟨#[]⟩, .int .i64 0, .int .i64 0, .int .i64 0, .slice none 0 0, .slice none 0 0, .slice none 0 0]) := CBk.new w _ _
  have HN : Hid (n = bs.length ∧ n ≤ 1048576) := ⟨h.b.len, h.b.max⟩
  have HA : Hid (AtBlk w g bs) := h.b.at_
  have HIT : Hid (∀ k, k < bs.length → (bs.getD k default).n = (bs.getD k default).ss.length) := fun k hk => (h.b.items _ (blk_mem hk)).2
  have HC : Hid (okP (ptsOf bs) = true → ∀ X : Nat, x = (X : Int) → X < n → ¬ y < 0 → ¬ y < ((bs.getD X default).n : Int)) := fun h1 X h2 h3 h4 h5 => hc ⟨h1, ⟨by omega, by rw [pd_len]; have := h.b.len; omega⟩, by omega, by
    have hX : X < bs.length := by have := h.b.len; omega
    have e1 : x.toNat = X := by omega
    rw [e1, pd_at hX]
    show y < ((bs.getD X default).ss.length : Int)
    rw [← (h.b.items _ (blk_mem hX)).2]
    exact h5⟩
  have HQ : Hid (∀ w', Below w.heap.size w w' → Pd9 w zeroPd True (.returned (.agg #[.int .i64 0, .string ⟨#[]⟩, .string ⟨#[]⟩, .int .i64 0, .int .i64 0, .int .i64 0, .slice none 0 0, .slice none 0 0, .slice none 0 0])) w') := fun w' hb => pd_zero hb
  generalize Pd9 w zeroPd True = Q at HQ ⊢
  obtain ⟨g6, hg6⟩ : ∃ g6, g6 = w.heap.size := ⟨_, rfl⟩
  have HG6 : Hid (w.heap.size ≤ g6) := Nat.le_of_eq hg6.symm
  clear h hc hK hP hE
  go_enter Tryz.func7, Tryz.ntmps7
  go_wp2_with fail
  rw [← hg6] at T0 ⊢
  clear hg6
  refine hok.mono ?_
  rintro e w1 ⟨rfl, b1⟩
  have B1 : Hid (Below w.heap.size w w1) := L0.out.trans (b1.mono L0.out.size)
  have T1 : Hid (CBk w1 g6 31 #[.int .i64 0, .string ⟨#[]⟩, .string ⟨#[]⟩, .int .i64 0, .int .i64 0, .int .i64 0, .slice none 0 0, .slice none 0 0, .slice none 0 0]) := T0.out.call b1
  have TE : Hid (CBk (((((((((w1.setCell ⟨g6, 0, none⟩ (.int .i64 0)).setCell ⟨g6, 1, none⟩ (.string ⟨#[]⟩)).setCell ⟨g6, 2, none⟩ (.string ⟨#[]⟩)).setCell ⟨g6, 3, none⟩ (.int .i64 0)).setCell ⟨g6, 4, none⟩ (.int .i64 0)).setCell ⟨g6, 5, none⟩ (.int .i64 0)).setCell ⟨g6, 6, none⟩ (.slice none 0 0)).setCell ⟨g6, 7, none⟩ (.slice none 0 0)).setCell ⟨g6, 8, none⟩ (.slice none 0 0)) g6 31 #[.int .i64 0, .string ⟨#[]⟩, .string ⟨#[]⟩, .int .i64 0, .int .i64 0, .int .i64 0, .slice none 0 0, .slice none 0 0, .slice none 0 0]) := set9_blk T1.out (.int .i64 0) (.string ⟨#[]⟩) (.string ⟨#[]⟩) (.int .i64 0) (.int .i64 0) (.int .i64 0) (.slice none 0 0) (.slice none 0 0) (.slice none 0 0)
  have HQF : Hid (Q (.returned (.agg #[.int .i64 0, .string ⟨#[]⟩, .string ⟨#[]⟩, .int .i64 0, .int .i64 0, .int .i64 0, .slice none 0 0, .slice none 0 0, .slice none 0 0])) (((((((((w1.setCell ⟨g6, 0, none⟩ (.int .i64 0)).setCell ⟨g6, 1, none⟩ (.string ⟨#[]⟩)).setCell ⟨g6, 2, none⟩ (.string ⟨#[]⟩)).setCell ⟨g6, 3, none⟩ (.int .i64 0)).setCell ⟨g6, 4, none⟩ (.int .i64 0)).setCell ⟨g6, 5, none⟩ (.int .i64 0)).setCell ⟨g6, 6, none⟩ (.slice none 0 0)).setCell ⟨g6, 7, none⟩ (.slice none 0 0)).setCell ⟨g6, 8, none⟩ (.slice none 0 0))) := HQ.out _ (set9_below B1.out HG6.out (.int .i64 0) (.string ⟨#[]⟩) (.string ⟨#[]⟩) (.int .i64 0) (.int .i64 0) (.int .i64 0) (.slice none 0 0) (.slice none 0 0) (.slice none 0 0))
  obtain ⟨e0, e1, e2, e3, e4, e5, e6, e7, e8⟩ := T1.out.nineP
  obtain ⟨f0, f1, f2, f3, f4, f5, f6, f7, f8⟩ := T1.out.nineZ
  clear hok b1 T0 L0 HQ T1
  cases hokk : okP (ptsOf bs) with
  | false =>
    clear HC
    go_wp2_with fail
    exact bodyPost_ret (results_cell_row (p := 6) rfl _ _ g6 31 #[.int .i64 0, .string ⟨#[]⟩, .string ⟨#[]⟩, .int .i64 0, .int .i64 0, .int .i64 0, .slice none 0 0, .slice none 0 0, .slice none 0 0] (0, 0) _ rfl TE.out Tryz.underlying31 rfl (by kernel_rfl)) rfl HQF.out
  | true =>
    have HC1 : Hid (∀ X : Nat, x = (X : Int) → X < n → ¬ y < 0 → ¬ y < ((bs.getD X default).n : Int)) := fun X h1 h2 h3 => by have h4 := HC.out hokk X h1 h2 (by omega); omega
    clear HC hokk
    by_cases hx : x < 0
    · clear HC1
      go_wp2_with fail
      exact bodyPost_ret (results_cell_row (p := 6) rfl _ _ g6 31 #[.int .i64 0, .string ⟨#[]⟩, .string ⟨#[]⟩, .int .i64 0, .int .i64 0, .int .i64 0, .slice none 0 0, .slice none 0 0, .slice none 0 0] (0, 0) _ rfl TE.out Tryz.underlying31 rfl (by kernel_rfl)) rfl HQF.out
    · obtain ⟨X, hX⟩ : ∃ X : Nat, x = (X : Int) := ⟨x.toNat, by omega⟩
      subst hX
      by_cases hxn : X < n
      · by_cases hy : y < 0
        · have lx1 : (X : Int) < (n : Int) := by omega
          have hx3 : ¬ n ≤ X := by omega
          clear HC1
          go_wp2_with fail
          exact bodyPost_ret (results_cell_row (p := 6) rfl _ _ g6 31 #[.int .i64 0, .string ⟨#[]⟩, .string ⟨#[]⟩, .int .i64 0, .int .i64 0, .int .i64 0, .slice none 0 0, .slice none 0 0, .slice none 0 0] (0, 0) _ rfl TE.out Tryz.underlying31 rfl (by kernel_rfl)) rfl HQF.out
        · have hy2 := HC1.out X rfl hxn (by omega)
          have hXl : X < bs.length := by rw [← HN.out.1]; exact hxn
          have c5 := AtBlk.c5 (HA.out.below B1.out HA.out.1) X hXl
          have lx1 : (X : Int) < (n : Int) := by omega
          have lx0 : (0 : Int) ≤ (X : Int) := by omega
          have hx3 : ¬ n ≤ X := by omega
          generalize bs.getD X default = bb at c5 hy2
          clear HC1 HIT hXl
          go_wp2_with fail
          exact bodyPost_ret (results_cell_row (p := 6) rfl _ _ g6 31 #[.int .i64 0, .string ⟨#[]⟩, .string ⟨#[]⟩, .int .i64 0, .int .i64 0, .int .i64 0, .slice none 0 0, .slice none 0 0, .slice none 0 0] (0, 0) _ rfl TE.out Tryz.underlying31 rfl (by kernel_rfl)) rfl HQF.out
      · have lx1 : ¬ (X : Int) < (n : Int) := by omega
        have hx3 : n ≤ X := by omega
        clear HC1
        go_wp2_with fail
        exact bodyPost_ret (results_cell_row (p := 6) rfl _ _ g6 31 #[.int .i64 0, .string ⟨#[]⟩, .string ⟨#[]⟩, .int .i64 0, .int .i64 0, .int .i64 0, .slice none 0 0, .slice none 0 0, .slice none 0 0] (0, 0) _ rfl TE.out Tryz.underlying31 rfl (by kernel_rfl)) rfl HQF.out
end Go.Proofs.YtoifgpmbeicmnaaGreatDoor

