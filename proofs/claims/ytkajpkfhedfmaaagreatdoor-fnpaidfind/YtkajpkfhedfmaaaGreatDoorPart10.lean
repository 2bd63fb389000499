/-
  Texts that the last part needs, joined.
-/
import Derived.Test.YtkajpkfhedfmaaaGreatDoorPart1
import Derived.Test.YtkajpkfhedfmaaaGreatDoorPart2
import Derived.Test.YtkajpkfhedfmaaaGreatDoorPart3
import Derived.Test.YtkajpkfhedfmaaaGreatDoorPart4
import Derived.Test.YtkajpkfhedfmaaaGreatDoorPart5
import Derived.Test.YtkajpkfhedfmaaaGreatDoorPart6
import Derived.Test.YtkajpkfhedfmaaaGreatDoorPart7
import Derived.Test.YtkajpkfhedfmaaaGreatDoorPart8
import Derived.Test.YtkajpkfhedfmaaaGreatDoorPart9
import Derived.WalkKit
import Derived.Below
import Derived.ProofKit
import Derived.OpenShut
import Derived.ShutString
import Derived.ChangeOld
import Derived.ChangeArms
import Derived.WideShapes
import Derived.BigRegion
import Derived.Deep.RegionWith
import Derived.Deep.OwnRows
import Derived.Laws.Rows
import Derived.Lib.AppendIntMem
import Derived.Lib.SmallJoins
set_option linter.unusedVariables false
namespace Go.Proofs.YtkajpkfhedfmaaaGreatDoor
open Go.RowKit Go.Deep

/-- A list of heads in memory, as the specification needs it. -/
structure ChainSp (g n cap : Nat) (l : List HeadV) (w : World) : Prop where
  at_ : AtHead w g l
  len : n = l.length
  max : n ≤ 1048576
  cap : n ≤ cap
  wf : ∀ i, i < l.length → wfHead (l.getD i default)
theorem ChainSp.below {g n cap : Nat} {l : List HeadV} {w w' : World} (h : ChainSp g n cap l w) (hb : Below w.heap.size w w') : ChainSp g n cap l w' :=
  ⟨h.at_.below hb h.at_.1, h.len, h.max, h.cap, h.wf⟩
theorem ChainSp.ahead {g n cap : Nat} {l : List HeadV} {w : World} (h : ChainSp g n cap l w) {k : Nat} (hk : k < n) (hs : ∀ q, q < k → stepC l q = true) : AheadS g k (l.take k) w :=
  ⟨h.at_.take k, by rw [List.length_take, ← h.len]; omega, by have := h.max; omega, take_ok hs⟩
theorem ChainSp.whole {g n cap : Nat} {l : List HeadV} {w : World} (h : ChainSp g n cap l w) (hc : chainCk l = 0) : AheadS g n l w := ⟨h.at_, h.len, h.max, ck_ok hc⟩
theorem step_far {l : List HeadV} {k : Nat} (hk : k < l.length) (h : 20 ≤ k) : stepC l k = false := by
  rw [stepC, standsB, decide_eq_false (by rw [List.length_take]; omega), Bool.and_false]
theorem step_near {l : List HeadV} {k : Nat} (hk : k < l.length) (h : k < 20) : stepC l k = fitsB (l.take k) (l.getD k default) := by
  rw [stepC, standsB, decide_eq_true (by rw [List.length_take]; omega), Bool.and_true]

set_option linter.unusedSimpArgs false in
set_option maxHeartbeats 8000000 in
set_option maxRecDepth 100000 in
theorem specL4Check (g n cap : Nat) (l : List HeadV) (w : World) (hC : ChainSp g n cap l w) :
    Calls Tryz.prog 45 #[.slice (some ⟨g, 0, none⟩) n cap] w fun e w' => e = .returned (.int .i64 (chainCk l : Int)) ∧ Below w.heap.size w w' := by
  have HC : Hid (ChainSp g n cap l w) := hC
  have hm := hC.max
  have hcap := hC.cap
  have HGO : Hid ((∀ q, q < n → stepC l q = true) → chainCk l = 0) := fun hq => ck_good (by rw [← hC.len]; exact hq)
  have HBA : Hid (∀ k, k < n → stepC l k = false → (∀ q, q < k → stepC l q = true) → chainCk l = k + 1) := fun k hk hf hq => ck_bad (by rw [← hC.len]; exact hk) hf hq
  generalize chainCk l = R at HGO HBA ⊢
  clear hC
  go_enter Tryz.func45, Tryz.ntmps45
  go_wp2_with fail
  go_loopw [3] (fun i wr => ∃ k : Nat, k ≤ n ∧ i = .int .i64 (k : Int) ∧ Hid (Below w.heap.size w wr) ∧ Hid (∀ q, q < k → stepC l q = true)) (fun i _ => n - (intOf i).toNat)
  case atStart => exact ⟨0, by omega, rfl, Below.refl _ _, fun q hq => by omega⟩
  case round =>
    obtain ⟨k, hk, rfl, HB, HQ⟩ := hrel
    by_cases hlt : k < n
    · have HCr : Hid (ChainSp g n cap l wr) := HC.out.below HB.out
      have hkl : k < l.length := by rw [← HC.out.len]; exact hlt
      have c0 := AtHead.c0 HCr.out.at_ k hkl
      have c1 := AtHead.c1 HCr.out.at_ k hkl
      have c2 := AtHead.c2 HCr.out.at_ k hkl
      have c3 := AtHead.c3 HCr.out.at_ k hkl
      have c4 := AtHead.c4 HCr.out.at_ k hkl
      have hgl := HCr.out.at_.1
      have lk : (k : Int) < (n : Int) := by omega
      have lk0 : (0 : Int) ≤ (k : Int) := by omega
      have lkc : (k : Int) ≤ (cap : Int) := by omega
      have hc0 : ¬ cap = 0 := by omega
      have hwk : IntKind.i64.wrap ((k : Int) + 1) = (k : Int) + 1 := by rw [IntKind.wrap_i64]; omega
      have HB2 := HBA.out k hlt
      have HBk : Hid (stepC l k = false → R = k + 1) := fun hf => HB2 hf HQ.out
      have HQ2 : Hid (stepC l k = true → ∀ q, q < k + 1 → stepC l q = true) := by
        intro h q hq
        rcases Nat.lt_or_ge q k with h' | h'
        · exact HQ.out q h'
        · obtain rfl : q = k := by omega
          exact h
      have HFA : Hid (20 ≤ k → stepC l k = false) := fun h => step_far hkl h
      have HNE : Hid (k < 20 → stepC l k = fitsB (l.take k) (l.getD k default)) := fun h => step_near hkl h
      have hft := fun (w' : World) (hb : Below wr.heap.size wr w') => specL4Fits g k cap (l.take k) (l.getD k default) w' ((HCr.out.below hb).ahead hlt HQ.out) (HCr.out.wf k hkl).1 (HCr.out.wf k hkl).2
      clear hkl HB2 HGO HBA HQ
      generalize fitsB (l.take k) (l.getD k default) = b at hft HNE
      generalize stepC l k = sb at HBk HQ2 HFA HNE
      generalize l.getD k default = h at c0 c1 c2 c3 c4 hft
      unfold headVal at hft
      have HK1 : Hid (k + 1 ≤ n) := hlt
      have hheld : ∀ w1 : World, Below wr.heap.size wr.drew w1 → (fun w' => w'.cell? ⟨g, k * 5, none⟩ = some (.string h.prev) ∧ w'.cell? ⟨g, k * 5 + 1, none⟩ = some (.string h.root) ∧ w'.cell? ⟨g, k * 5 + 2, none⟩ = some (.int .i64 h.time) ∧ w'.cell? ⟨g, k * 5 + 3, none⟩ = some (.int .i64 h.diff) ∧ w'.cell? ⟨g, k * 5 + 4, none⟩ = some (.int .i64 h.nonce)) w1 := fun w' hb => ⟨(hb.cell (p := ⟨g, k * 5, none⟩) hgl).trans c0, (hb.cell (p := ⟨g, k * 5 + 1, none⟩) hgl).trans c1, (hb.cell (p := ⟨g, k * 5 + 2, none⟩) hgl).trans c2, (hb.cell (p := ⟨g, k * 5 + 3, none⟩) hgl).trans c3, (hb.cell (p := ⟨g, k * 5 + 4, none⟩) hgl).trans c4⟩
      by_cases h20 : k < 20
      · have hge : decide ((20 : Int) ≤ (k : Int)) = false := decide_eq_false (by omega)
        obtain rfl : sb = b := HNE.out h20
        have hbd : Below wr.heap.size wr wr.drew := (Below.refl _ _).drew
        cases sb with
        | false =>
          have HV : Hid (R = k + 1) := HBk.out rfl
          clear HBk HQ2 HFA HNE h20 hlt hk lkc
          have lkc : (k : Int) ≤ (cap : Int) := by omega
          go_wp2_with fail
          refine wp_region_noPanic ?_
          refine wp_region_held_drew (S := fun w' => w'.cell? ⟨g, k * 5, none⟩ = some (.string h.prev) ∧ w'.cell? ⟨g, k * 5 + 1, none⟩ = some (.string h.root) ∧ w'.cell? ⟨g, k * 5 + 2, none⟩ = some (.int .i64 h.time) ∧ w'.cell? ⟨g, k * 5 + 3, none⟩ = some (.int .i64 h.diff) ∧ w'.cell? ⟨g, k * 5 + 4, none⟩ = some (.int .i64 h.nonce)) (by kernel_rfl) (⟨c0, c1, c2, c3, c4⟩) (fun hHeld => ?_)
          refine takeL 0 (v := ?_) rfl (by kernel_rfl) (by kernel_rfl) (by kernel_rfl) (fun _ _ _ h => h) (by kernel_rfl) ?_ (by assumption) ?_
          rotate_left
          · intro w hSw; (try dsimp only at hSw); first | (go_simp; done) | (go_simp; with_reducible rfl)
          try simp only [Act.put, List.setIfInBounds_toArray, List.set_cons_zero, List.set_cons_succ]
          refine takeL 1 (v := ?_) rfl (by kernel_rfl) (by kernel_rfl) (by kernel_rfl) (fun _ _ _ h => h) (by kernel_rfl) ?_ (by assumption) ?_
          rotate_left
          · intro w hSw; (try dsimp only at hSw); first | (go_simp; done) | (go_simp; with_reducible rfl)
          try simp only [Act.put, List.setIfInBounds_toArray, List.set_cons_zero, List.set_cons_succ]
          refine takeL 2 (v := ?_) rfl (by kernel_rfl) (by kernel_rfl) (by kernel_rfl) (fun _ _ _ h => h) (by kernel_rfl) ?_ (by assumption) ?_
          rotate_left
          · intro w hSw; (try dsimp only at hSw); first | (go_simp; done) | (go_simp; with_reducible rfl)
          try simp only [Act.put, List.setIfInBounds_toArray, List.set_cons_zero, List.set_cons_succ]
          refine takeL 3 (v := ?_) rfl (by kernel_rfl) (by kernel_rfl) (by kernel_rfl) (fun _ _ _ h => h) (by kernel_rfl) ?_ (by assumption) ?_
          rotate_left
          · intro w hSw; (try dsimp only at hSw); first | (go_simp; done) | (go_simp; with_reducible rfl)
          try simp only [Act.put, List.setIfInBounds_toArray, List.set_cons_zero, List.set_cons_succ]
          refine takeL 4 (v := ?_) rfl (by kernel_rfl) (by kernel_rfl) (by kernel_rfl) (fun _ _ _ h => h) (by kernel_rfl) ?_ (by assumption) ?_
          rotate_left
          · intro w hSw; (try dsimp only at hSw); first | (go_simp; done) | (go_simp; with_reducible rfl)
          try simp only [Act.put, List.setIfInBounds_toArray, List.set_cons_zero, List.set_cons_succ]
          refine takeL 5 (v := ?_) rfl (by kernel_rfl) (by kernel_rfl) (by kernel_rfl) (fun _ _ _ h => h) (by kernel_rfl) ?_ (by assumption) ?_
          rotate_left
          · intro w hSw; (try dsimp only at hSw); first | (go_simp; done) | (go_simp; with_reducible rfl)
          try simp only [Act.put, List.setIfInBounds_toArray, List.set_cons_zero, List.set_cons_succ]
          refine takeL 6 (v := ?_) rfl (by kernel_rfl) (by kernel_rfl) (by kernel_rfl) (fun _ _ _ h => h) (by kernel_rfl) ?_ (by assumption) ?_
          rotate_left
          · intro w hSw; (try dsimp only at hSw); first | (go_simp; done) | (go_simp; with_reducible rfl)
          try simp only [Act.put, List.setIfInBounds_toArray, List.set_cons_zero, List.set_cons_succ]
          refine takeL 7 (v := ?_) rfl (by kernel_rfl) (by kernel_rfl) (by kernel_rfl) (fun _ _ _ h => h) (by kernel_rfl) ?_ (by assumption) ?_
          rotate_left
          · intro w hSw; (try dsimp only at hSw); first | (go_simp; done) | (go_simp; with_reducible rfl)
          try simp only [Act.put, List.setIfInBounds_toArray, List.set_cons_zero, List.set_cons_succ]
          refine takeL 8 (v := ?_) rfl (by kernel_rfl) (by kernel_rfl) (by kernel_rfl) (fun _ _ _ h => h) (by kernel_rfl) ?_ (by assumption) ?_
          rotate_left
          · intro w hSw; (try dsimp only at hSw); first | (go_simp; done) | (go_simp; with_reducible rfl)
          try simp only [Act.put, List.setIfInBounds_toArray, List.set_cons_zero, List.set_cons_succ]
          refine takeL 9 (v := ?_) rfl (by kernel_rfl) (by kernel_rfl) (by kernel_rfl) (fun _ _ _ h => h) (by kernel_rfl) ?_ (by assumption) ?_
          rotate_left
          · intro w hSw; (try dsimp only at hSw); first | (go_simp; done) | (go_simp; with_reducible rfl)
          try simp only [Act.put, List.setIfInBounds_toArray, List.set_cons_zero, List.set_cons_succ]
          refine callL 10 rfl (by kernel_rfl) (fun K hK => ?_)
          go_simp
          refine (hft _ hbd).mono ?_
          rintro e w1 ⟨rfl, b1⟩
          have HB1 : Hid (Below w.heap.size w w1) := HB.out.drew.trans (b1.mono HB.out.size)
          have HH := hheld _ b1
          go_wp2_with fail
          refine hK.out _ _ ?_ (fun hHeld => ?_)
          · exact HH
          clear hK K
          try simp only [Act.put, List.setIfInBounds_toArray, List.set_cons_zero, List.set_cons_succ]
          refine takeL 11 (v := ?_) rfl (by kernel_rfl) (by kernel_rfl) (by kernel_rfl) (fun _ _ _ h => h) (by kernel_rfl) ?_ (by assumption) ?_
          rotate_left
          · intro w hSw; (try dsimp only at hSw); first | (go_simp; done) | (go_simp; with_reducible rfl)
          try simp only [Act.put, List.setIfInBounds_toArray, List.set_cons_zero, List.set_cons_succ]
          refine takeL 12 (v := ?_) rfl (by kernel_rfl) (by kernel_rfl) (by kernel_rfl) (fun _ _ _ h => h) (by kernel_rfl) ?_ (by assumption) ?_
          rotate_left
          · intro w hSw; (try dsimp only at hSw); first | (go_simp; done) | (go_simp; with_reducible rfl)
          try simp only [Act.put, List.setIfInBounds_toArray, List.set_cons_zero, List.set_cons_succ]
          refine wpAnyH_done (by kernel_rfl) ?_ _
          refine NoPanic.normal ?_
          go_wp2_with fail
          go_ret
          exact ⟨by rw [HV.out]; rfl, HB1.out⟩
        | true =>
          have HQ3 : Hid (∀ q, q < k + 1 → stepC l q = true) := HQ2.out rfl
          clear HBk HQ2 HFA HNE h20 hlt hk lkc
          have lkc : (k : Int) ≤ (cap : Int) := by omega
          go_wp2_with fail
          refine wp_region_noPanic ?_
          refine wp_region_held_drew (S := fun w' => w'.cell? ⟨g, k * 5, none⟩ = some (.string h.prev) ∧ w'.cell? ⟨g, k * 5 + 1, none⟩ = some (.string h.root) ∧ w'.cell? ⟨g, k * 5 + 2, none⟩ = some (.int .i64 h.time) ∧ w'.cell? ⟨g, k * 5 + 3, none⟩ = some (.int .i64 h.diff) ∧ w'.cell? ⟨g, k * 5 + 4, none⟩ = some (.int .i64 h.nonce)) (by kernel_rfl) (⟨c0, c1, c2, c3, c4⟩) (fun hHeld => ?_)
          refine takeL 0 (v := ?_) rfl (by kernel_rfl) (by kernel_rfl) (by kernel_rfl) (fun _ _ _ h => h) (by kernel_rfl) ?_ (by assumption) ?_
          rotate_left
          · intro w hSw; (try dsimp only at hSw); first | (go_simp; done) | (go_simp; with_reducible rfl)
          try simp only [Act.put, List.setIfInBounds_toArray, List.set_cons_zero, List.set_cons_succ]
          refine takeL 1 (v := ?_) rfl (by kernel_rfl) (by kernel_rfl) (by kernel_rfl) (fun _ _ _ h => h) (by kernel_rfl) ?_ (by assumption) ?_
          rotate_left
          · intro w hSw; (try dsimp only at hSw); first | (go_simp; done) | (go_simp; with_reducible rfl)
          try simp only [Act.put, List.setIfInBounds_toArray, List.set_cons_zero, List.set_cons_succ]
          refine takeL 2 (v := ?_) rfl (by kernel_rfl) (by kernel_rfl) (by kernel_rfl) (fun _ _ _ h => h) (by kernel_rfl) ?_ (by assumption) ?_
          rotate_left
          · intro w hSw; (try dsimp only at hSw); first | (go_simp; done) | (go_simp; with_reducible rfl)
          try simp only [Act.put, List.setIfInBounds_toArray, List.set_cons_zero, List.set_cons_succ]
          refine takeL 3 (v := ?_) rfl (by kernel_rfl) (by kernel_rfl) (by kernel_rfl) (fun _ _ _ h => h) (by kernel_rfl) ?_ (by assumption) ?_
          rotate_left
          · intro w hSw; (try dsimp only at hSw); first | (go_simp; done) | (go_simp; with_reducible rfl)
          try simp only [Act.put, List.setIfInBounds_toArray, List.set_cons_zero, List.set_cons_succ]
          refine takeL 4 (v := ?_) rfl (by kernel_rfl) (by kernel_rfl) (by kernel_rfl) (fun _ _ _ h => h) (by kernel_rfl) ?_ (by assumption) ?_
          rotate_left
          · intro w hSw; (try dsimp only at hSw); first | (go_simp; done) | (go_simp; with_reducible rfl)
          try simp only [Act.put, List.setIfInBounds_toArray, List.set_cons_zero, List.set_cons_succ]
          refine takeL 5 (v := ?_) rfl (by kernel_rfl) (by kernel_rfl) (by kernel_rfl) (fun _ _ _ h => h) (by kernel_rfl) ?_ (by assumption) ?_
          rotate_left
          · intro w hSw; (try dsimp only at hSw); first | (go_simp; done) | (go_simp; with_reducible rfl)
          try simp only [Act.put, List.setIfInBounds_toArray, List.set_cons_zero, List.set_cons_succ]
          refine takeL 6 (v := ?_) rfl (by kernel_rfl) (by kernel_rfl) (by kernel_rfl) (fun _ _ _ h => h) (by kernel_rfl) ?_ (by assumption) ?_
          rotate_left
          · intro w hSw; (try dsimp only at hSw); first | (go_simp; done) | (go_simp; with_reducible rfl)
          try simp only [Act.put, List.setIfInBounds_toArray, List.set_cons_zero, List.set_cons_succ]
          refine takeL 7 (v := ?_) rfl (by kernel_rfl) (by kernel_rfl) (by kernel_rfl) (fun _ _ _ h => h) (by kernel_rfl) ?_ (by assumption) ?_
          rotate_left
          · intro w hSw; (try dsimp only at hSw); first | (go_simp; done) | (go_simp; with_reducible rfl)
          try simp only [Act.put, List.setIfInBounds_toArray, List.set_cons_zero, List.set_cons_succ]
          refine takeL 8 (v := ?_) rfl (by kernel_rfl) (by kernel_rfl) (by kernel_rfl) (fun _ _ _ h => h) (by kernel_rfl) ?_ (by assumption) ?_
          rotate_left
          · intro w hSw; (try dsimp only at hSw); first | (go_simp; done) | (go_simp; with_reducible rfl)
          try simp only [Act.put, List.setIfInBounds_toArray, List.set_cons_zero, List.set_cons_succ]
          refine takeL 9 (v := ?_) rfl (by kernel_rfl) (by kernel_rfl) (by kernel_rfl) (fun _ _ _ h => h) (by kernel_rfl) ?_ (by assumption) ?_
          rotate_left
          · intro w hSw; (try dsimp only at hSw); first | (go_simp; done) | (go_simp; with_reducible rfl)
          try simp only [Act.put, List.setIfInBounds_toArray, List.set_cons_zero, List.set_cons_succ]
          refine callL 10 rfl (by kernel_rfl) (fun K hK => ?_)
          go_simp
          refine (hft _ hbd).mono ?_
          rintro e w1 ⟨rfl, b1⟩
          have HB1 : Hid (Below w.heap.size w w1) := HB.out.drew.trans (b1.mono HB.out.size)
          have HH := hheld _ b1
          go_wp2_with fail
          refine hK.out _ _ ?_ (fun hHeld => ?_)
          · exact HH
          clear hK K
          try simp only [Act.put, List.setIfInBounds_toArray, List.set_cons_zero, List.set_cons_succ]
          refine takeL 11 (v := ?_) rfl (by kernel_rfl) (by kernel_rfl) (by kernel_rfl) (fun _ _ _ h => h) (by kernel_rfl) ?_ (by assumption) ?_
          rotate_left
          · intro w hSw; (try dsimp only at hSw); first | (go_simp; done) | (go_simp; with_reducible rfl)
          try simp only [Act.put, List.setIfInBounds_toArray, List.set_cons_zero, List.set_cons_succ]
          refine takeL 12 (v := ?_) rfl (by kernel_rfl) (by kernel_rfl) (by kernel_rfl) (fun _ _ _ h => h) (by kernel_rfl) ?_ (by assumption) ?_
          rotate_left
          · intro w hSw; (try dsimp only at hSw); first | (go_simp; done) | (go_simp; with_reducible rfl)
          try simp only [Act.put, List.setIfInBounds_toArray, List.set_cons_zero, List.set_cons_succ]
          refine wpAnyH_done (by kernel_rfl) ?_ _
          refine NoPanic.normal ?_
          go_wp2_with fail
          go_roundw
          case rel => exact ⟨k + 1, HK1.out, by go_num, HB1, HQ3⟩
          case measure => have := HK1.out; simp [intOf]; omega
      · have hge : decide ((20 : Int) ≤ (k : Int)) = true := decide_eq_true (by omega)
        have HV : Hid (R = k + 1) := HBk.out (HFA.out (by omega))
        clear HBk HQ2 HFA HNE h20 hlt hk lkc
        have lkc : (k : Int) ≤ (cap : Int) := by omega
        go_wp2_with fail
        refine wp_region_noPanic ?_
        refine wp_region_held_drew (S := fun w' => w'.cell? ⟨g, k * 5, none⟩ = some (.string h.prev) ∧ w'.cell? ⟨g, k * 5 + 1, none⟩ = some (.string h.root) ∧ w'.cell? ⟨g, k * 5 + 2, none⟩ = some (.int .i64 h.time) ∧ w'.cell? ⟨g, k * 5 + 3, none⟩ = some (.int .i64 h.diff) ∧ w'.cell? ⟨g, k * 5 + 4, none⟩ = some (.int .i64 h.nonce)) (by kernel_rfl) (⟨c0, c1, c2, c3, c4⟩) (fun hHeld => ?_)
        refine takeL 0 (v := ?_) rfl (by kernel_rfl) (by kernel_rfl) (by kernel_rfl) (fun _ _ _ h => h) (by kernel_rfl) ?_ (by assumption) ?_
        rotate_left
        · intro w hSw; (try dsimp only at hSw); first | (go_simp; done) | (go_simp; with_reducible rfl)
        try simp only [Act.put, List.setIfInBounds_toArray, List.set_cons_zero, List.set_cons_succ]
        refine takeL 1 (v := ?_) rfl (by kernel_rfl) (by kernel_rfl) (by kernel_rfl) (fun _ _ _ h => h) (by kernel_rfl) ?_ (by assumption) ?_
        rotate_left
        · intro w hSw; (try dsimp only at hSw); first | (go_simp; done) | (go_simp; with_reducible rfl)
        try simp only [Act.put, List.setIfInBounds_toArray, List.set_cons_zero, List.set_cons_succ]
        refine takeL 2 (v := ?_) rfl (by kernel_rfl) (by kernel_rfl) (by kernel_rfl) (fun _ _ _ h => h) (by kernel_rfl) ?_ (by assumption) ?_
        rotate_left
        · intro w hSw; (try dsimp only at hSw); first | (go_simp; done) | (go_simp; with_reducible rfl)
        try simp only [Act.put, List.setIfInBounds_toArray, List.set_cons_zero, List.set_cons_succ]
        refine skipL 3 rfl (by kernel_rfl) (by kernel_rfl) (by kernel_rfl) (fun _ _ _ h => h) (by kernel_rfl) (by assumption) ?_
        try simp only [Act.put, List.setIfInBounds_toArray, List.set_cons_zero, List.set_cons_succ]
        refine skipL 4 rfl (by kernel_rfl) (by kernel_rfl) (by kernel_rfl) (fun _ _ _ h => h) (by kernel_rfl) (by assumption) ?_
        try simp only [Act.put, List.setIfInBounds_toArray, List.set_cons_zero, List.set_cons_succ]
        refine skipL 5 rfl (by kernel_rfl) (by kernel_rfl) (by kernel_rfl) (fun _ _ _ h => h) (by kernel_rfl) (by assumption) ?_
        try simp only [Act.put, List.setIfInBounds_toArray, List.set_cons_zero, List.set_cons_succ]
        refine skipL 6 rfl (by kernel_rfl) (by kernel_rfl) (by kernel_rfl) (fun _ _ _ h => h) (by kernel_rfl) (by assumption) ?_
        try simp only [Act.put, List.setIfInBounds_toArray, List.set_cons_zero, List.set_cons_succ]
        refine skipL 7 rfl (by kernel_rfl) (by kernel_rfl) (by kernel_rfl) (fun _ _ _ h => h) (by kernel_rfl) (by assumption) ?_
        try simp only [Act.put, List.setIfInBounds_toArray, List.set_cons_zero, List.set_cons_succ]
        refine skipL 8 rfl (by kernel_rfl) (by kernel_rfl) (by kernel_rfl) (fun _ _ _ h => h) (by kernel_rfl) (by assumption) ?_
        try simp only [Act.put, List.setIfInBounds_toArray, List.set_cons_zero, List.set_cons_succ]
        refine skipL 9 rfl (by kernel_rfl) (by kernel_rfl) (by kernel_rfl) (fun _ _ _ h => h) (by kernel_rfl) (by assumption) ?_
        try simp only [Act.put, List.setIfInBounds_toArray, List.set_cons_zero, List.set_cons_succ]
        refine skipL 10 rfl (by kernel_rfl) (by kernel_rfl) (by kernel_rfl) (fun _ _ _ h => h) (by kernel_rfl) (by assumption) ?_
        try simp only [Act.put, List.setIfInBounds_toArray, List.set_cons_zero, List.set_cons_succ]
        refine skipL 11 rfl (by kernel_rfl) (by kernel_rfl) (by kernel_rfl) (fun _ _ _ h => h) (by kernel_rfl) (by assumption) ?_
        try simp only [Act.put, List.setIfInBounds_toArray, List.set_cons_zero, List.set_cons_succ]
        refine takeL 12 (v := ?_) rfl (by kernel_rfl) (by kernel_rfl) (by kernel_rfl) (fun _ _ _ h => h) (by kernel_rfl) ?_ (by assumption) ?_
        rotate_left
        · intro w hSw; (try dsimp only at hSw); first | (go_simp; done) | (go_simp; with_reducible rfl)
        try simp only [Act.put, List.setIfInBounds_toArray, List.set_cons_zero, List.set_cons_succ]
        refine wpAnyH_done (by kernel_rfl) ?_ _
        refine NoPanic.normal ?_
        go_wp2_with fail
        go_ret
        exact ⟨by rw [HV.out]; rfl, HB.out.drew⟩
    · obtain rfl : k = n := by omega
      have HV : Hid (R = 0) := HGO.out HQ.out
      clear HGO HBA
      go_wp2_with fail
      go_ret
      exact ⟨by rw [HV.out]; rfl, HB.out⟩

end Go.Proofs.YtkajpkfhedfmaaaGreatDoor

set_option linter.unusedVariables false
namespace Go.Proofs.YtkajpkfhedfmaaaGreatDoor
open Go.RowKit Go.Deep

def ptsOf (bs : List BlkV) : List (HeadV × List ByteArray) := bs.map fun b => (b.h, b.ss)
def allOk (ps : List (HeadV × List ByteArray)) : Bool := ps.all fun p => blockOkB p.1 p.2
def okP (ps : List (HeadV × List ByteArray)) : Bool := decide (chainCk (ps.map (·.1)) = 0) && allOk ps
theorem pts_heads (bs : List BlkV) : (ptsOf bs).map (·.1) = bs.map (·.h) := by simp [ptsOf]
theorem blk_mem {bs : List BlkV} {k : Nat} (h : k < bs.length) : bs.getD k default ∈ bs := by rw [List.getD_eq_getElem?_getD, List.getElem?_eq_getElem h]; exact List.getElem_mem h
theorem allOk_bad {bs : List BlkV} {k : Nat} (hk : k < bs.length) (h : blockOkB (bs.getD k default).h (bs.getD k default).ss = false) : allOk (ptsOf bs) = false := by
  rw [allOk, List.all_eq_false]
  refine ⟨((bs.getD k default).h, (bs.getD k default).ss), List.mem_map.2 ⟨_, blk_mem hk, rfl⟩, ?_⟩
  simp only [h]
  decide
theorem allOk_good {bs : List BlkV} (h : ∀ k, k < bs.length → blockOkB (bs.getD k default).h (bs.getD k default).ss = true) : allOk (ptsOf bs) = true := by
  rw [allOk, List.all_eq_true]
  intro p hp
  obtain ⟨b, hb, rfl⟩ := List.mem_map.1 hp
  obtain ⟨i, hi, he⟩ := List.mem_iff_getElem.1 hb
  have := h i hi
  rw [List.getD_eq_getElem?_getD, List.getElem?_eq_getElem hi] at this
  rw [← he]
  exact this
theorem okP_no {bs : List BlkV} (h : chainCk (bs.map (·.h)) ≠ 0) : okP (ptsOf bs) = false := by rw [okP, pts_heads, decide_eq_false h, Bool.false_and]
theorem okP_yes {bs : List BlkV} (h : chainCk (bs.map (·.h)) = 0) : okP (ptsOf bs) = allOk (ptsOf bs) := by rw [okP, pts_heads, decide_eq_true h, Bool.true_and]

theorem makeHead0 (n : Nat) (hn : n ≤ 1048576) (w : World) : (Instr.makeSlice 33 (.int .i64 0) (.int .i64 (n : Int))).run Tryz.prog w = .ok (.slice (some ⟨w.heap.size, 0, none⟩) 0 n) (w.alloc (.cells ((List.replicate n zeroHead).flatMap enHead).toArray 36)) := by
  obtain ⟨i, hi, hz, hs, hb⟩ := info_parts infoHead
  have hb' : (i.bytes : Int) * (n : Int) ≤ 281474976710656 := by rw [hb]; omega
  have hr := run_make (P := Tryz.prog) w 33 36 i _ Tryz.underlying33 hi hz .i64 .i64 0 (n : Int) (by omega) (by omega) hb' (by omega)
  simp only [Int.toNat_natCast, hs, Value.cells] at hr
  rw [← made_flat 5 enHead enHead_len (by decide) zeroHead n]
  exact hr

set_option maxHeartbeats 2000000 in
set_option maxRecDepth 100000 in
theorem implBlockHeads (g n cap : Nat) (bs : List BlkV) (w : World) (h : AtBlk w g bs) (hn : n = bs.length) (hm : n ≤ 1048576) :
    Calls Tryz.prog 21 #[.slice (some ⟨g, 0, none⟩) n cap] w fun e w' => ∃ v, e = .returned v ∧ HRow w.heap.size v (bs.map (·.h)) w' ∧ Below w.heap.size w w' := by
  obtain ⟨i0, hi, hz0, hz1, hz2⟩ := info3 infoHead
  have hmk := makeHead0 n hm w
  have HA : Hid (AtBlk w g bs) := h
  have HN : Hid (n = bs.length) := hn
  have HE : Hid (bs.map (·.h) = (bs.take n).map (·.h)) := by show _ = _; rw [hn, List.take_length]
  have R0 : Hid (HRow w.heap.size (.slice (some ⟨w.heap.size, 0, none⟩) 0 n) [] (w.alloc (.cells ((List.replicate n zeroHead).flatMap enHead).toArray 36))) := frow_cap _ _ _ _ enHead_len zeroHead w (by unfold maxLen; omega)
  have B0 : Hid (Below w.heap.size w (w.alloc (.cells ((List.replicate n zeroHead).flatMap enHead).toArray 36))) := (Below.refl _ w).alloc (Nat.le_refl _) _
  clear h hn
  generalize w.alloc (.cells ((List.replicate n zeroHead).flatMap enHead).toArray 36) = w0 at hmk R0 B0
  go_enter Tryz.func21, Tryz.ntmps21
  go_wp2_with fail
  clear hmk
  go_loopw [3, 11] (fun v i wr => ∃ k g2 c2 : Nat, k ≤ n ∧ i = .int .i64 (k : Int) ∧ v = .slice (some ⟨g2, 0, none⟩) k c2 ∧ Hid (HRow w.heap.size v ((bs.take k).map (·.h)) wr) ∧ Hid (Below w.heap.size w wr)) (fun _ i _ => n - (intOf i).toNat)
  case atStart => exact ⟨0, w.heap.size, n, by omega, rfl, rfl, R0, B0⟩
  case round =>
    clear R0 B0
    obtain ⟨k, g2, c2, hk, rfl, rfl, R, HB⟩ := hrel
    by_cases hlt : k < n
    · have hkl : k < bs.length := by rw [← HN.out]; exact hlt
      have HAr : Hid (AtBlk wr g bs) := HA.out.below HB.out HA.out.1
      have q0 := AtBlk.c0 HAr.out k hkl
      have q1 := AtBlk.c1 HAr.out k hkl
      have q2 := AtBlk.c2 HAr.out k hkl
      have q3 := AtBlk.c3 HAr.out k hkl
      have q4 := AtBlk.c4 HAr.out k hkl
      have q5 := AtBlk.c5 HAr.out k hkl
      have lk : (k : Int) < (n : Int) := by omega
      have lk0 : (0 : Int) ≤ (k : Int) := by omega
      have wk : IntKind.i64.wrap ((k : Int) + 1) = (k : Int) + 1 := by rw [IntKind.wrap_i64]; omega
      have HK : Hid (k + 1 ≤ n) := hlt
      have HL : Hid ((bs.take k).length = k) := by show _ = _; rw [List.length_take]; omega
      have HT : Hid ((bs.take (k + 1)).map (·.h) = (bs.take k).map (·.h) ++ [(bs.getD k default).h]) := take_map hkl
      have HOW0 : Hid (wr.ownsRow w.heap.size 36 5 (.slice (some ⟨g2, 0, none⟩) k c2) k (((bs.take k).map (·.h)).flatMap enHead)) := by
        have := R.out.2
        rw [List.length_map, HL.out] at this
        exact this
      generalize bs.getD k default = b at q0 q1 q2 q3 q4 q5 HT
      obtain ⟨p, bg, bn, bc, bss⟩ := b
      dsimp only at q0 q1 q2 q3 q4 q5 HT
      have HOW : Hid ((wr.alloc (.cells #[.string p.prev, .string p.root, .int .i64 p.time, .int .i64 p.diff, .int .i64 p.nonce, .slice (some ⟨bg, 0, none⟩) bn bc] 39)).ownsRow w.heap.size 36 5 (.slice (some ⟨g2, 0, none⟩) k c2) k (((bs.take k).map (·.h)).flatMap enHead)) := World.ownsRow.alloc HOW0.out _
      have hsz : w.heap.size ≤ (wr.alloc (.cells #[.string p.prev, .string p.root, .int .i64 p.time, .int .i64 p.diff, .int .i64 p.nonce, .slice (some ⟨bg, 0, none⟩) bn bc] 39)).heap.size := Nat.le_trans HB.out.size (by simp)
      have HBA : Hid (Below w.heap.size w (wr.alloc (.cells #[.string p.prev, .string p.root, .int .i64 p.time, .int .i64 p.diff, .int .i64 p.nonce, .slice (some ⟨bg, 0, none⟩) bn bc] 39))) := HB.out.alloc HB.out.size _
      have hu := enHead_one p
      have hx1 : k + 1 ≤ maxLen := by unfold maxLen; omega
      have hx2 : (k + 1) * 56 ≤ 140737488355328 := by omega
      clear hkl R HOW0
      go_wp2_with (at_builtin; refine wp_appN rfl _ _ 33 rfl w.heap.size 36 i0 (.agg #[.string ⟨#[]⟩, .string ⟨#[]⟩, .int .i64 0, .int .i64 0, .int .i64 0]) 5 56 1 Tryz.underlying33 hi hz0 hz1 hz2 rfl (by decide) (by decide) _ _ _ rfl HOW.out (enHead p) (by simp [Act.eval]) rfl hu hx1 hx2 hsz ?_; intro g4 c4 w4 hown4 hb4 hkeep4)
      have R4 : Hid (HRow w.heap.size (.slice (some ⟨g4, 0, none⟩) (k + 1) c4) ((bs.take (k + 1)).map (·.h)) w4) := by
        refine FRow.of ?_ ?_
        · rw [HT.out, List.flatMap_append]
          simpa using hown4
        · rw [HT.out, List.length_append, List.length_map, HL.out]; rfl
      have B4 : Hid (Below w.heap.size w w4) := HBA.out.trans hb4
      clear hown4 hb4 hkeep4
      go_wp2_with fail
      go_roundw
      case rel => exact ⟨k + 1, g4, c4, HK.out, by go_num, rfl, R4, B4⟩
      case measure => have := HK.out; simp [intOf]; omega
    · obtain rfl : k = n := by omega
      go_wp2_with fail
      go_ret
      exact ⟨_, rfl, by rw [HE.out]; exact R.out, HB.out⟩

/-- A list of blocks in memory. -/
structure Blks (g n cap : Nat) (bs : List BlkV) (w : World) : Prop where
  at_ : AtBlk w g bs
  items : ∀ b ∈ bs, ItemsAt w b
  len : n = bs.length
  max : n ≤ 1048576
theorem Blks.below {g n cap : Nat} {bs : List BlkV} {w w' : World} (h : Blks g n cap bs w) (hb : Below w.heap.size w w') : Blks g n cap bs w' :=
  ⟨h.at_.below hb h.at_.1, fun b hb' => ⟨(h.items b hb').1.below hb (h.items b hb').1.1, (h.items b hb').2⟩, h.len, h.max⟩

set_option maxHeartbeats 2000000 in
set_option maxRecDepth 100000 in
theorem implChainOk (g n cap : Nat) (bs : List BlkV) (w : World) (h : Blks g n cap bs w) (hK : RowG w shaK) (hP : TabP w) (hE : ErrT w) :
    Calls Tryz.prog 8 #[.slice (some ⟨g, 0, none⟩) n cap] w fun e w' => e = .returned (.bool (okP (ptsOf bs))) ∧ Below w.heap.size w w' := by
  have hbh := implBlockHeads g n cap bs w h.at_ h.len h.max
  have HA : Hid (Blks g n cap bs w) := h
  have HK : Hid (RowG w shaK) := hK
  have HP : Hid (TabP w) := hP
  have HE : Hid (ErrT w) := hE
  have hm := h.max
  have HN : Hid (n = bs.length) := h.len
  have HNO : Hid (chainCk (bs.map (·.h)) ≠ 0 → okP (ptsOf bs) = false) := fun hc => okP_no hc
  have HBAD0 : Hid (chainCk (bs.map (·.h)) = 0 → ∀ k, k < n → blockOkB (bs.getD k default).h (bs.getD k default).ss = false → okP (ptsOf bs) = false) := fun hc k hk hf => by rw [okP_yes hc]; exact allOk_bad (by rw [← HN.out]; exact hk) hf
  have HGOO0 : Hid (chainCk (bs.map (·.h)) = 0 → (∀ k, k < n → blockOkB (bs.getD k default).h (bs.getD k default).ss = true) → okP (ptsOf bs) = true) := fun hc hq => by rw [okP_yes hc]; exact allOk_good (by rw [← HN.out]; exact hq)
  generalize okP (ptsOf bs) = R at HNO HBAD0 HGOO0 ⊢
  clear h hK hP hE
  go_enter Tryz.func8, Tryz.ntmps8
  go_wp2_with fail
  refine hbh.mono ?_
  rintro e w1 ⟨v, rfl, r1, b1⟩
  obtain ⟨g2, c2, hv⟩ := r1.1
  subst hv
  have hat := FRow.at enHead_len r1
  rw [List.length_map, ← HN.out] at hat ⊢
  have hck := implChainCheck g2 n c2 (bs.map (·.h)) w1 ⟨hat.1, by rw [List.length_map]; exact HN.out, hm, hat.2.2.2, HK.out.below b1 HK.out.lt, TabP.below HP.out b1 (Nat.le_refl _)⟩ (HE.out.below b1 HE.out.lt)
  have HB1 : Hid (Below w.heap.size w w1) := b1
  clear hbh hat r1 b1
  cases hc : chainCk (bs.map (·.h)) with
  | succ m =>
    have HV : Hid (R = false) := HNO.out (by rw [hc]; omega)
    rw [hc] at hck
    have hz : ¬ ((m + 1 : Nat) : Int) = 0 := by omega
    clear HNO HBAD0 HGOO0
    generalize m + 1 = m1 at hck hz
    clear hc
    go_wp2_with fail
    refine hck.mono ?_
    rintro e w2 ⟨rfl, b2⟩
    go_wp2_with fail
    go_ret
    exact ⟨by rw [HV.out]; rfl, HB1.out.trans (b2.mono HB1.out.size)⟩
  | zero =>
    have HBAD : Hid (∀ k, k < n → blockOkB (bs.getD k default).h (bs.getD k default).ss = false → R = false) := HBAD0.out hc
    have HGOO : Hid ((∀ k, k < n → blockOkB (bs.getD k default).h (bs.getD k default).ss = true) → R = true) := HGOO0.out hc
    rw [hc] at hck
    have hz : ((0 : Nat) : Int) = 0 := rfl
    rw [hz] at hck
    clear hc hz HNO HBAD0 HGOO0
    go_wp2_with fail
    refine hck.mono ?_
    rintro e w2 ⟨rfl, b2⟩
    have HB2 : Hid (Below w.heap.size w w2) := HB1.out.trans (b2.mono HB1.out.size)
    clear hck b2 HB1
    go_wp2_with fail
    go_loopw [11] (fun i wr => ∃ k : Nat, k ≤ n ∧ i = .int .i64 (k : Int) ∧ Hid (Below w.heap.size w wr) ∧ Hid (∀ q, q < k → blockOkB (bs.getD q default).h (bs.getD q default).ss = true)) (fun i _ => n - (intOf i).toNat)
    case atStart => exact ⟨0, by omega, rfl, HB2, fun q hq => by omega⟩
    case round =>
      clear HB2
      obtain ⟨k, hk, rfl, HB, HQ⟩ := hrel
      by_cases hlt : k < n
      · have hkl : k < bs.length := by rw [← HN.out]; exact hlt
        have HAr : Hid (Blks g n cap bs wr) := HA.out.below HB.out
        have q0 := AtBlk.c0 HAr.out.at_ k hkl
        have q1 := AtBlk.c1 HAr.out.at_ k hkl
        have q2 := AtBlk.c2 HAr.out.at_ k hkl
        have q3 := AtBlk.c3 HAr.out.at_ k hkl
        have q4 := AtBlk.c4 HAr.out.at_ k hkl
        have q5 := AtBlk.c5 HAr.out.at_ k hkl
        have HIT : Hid (ItemsAt wr (bs.getD k default)) := HAr.out.items _ (blk_mem hkl)
        have HBk : Hid (blockOkB (bs.getD k default).h (bs.getD k default).ss = false → R = false) := HBAD.out k hlt
        have HQ2 : Hid (blockOkB (bs.getD k default).h (bs.getD k default).ss = true → ∀ q, q < k + 1 → blockOkB (bs.getD q default).h (bs.getD q default).ss = true) := by
          intro h q hq
          rcases Nat.lt_or_ge q k with h' | h'
          · exact HQ.out q h'
          · obtain rfl : q = k := by omega
            exact h
        have lk : (k : Int) < (n : Int) := by omega
        have lk0 : (0 : Int) ≤ (k : Int) := by omega
        have wk : IntKind.i64.wrap ((k : Int) + 1) = (k : Int) + 1 := by rw [IntKind.wrap_i64]; omega
        have HK1 : Hid (k + 1 ≤ n) := hlt
        have hok := fun (w' : World) (hb : Below wr.heap.size wr w') => implBlockOk (bs.getD k default).h (bs.getD k default).g (bs.getD k default).n (bs.getD k default).cap (bs.getD k default).ss w' (HIT.out.1.below hb HIT.out.1.1) HIT.out.2 (HK.out.below (HB.out.trans (hb.mono HB.out.size)) HK.out.lt) (TabP.below HP.out (HB.out.trans (hb.mono HB.out.size)) (Nat.le_refl _))
        generalize blockOkB (bs.getD k default).h (bs.getD k default).ss = b at hok HBk HQ2
        clear HIT HQ HBAD HGOO hkl
        generalize bs.getD k default = bb at q0 q1 q2 q3 q4 q5 hok
        obtain ⟨p, bg, bn, bc, bss⟩ := bb
        unfold blockVal at hok
        dsimp only at q0 q1 q2 q3 q4 q5 hok
        have L0 : Hid (Below wr.heap.size wr (wr.alloc (.cells #[.string p.prev, .string p.root, .int .i64 p.time, .int .i64 p.diff, .int .i64 p.nonce, .slice (some ⟨bg, 0, none⟩) bn bc] 39))) := (Below.refl _ wr).alloc (Nat.le_refl _) _
        go_wp2_with fail
        refine (hok _ L0.out).mono ?_
        rintro e w3 ⟨rfl, b3⟩
        have HB3 : Hid (Below w.heap.size w w3) := HB.out.trans ((L0.out.trans (b3.mono L0.out.size)).mono HB.out.size)
        clear hok q0 q1 q2 q3 q4 q5 b3 L0
        cases b with
        | false =>
          have HV : Hid (R = false) := HBk.out rfl
          clear HBk HQ2
          go_wp2_with fail
          go_ret
          exact ⟨by rw [HV.out]; rfl, HB3.out⟩
        | true =>
          have HQ3 : Hid (∀ q, q < k + 1 → blockOkB (bs.getD q default).h (bs.getD q default).ss = true) := HQ2.out rfl
          clear HBk HQ2
          go_wp2_with fail
          go_roundw
          case rel => exact ⟨k + 1, HK1.out, by go_num, HB3, HQ3⟩
          case measure => have := HK1.out; simp [intOf]; omega
      · obtain rfl : k = n := by omega
        have HV : Hid (R = true) := HGOO.out HQ.out
        clear HBAD HGOO HQ
        go_wp2_with fail
        go_ret
        exact ⟨by rw [HV.out]; rfl, HB.out⟩

/-- What the specification needs of a list of blocks: short texts, few items. -/
structure BlksS (g n cap : Nat) (bs : List BlkV) (w : World) : Prop where
  b : Blks g n cap bs w
  wf : ∀ b ∈ bs, wfHead b.h
  few : ∀ b ∈ bs, b.n ≤ 1048576
  small : ∀ b ∈ bs, ∀ i, i < b.ss.length → (b.ss.getD i ByteArray.empty).size ≤ 1048576
theorem BlksS.below {g n cap : Nat} {bs : List BlkV} {w w' : World} (h : BlksS g n cap bs w) (hb : Below w.heap.size w w') : BlksS g n cap bs w' :=
  ⟨h.b.below hb, h.wf, h.few, h.small⟩

set_option maxHeartbeats 2000000 in
set_option maxRecDepth 100000 in
theorem specL4Blocks (g n cap : Nat) (bs : List BlkV) (w : World) (h : BlksS g n cap bs w) :
    Calls Tryz.prog 18 #[.slice (some ⟨g, 0, none⟩) n cap] w fun e w' => e = .returned (.bool (okP (ptsOf bs))) ∧ Below w.heap.size w w' := by
  have HA : Hid (BlksS g n cap bs w) := h
  have hm := h.b.max
  have HN : Hid (n = bs.length) := h.b.len
  have HBAD : Hid (∀ k, k < n → blockOkB (bs.getD k default).h (bs.getD k default).ss = false → okP (ptsOf bs) = false) := fun k hk hf => by
    rw [okP, allOk_bad (by rw [← HN.out]; exact hk) hf, Bool.and_false]
  have HGOO : Hid ((∀ k, k < n → blockOkB (bs.getD k default).h (bs.getD k default).ss = true) → okP (ptsOf bs) = decide (chainCk (bs.map (·.h)) = 0)) := fun hq => by
    rw [okP, allOk_good (by rw [← HN.out]; exact hq), Bool.and_true, pts_heads]
  clear h
  generalize okP (ptsOf bs) = R at HBAD HGOO ⊢
  go_enter Tryz.func18, Tryz.ntmps18
  go_wp2_with fail
  go_loopw [3] (fun i wr => ∃ k : Nat, k ≤ n ∧ i = .int .i64 (k : Int) ∧ Hid (Below w.heap.size w wr) ∧ Hid (∀ q, q < k → blockOkB (bs.getD q default).h (bs.getD q default).ss = true)) (fun i _ => n - (intOf i).toNat)
  case atStart => exact ⟨0, by omega, rfl, Below.refl _ _, fun q hq => by omega⟩
  case round =>
    obtain ⟨k, hk, rfl, HB, HQ⟩ := hrel
    by_cases hlt : k < n
    · have hkl : k < bs.length := by rw [← HN.out]; exact hlt
      have HAr : Hid (BlksS g n cap bs wr) := HA.out.below HB.out
      have q0 := AtBlk.c0 HAr.out.b.at_ k hkl
      have q1 := AtBlk.c1 HAr.out.b.at_ k hkl
      have q2 := AtBlk.c2 HAr.out.b.at_ k hkl
      have q3 := AtBlk.c3 HAr.out.b.at_ k hkl
      have q4 := AtBlk.c4 HAr.out.b.at_ k hkl
      have q5 := AtBlk.c5 HAr.out.b.at_ k hkl
      have HIT : Hid (ItemsAt wr (bs.getD k default)) := HAr.out.b.items _ (blk_mem hkl)
      have HBk : Hid (blockOkB (bs.getD k default).h (bs.getD k default).ss = false → R = false) := HBAD.out k hlt
      have HQ2 : Hid (blockOkB (bs.getD k default).h (bs.getD k default).ss = true → ∀ q, q < k + 1 → blockOkB (bs.getD q default).h (bs.getD q default).ss = true) := by
        intro h q hq
        rcases Nat.lt_or_ge q k with h' | h'
        · exact HQ.out q h'
        · obtain rfl : q = k := by omega
          exact h
      have lk : (k : Int) < (n : Int) := by omega
      have lk0 : (0 : Int) ≤ (k : Int) := by omega
      have wk : IntKind.i64.wrap ((k : Int) + 1) = (k : Int) + 1 := by rw [IntKind.wrap_i64]; omega
      have HK1 : Hid (k + 1 ≤ n) := hlt
      have hok := specL3BlockOk (bs.getD k default).h (bs.getD k default).g (bs.getD k default).n (bs.getD k default).cap (bs.getD k default).ss wr HIT.out.1 HIT.out.2 (HAr.out.wf _ (blk_mem hkl)).1 (HAr.out.wf _ (blk_mem hkl)).2 (HAr.out.few _ (blk_mem hkl)) (HAr.out.small _ (blk_mem hkl))
      generalize blockOkB (bs.getD k default).h (bs.getD k default).ss = b at hok HBk HQ2
      clear HIT HQ HBAD HGOO hkl
      generalize bs.getD k default = bb at q0 q1 q2 q3 q4 q5 hok
      obtain ⟨p, bg, bn, bc, bss⟩ := bb
      unfold blockVal at hok
      dsimp only at q0 q1 q2 q3 q4 q5 hok
      go_wp2_with fail
      refine hok.mono ?_
      rintro e w3 ⟨rfl, b3⟩
      have HB3 : Hid (Below w.heap.size w w3) := HB.out.trans (b3.mono HB.out.size)
      clear hok q0 q1 q2 q3 q4 q5 b3
      cases b with
      | false =>
        have HV : Hid (R = false) := HBk.out rfl
        clear HBk HQ2
        go_wp2_with fail
        go_ret
        exact ⟨by rw [HV.out]; rfl, HB3.out⟩
      | true =>
        have HQ3 : Hid (∀ q, q < k + 1 → blockOkB (bs.getD q default).h (bs.getD q default).ss = true) := HQ2.out rfl
        clear HBk HQ2
        go_wp2_with fail
        go_roundw
        case rel => exact ⟨k + 1, HK1.out, by go_num, HB3, HQ3⟩
        case measure => have := HK1.out; simp [intOf]; omega
    · obtain rfl : k = n := by omega
      have HV : Hid (R = decide (chainCk (bs.map (·.h)) = 0)) := HGOO.out HQ.out
      have HAr : Hid (BlksS g k cap bs wr) := HA.out.below HB.out
      have hhd := specL4Heads g k cap bs wr HAr.out.b.at_ HN.out hm
      clear HBAD HGOO HQ
      go_wp2_with fail
      refine hhd.mono ?_
      rintro e w1 ⟨v, rfl, r1, b1⟩
      obtain ⟨g2, c2, hv⟩ := r1.1
      subst hv
      have hat := FRow.at enHead_len r1
      rw [List.length_map, ← HN.out] at hat ⊢
      have hck := specL4Check g2 k c2 (bs.map (·.h)) w1 ⟨hat.1, by rw [List.length_map]; exact HN.out, hm, hat.2.2.2, fun i hi => by
        rw [List.length_map] at hi
        rw [getD_map hi]
        exact HA.out.wf _ (blk_mem hi)⟩
      have HB1 : Hid (Below w.heap.size w w1) := HB.out.trans (b1.mono HB.out.size)
      generalize chainCk (bs.map (·.h)) = m at hck HV
      clear hhd hat r1 b1
      go_wp2_with fail
      refine hck.mono ?_
      rintro e w2 ⟨rfl, b2⟩
      have HB2 : Hid (Below w.heap.size w w2) := HB1.out.trans (b2.mono HB1.out.size)
      clear hck b2
      rcases Nat.eq_zero_or_pos m with h0 | h0
      · subst h0
        go_wp2_with fail
        go_ret
        exact ⟨by rw [HV.out]; rfl, HB2.out⟩
      · have hm0 : ((m : Int) == 0) = false := beq_eq_false_iff_ne.2 (by omega)
        have hm1 : ¬ (m : Int) = 0 := by omega
        have HD : Hid (decide (m = 0) = false) := decide_eq_false (by omega)
        go_wp2_with fail
        go_ret
        exact ⟨by rw [HV.out, HD.out]; first | rfl | (simp; omega), HB2.out⟩

end Go.Proofs.YtkajpkfhedfmaaaGreatDoor

set_option linter.unusedVariables false
namespace Go.Proofs.YtkajpkfhedfmaaaGreatDoor
open Go.RowKit Go.Deep

def FdDrew (w : World) (e : Ending) (w' : World) : Prop := ∃ (g c : Nat) (bs : List BlkV) (it : ByteArray), e = .returned (.tuple #[.slice (some ⟨g, 0, none⟩) bs.length c, .string it]) ∧ BlksS g bs.length c bs w' ∧ bs.length ≤ c ∧ bs.length ≤ 20 ∧ (∀ b ∈ bs, b.n ≤ 5) ∧ it.size ≤ 16 ∧ Below w.heap.size w w'
theorem rd_cell {B b p : Nat} {w : World} (h : Rd B b p w) (s : ByteArray) : w.cell? ⟨b, 0, none⟩ ≠ some (.string s) := by
  obtain ⟨_, a, n, cap, zs, _, hb, _⟩ := h
  intro hc
  simp [World.cell?, hb] at hc
theorem rd_items {B b p : Nat} {w : World} {c : BlkV} (h : Rd B b p w) (hc : ItemsAt w c) : c.g ≠ b ∨ c.ss.length = 0 := by
  by_cases h0 : c.ss.length = 0
  · exact .inr h0
  · refine .inl (fun e => ?_)
    have h1 := hc.1.2 0 (by omega)
    rw [e] at h1
    exact rd_cell h _ h1
theorem blkS_but {B g n c b p : Nat} {cs : List BlkV} {w w' : World} (h : BlksS g n c cs w) (hr : Rd B b p w) (o : But b w w') (hg : g ≠ b) : BlksS g n c cs w' := by
  have hga := h.b.at_.1
  refine ⟨⟨⟨Nat.lt_of_lt_of_le hga o.1, fun i j hi hj => (World.cell?_of_block (a := ⟨g, i * 6 + j, none⟩) (o.2 g hga hg)).trans (h.b.at_.2 i j hi hj)⟩, fun x hx => ?_, h.b.len, h.b.max⟩, h.wf, h.few, h.small⟩
  have h1 := h.b.items x hx
  rcases rd_items hr h1 with h2 | h2
  · exact items_move h1 o.1 (o.2 x.g h1.1.1 h2)
  · exact ⟨⟨Nat.lt_of_lt_of_le h1.1.1 o.1, fun i hi => absurd hi (by omega)⟩, h1.2⟩

set_option maxHeartbeats 1000000 in
set_option maxRecDepth 100000 in
theorem drawPaidFind (a : Option Addr) (len cap : Nat) (zs : List Int) (w : World) (h : IsRow .u8 w a len cap zs) :
    Calls Tryz.prog 4 #[.slice a len cap] w fun e w' => FdDrew w e w' := by
  have HQ : Hid (∀ (g c : Nat) (bs : List BlkV) (it : ByteArray) (w' : World), BlksS g bs.length c bs w' → bs.length ≤ c → bs.length ≤ 20 → (∀ b ∈ bs, b.n ≤ 5) → it.size ≤ 16 → Below w.heap.size w w' → FdDrew w (.returned (.tuple #[.slice (some ⟨g, 0, none⟩) bs.length c, .string it])) w') := fun g c bs it w' h1 h2 h3 h4 h5 h6 => ⟨g, c, bs, it, rfl, h1, h2, h3, h4, h5, h6⟩
  generalize FdDrew w = Q at HQ ⊢
  go_enter Tryz.func4, Tryz.ntmps4
  go_wp2_with fail
  refine (open_walk a len cap zs _ h).mono ?_
  rintro e w1 ⟨rfl, hr, b1, hs1⟩
  have B1 : Hid (Below w.heap.size w w1) := b1
  have HLT : Hid (w.heap.size < w1.heap.size) := hr.lt
  have hdh := drawAnyBlocksI w.heap.size w.heap.size 0 _ hr (by omega)
  obtain ⟨b, hb⟩ : ∃ b, b = w.heap.size := ⟨_, rfl⟩
  have HBW : Hid (b = w.heap.size) := hb
  rw [← hb] at hdh ⊢
  clear h hr b1 hs1 hb
  go_wp2_with fail
  refine Calls.mono hdh ?_
  rintro e w2 ⟨v, cs, q, rfl, l2, hq, hr2, b2⟩
  obtain ⟨g, c, rfl⟩ := l2.l.row.1
  have hat := FRow.at enBlk_len l2.l.row
  have B2 : Hid (Below w.heap.size w w2) := B1.out.trans (by rw [← HBW.out]; exact b2)
  have HS2 : Hid (BlksS g cs.length c cs w2) := ⟨⟨hat.1, fun x hx => (l2.it x hx).1, rfl, by have := l2.l.few; omega⟩, fun x hx => by have := l2.l.wf x hx; exact ⟨by unfold maxLen; omega, by unfold maxLen; omega⟩, fun x hx => by have h1 := (l2.it x hx).2.1; have h2 := (l2.it x hx).1.2; omega, fun x hx i hi => (l2.it x hx).2.2 i hi⟩
  have HC : Hid (cs.length ≤ c ∧ cs.length ≤ 20 ∧ ∀ x ∈ cs, x.n ≤ 5) := ⟨hat.2.2.2, l2.l.few, fun x hx => by have h1 := (l2.it x hx).2.1; have h2 := (l2.it x hx).1.2; omega⟩
  have HR2 : Hid (Rd b b q w2) := hr2
  have hg : b < g := by have h1 := HLT.out; have h2 := hat.2.2.1; have h3 := HBW.out; omega
  clear hdh hr2 b2 l2 hat
  have hai := drawAnyItemK b b q w2 HR2.out (by omega)
  go_wp2_with fail
  refine Calls.mono hai ?_
  rintro e w3 ⟨s, q3, rfl, hs16, hq3, hr3, b3, u3⟩
  have HS3 : Hid (BlksS g cs.length c cs w3) := blkS_but HS2.out HR2.out u3 (by omega)
  have B3 : Hid (Below w.heap.size w w3) := B2.out.trans (by rw [← HBW.out]; exact b3)
  clear hr3 b3 u3 hai
  go_wp2_with fail
  exact HQ.out g c cs s w3 HS3.out HC.out.1 HC.out.2.1 HC.out.2.2 hs16 B3.out

end Go.Proofs.YtkajpkfhedfmaaaGreatDoor

set_option linter.unusedVariables false
namespace Go.Proofs.YtkajpkfhedfmaaaGreatDoor
open Go.ChangeShapes Go.WideShapes Go.ChangeAt Go.RowKit Go.Deep

structure HitV where
  pos : Int
  text : ByteArray
instance : Inhabited HitV := ⟨⟨0, ⟨#[]⟩⟩⟩
def enHit (p : HitV) : List Value := [.int .i64 p.pos, .string p.text]
theorem enHit_len (p : HitV) : (enHit p).length = 2 := rfl
/-- Its texts can be held. -/
def wfHit (p : HitV) : Prop := p.text.size ≤ maxLen
/-- Its texts are small. -/
def smallHit (p : HitV) : Prop := p.text.size ≤ 1048576
abbrev IsHits (w : World) (a : Option Addr) (len cap : Nat) (l : List HitV) : Prop := IsFlat enHit wfHit 2 w a len cap l
abbrev RowHit (w : World) (g : Nat) (l : List HitV) : Prop := RowF enHit 41 w g l
abbrev AtHit (w : World) (g : Nat) (l : List HitV) : Prop := AtF enHit 2 w g l
theorem AtHit.c0 {w : World} {g : Nat} {l : List HitV} (h : AtHit w g l) (i : Nat) (hi : i < l.length) : w.cell? ⟨g, i * 2, none⟩ = some (.int .i64 (l.getD i default).pos) := h.2 i 0 hi (by decide)
theorem AtHit.c1 {w : World} {g : Nat} {l : List HitV} (h : AtHit w g l) (i : Nat) (hi : i < l.length) : w.cell? ⟨g, i * 2 + 1, none⟩ = some (.string (l.getD i default).text) := h.2 i 1 hi (by decide)
theorem cellsHit {w : World} {x : Addr} {p : HitV} (h : ∀ j, j < 2 → w.cell? (x.add j) = (enHit p)[j]?) : w.cell? x = some (.int .i64 p.pos) ∧ w.cell? ⟨x.block, x.off + 1, none⟩ = some (.string p.text) := by
  exact ⟨h 0 (by decide), h 1 (by decide)⟩
theorem partsHit {cs : List Value} {a0 a1 : Value} (hl : cs.length = 2) (h0 : (cs.drop 0).take 1 = [a0]) (h1 : (cs.drop 1).take 1 = [a1]) : cs = [a0, a1] := by
  match cs, hl with
  | [x0, x1], _ =>
    simp at h0 h1
    subst h0 h1
    rfl
theorem oneHit_i : Tryz.prog.cellsOf 3 = 1 := by kernel_rfl
theorem oneHit_s : Tryz.prog.cellsOf 9 = 1 := by kernel_rfl
theorem alloc3_midHit (w : World) (o1 o2 o3 : Obj) : (((w.alloc o1).alloc o2).alloc o3).heap[w.heap.size + 1]? = some o2 := by
  have e : w.heap.size + 1 = (w.alloc o1).heap.size := by simp
  rw [e, Below.heap_alloc _ _ _ (by simp)]
  exact heap_alloc_new _ _
theorem infoHit : (Tryz.prog.info? 41).map (fun i => (i.zero, i.size, i.bytes)) = some (some (.agg #[.int .i64 0, .string ⟨#[]⟩]), 2, 24) := by kernel_rfl
def zeroHit : HitV := ⟨0, ⟨#[]⟩⟩
theorem makeHit (n : Nat) (hn : n ≤ 1099511627776) (w : World) : (Instr.makeSlice 26 (.int .i64 (n : Int)) (.int .i64 (n : Int))).run Tryz.prog w = .ok (.slice (some ⟨w.heap.size, 0, none⟩) n n) (w.alloc (.cells ((List.replicate n zeroHit).flatMap enHit).toArray 41)) := by
  obtain ⟨i, hi, hz, hs, hb⟩ := info_parts infoHit
  have hb' : (i.bytes : Int) * (n : Int) ≤ 281474976710656 := by rw [hb]; omega
  have hr := run_make (P := Tryz.prog) w 26 41 i _ Tryz.underlying26 hi hz .i64 .i64 (n : Int) (n : Int) (by omega) (by omega) hb' (by omega)
  simp only [Int.toNat_natCast, hs, Value.cells] at hr
  rw [← made_flat 2 enHit enHit_len (by decide) zeroHit n]
  exact hr
theorem RowHit.put {w : World} {g : Nat} {l : List HitV} (h : RowHit w g l) (i : Nat) (hi : i < l.length) (p : HitV) :
    RowHit ((w.setCell ⟨g, i * 2, none⟩ (.int .i64 p.pos)).setCell ⟨g, i * 2 + 1, none⟩ (.string p.text)) g (l.set i p) := by
  show _ = _
  rw [← flat_put 2 enHit enHit_len l i p hi]
  exact (rowSet (rowSet h _) _)

end Go.Proofs.YtkajpkfhedfmaaaGreatDoor

set_option linter.unusedVariables false
namespace Go.Proofs.YtkajpkfhedfmaaaGreatDoor
open Go.RowKit

def mkD : Nat → Nat → List UInt8 → List UInt8
  | 0, _, out => out
  | f + 1, k, out => if k = 0 then out else mkD f (k / 10) (UInt8.ofNat (48 + k % 10) :: out)
/-- The text of a number's mark. -/
def mkS (k : Nat) : ByteArray := if k = 0 then ⟨#[109, 48]⟩ else ⟨(109 :: mkD 19 k []).toArray⟩
theorem mkD_zero (f : Nat) (out : List UInt8) : mkD f 0 out = out := by cases f <;> simp [mkD]

end Go.Proofs.YtkajpkfhedfmaaaGreatDoor

set_option linter.unusedVariables false
namespace Go.Proofs.YtkajpkfhedfmaaaGreatDoor
open Go.RowKit Go.Deep Go.Joins

/-- The places of an item among the first items of a block. -/
def bhT (a : Int) (it : ByteArray) (ss : List ByteArray) : Nat → List HitV
  | 0 => []
  | j + 1 => bhT a it ss j ++ (if ss.getD j ByteArray.empty = it then [⟨a, it⟩] else [])
theorem bhT_yes {a : Int} {it : ByteArray} {ss : List ByteArray} {j : Nat} (h : ss.getD j ByteArray.empty = it) : bhT a it ss (j + 1) = bhT a it ss j ++ [⟨a, it⟩] := by rw [bhT, if_pos h]
theorem bhT_no {a : Int} {it : ByteArray} {ss : List ByteArray} {j : Nat} (h : ¬ ss.getD j ByteArray.empty = it) : bhT a it ss (j + 1) = bhT a it ss j := by rw [bhT, if_neg h, List.append_nil]
theorem bhT_len (a : Int) (it : ByteArray) (ss : List ByteArray) : ∀ j, (bhT a it ss j).length ≤ j
  | 0 => Nat.le_refl _
  | j + 1 => by
    have := bhT_len a it ss j
    rw [bhT, List.length_append]
    split <;> simp <;> omega
/-- The places of an item in the first blocks. -/
def fdT (it : ByteArray) (ps : List (HeadV × List ByteArray)) : Nat → List HitV
  | 0 => []
  | k + 1 => fdT it ps k ++ bhT (k : Int) it (ps.getD k default).2 (ps.getD k default).2.length
theorem fdT_len {it : ByteArray} {ps : List (HeadV × List ByteArray)} (h : ∀ p ∈ ps, p.2.length ≤ 1048576) : ∀ k, k ≤ ps.length → (fdT it ps k).length ≤ 1048576 * k
  | 0, _ => Nat.le_refl _
  | k + 1, hk => by
    have h1 := fdT_len (it := it) h k (by omega)
    have h2 := bhT_len (k : Int) it (ps.getD k default).2 (ps.getD k default).2.length
    have h3 : (ps.getD k default).2.length ≤ 1048576 := by
      rw [List.getD_eq_getElem?_getD, List.getElem?_eq_getElem (by omega)]
      exact h _ (List.getElem_mem _)
    rw [fdT, List.length_append]
    omega

theorem hEnc_one (p : HitV) : ∀ u ∈ enHit p, u.oneCell' = true := by
  intro u hu
  simp only [enHit, List.mem_cons, List.not_mem_nil, or_false] at hu
  rcases hu with rfl | rfl <;> rfl
theorem hEncs_one (l : List HitV) : ∀ u ∈ l.flatMap enHit, u.oneCell' = true := by
  intro u hu
  obtain ⟨p, _, hp⟩ := List.mem_flatMap.1 hu
  exact hEnc_one p u hp
/-- A list of places that the call itself has grown, or none. -/
def HtRow (B : Nat) (v : Value) (l : List HitV) (w : World) : Prop := w.ownsRow B 41 2 v l.length (l.flatMap enHit)
theorem HtRow.nil (B : Nat) (w : World) : HtRow B (.slice none 0 0) [] w := ⟨rfl, .inl ⟨rfl, rfl⟩⟩
theorem HtRow.mono {B C : Nat} {v : Value} {l : List HitV} {w : World} (h : HtRow B v l w) (hc : C ≤ B) : HtRow C v l w := ownsRow_le h hc
theorem HtRow.keep {B : Nat} {v : Value} {l : List HitV} {w w' : World} (h : HtRow B v l w) (hk : ∀ g, v.ownBlock = some g → w'.heap[g]? = w.heap[g]?) : HtRow B v l w' := by
  refine ⟨h.1, ?_⟩
  rcases h.2 with h2 | ⟨g, cap, cur, hv, hB, hg, h4⟩
  · exact .inl h2
  · exact .inr ⟨g, cap, cur, hv, hB, by rw [hk g (by rw [hv]; rfl)]; exact hg, h4⟩
theorem HtRow.below {B : Nat} {v : Value} {l : List HitV} {w w' : World} (h : HtRow B v l w) (hb : Below w.heap.size w w') : HtRow B v l w' := h.keep (fun g hg => hb.block g (World.ownsRow.lt h g hg).2)
theorem HtRow.forms {B : Nat} {v : Value} {l : List HitV} {w : World} (h : HtRow B v l w) : (v = .slice none 0 0 ∧ l = []) ∨ ∃ g cap, v = .slice (some ⟨g, 0, none⟩) l.length cap ∧ B ≤ g ∧ g < w.heap.size ∧ l.length ≤ cap := by
  rcases h.2 with ⟨h1, h2⟩ | ⟨g, cap, cur, hv, hB, hg, hc, _⟩
  · exact .inl ⟨h1, List.eq_nil_of_length_eq_zero h2⟩
  · refine .inr ⟨g, cap, hv, hB, ?_, hc⟩
    rcases Nat.lt_or_ge g w.heap.size with h' | h'
    · exact h'
    · simp [Array.getElem?_eq_none h'] at hg
theorem HtRow.at {B g n cap : Nat} {l : List HitV} {w : World} (h : HtRow B (.slice (some ⟨g, 0, none⟩) n cap) l w) : AtHit w g l := by
  rcases h.2 with ⟨h1, _⟩ | ⟨g', cap', cur, hv, hB, hg, hc, hm, hs, ht⟩
  · cases h1
  · simp only [Value.slice.injEq, Option.some.injEq, Addr.mk.injEq, and_true] at hv
    obtain ⟨rfl, rfl, rfl⟩ := hv
    exact (FRow.at (enc := enHit) (k := 2) enHit_len (FRow.of (B := B) (T := 41) (n := l.length) (cap := cap) (w := w) h rfl)).1

/-- A block of places that may be written. -/
def HtBk (w : World) (g n : Nat) : Prop := ∃ cur : Array Value, w.heap[g]? = some (.cells cur 41 (0, 0)) ∧ n * 2 ≤ cur.size
theorem HtBk.lt {w : World} {g n : Nat} (h : HtBk w g n) : g < w.heap.size := by
  obtain ⟨cur, h1, _⟩ := h
  rcases Nat.lt_or_ge g w.heap.size with h' | h'
  · exact h'
  · simp [Array.getElem?_eq_none h'] at h1
theorem HtBk.keep {w w' : World} {g n : Nat} (h : HtBk w g n) (hk : w'.heap[g]? = w.heap[g]?) : HtBk w' g n := by
  obtain ⟨cur, h1, h2⟩ := h
  exact ⟨cur, hk.trans h1, h2⟩
theorem HtBk.below {w w' : World} {g n B : Nat} (h : HtBk w g n) (hb : Below B w w') (hg : g < B) : HtBk w' g n := h.keep (hb.block g hg)
theorem HtBk.cell {w : World} {g n : Nat} (h : HtBk w g n) (i : Nat) (hi : i < n * 2) : (∃ v, w.cell? ⟨g, i, none⟩ = some v) ∧ w.frozen? ⟨g, i, none⟩ = false := by
  obtain ⟨cur, h1, h2⟩ := h
  refine ⟨?_, Lib.frozen_of_heap h1 i⟩
  rw [Lib.cell_of_heap h1]
  have hic : i < cur.size := by omega
  exact ⟨cur[i], Array.getElem?_eq_getElem hic⟩
theorem HtBk.set {w : World} {g n : Nat} (h : HtBk w g n) (i : Nat) (v : Value) : HtBk (w.setCell ⟨g, i, none⟩ v) g n := by
  obtain ⟨cur, h1, h2⟩ := h
  exact ⟨cur.setIfInBounds i v, by simp [World.setCell, Array.getElem?_modify, h1], by simpa using h2⟩
theorem HtRow.blk {B g n cap : Nat} {l : List HitV} {w : World} (h : HtRow B (.slice (some ⟨g, 0, none⟩) n cap) l w) : HtBk w g l.length ∧ n = l.length := by
  rcases h.2 with ⟨h1, _⟩ | ⟨g', cap', cur, hv, hB, hg, hc, hm, hs, ht⟩
  · cases h1
  · simp only [Value.slice.injEq, Option.some.injEq, Addr.mk.injEq, and_true] at hv
    obtain ⟨rfl, rfl, rfl⟩ := hv
    refine ⟨⟨cur, hg, ?_⟩, rfl⟩
    rw [hs]
    exact Nat.mul_le_mul_right 2 hc
theorem cellSetOtherH {w : World} {g i j : Nat} {v : Value} (h : i ≠ j) : (w.setCell ⟨g, i, none⟩ v).cell? ⟨g, j, none⟩ = w.cell? ⟨g, j, none⟩ := by
  simp [World.setCell, World.cell?, Array.getElem?_modify]
  cases hh : w.heap[g]? with
  | none => simp
  | some o => cases o <;> simp [h]
theorem HtBk.cellSet {w : World} {g n : Nat} (h : HtBk w g n) (i : Nat) (hi : i < n * 2) (v : Value) : (w.setCell ⟨g, i, none⟩ v).cell? ⟨g, i, none⟩ = some v := by
  obtain ⟨cur, h1, h2⟩ := h
  have : (w.setCell ⟨g, i, none⟩ v).heap[g]? = some (.cells (cur.setIfInBounds i v) 41 (0, 0)) := by simp [World.setCell, Array.getElem?_modify, h1]
  rw [Lib.cell_of_heap this]
  have : i < cur.size := by omega
  simp [this]
/-- A list that holds its marks, so far. -/
def MkH (w : World) (g k n : Nat) : Prop := ∀ i, i < n → w.cell? ⟨g, i * 2, none⟩ = some (.int .i64 ((k + 2 * i : Nat) : Int)) ∧ w.cell? ⟨g, i * 2 + 1, none⟩ = some (.string (mkS (k + 2 * i + 1)))
theorem MkH.below {w w' : World} {g k n B : Nat} (h : MkH w g k n) (hb : Below B w w') (hg : g < B) : MkH w' g k n := fun i hi =>
  ⟨(hb.cell (p := ⟨g, i * 2, none⟩) hg).trans (h i hi).1, (hb.cell (p := ⟨g, i * 2 + 1, none⟩) hg).trans (h i hi).2⟩
theorem MkH.one {w : World} {g k j : Nat} (h : MkH w g k j) (v : Value) : MkH (w.setCell ⟨g, j * 2, none⟩ v) g k j := by
  intro i hi
  obtain ⟨h1, h2⟩ := h i hi
  exact ⟨by rw [cellSetOtherH (by omega)]; exact h1, by rw [cellSetOtherH (by omega)]; exact h2⟩
theorem MkH.step {w : World} {g k j n : Nat} (h : MkH w g k j) (hb : HtBk w g n) (hj : j < n) (h0 : w.cell? ⟨g, j * 2, none⟩ = some (.int .i64 ((k + 2 * j : Nat) : Int))) : MkH (w.setCell ⟨g, j * 2 + 1, none⟩ (.string (mkS (k + 2 * j + 1)))) g k (j + 1) := by
  intro i hi
  rcases Nat.lt_or_ge i j with h' | h'
  · obtain ⟨h1, h2⟩ := h i h'
    exact ⟨by rw [cellSetOtherH (by omega)]; exact h1, by rw [cellSetOtherH (by omega)]; exact h2⟩
  · obtain rfl : i = j := by omega
    exact ⟨by rw [cellSetOtherH (by omega)]; exact h0, hb.cellSet _ (by omega) _⟩
/-- What writing marks leaves. -/
def MtPost (g n k : Nat) (w : World) (e : Ending) (w' : World) : Prop := e = .returned (.int .i64 ((k + 2 * n : Nat) : Int)) ∧ MkH w' g k n ∧ (∀ c, c < w.heap.size → c ≠ g → w'.heap[c]? = w.heap[c]?) ∧ Below 0 w w' ∧ HtBk w' g n
theorem setOffH {w wr : World} {g j : Nat} {v : Value} (h : ∀ c, c < w.heap.size → c ≠ g → wr.heap[c]? = w.heap[c]?) : ∀ c, c < w.heap.size → c ≠ g → (wr.setCell ⟨g, j, none⟩ v).heap[c]? = w.heap[c]? := fun c hc hne => by
  rw [← h c hc hne]
  simp [World.setCell, Array.getElem?_modify, Ne.symm hne]
/-- A list of places that holds its marks. -/
def HeldH (v : Value) (n : Nat) (w : World) : Prop := (v = .slice none 0 0 ∧ n = 0) ∨ ∃ g cap, v = .slice (some ⟨g, 0, none⟩) n cap ∧ g < w.heap.size ∧ MkH w g 1 n
theorem HeldH.below {v : Value} {n : Nat} {w w' : World} (h : HeldH v n w) (hb : Below w.heap.size w w') : HeldH v n w' := by
  rcases h with h | ⟨g, cap, h1, h2, h3⟩
  · exact .inl h
  · exact .inr ⟨g, cap, h1, Nat.lt_of_lt_of_le h2 hb.size, h3.below hb h2⟩
end Go.Proofs.YtkajpkfhedfmaaaGreatDoor

set_option linter.unusedVariables false
namespace Go.Proofs.YtkajpkfhedfmaaaGreatDoor
open Go.RowKit Go.Deep

theorem sameT (a b : ByteArray) : (a.toList == b.toList) = decide (a = b) := by
  rw [Bool.eq_iff_iff, beq_iff_eq, decide_eq_true_eq, ByteArray.toList_eq, ByteArray.toList_eq]
  constructor
  · intro h
    exact ByteArray.ext (by simpa using h)
  · intro h
    rw [h]
set_option maxHeartbeats 1000000 in
set_option maxRecDepth 100000 in
theorem implIndex1 (g c : Nat) (it x : ByteArray) (w : World) (h : w.cell? ⟨g, 0, none⟩ = some (.string it)) :
    Calls Tryz.prog 75 #[.slice (some ⟨g, 0, none⟩) 1 c, .string x] w fun e w' => e = .returned (.int .i64 (if x = it then 0 else -1)) ∧ w' = w := by
  have hs := sameT x it
  by_cases hx : x = it
  · have HV : Hid ((if x = it then (0 : Int) else -1) = 0) := if_pos hx
    rw [decide_eq_true hx] at hs
    generalize (if x = it then (0 : Int) else -1) = R at HV ⊢
    clear hx
    go_enter Tryz.func75, Tryz.ntmps75
    go_wp2_with fail
    go_loopw [8] (fun i wr => i = .int .i64 0 ∧ Hid (wr = w)) (fun _ _ => 0)
    case atStart => exact ⟨rfl, rfl⟩
    case round =>
      obtain ⟨rfl, HW⟩ := hrel
      have h1 : wr.cell? ⟨g, 0, none⟩ = some (.string it) := by rw [HW.out]; exact h
      go_wp2_with fail
      go_ret
      exact ⟨by rw [HV.out]; rfl, HW.out⟩
  · have HV : Hid ((if x = it then (0 : Int) else -1) = -1) := if_neg hx
    rw [decide_eq_false hx] at hs
    generalize (if x = it then (0 : Int) else -1) = R at HV ⊢
    clear hx
    go_enter Tryz.func75, Tryz.ntmps75
    go_wp2_with fail
    go_loopw [8] (fun i wr => ∃ k : Nat, k ≤ 1 ∧ i = .int .i64 (k : Int) ∧ Hid (wr = w)) (fun i _ => 1 - (intOf i).toNat)
    case atStart => exact ⟨0, by omega, rfl, rfl⟩
    case round =>
      obtain ⟨k, hk, rfl, HW⟩ := hrel
      have h1 : wr.cell? ⟨g, 0, none⟩ = some (.string it) := by rw [HW.out]; exact h
      by_cases h0 : k = 0
      · subst h0
        go_wp2_with fail
        go_roundw
        case rel => exact ⟨1, Nat.le_refl _, rfl, HW⟩
        case measure => simp [intOf]
      · obtain rfl : k = 1 := by omega
        go_wp2_with fail
        go_ret
        exact ⟨by rw [HV.out]; rfl, HW.out⟩
set_option maxHeartbeats 1000000 in
set_option maxRecDepth 100000 in
theorem implContains1 (g c : Nat) (it x : ByteArray) (w : World) (h : w.cell? ⟨g, 0, none⟩ = some (.string it)) :
    Calls Tryz.prog 42 #[.slice (some ⟨g, 0, none⟩) 1 c, .string x] w fun e w' => e = .returned (.bool (decide (x = it))) ∧ w' = w := by
  have hix := implIndex1 g c it x w h
  by_cases hx : x = it
  · rw [if_pos hx] at hix
    rw [decide_eq_true hx]
    clear hx h
    go_enter Tryz.func42, Tryz.ntmps42
    go_wp2_with fail
    refine hix.mono ?_
    rintro e w1 ⟨rfl, rfl⟩
    go_wp2_with fail
    go_ret
    exact ⟨rfl, rfl⟩
  · rw [if_neg hx] at hix
    rw [decide_eq_false hx]
    clear hx h
    go_enter Tryz.func42, Tryz.ntmps42
    go_wp2_with fail
    refine hix.mono ?_
    rintro e w1 ⟨rfl, rfl⟩
    go_wp2_with fail
    go_ret
    exact ⟨rfl, rfl⟩

set_option maxHeartbeats 4000000 in
set_option maxRecDepth 100000 in
theorem implBlockHits (a : Int) (h : HeadV) (bg bn bc : Nat) (ss : List ByteArray) (gw cw : Nat) (it : ByteArray) (w : World) (hA : AtS w bg ss) (hn : bn = ss.length) (hm : bn ≤ 1048576) (hz : ∀ i, i < ss.length → (ss.getD i ByteArray.empty).size ≤ 281474976710656) (hg : gw < w.heap.size) (hc : w.cell? ⟨gw, 0, none⟩ = some (.string it)) :
    Calls Tryz.prog 17 #[.int .i64 a, .agg #[.string h.prev, .string h.root, .int .i64 h.time, .int .i64 h.diff, .int .i64 h.nonce, .slice (some ⟨bg, 0, none⟩) bn bc], .slice (some ⟨gw, 0, none⟩) 1 cw] w fun e w' => ∃ v, e = .returned v ∧ HtRow w.heap.size v (bhT a it ss bn) w' ∧ Below w.heap.size w w' := by
  obtain ⟨i0, hi, hz0, hz1, hz2⟩ := info3 infoHit
  have HA : Hid (AtS w bg ss) := hA
  have HN : Hid (bn = ss.length) := hn
  have HZ : Hid (∀ i, i < ss.length → (ss.getD i ByteArray.empty).size ≤ 281474976710656) := hz
  have HC : Hid (gw < w.heap.size ∧ w.cell? ⟨gw, 0, none⟩ = some (.string it)) := ⟨hg, hc⟩
  have B0 : Hid (Below w.heap.size w (w.alloc (.cells #[.string h.prev, .string h.root, .int .i64 h.time, .int .i64 h.diff, .int .i64 h.nonce, .slice (some ⟨bg, 0, none⟩) bn bc] 39))) := (Below.refl _ w).alloc (Nat.le_refl _) _
  clear hA hn hz hg hc
  go_enter Tryz.func17, Tryz.ntmps17
  go_wp2_with fail
  generalize w.alloc (.cells #[.string h.prev, .string h.root, .int .i64 h.time, .int .i64 h.diff, .int .i64 h.nonce, .slice (some ⟨bg, 0, none⟩) bn bc] 39) = W0 at B0 ⊢
  go_loopw [7, 13] (fun v i wr => ∃ (k : Nat) (v7 : Value), k ≤ bn ∧ i = .int .i64 (k : Int) ∧ v = v7 ∧ Hid (HtRow w.heap.size v7 (bhT a it ss k) wr) ∧ Hid (Below w.heap.size w wr)) (fun _ i _ => bn - (intOf i).toNat)
  case atStart => exact ⟨0, _, by omega, rfl, rfl, HtRow.nil _ _, B0⟩
  case round =>
    clear B0
    obtain ⟨k, v7, hk, rfl, hv7, HR, HB⟩ := hrel
    replace hv7 := hv7.symm
    subst hv7
    by_cases hlt : k < bn
    · have hkl : k < ss.length := by rw [← HN.out]; exact hlt
      have c0 := (HA.out.below HB.out HA.out.1).2 k hkl
      have lk : (k : Int) < (bn : Int) := by omega
      have lk0 : (0 : Int) ≤ (k : Int) := by omega
      have wk : IntKind.i64.wrap ((k : Int) + 1) = (k : Int) + 1 := by rw [IntKind.wrap_i64]; omega
      have HK1 : Hid (k + 1 ≤ bn) := hlt
      have hcl := fun w' => implClone (ss.getD k ByteArray.empty) w' (HZ.out k hkl)
      have hct := implContains1 gw cw it (ss.getD k ByteArray.empty) wr ((HB.out.cell (p := ⟨gw, 0, none⟩) HC.out.1).trans HC.out.2)
      have HYES : Hid (ss.getD k ByteArray.empty = it → bhT a it ss (k + 1) = bhT a it ss k ++ [⟨a, it⟩]) := fun hh => bhT_yes hh
      have HNO : Hid (¬ ss.getD k ByteArray.empty = it → bhT a it ss (k + 1) = bhT a it ss k) := fun hh => bhT_no hh
      have HLE : Hid ((bhT a it ss k).length ≤ k) := bhT_len a it ss k
      clear hkl
      generalize ss.getD k ByteArray.empty = x at c0 hcl hct HYES HNO
      obtain ⟨L2, hL2⟩ : ∃ L2, L2 = bhT a it ss (k + 1) := ⟨_, rfl⟩
      have HE : Hid (L2 = bhT a it ss (k + 1)) := hL2
      rw [← hL2] at HYES HNO
      clear hL2
      generalize bhT a it ss k = L at HR HYES HNO HLE
      by_cases hx : x = it
      · have HV : Hid (L2 = L ++ [⟨a, it⟩]) := HYES.out hx
        rw [decide_eq_true hx] at hct
        subst hx
        clear HYES HNO
        go_wp2_with fail
        refine hct.mono ?_
        rintro e w1 ⟨rfl, rfl⟩
        go_wp2_with fail
        refine (hcl _).mono ?_
        rintro e w2 ⟨rfl, b2⟩
        have B2 : Hid (Below w.heap.size w w2) := HB.out.trans (b2.mono HB.out.size)
        have HOW : Hid (w2.ownsRow w.heap.size 41 2 v7 L.length (L.flatMap enHit)) := HR.out.below b2
        have hx1 : L.length + 1 ≤ maxLen := by have := HLE.out; unfold maxLen; omega
        have hx2 : (L.length + 1) * 24 ≤ 140737488355328 := by have := HLE.out; omega
        have hu := hEnc_one ⟨a, x⟩
        have hsz := B2.out.size
        clear HR HB b2 hct hcl
        go_wp2_with (at_builtin; refine wp_appN rfl _ _ 26 rfl w.heap.size 41 i0 (.agg #[.int .i64 0, .string ⟨#[]⟩]) 2 24 1 Tryz.underlying26 hi hz0 hz1 hz2 rfl (by decide) (by decide) _ _ _ rfl HOW.out (enHit ⟨a, x⟩) (by first | rfl | simp [Act.eval]) rfl hu hx1 hx2 hsz ?_; intro g4 c4 w4 hown4 hb4 hkeep4)
        have R4 : Hid (HtRow w.heap.size (.slice (some ⟨g4, 0, none⟩) (L.length + 1) c4) L2 w4) := by
          have e1 : L2.length = L.length + 1 := by rw [HV.out]; simp
          show World.ownsRow _ _ _ _ _ _ _
          rw [e1, HV.out, List.flatMap_append]
          simpa using hown4
        have B4 : Hid (Below w.heap.size w w4) := B2.out.trans hb4
        clear hown4 hb4 hkeep4 B2 HOW
        go_wp2_with fail
        go_roundw
        case rel => exact ⟨k + 1, _, HK1.out, by go_num, rfl, by rw [← HE.out]; exact R4, B4⟩
        case measure => have := HK1.out; simp [intOf]; omega
      · have HV : Hid (L2 = L) := HNO.out hx
        rw [decide_eq_false hx] at hct
        clear HYES HNO hx hcl
        go_wp2_with fail
        refine hct.mono ?_
        rintro e w1 ⟨rfl, rfl⟩
        go_wp2_with fail
        go_roundw
        case rel => exact ⟨k + 1, _, HK1.out, by go_num, rfl, by rw [← HE.out, HV.out]; exact HR, HB⟩
        case measure => have := HK1.out; simp [intOf]; omega
    · obtain rfl : k = bn := by omega
      go_wp2_with fail
      go_ret
      exact ⟨_, rfl, HR.out, HB.out⟩

end Go.Proofs.YtkajpkfhedfmaaaGreatDoor

set_option linter.unusedVariables false
namespace Go.Proofs.YtkajpkfhedfmaaaGreatDoor
open Go.RowKit Go.Deep

theorem drewAllocH (w : World) (o : Obj) : (w.alloc o).drew = w.drew.alloc o := rfl
theorem tag_hit {B g0 g c n : Nat} {l : List HitV} {w : World} {cs : Array Value} (h : HtRow B (.slice (some ⟨g, 0, none⟩) n c) l w) (hc : CBk w g0 39 cs) : g ≠ g0 := by
  intro e
  subst e
  rcases h.2 with ⟨h1, _⟩ | ⟨g', cap', cur, hv, hB, hg, _⟩
  · cases h1
  · simp only [Value.slice.injEq, Option.some.injEq, Addr.mk.injEq, and_true] at hv
    obtain ⟨rfl, _, _⟩ := hv
    unfold CBk at hc
    rw [hg] at hc
    simp at hc

set_option maxHeartbeats 4000000 in
set_option maxRecDepth 100000 in
theorem specL8Hits (a : Int) (h : HeadV) (bg bn bc : Nat) (ss : List ByteArray) (gw cw : Nat) (it : ByteArray) (w : World) (hA : AtS w bg ss) (hn : bn = ss.length) (hm : bn ≤ 1048576) (hg : gw < w.heap.size) (hc : w.cell? ⟨gw, 0, none⟩ = some (.string it)) :
    Calls Tryz.prog 19 #[.agg #[.string h.prev, .string h.root, .int .i64 h.time, .int .i64 h.diff, .int .i64 h.nonce, .slice (some ⟨bg, 0, none⟩) bn bc], .int .i64 a, .slice (some ⟨gw, 0, none⟩) 1 cw] w fun e w' => ∃ v, e = .returned v ∧ HtRow w.heap.size v (bhT a it ss bn) w' ∧ Below w.heap.size w w' := by
  obtain ⟨i0, hi, hz0, hz1, hz2⟩ := info3 infoHit
  have HA : Hid (AtS w bg ss) := hA
  have HN : Hid (bn = ss.length) := hn
  have HC : Hid (gw < w.heap.size ∧ w.cell? ⟨gw, 0, none⟩ = some (.string it)) := ⟨hg, hc⟩
  have B0 : Hid (Below w.heap.size w ((w.alloc (.cells #[.string h.prev, .string h.root, .int .i64 h.time, .int .i64 h.diff, .int .i64 h.nonce, .slice (some ⟨bg, 0, none⟩) bn bc] 39)).alloc (.cells #[] 41))) := ((Below.refl _ w).alloc (Nat.le_refl _) _).alloc (by simp) _
  have C0 : Hid (CBk ((w.alloc (.cells #[.string h.prev, .string h.root, .int .i64 h.time, .int .i64 h.diff, .int .i64 h.nonce, .slice (some ⟨bg, 0, none⟩) bn bc] 39)).alloc (.cells #[] 41)) w.heap.size 39 #[.string h.prev, .string h.root, .int .i64 h.time, .int .i64 h.diff, .int .i64 h.nonce, .slice (some ⟨bg, 0, none⟩) bn bc]) := (CBk.new w _ _).alloc _
  have R0 : Hid (HtRow w.heap.size (.slice (some ⟨w.heap.size + 1, 0, none⟩) 0 0) [] ((w.alloc (.cells #[.string h.prev, .string h.root, .int .i64 h.time, .int .i64 h.diff, .int .i64 h.nonce, .slice (some ⟨bg, 0, none⟩) bn bc] 39)).alloc (.cells #[] 41))) := by
    have := (frow_new enHit 41 2 (w.alloc (.cells #[.string h.prev, .string h.root, .int .i64 h.time, .int .i64 h.diff, .int .i64 h.nonce, .slice (some ⟨bg, 0, none⟩) bn bc] 39))).2
    rw [show (w.alloc (.cells #[.string h.prev, .string h.root, .int .i64 h.time, .int .i64 h.diff, .int .i64 h.nonce, .slice (some ⟨bg, 0, none⟩) bn bc] 39)).heap.size = w.heap.size + 1 from by simp] at this
    exact HtRow.mono (B := w.heap.size + 1) this (Nat.le_succ _)
  clear hA hn hg hc
  go_enter Tryz.func19, Tryz.ntmps19
  go_wp2_with fail
  generalize (w.alloc (.cells #[.string h.prev, .string h.root, .int .i64 h.time, .int .i64 h.diff, .int .i64 h.nonce, .slice (some ⟨bg, 0, none⟩) bn bc] 39)).alloc (.cells #[] 41) = W0 at B0 C0 R0 ⊢
  obtain ⟨g0, hg0⟩ : ∃ g0, g0 = w.heap.size := ⟨_, rfl⟩
  have HG : Hid (g0 = w.heap.size) := hg0
  have R0' : Hid (HtRow w.heap.size (.slice (some ⟨g0 + 1, 0, none⟩) 0 0) [] W0) := by rw [hg0]; exact R0
  rw [← hg0] at C0 ⊢
  clear hg0 R0
  go_loopw [7, 8] (fun v i wr => ∃ (k : Nat) (v7 : Value), k ≤ bn ∧ i = .int .i64 (k : Int) ∧ v = v7 ∧ Hid (HtRow w.heap.size v7 (bhT a it ss k) wr) ∧ Hid (Below w.heap.size w wr) ∧ Hid (CBk wr g0 39 #[.string h.prev, .string h.root, .int .i64 h.time, .int .i64 h.diff, .int .i64 h.nonce, .slice (some ⟨bg, 0, none⟩) bn bc])) (fun _ i _ => bn - (intOf i).toNat)
  case atStart => exact ⟨0, _, by omega, rfl, rfl, R0', B0, C0⟩
  case round =>
    clear B0 R0' C0
    obtain ⟨k, v7, hk, rfl, hv7, HR, HB, CB⟩ := hrel
    replace hv7 := hv7.symm
    subst hv7
    obtain ⟨d0, d1, d2, d3, d4, d5⟩ := CB.out.out6
    by_cases hlt : k < bn
    · have hkl : k < ss.length := by rw [← HN.out]; exact hlt
      have c0 := (HA.out.below HB.out HA.out.1).2 k hkl
      have cw0 := (HB.out.cell (p := ⟨gw, 0, none⟩) HC.out.1).trans HC.out.2
      have lk : (k : Int) < (bn : Int) := by omega
      have lk0 : (0 : Int) ≤ (k : Int) := by omega
      have wk : IntKind.i64.wrap ((k : Int) + 1) = (k : Int) + 1 := by rw [IntKind.wrap_i64]; omega
      have HK1 : Hid (k + 1 ≤ bn) := hlt
      have HYES : Hid (ss.getD k ByteArray.empty = it → bhT a it ss (k + 1) = bhT a it ss k ++ [⟨a, it⟩]) := fun hh => bhT_yes hh
      have HNO : Hid (¬ ss.getD k ByteArray.empty = it → bhT a it ss (k + 1) = bhT a it ss k) := fun hh => bhT_no hh
      have HLE : Hid ((bhT a it ss k).length ≤ k) := bhT_len a it ss k
      clear hkl
      generalize ss.getD k ByteArray.empty = x at c0 HYES HNO
      obtain ⟨L2, hL2⟩ : ∃ L2, L2 = bhT a it ss (k + 1) := ⟨_, rfl⟩
      have HE : Hid (L2 = bhT a it ss (k + 1)) := hL2
      rw [← hL2] at HYES HNO
      clear hL2
      generalize bhT a it ss k = L at HR HYES HNO HLE
      have hst := sameT it x
      by_cases hx : x = it
      · have HV : Hid (L2 = L ++ [⟨a, it⟩]) := HYES.out hx
        rw [decide_eq_true hx.symm] at hst
        have HXE : Hid (x = it) := hx
        clear HYES HNO hx
        go_wp2_with fail
        go_loopw [7, 9] (fun v i w2 => i = .int .i64 0 ∧ v = v7 ∧ Hid (HtRow w.heap.size v7 L w2 ∧ Below w.heap.size w w2 ∧ CBk w2 g0 39 #[.string h.prev, .string h.root, .int .i64 h.time, .int .i64 h.diff, .int .i64 h.nonce, .slice (some ⟨bg, 0, none⟩) bn bc] ∧ w2.cell? ⟨bg, k, none⟩ = some (.string x) ∧ w2.cell? ⟨gw, 0, none⟩ = some (.string it))) (fun _ _ _ => 0)
        case atStart => exact ⟨rfl, rfl, HR.out, HB.out, CB.out, c0, cw0⟩
        case round =>
          clear HR HB CB c0 cw0 d0 d1 d2 d3 d4 d5
          obtain ⟨rfl, hv9, HS⟩ := hrel
          replace hv9 := hv9.symm
          subst hv9
          have HR : Hid (HtRow w.heap.size v7 L wr) := HS.out.1
          have HB : Hid (Below w.heap.size w wr) := HS.out.2.1
          have CB : Hid (CBk wr g0 39 #[.string h.prev, .string h.root, .int .i64 h.time, .int .i64 h.diff, .int .i64 h.nonce, .slice (some ⟨bg, 0, none⟩) bn bc]) := HS.out.2.2.1
          have c0 := HS.out.2.2.2.1
          have cw0 := HS.out.2.2.2.2
          clear HS
          obtain ⟨d0, d1, d2, d3, d4, d5⟩ := CB.out.out6
          have B2 : Hid (Below w.heap.size w wr.drew) := HB.out.drew
          have HOW : Hid (wr.drew.ownsRow w.heap.size 41 2 v7 L.length (L.flatMap enHit)) := HR.out
          have CB2 : Hid (CBk wr.drew g0 39 #[.string h.prev, .string h.root, .int .i64 h.time, .int .i64 h.diff, .int .i64 h.nonce, .slice (some ⟨bg, 0, none⟩) bn bc]) := CB.out
          have hx1 : L.length + 1 ≤ maxLen := by have := HLE.out; unfold maxLen; omega
          have hx2 : (L.length + 1) * 24 ≤ 140737488355328 := by have := HLE.out; omega
          have hu := hEnc_one ⟨a, x⟩
          have hsz := B2.out.size
          have HXI : Hid (x = it) := HXE.out
          go_wp2_with fail
          go_big_region
          go_wp2_with (at_builtin; rw [drewAllocH]; refine wp_appN rfl _ _ 26 rfl w.heap.size 41 i0 (.agg #[.int .i64 0, .string ⟨#[]⟩]) 2 24 1 Tryz.underlying26 hi hz0 hz1 hz2 rfl (by decide) (by decide) _ _ _ rfl HOW.out (enHit ⟨a, x⟩) (by first | rfl | simp [Act.eval]) rfl hu hx1 hx2 hsz ?_; intro g4 c4 w4 hown4 hb4 hkeep4)
          have R4 : Hid (HtRow w.heap.size (.slice (some ⟨g4, 0, none⟩) (L.length + 1) c4) L2 w4) := by
            have e1 : L2.length = L.length + 1 := by rw [HV.out]; simp
            show World.ownsRow _ _ _ _ _ _ _
            rw [e1, HV.out, List.flatMap_append, ← HXI.out]
            simpa using hown4
          have B4 : Hid (Below w.heap.size w w4) := B2.out.trans hb4
          have C4 : Hid (CBk w4 g0 39 #[.string h.prev, .string h.root, .int .i64 h.time, .int .i64 h.diff, .int .i64 h.nonce, .slice (some ⟨bg, 0, none⟩) bn bc]) := (hkeep4 g0 CB2.out.lt (by
            intro e9
            have hr9 := HR.out
            rcases hr9.forms with ⟨h9, _⟩ | ⟨g9, c9, h9, _⟩
            · rw [h9] at e9; cases e9
            · rw [h9] at e9 hr9
              have e2 : some g9 = some g0 := by first | exact e9 | simpa [Value.ownBlock] using e9
              exact tag_hit hr9 CB.out (Option.some.inj e2))).trans CB2.out
          clear hown4 hb4 hkeep4 B2 HOW CB2 CB HR HB
          go_wp2_with fail
          go_roundw
          case rel => exact ⟨k + 1, _, HK1.out, by go_num, rfl, by rw [← HE.out]; exact R4, B4, C4⟩
          case measure => have := HK1.out; simp [intOf]; omega
      · have HV : Hid (L2 = L) := HNO.out hx
        rw [decide_eq_false (fun e => hx e.symm)] at hst
        clear HYES HNO hx
        go_wp2_with fail
        go_loopw [7, 9] (fun v i w2 => ∃ k9 : Nat, k9 ≤ 1 ∧ i = .int .i64 (k9 : Int) ∧ v = v7 ∧ Hid (HtRow w.heap.size v7 L w2 ∧ Below w.heap.size w w2 ∧ CBk w2 g0 39 #[.string h.prev, .string h.root, .int .i64 h.time, .int .i64 h.diff, .int .i64 h.nonce, .slice (some ⟨bg, 0, none⟩) bn bc] ∧ w2.cell? ⟨bg, k, none⟩ = some (.string x) ∧ w2.cell? ⟨gw, 0, none⟩ = some (.string it))) (fun _ i _ => 1 - (intOf i).toNat)
        case atStart => exact ⟨0, by omega, rfl, rfl, HR.out, HB.out, CB.out, c0, cw0⟩
        case round =>
          clear HR HB CB c0 cw0 d0 d1 d2 d3 d4 d5
          obtain ⟨k9, hk9, rfl, hv9, HS⟩ := hrel
          replace hv9 := hv9.symm
          subst hv9
          obtain ⟨d0, d1, d2, d3, d4, d5⟩ := CBk.out6 HS.out.2.2.1
          have c0 := HS.out.2.2.2.1
          have cw0 := HS.out.2.2.2.2
          by_cases h9 : k9 = 0
          · subst h9
            go_wp2_with fail
            go_big_region
            go_wp2_with fail
            go_roundw
            case rel => exact ⟨1, Nat.le_refl _, rfl, rfl, HS.out.1, HS.out.2.1.drew, HS.out.2.2.1, HS.out.2.2.2.1, HS.out.2.2.2.2⟩
            case measure => simp [intOf]
          · obtain rfl : k9 = 1 := by omega
            go_wp2_with fail
            go_roundw
            case rel => exact ⟨k + 1, _, HK1.out, by go_num, rfl, by rw [← HE.out, HV.out]; exact HS.out.1, HS.out.2.1, HS.out.2.2.1⟩
            case measure => have := HK1.out; simp [intOf]; omega
    · obtain rfl : k = bn := by omega
      go_wp2_with fail
      go_ret
      exact ⟨_, rfl, HR.out, HB.out⟩

end Go.Proofs.YtkajpkfhedfmaaaGreatDoor

set_option linter.unusedVariables false
namespace Go.Proofs.YtkajpkfhedfmaaaGreatDoor
open Go.ChangeShapes Go.WideShapes Go.ChangeAt Go.RowKit Go.Deep

structure LBlk where
  h : HeadV
  a : Option Addr
  n : Nat
  cap : Nat
  zs : List ByteArray
instance : Inhabited LBlk := ⟨⟨default, none, 0, 0, []⟩⟩
def enL (b : LBlk) : List Value := [.string b.h.prev, .string b.h.root, .int .i64 b.h.time, .int .i64 b.h.diff, .int .i64 b.h.nonce, .slice b.a b.n b.cap]
theorem enL_len (b : LBlk) : (enL b).length = 6 := rfl
def wfL (W : World) (b : LBlk) : Prop := wfHead b.h ∧ IsTexts W b.a b.n b.cap b.zs
abbrev IsBlks (w : World) (a : Option Addr) (len cap : Nat) (l : List LBlk) : Prop := IsFlat enL (wfL w) 6 w a len cap l
theorem texts_below {w w' : World} {a : Option Addr} {len cap : Nat} {zs : List ByteArray} (h : IsTexts w a len cap zs) (hb : Below w.heap.size w w') : IsTexts w' a len cap zs := by
  rcases h with h1 | ⟨x, hx, h1, h2, h3, h4, h5⟩
  · exact .inl h1
  · refine .inr ⟨x, hx, h1, h2, h3, fun i hi => ?_, h5⟩
    have := h4 i hi
    rw [← this]
    exact hb.cell (cell_lt this)
theorem partsL {cs : List Value} {h : HeadV} {b : Value} (hl : cs.length = 6) (h0 : (cs.drop 0).take 5 = enHead h) (h1 : (cs.drop 5).take 1 = [b]) : cs = enHead h ++ [b] := by
  have e : cs = (cs.drop 0).take 5 ++ (cs.drop 5).take 1 := by
    match cs, hl with
    | [x0, x1, x2, x3, x4, x5], _ => rfl
  rw [e, h0, h1]
theorem cellsL {w : World} {x : Addr} {b : LBlk} (h : ∀ j, j < 6 → w.cell? (x.add j) = (enL b)[j]?) : w.cell? x = some (.string b.h.prev) ∧ w.cell? ⟨x.block, x.off + 1, none⟩ = some (.string b.h.root) ∧ w.cell? ⟨x.block, x.off + 2, none⟩ = some (.int .i64 b.h.time) ∧ w.cell? ⟨x.block, x.off + 3, none⟩ = some (.int .i64 b.h.diff) ∧ w.cell? ⟨x.block, x.off + 4, none⟩ = some (.int .i64 b.h.nonce) ∧ w.cell? ⟨x.block, x.off + 5, none⟩ = some (.slice b.a b.n b.cap) := by
  exact ⟨h 0 (by decide), h 1 (by decide), h 2 (by decide), h 3 (by decide), h 4 (by decide), h 5 (by decide)⟩

def SzQ (zs : List ByteArray) (len : Nat) (e : Ending) : Prop := e = .returned (.int .i64 (-1)) ∨ ∃ r : Nat, e = .returned (.int .i64 (r : Int)) ∧ r ≤ 1048576 ∧ len ≤ 1048576 ∧ ∀ i, i < len → (zs.getD i ByteArray.empty).size ≤ 1048576
theorem infoBlkL : (Tryz.prog.info? 39).map (fun i => (i.zero, i.size, i.bytes)) = some (some (.agg #[.string ⟨#[]⟩, .string ⟨#[]⟩, .int .i64 0, .int .i64 0, .int .i64 0, .slice none 0 0]), 6, 80) := by kernel_rfl
/-- What the measure of a block tells. -/
def smallL (b : LBlk) : Prop := smallHead b.h ∧ b.n ≤ 1048576 ∧ ∀ i, i < b.n → (b.zs.getD i ByteArray.empty).size ≤ 1048576
def zeroL : LBlk := ⟨zeroHead, none, 0, 0, []⟩
def toL (b : BlkV) : LBlk := ⟨b.h, some ⟨b.g, 0, none⟩, b.n, b.cap, b.ss⟩
abbrev RowL (w : World) (g : Nat) (l : List LBlk) : Prop := RowF enL 39 w g l
theorem makeL (n : Nat) (hn : n ≤ 1048576) (w : World) : (Instr.makeSlice 23 (.int .i64 (n : Int)) (.int .i64 (n : Int))).run Tryz.prog w = .ok (.slice (some ⟨w.heap.size, 0, none⟩) n n) (w.alloc (.cells ((List.replicate n zeroL).flatMap enL).toArray 39)) := by
  obtain ⟨i, hi, hz, hs, hb⟩ := info3 infoBlkL
  have hb' : (i.bytes : Int) * (n : Int) ≤ 281474976710656 := by rw [hb]; omega
  have hr := run_make (P := Tryz.prog) w 23 39 i _ Tryz.underlying23 hi hz .i64 .i64 (n : Int) (n : Int) (by omega) (by omega) hb' (by omega)
  simp only [Int.toNat_natCast, hs, Value.cells] at hr
  rw [← made_flat 6 enL enL_len (by decide) zeroL n]
  exact hr
theorem RowL.put {w : World} {g : Nat} {l : List LBlk} (h : RowL w g l) (i : Nat) (hi : i < l.length) (b : LBlk) :
    RowL ((((((w.setCell ⟨g, i * 6, none⟩ (.string b.h.prev)).setCell ⟨g, i * 6 + 1, none⟩ (.string b.h.root)).setCell ⟨g, i * 6 + 2, none⟩ (.int .i64 b.h.time)).setCell ⟨g, i * 6 + 3, none⟩ (.int .i64 b.h.diff)).setCell ⟨g, i * 6 + 4, none⟩ (.int .i64 b.h.nonce)).setCell ⟨g, i * 6 + 5, none⟩ (.slice b.a b.n b.cap)) g (l.set i b) := by
  show _ = _
  rw [← flat_put 6 enL enL_len l i b hi]
  exact (rowSet (rowSet (rowSet (rowSet (rowSet (rowSet h _) _) _) _) _) _)
theorem toL_flat (cs : List BlkV) : (cs.map toL).flatMap enL = cs.flatMap enBlk := by
  induction cs with
  | nil => rfl
  | cons c cs ih => rw [List.map_cons, List.flatMap_cons, List.flatMap_cons, ih]; rfl
/-- What is handed in, block by block: the head, the items. -/
def ptsL (ls : List LBlk) : List (HeadV × List ByteArray) := ls.map fun b => (b.h, b.zs.take b.n)
theorem ptsL_take {ls : List LBlk} {k : Nat} (hk : k < ls.length) : ptsL (ls.take (k + 1)) = ptsL (ls.take k) ++ [((ls.getD k default).h, (ls.getD k default).zs.take (ls.getD k default).n)] := by
  unfold ptsL
  rw [List.take_add_one, List.getElem?_eq_getElem hk, List.map_append]
  simp [List.getElem?_eq_getElem hk]
/-- The copy of a list of blocks: in memory of its own. -/
structure CopyB (B g n : Nat) (ls : List LBlk) (cs : List BlkV) (w : World) : Prop where
  row : RowF enBlk 39 w g cs
  len : n = cs.length
  pts : cs.map (fun b => (b.h, b.ss)) = ptsL ls
  items : ∀ c ∈ cs, RowS w c.g c.ss ∧ c.n = c.ss.length ∧ c.cap = c.n ∧ g < c.g
  lo : B ≤ g
theorem CopyB.below {B g n : Nat} {ls : List LBlk} {cs : List BlkV} {w w' : World} (h : CopyB B g n ls cs w) (hb : Below w.heap.size w w') : CopyB B g n ls cs w' :=
  ⟨h.row.below hb h.row.lt, h.len, h.pts, fun c hc => ⟨(h.items c hc).1.below hb (h.items c hc).1.lt, (h.items c hc).2⟩, h.lo⟩
theorem CopyB.at {B g n : Nat} {ls : List LBlk} {cs : List BlkV} {w : World} (h : CopyB B g n ls cs w) : AtBlk w g cs := h.row.at 6 enBlk_len
theorem CopyB.its {B g n : Nat} {ls : List LBlk} {cs : List BlkV} {w : World} (h : CopyB B g n ls cs w) : ∀ c ∈ cs, ItemsAt w c := fun c hc => ⟨(h.items c hc).1.at, (h.items c hc).2.1⟩

end Go.Proofs.YtkajpkfhedfmaaaGreatDoor

set_option linter.unusedVariables false
namespace Go.Proofs.YtkajpkfhedfmaaaGreatDoor
open Go.RowKit Go.Deep

theorem ptsL_mem {ls : List LBlk} {p : HeadV × List ByteArray} (h : p ∈ ptsL ls) : ∃ i, i < ls.length ∧ p = ((ls.getD i default).h, (ls.getD i default).zs.take (ls.getD i default).n) := by
  obtain ⟨b, hb, rfl⟩ := List.mem_map.1 h
  obtain ⟨i, hi, he⟩ := List.mem_iff_getElem.1 hb
  refine ⟨i, hi, ?_⟩
  rw [List.getD_eq_getElem?_getD, List.getElem?_eq_getElem hi]
  simp [he]
theorem CopyB.blks {B g n : Nat} {ls : List LBlk} {cs : List BlkV} {w : World} (h : CopyB B g n ls cs w) (hn : n ≤ 1048576) : Blks g n n cs w := ⟨h.at, h.its, h.len, hn⟩
theorem CopyB.mem {B g n : Nat} {ls : List LBlk} {cs : List BlkV} {w : World} (h : CopyB B g n ls cs w) {c : BlkV} (hc : c ∈ cs) : ∃ i, i < ls.length ∧ c.h = (ls.getD i default).h ∧ c.ss = (ls.getD i default).zs.take (ls.getD i default).n := by
  have hm : (c.h, c.ss) ∈ ptsL ls := by
    rw [← h.pts]
    exact List.mem_map.2 ⟨c, hc, rfl⟩
  obtain ⟨i, hi, he⟩ := ptsL_mem hm
  exact ⟨i, hi, (Prod.mk.inj he).1, (Prod.mk.inj he).2⟩
theorem CopyB.few {B g n : Nat} {ls : List LBlk} {cs : List BlkV} {w : World} (h : CopyB B g n ls cs w) (hl : ls.length = n) (hs : ∀ i, i < n → smallL (ls.getD i default)) : ∀ c ∈ cs, c.n ≤ 1048576 := by
  intro c hc
  obtain ⟨i, hi, _, h2⟩ := h.mem hc
  rw [(h.items c hc).2.1, h2, List.length_take]
  have := (hs i (by omega)).2.1
  omega
theorem CopyB.blksS {B g n : Nat} {ls : List LBlk} {cs : List BlkV} {w : World} (h : CopyB B g n ls cs w) (hn : n ≤ 1048576) (hl : ls.length = n) (hs : ∀ i, i < n → smallL (ls.getD i default)) : BlksS g n n cs w := by
  refine ⟨h.blks hn, fun c hc => ?_, h.few hl hs, fun c hc j hj => ?_⟩
  · obtain ⟨i, hi, h1, _⟩ := h.mem hc
    rw [h1]
    have := (hs i (by omega)).1
    unfold smallHead at this
    unfold wfHead maxLen
    omega
  · obtain ⟨i, hi, _, h2⟩ := h.mem hc
    rw [h2] at hj ⊢
    rw [List.length_take] at hj
    have := (hs i (by omega)).2.2 j (by omega)
    rw [List.getD_eq_getElem?_getD, List.getElem?_take_of_lt (by omega), ← List.getD_eq_getElem?_getD]
    exact this

end Go.Proofs.YtkajpkfhedfmaaaGreatDoor

set_option linter.unusedVariables false
namespace Go.Proofs.YtkajpkfhedfmaaaGreatDoor
open Go.RowKit Go.Deep Go.Joins

section
variable {P : Program} {w : World}
theorem run_append_none (t ty e : TypeId) (i : TypeInfo) (ht : P.underlying t = some (.slice e)) (hi : P.info? e = some i) {base size n : Nat} {v : Value} {xs : List Value} (hown : w.ownsRow base e size v n xs) :
    (Builtin.append_ #[t, t] ty #[v, .slice none 0 0]).run P w = .ok v w := by
  rcases hown.2 with ⟨rfl, _⟩ | ⟨g, cap, cur, rfl, _, _, hc, _⟩
  · simp [Builtin.append_, run_underlying ht, sizeOf, typeInfo, hi, Builtin.lenOf, run_firstCells_none]
  · simp [Builtin.append_, run_underlying ht, sizeOf, typeInfo, hi, Builtin.lenOf, run_firstCells_none, hc, storeCells]
theorem wpList_append_rows {ops : Array Oper} {rest : List Oper} {o : Oper} {a : Act} {Q : Exit → Act → World → Prop} (hgd : o.guard = none) (s x : Operand) (t : TypeId)
    (ho : o.op = .call { callee := .builtin .append, args := #[s, x], argTypes := #[t, t] })
    (base : Nat) (e : TypeId) (i : TypeInfo) (z : Value) (size bytes : Nat) (ht : P.underlying t = some (.slice e)) (hi : P.info? e = some i) (hz : i.zero = some z)
    (hsize : i.size = size) (hby : i.bytes = bytes) (hzs : z.cells.size = size) (hsz : 0 < size)
    (v : Value) (n : Nat) (xs : List Value) (hs : a.eval s = v) (hown : w.ownsRow base e size v n xs)
    (u : Value) (m : Nat) (ys : List Value) (hx : a.eval x = u) (hu : w.ownsRow base e size u m ys) (h1 : ∀ y ∈ ys, y.oneCell' = true)
    (h63 : n + m ≤ maxLen) (hbytes : (n + m) * bytes ≤ 140737488355328) (hbase : base ≤ w.heap.size)
    (h : ∀ v' w', w'.ownsRow base e size v' (n + m) (xs ++ ys) → Below base w w' → wpList P ops Q rest (a.put o.dst v') w') :
    wpList P ops Q (o :: rest) a w := by
  have hu' := hu
  rcases hu.2 with ⟨rfl, rfl⟩ | ⟨g, cap, cur, rfl, _, _, hc, _⟩
  · have hr := run_append_none (P := P) (w := w) t o.type e i ht hi hown
    have hy : ys = [] := List.eq_nil_of_length_eq_zero (by rw [hu.1]; simp)
    subst hy
    refine wpList_plain hgd fun K hK => ?_
    unfold Oper.wp execOp
    simp only [ho, resolve, invoke, builtin, Sem.run_bind, Sem.run_pure, Result.andThen_ok, List.map_toArray, List.map_cons, List.map_nil, hs, hx, hr]
    exact hK _ _ (h v w (by simpa using hown) (Below.refl _ _))
  · refine wpList_append_own_at _ hgd s x t ho base e i z size bytes ht hi hz hsize hby hzs hsz v n xs hs hown ⟨g, 0, none⟩ m cap ys hx hu'.1 (World.ownsRow.cells hu' rfl) h1 h63 hbytes hbase ?_
    intro v' w' h2 h3 _ _
    exact h v' w' h2 ((Below.refl base w).grown h3 hbase (fun k hk => (World.ownsRow.lt hown k hk).1))
end

theorem pts_len (bs : List BlkV) : (ptsOf bs).length = bs.length := by simp [ptsOf]
theorem pts_at {bs : List BlkV} {k : Nat} (h : k < bs.length) : (ptsOf bs).getD k default = ((bs.getD k default).h, (bs.getD k default).ss) := by
  simp [ptsOf, List.getD_eq_getElem?_getD, List.getElem?_eq_getElem h]
/-- The places that PaidFind tells. -/
def findL (it : ByteArray) (ps : List (HeadV × List ByteArray)) : List HitV := if okP ps = true then fdT it ps ps.length else []
def FindPost (it : ByteArray) (ps : List (HeadV × List ByteArray)) (w : World) (e : Ending) (w' : World) : Prop := ∃ v, e = .returned v ∧ HtRow w.heap.size v (findL it ps) w' ∧ Below w.heap.size w w'
theorem find_no {it : ByteArray} {ps : List (HeadV × List ByteArray)} {w w' : World} {v : Value} (h : okP ps = false) (hr : HtRow w.heap.size v [] w') (hb : Below w.heap.size w w') : FindPost it ps w (.returned v) w' := ⟨v, rfl, by rw [findL, h]; exact hr, hb⟩
theorem find_yes {it : ByteArray} {ps : List (HeadV × List ByteArray)} {w w' : World} {v : Value} (h : okP ps = true) (hr : HtRow w.heap.size v (fdT it ps ps.length) w') (hb : Below w.heap.size w w') : FindPost it ps w (.returned v) w' := ⟨v, rfl, by rw [findL, if_pos h]; exact hr, hb⟩

set_option maxHeartbeats 4000000 in
set_option maxRecDepth 100000 in
theorem specPaidFind (g n cap : Nat) (bs : List BlkV) (it : ByteArray) (w : World) (hA : BlksS g n cap bs w) :
    Calls Tryz.prog 7 #[.slice (some ⟨g, 0, none⟩) n cap, .string it] w fun e w' => FindPost it (ptsOf bs) w e w' := by
  obtain ⟨i0, hi, hz0, hz1, hz2⟩ := info3 infoHit
  have HA : Hid (BlksS g n cap bs w) := hA
  have HN : Hid (n = bs.length) := hA.b.len
  have HM : Hid (n ≤ 1048576) := hA.b.max
  have hok := specL4Blocks g n cap bs _ (hA.below ((Below.refl _ w).alloc (Nat.le_refl _) (.cells #[] 41)))
  have R0 : Hid (HtRow w.heap.size (.slice (some ⟨w.heap.size, 0, none⟩) 0 0) [] (w.alloc (.cells #[] 41))) := (frow_new enHit 41 2 w).2
  have B0 : Hid (Below w.heap.size w (w.alloc (.cells #[] 41))) := (Below.refl _ w).alloc (Nat.le_refl _) _
  have HNO : Hid (∀ v w', okP (ptsOf bs) = false → HtRow w.heap.size v [] w' → Below w.heap.size w w' → FindPost it (ptsOf bs) w (.returned v) w') := fun v w' h1 h2 h3 => find_no h1 h2 h3
  have HYES : Hid (∀ v w', okP (ptsOf bs) = true → HtRow w.heap.size v (fdT it (ptsOf bs) n) w' → Below w.heap.size w w' → FindPost it (ptsOf bs) w (.returned v) w') := fun v w' h1 h2 h3 => find_yes h1 (by rw [pts_len, ← HN.out]; exact h2) h3
  have HLE : Hid (∀ k, k ≤ n → (fdT it (ptsOf bs) k).length ≤ 1048576 * k) := fun k hk => fdT_len (fun p hp => by
    obtain ⟨b, hb, rfl⟩ := List.mem_map.1 hp
    have := HA.out.few b hb
    rw [(HA.out.b.items b hb).2] at this
    exact this) k (by rw [pts_len, ← HN.out]; exact hk)
  have HST : Hid (∀ k, k < n → fdT it (ptsOf bs) (k + 1) = fdT it (ptsOf bs) k ++ bhT (k : Int) it (bs.getD k default).ss (bs.getD k default).n) := fun k hk => by
    rw [fdT, pts_at (by rw [← HN.out]; exact hk), (HA.out.b.items _ (blk_mem (by rw [← HN.out]; exact hk))).2]
  generalize FindPost it (ptsOf bs) w = Q at HNO HYES ⊢
  clear hA
  cases hokk : okP (ptsOf bs) with
  | false =>
    have HV : Hid (∀ v w', HtRow w.heap.size v [] w' → Below w.heap.size w w' → Q (.returned v) w') := fun v w' h2 h3 => HNO.out v w' hokk h2 h3
    rw [hokk] at hok
    clear HNO HYES HLE HST hokk
    go_enter Tryz.func7, Tryz.ntmps7
    go_wp2_with fail
    refine hok.mono ?_
    rintro e w1 ⟨rfl, b1⟩
    go_wp2_with fail
    exact HV.out _ _ (R0.out.below b1) (B0.out.trans (b1.mono B0.out.size))
  | true =>
  have HV : Hid (∀ v w', HtRow w.heap.size v (fdT it (ptsOf bs) n) w' → Below w.heap.size w w' → Q (.returned v) w') := fun v w' h2 h3 => HYES.out v w' hokk h2 h3
  rw [hokk] at hok
  clear HNO HYES hokk
  go_enter Tryz.func7, Tryz.ntmps7
  go_wp2_with fail
  refine hok.mono ?_
  rintro e w1 ⟨rfl, b1⟩
  have B1 : Hid (Below w.heap.size w w1) := B0.out.trans (b1.mono B0.out.size)
  have R1 : Hid (HtRow w.heap.size (.slice (some ⟨w.heap.size, 0, none⟩) 0 0) [] w1) := R0.out.below b1
  clear hok b1 R0 B0
  go_wp2_with fail
  go_loopw [5, 6] (fun v i wr => ∃ (k : Nat) (v5 : Value), k ≤ n ∧ i = .int .i64 (k : Int) ∧ v = v5 ∧ Hid (HtRow w.heap.size v5 (fdT it (ptsOf bs) k) wr) ∧ Hid (Below w.heap.size w wr)) (fun _ i _ => n - (intOf i).toNat)
  case atStart => exact ⟨0, _, by omega, rfl, rfl, R1, B1⟩
  case round =>
    clear R1 B1
    obtain ⟨k, v5, hk, rfl, hv5, HR, HB⟩ := hrel
    replace hv5 := hv5.symm
    subst hv5
    by_cases hlt : k < n
    · have hkl : k < bs.length := by rw [← HN.out]; exact hlt
      have HAr := HA.out.below HB.out
      have c0 := AtBlk.c0 HAr.b.at_ k hkl
      have c1 := AtBlk.c1 HAr.b.at_ k hkl
      have c2 := AtBlk.c2 HAr.b.at_ k hkl
      have c3 := AtBlk.c3 HAr.b.at_ k hkl
      have c4 := AtBlk.c4 HAr.b.at_ k hkl
      have c5 := AtBlk.c5 HAr.b.at_ k hkl
      have lk : (k : Int) < (n : Int) := by omega
      have lk0 : (0 : Int) ≤ (k : Int) := by omega
      have wk : IntKind.i64.wrap ((k : Int) + 1) = (k : Int) + 1 := by have := HM.out; rw [IntKind.wrap_i64]; omega
      have HK1 : Hid (k + 1 ≤ n) := hlt
      have HIT : Hid (ItemsAt wr (bs.getD k default)) := HAr.b.items _ (blk_mem hkl)
      have HFW : Hid ((bs.getD k default).n ≤ 1048576) := HA.out.few _ (blk_mem hkl)
      have HSM : Hid (∀ i, i < (bs.getD k default).ss.length → ((bs.getD k default).ss.getD i ByteArray.empty).size ≤ 1048576) := HA.out.small _ (blk_mem hkl)
      have HSK := HST.out k hlt
      have HLK : Hid ((fdT it (ptsOf bs) k).length ≤ 1048576 * k) := HLE.out k hk
      obtain ⟨L2, hL2⟩ : ∃ L2, L2 = fdT it (ptsOf bs) (k + 1) := ⟨_, rfl⟩
      have HE : Hid (L2 = fdT it (ptsOf bs) (k + 1)) := hL2
      rw [← hL2] at HSK
      have HSK : Hid _ := HSK
      clear hL2 hkl HAr
      have hbl := bhT_len (k : Int) it (bs.getD k default).ss (bs.getD k default).n
      have HBL : Hid ((bhT (k : Int) it (bs.getD k default).ss (bs.getD k default).n).length ≤ 1048576) := Nat.le_trans hbl HFW.out
      clear hbl
      generalize fdT it (ptsOf bs) k = L at HR HSK HLK
      generalize bs.getD k default = bb at c0 c1 c2 c3 c4 c5 HIT HFW HSM HSK HBL
      obtain ⟨p, bg, bn, bc, bss⟩ := bb
      dsimp only at c0 c1 c2 c3 c4 c5 HIT HFW HSM HSK HBL
      have L0 : Hid (Below wr.heap.size wr (wr.alloc (.cells #[.string it] 9))) := (Below.refl _ wr).alloc (Nat.le_refl _) _
      have HCW : Hid ((wr.alloc (.cells #[.string it] 9)).cell? ⟨wr.heap.size, 0, none⟩ = some (.string it)) := by show _ = _; rw [Lib.cell_of_heap (heap_alloc_new wr _)]; rfl
      have hcl := specL8Hits (k : Int) p bg bn bc bss wr.heap.size 1 it _ (HIT.out.1.below L0.out HIT.out.1.1) HIT.out.2 HFW.out (by simp) HCW.out
      have HLA : Hid (HtRow w.heap.size v5 L _) := HR.out.below L0.out
      generalize bhT (k : Int) it bss bn = M at hcl HSK HBL
      go_wp2_with fail
      refine hcl.mono ?_
      rintro e w3 ⟨v23, rfl, r3, b3⟩
      have B3 : Hid (Below w.heap.size w w3) := HB.out.trans ((L0.out.trans (b3.mono L0.out.size)).mono HB.out.size)
      have HOW : Hid (w3.ownsRow w.heap.size 41 2 v5 L.length (L.flatMap enHit)) := HLA.out.below b3
      have HOX : Hid (w3.ownsRow w.heap.size 41 2 v23 M.length (M.flatMap enHit)) := r3.mono (Nat.le_trans HB.out.size L0.out.size)
      have hx1 : L.length + M.length ≤ maxLen := by have := HLK.out; have := HBL.out; have := HM.out; unfold maxLen; omega
      have hx2 : (L.length + M.length) * 24 ≤ 140737488355328 := by have := HLK.out; have := HBL.out; have := HM.out; omega
      have hsz := B3.out.size
      clear HR HB b3 hcl r3 c0 c1 c2 c3 c4 c5 L0 HLA HIT HSM HCW
      go_wp2_with (at_builtin; refine wpList_append_rows rfl _ _ 26 rfl w.heap.size 41 i0 (.agg #[.int .i64 0, .string ⟨#[]⟩]) 2 24 Tryz.underlying26 hi hz0 hz1 hz2 rfl (by decide) v5 L.length (L.flatMap enHit) rfl HOW.out v23 M.length (M.flatMap enHit) rfl HOX.out (hEncs_one M) hx1 hx2 hsz ?_; intro v4 w4 hown4 hb4)
      have R4 : Hid (HtRow w.heap.size v4 L2 w4) := by
        have e1 : L2.length = L.length + M.length := by rw [HSK.out, List.length_append]
        show World.ownsRow _ _ _ _ _ _ _
        rw [e1, HSK.out, List.flatMap_append]
        exact hown4
      have B4 : Hid (Below w.heap.size w w4) := B3.out.trans hb4
      clear hown4 hb4 B3 HOW HOX hx1 hx2 hsz
      go_wp2_with fail
      go_roundw
      case rel => exact ⟨k + 1, _, HK1.out, by go_num, rfl, by rw [← HE.out]; exact R4, B4⟩
      case measure => have := HK1.out; simp [intOf]; omega
    · obtain rfl : k = n := by omega
      go_wp2_with fail
      exact HV.out _ _ HR.out HB.out

set_option maxHeartbeats 4000000 in
set_option maxRecDepth 100000 in
theorem implPaidFind (g n cap : Nat) (bs : List BlkV) (it : ByteArray) (w : World) (hA : BlksS g n cap bs w) (hK : RowG w shaK) (hP : TabP w) (hE : ErrT w) :
    Calls Tryz.prog 5 #[.slice (some ⟨g, 0, none⟩) n cap, .string it] w fun e w' => FindPost it (ptsOf bs) w e w' := by
  obtain ⟨i0, hi, hz0, hz1, hz2⟩ := info3 infoHit
  have HA : Hid (BlksS g n cap bs w) := hA
  have HN : Hid (n = bs.length) := hA.b.len
  have HM : Hid (n ≤ 1048576) := hA.b.max
  have hok := implChainOk g n cap bs w hA.b hK hP hE
  have HNO : Hid (∀ v w', okP (ptsOf bs) = false → HtRow w.heap.size v [] w' → Below w.heap.size w w' → FindPost it (ptsOf bs) w (.returned v) w') := fun v w' h1 h2 h3 => find_no h1 h2 h3
  have HYES : Hid (∀ v w', okP (ptsOf bs) = true → HtRow w.heap.size v (fdT it (ptsOf bs) n) w' → Below w.heap.size w w' → FindPost it (ptsOf bs) w (.returned v) w') := fun v w' h1 h2 h3 => find_yes h1 (by rw [pts_len, ← HN.out]; exact h2) h3
  have HLE : Hid (∀ k, k ≤ n → (fdT it (ptsOf bs) k).length ≤ 1048576 * k) := fun k hk => fdT_len (fun p hp => by
    obtain ⟨b, hb, rfl⟩ := List.mem_map.1 hp
    have := HA.out.few b hb
    rw [(HA.out.b.items b hb).2] at this
    exact this) k (by rw [pts_len, ← HN.out]; exact hk)
  have HST : Hid (∀ k, k < n → fdT it (ptsOf bs) (k + 1) = fdT it (ptsOf bs) k ++ bhT (k : Int) it (bs.getD k default).ss (bs.getD k default).n) := fun k hk => by
    rw [fdT, pts_at (by rw [← HN.out]; exact hk), (HA.out.b.items _ (blk_mem (by rw [← HN.out]; exact hk))).2]
  generalize FindPost it (ptsOf bs) w = Q at HNO HYES ⊢
  clear hA hK hP hE
  cases hokk : okP (ptsOf bs) with
  | false =>
    have HV : Hid (∀ v w', HtRow w.heap.size v [] w' → Below w.heap.size w w' → Q (.returned v) w') := fun v w' h2 h3 => HNO.out v w' hokk h2 h3
    rw [hokk] at hok
    clear HNO HYES HLE HST hokk
    go_enter Tryz.func5, Tryz.ntmps5
    go_wp2_with fail
    refine hok.mono ?_
    rintro e w1 ⟨rfl, b1⟩
    go_wp2_with fail
    exact HV.out _ _ (HtRow.nil _ _) b1
  | true =>
  have HV : Hid (∀ v w', HtRow w.heap.size v (fdT it (ptsOf bs) n) w' → Below w.heap.size w w' → Q (.returned v) w') := fun v w' h2 h3 => HYES.out v w' hokk h2 h3
  rw [hokk] at hok
  clear HNO HYES hokk
  go_enter Tryz.func5, Tryz.ntmps5
  go_wp2_with fail
  refine hok.mono ?_
  rintro e w1 ⟨rfl, b1⟩
  have B1 : Hid (Below w.heap.size w w1) := b1
  have R1 : Hid (HtRow w.heap.size (.slice none 0 0) [] w1) := HtRow.nil _ _
  clear hok b1
  go_wp2_with fail
  go_loopw [5, 13] (fun v i wr => ∃ (k : Nat) (v5 : Value), k ≤ n ∧ i = .int .i64 (k : Int) ∧ v = v5 ∧ Hid (HtRow w.heap.size v5 (fdT it (ptsOf bs) k) wr) ∧ Hid (Below w.heap.size w wr)) (fun _ i _ => n - (intOf i).toNat)
  case atStart => exact ⟨0, _, by omega, rfl, rfl, R1, B1⟩
  case round =>
    clear R1 B1
    obtain ⟨k, v5, hk, rfl, hv5, HR, HB⟩ := hrel
    replace hv5 := hv5.symm
    subst hv5
    by_cases hlt : k < n
    · have hkl : k < bs.length := by rw [← HN.out]; exact hlt
      have HAr := HA.out.below HB.out
      have c0 := AtBlk.c0 HAr.b.at_ k hkl
      have c1 := AtBlk.c1 HAr.b.at_ k hkl
      have c2 := AtBlk.c2 HAr.b.at_ k hkl
      have c3 := AtBlk.c3 HAr.b.at_ k hkl
      have c4 := AtBlk.c4 HAr.b.at_ k hkl
      have c5 := AtBlk.c5 HAr.b.at_ k hkl
      have lk : (k : Int) < (n : Int) := by omega
      have lk0 : (0 : Int) ≤ (k : Int) := by omega
      have wk : IntKind.i64.wrap ((k : Int) + 1) = (k : Int) + 1 := by have := HM.out; rw [IntKind.wrap_i64]; omega
      have HK1 : Hid (k + 1 ≤ n) := hlt
      have HIT : Hid (ItemsAt wr (bs.getD k default)) := HAr.b.items _ (blk_mem hkl)
      have HFW : Hid ((bs.getD k default).n ≤ 1048576) := HA.out.few _ (blk_mem hkl)
      have HSM : Hid (∀ i, i < (bs.getD k default).ss.length → ((bs.getD k default).ss.getD i ByteArray.empty).size ≤ 1048576) := HA.out.small _ (blk_mem hkl)
      have HSK := HST.out k hlt
      have HLK : Hid ((fdT it (ptsOf bs) k).length ≤ 1048576 * k) := HLE.out k hk
      obtain ⟨L2, hL2⟩ : ∃ L2, L2 = fdT it (ptsOf bs) (k + 1) := ⟨_, rfl⟩
      have HE : Hid (L2 = fdT it (ptsOf bs) (k + 1)) := hL2
      rw [← hL2] at HSK
      have HSK : Hid _ := HSK
      clear hL2 hkl HAr
      have hbl := bhT_len (k : Int) it (bs.getD k default).ss (bs.getD k default).n
      have HBL : Hid ((bhT (k : Int) it (bs.getD k default).ss (bs.getD k default).n).length ≤ 1048576) := Nat.le_trans hbl HFW.out
      clear hbl
      generalize fdT it (ptsOf bs) k = L at HR HSK HLK
      generalize bs.getD k default = bb at c0 c1 c2 c3 c4 c5 HIT HFW HSM HSK HBL
      obtain ⟨p, bg, bn, bc, bss⟩ := bb
      dsimp only at c0 c1 c2 c3 c4 c5 HIT HFW HSM HSK HBL
      have L0 : Hid (Below wr.heap.size wr ((wr.alloc (.cells #[.string p.prev, .string p.root, .int .i64 p.time, .int .i64 p.diff, .int .i64 p.nonce, .slice (some ⟨bg, 0, none⟩) bn bc] 39)).alloc (.cells #[.string it] 9))) := ((Below.refl _ wr).alloc (Nat.le_refl _) _).alloc (by simp) _
      have HCW : Hid (((wr.alloc (.cells #[.string p.prev, .string p.root, .int .i64 p.time, .int .i64 p.diff, .int .i64 p.nonce, .slice (some ⟨bg, 0, none⟩) bn bc] 39)).alloc (.cells #[.string it] 9)).cell? ⟨wr.heap.size + 1, 0, none⟩ = some (.string it)) := by
        have h9 := heap_alloc_new (wr.alloc (.cells #[.string p.prev, .string p.root, .int .i64 p.time, .int .i64 p.diff, .int .i64 p.nonce, .slice (some ⟨bg, 0, none⟩) bn bc] 39)) (.cells #[.string it] 9)
        rw [show (wr.alloc (.cells #[.string p.prev, .string p.root, .int .i64 p.time, .int .i64 p.diff, .int .i64 p.nonce, .slice (some ⟨bg, 0, none⟩) bn bc] 39)).heap.size = wr.heap.size + 1 from by simp] at h9
        show _ = _
        rw [Lib.cell_of_heap h9]
        rfl
      have hcl := implBlockHits (k : Int) p bg bn bc bss (wr.heap.size + 1) 1 it _ (HIT.out.1.below L0.out HIT.out.1.1) HIT.out.2 HFW.out (fun i hi => by have := HSM.out i hi; omega) (by simp) HCW.out
      have HLA : Hid (HtRow w.heap.size v5 L _) := HR.out.below L0.out
      generalize bhT (k : Int) it bss bn = M at hcl HSK HBL
      go_wp2_with fail
      refine hcl.mono ?_
      rintro e w3 ⟨v23, rfl, r3, b3⟩
      have B3 : Hid (Below w.heap.size w w3) := HB.out.trans ((L0.out.trans (b3.mono L0.out.size)).mono HB.out.size)
      have HOW : Hid (w3.ownsRow w.heap.size 41 2 v5 L.length (L.flatMap enHit)) := HLA.out.below b3
      have HOX : Hid (w3.ownsRow w.heap.size 41 2 v23 M.length (M.flatMap enHit)) := r3.mono (Nat.le_trans HB.out.size L0.out.size)
      have hx1 : L.length + M.length ≤ maxLen := by have := HLK.out; have := HBL.out; have := HM.out; unfold maxLen; omega
      have hx2 : (L.length + M.length) * 24 ≤ 140737488355328 := by have := HLK.out; have := HBL.out; have := HM.out; omega
      have hsz := B3.out.size
      clear HR HB b3 hcl r3 c0 c1 c2 c3 c4 c5 L0 HLA HIT HSM HCW
      go_wp2_with (at_builtin; refine wpList_append_rows rfl _ _ 26 rfl w.heap.size 41 i0 (.agg #[.int .i64 0, .string ⟨#[]⟩]) 2 24 Tryz.underlying26 hi hz0 hz1 hz2 rfl (by decide) v5 L.length (L.flatMap enHit) rfl HOW.out v23 M.length (M.flatMap enHit) rfl HOX.out (hEncs_one M) hx1 hx2 hsz ?_; intro v4 w4 hown4 hb4)
      have R4 : Hid (HtRow w.heap.size v4 L2 w4) := by
        have e1 : L2.length = L.length + M.length := by rw [HSK.out, List.length_append]
        show World.ownsRow _ _ _ _ _ _ _
        rw [e1, HSK.out, List.flatMap_append]
        exact hown4
      have B4 : Hid (Below w.heap.size w w4) := B3.out.trans hb4
      clear hown4 hb4 B3 HOW HOX hx1 hx2 hsz
      go_wp2_with fail
      go_roundw
      case rel => exact ⟨k + 1, _, HK1.out, by go_num, rfl, by rw [← HE.out]; exact R4, B4⟩
      case measure => have := HK1.out; simp [intOf]; omega
    · obtain rfl : k = n := by omega
      go_wp2_with fail
      exact HV.out _ _ HR.out HB.out

end Go.Proofs.YtkajpkfhedfmaaaGreatDoor

