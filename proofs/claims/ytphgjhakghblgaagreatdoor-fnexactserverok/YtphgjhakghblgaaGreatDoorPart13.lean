/-
  At every server the program's ServerOk answers what the specification answers; the server stands. The package variables that the row lists are as the program's text lays them.
-/
import Derived.Test.YtphgjhakghblgaaGreatDoorPart1
import Derived.Test.YtphgjhakghblgaaGreatDoorPart2
import Derived.Test.YtphgjhakghblgaaGreatDoorPart3
import Derived.Test.YtphgjhakghblgaaGreatDoorPart4
import Derived.Test.YtphgjhakghblgaaGreatDoorPart5
import Derived.Test.YtphgjhakghblgaaGreatDoorPart6
import Derived.Test.YtphgjhakghblgaaGreatDoorPart7
import Derived.Test.YtphgjhakghblgaaGreatDoorPart8
import Derived.Test.YtphgjhakghblgaaGreatDoorPart9
import Derived.Test.YtphgjhakghblgaaGreatDoorPart10
import Derived.Test.YtphgjhakghblgaaGreatDoorPart11
import Derived.Test.YtphgjhakghblgaaGreatDoorPart12
import Derived.Deep.RegionHeld3
import Derived.Test.YtphgjhakghblgaaGreatDoorCards
import Derived.Test.YtphgjhakghblgaaGreatDoorTie
import Derived.WalkKit
import Derived.ProofKit
import Derived.OpenShut
import Derived.ShutString
import Derived.ChangeOld
import Derived.ChangeVars
import Derived.Below
import Derived.Carry
import Derived.Deep.DeepHandedRow
import Derived.Lib.LaidTab
set_option linter.unusedVariables false
namespace Go.Proofs.YtphgjhakghblgaaGreatDoor
open Go.RowKit Go.Deep

/-- What is kept at a place is the filter of a block. -/
def KeptS (s : SrvV) (i : Nat) : Prop := (s.cs.getD i default).pos < (s.n : Int) ∧ (s.cs.getD i default).text = filterAt (ptsOf s.bs) (s.cs.getD i default).pos.toNat
theorem cached_no {s : SrvV} (hl : s.n = s.bs.length) (hok : okP (ptsOf s.bs) = true) (h : cachedB s.cs = false) : srvR s = false := by
  refine srv_cache ?_
  by_cases h4 : s.cs.length ≤ 4
  · by_cases hx : ∀ i, i < s.cs.length → onceOk s.cs i = true
    · rw [cachedB_good hx, decide_eq_true h4] at h
      exact absurd h (by decide)
    · obtain ⟨i, hi⟩ := Classical.not_forall.1 hx
      obtain ⟨hil, hi2⟩ := Classical.not_imp.1 hi
      have ho : onceOk s.cs i = false := by simpa using hi2
      refine cache_bad hil ?_
      have hlen := okP_len hok
      rw [onceOk, Bool.and_eq_false_iff] at ho
      rcases ho with ho | ho
      · refine kept_range ?_
        intro hr
        have hin : inB (s.cs.getD i default).pos 0 19 = true := inB_yes (by omega)
        rw [hin] at ho
        exact absurd ho (by decide)
      · exact kept_has (by simpa using ho)
  · exact cache_len h4
theorem kept_no {s : SrvV} (hl : s.n = s.bs.length) {i : Nat} (hi : i < s.cs.length) (h : ¬ KeptS s i) : srvR s = false := by
  refine srv_cache (cache_bad hi ?_)
  by_cases h1 : (s.cs.getD i default).pos < (s.n : Int)
  · have h2 : ¬ (s.cs.getD i default).text = filterAt (ptsOf s.bs) (s.cs.getD i default).pos.toNat := fun h3 => h ⟨h1, h3⟩
    exact kept_text h2
  · exact kept_range (by rw [pts_len, ← hl]; omega)
set_option linter.unusedSimpArgs false in
theorem once_parts {cs : List CachedV} {i : Nat} (h : onceOk cs i = true) : inB (cs.getD i default).pos 0 19 = true ∧ hasC (cs.take i) (cs.getD i default).pos = false := by
  simpa [onceOk] using h
theorem srv_yes {s : SrvV} (hl : s.n = s.bs.length) (hok : okP (ptsOf s.bs) = true) (ht : tokOk s.ts = true) (hc : cachedB s.cs = true) (h : ∀ i, i < s.cs.length → KeptS s i) : srvR s = true := by
  refine srv_good ht hok (cache_good (cachedB_once hc).1 fun i hi => ?_)
  have ho := once_parts ((cachedB_once hc).2 i hi)
  have hk := h i hi
  have hr : 0 ≤ (s.cs.getD i default).pos := by
    have := ho.1
    simp only [inB, decide_eq_true_eq] at this
    omega
  exact kept_good ⟨hr, by rw [pts_len, ← hl]; exact hk.1⟩ ho.2 hk.2

set_option linter.unusedSimpArgs false in
set_option maxHeartbeats 8000000 in
set_option maxRecDepth 100000 in
theorem specL7Ok (s : SrvV) (w : World) (h : SrvAt s w) (hB : BlksS s.g s.n s.bc s.bs w) :
    Calls Tryz.prog 18 #[srvVal s] w fun e w' => e = .returned (.bool (srvR s)) ∧ Below w.heap.size w w' := by
  have HS : Hid (SrvAt s w) := h
  have HBn : Hid (s.n = s.bs.length) := h.b.len
  have HTn : Hid (s.tn = s.ts.length) := h.tl
  have HCn : Hid (s.cn = s.cs.length) := h.cl
  have hbm := h.b.max
  have hcm := h.cm
  have H1 : Hid (okP (ptsOf s.bs) = false → srvR s = false) := fun h => srv_okP h
  have H2 : Hid (¬ s.tn = 3 → srvR s = false) := fun hf => srv_tok (tok_len (by rw [← HTn.out]; exact hf))
  have H3 : Hid (okP (ptsOf s.bs) = true → cachedB s.cs = false → srvR s = false) := fun h1 h2 => cached_no HBn.out h1 h2
  have H4 : Hid (∀ k, k < s.tn → inB (s.ts.getD k 0) 0 8 = false → srvR s = false) := fun k hk hf => srv_tok (tok_bad (by rw [← HTn.out]; exact hk) (by
    intro hr
    rw [inB_yes hr] at hf
    exact absurd hf (by decide)))
  have H5 : Hid (∀ k, k < s.cn → ¬ KeptS s k → srvR s = false) := fun k hk hf => kept_no HBn.out (by rw [← HCn.out]; exact hk) hf
  have H6 : Hid (s.tn = 3 → (∀ k, k < s.tn → inB (s.ts.getD k 0) 0 8 = true) → okP (ptsOf s.bs) = true → cachedB s.cs = true → (∀ k, k < s.cn → KeptS s k) → srvR s = true) := fun h1 h2 h3 h4 h5 => srv_yes HBn.out h3 (tok_good (by rw [← HTn.out]; exact h1) (fun k hk => by
    have := h2 k (by rw [HTn.out]; exact hk)
    simp only [inB, Bool.and_eq_true, decide_eq_true_eq] at this
    exact this)) h4 (fun k hk => h5 k (by rw [HCn.out]; exact hk))
  have hbl := fun (w' : World) (hb : Below w.heap.size w w') => specL4Blocks s.g s.n s.bc s.bs w' (hB.below hb)
  have hca := fun (w' : World) (hb : Below w.heap.size w w') => specL7Cached s.cg s.cn s.cc s.cs w' (h.below hb).c h.cl h.cm
  generalize srvR s = R at H1 H2 H3 H4 H5 H6 ⊢
  clear h hB
  unfold srvVal
  have C0 : Hid (CBk (w.alloc (.cells #[.slice (some ⟨s.g, 0, none⟩) s.n s.bc, .slice (some ⟨s.tg, 0, none⟩) s.tn s.tc, .slice (some ⟨s.cg, 0, none⟩) s.cn s.cc] 32)) w.heap.size 32 #[.slice (some ⟨s.g, 0, none⟩) s.n s.bc, .slice (some ⟨s.tg, 0, none⟩) s.tn s.tc, .slice (some ⟨s.cg, 0, none⟩) s.cn s.cc]) := CBk.new w _ _
  have L0 : Hid (Below w.heap.size w (w.alloc (.cells #[.slice (some ⟨s.g, 0, none⟩) s.n s.bc, .slice (some ⟨s.tg, 0, none⟩) s.tn s.tc, .slice (some ⟨s.cg, 0, none⟩) s.cn s.cc] 32))) := (Below.refl _ w).alloc (Nat.le_refl _) _
  go_enter Tryz.func18, Tryz.ntmps18
  go_wp2_with fail
  have hb0 := hbl _ L0.out
  clear hbl
  cases hok : okP (ptsOf s.bs) with
  | false =>
    have HV : Hid (R = false) := H1.out hok
    rw [hok] at hb0
    clear hca H1 H2 H3 H4 H5 H6 hok
    refine hb0.mono ?_
    rintro e w1 ⟨rfl, b1⟩
    go_wp2_with fail
    go_ret
    exact ⟨by rw [HV.out]; rfl, L0.out.trans (b1.mono L0.out.size)⟩
  | true =>
    have HOK : Hid (okP (ptsOf s.bs) = true) := hok
    have H3 := H3.out hok
    rw [hok] at hb0
    clear H1 hok
    refine hb0.mono ?_
    rintro e w1 ⟨rfl, b1⟩
    obtain ⟨gs, hgs⟩ : ∃ gs, gs = w.heap.size := ⟨_, rfl⟩
    have CS : Hid (CBk w1 gs 32 #[.slice (some ⟨s.g, 0, none⟩) s.n s.bc, .slice (some ⟨s.tg, 0, none⟩) s.tn s.tc, .slice (some ⟨s.cg, 0, none⟩) s.cn s.cc]) := by rw [hgs]; exact C0.out.call b1
    have L1 : Hid (Below w.heap.size w w1) := L0.out.trans (b1.mono L0.out.size)
    rw [← hgs]
    clear hgs
    clear C0 L0 b1 hb0
    obtain ⟨c0, c1, c2, _⟩ := CS.out.three
    by_cases h3 : s.tn = 3
    · have hn3 : (s.tn : Int) = 3 := by omega
      have hn3' : ((s.tn : Int) != 3) = false := by rw [hn3]; rfl
      have HT3 : Hid (s.tn = 3) := h3
      have hc0 := hca _ L1.out
      clear hca H2
      cases hcb : cachedB s.cs with
      | false =>
        have HV : Hid (R = false) := H3 hcb
        rw [hcb] at hc0
        clear H3 H4 H5 H6 hcb
        go_wp2_with fail
        refine hc0.mono ?_
        rintro e w2 ⟨rfl, b2⟩
        go_wp2_with fail
        go_ret
        exact ⟨by rw [HV.out]; rfl, L1.out.trans (b2.mono L1.out.size)⟩
      | true =>
        have HCB : Hid (cachedB s.cs = true) := hcb
        rw [hcb] at hc0
        clear H3 hcb
        go_wp2_with fail
        refine hc0.mono ?_
        rintro e w2 ⟨rfl, b2⟩
        have CS2 : Hid (CBk w2 gs 32 #[.slice (some ⟨s.g, 0, none⟩) s.n s.bc, .slice (some ⟨s.tg, 0, none⟩) s.tn s.tc, .slice (some ⟨s.cg, 0, none⟩) s.cn s.cc]) := CS.out.call b2
        have L2 : Hid (Below w.heap.size w w2) := L1.out.trans (b2.mono L1.out.size)
        clear CS L1 b2 hc0 c0 c1 c2 hn3 hn3' h3
        go_wp2_with fail
        go_loopw [3] (fun i wr => ∃ k : Nat, k ≤ s.tn ∧ i = .int .i64 (k : Int) ∧ Hid (CBk wr gs 32 #[.slice (some ⟨s.g, 0, none⟩) s.n s.bc, .slice (some ⟨s.tg, 0, none⟩) s.tn s.tc, .slice (some ⟨s.cg, 0, none⟩) s.cn s.cc]) ∧ Hid (Below w.heap.size w wr) ∧ Hid (∀ q, q < k → inB (s.ts.getD q 0) 0 8 = true)) (fun i _ => s.tn - (intOf i).toNat)
        case atStart => exact ⟨0, by omega, rfl, CS2, L2, fun q hq => by omega⟩
        case round =>
          clear CS2 L2
          obtain ⟨k, hk, rfl, CSr, HB, HQ⟩ := hrel
          obtain ⟨c0, c1, c2, _⟩ := CSr.out.three
          by_cases hlt : k < s.tn
          · have q0 := (HS.out.below HB.out).t.2 k (by rw [← HTn.out]; exact hlt)
            have lk : (k : Int) < (s.tn : Int) := by omega
            have lk0 : (0 : Int) ≤ (k : Int) := by omega
            have wk : IntKind.i64.wrap ((k : Int) + 1) = (k : Int) + 1 := by rw [IntKind.wrap_i64]; have := HT3.out; omega
            have HK1 : Hid (k + 1 ≤ s.tn) := hlt
            have HX1 : Hid (inB (s.ts.getD k 0) 0 8 = false → R = false) := H4.out k hlt
            have HX2 : Hid (inB (s.ts.getD k 0) 0 8 = true → ∀ q, q < k + 1 → inB (s.ts.getD q 0) 0 8 = true) := by
              intro h q hq
              rcases Nat.lt_or_ge q k with h' | h'
              · exact HQ.out q h'
              · obtain rfl : q = k := by omega
                exact h
            clear HQ
            have hin := specIn (s.ts.getD k 0) 0 8 wr
            generalize inB (s.ts.getD k 0) 0 8 = b at hin HX1 HX2
            generalize s.ts.getD k 0 = t at q0 hin
            cases b with
            | false =>
              have HV : Hid (R = false) := HX1.out rfl
              clear HX1 HX2 H4 H5 H6
              go_wp2_with fail
              refine hin.mono ?_
              rintro e w3 ⟨rfl, rfl⟩
              go_wp2_with fail
              go_ret
              exact ⟨by rw [HV.out]; rfl, HB.out⟩
            | true =>
              have HQ2 : Hid (∀ q, q < k + 1 → inB (s.ts.getD q 0) 0 8 = true) := HX2.out rfl
              clear HX1 HX2
              go_wp2_with fail
              refine hin.mono ?_
              rintro e w3 ⟨rfl, rfl⟩
              go_wp2_with fail
              go_roundw
              case rel => exact ⟨k + 1, HK1.out, by go_num, CSr, HB, HQ2⟩
              case measure => have := HK1.out; simp [intOf]; omega
          · have HTQ : Hid (∀ q, q < s.tn → inB (s.ts.getD q 0) 0 8 = true) := fun q hq => HQ.out q (by omega)
            have lk : ¬ (k : Int) < (s.tn : Int) := by omega
            have HG : Hid ((∀ k, k < s.cn → KeptS s k) → R = true) := fun h => H6.out HT3.out HTQ.out HOK.out HCB.out h
            have HCS : Hid (CBk wr gs 32 #[.slice (some ⟨s.g, 0, none⟩) s.n s.bc, .slice (some ⟨s.tg, 0, none⟩) s.tn s.tc, .slice (some ⟨s.cg, 0, none⟩) s.cn s.cc]) := CSr
            have HBS : Hid (Below w.heap.size w wr) := HB
            clear H4 H6 HQ HTQ
            go_wp2_with fail
            clear c0 c1 c2 lk
            go_loopw [4] (fun i wr => ∃ k : Nat, k ≤ s.cn ∧ i = .int .i64 (k : Int) ∧ Hid (CBk wr gs 32 #[.slice (some ⟨s.g, 0, none⟩) s.n s.bc, .slice (some ⟨s.tg, 0, none⟩) s.tn s.tc, .slice (some ⟨s.cg, 0, none⟩) s.cn s.cc]) ∧ Hid (Below w.heap.size w wr) ∧ Hid (∀ q, q < k → KeptS s q)) (fun i _ => s.cn - (intOf i).toNat)
            case atStart => exact ⟨0, by omega, rfl, HCS, HBS, fun q hq => by omega⟩
            case round =>
              clear HCS HBS hlt hk HB CSr
              obtain ⟨k, hk, rfl, CSr, HB, HQ⟩ := hrel
              obtain ⟨c0, c1, c2, _⟩ := CSr.out.three
              by_cases hlt : k < s.cn
              · have hkl : k < s.cs.length := by rw [← HCn.out]; exact hlt
                have HAr : Hid (AtCached wr s.cg s.cs) := (HS.out.below HB.out).c
                have q0 := AtCached.c0 HAr.out k hkl
                have q1 := AtCached.c1 HAr.out k hkl
                have hcl : s.cg < wr.heap.size := HAr.out.1
                have lk : (k : Int) < (s.cn : Int) := by omega
                have lk0 : (0 : Int) ≤ (k : Int) := by omega
                have wk : IntKind.i64.wrap ((k : Int) + 1) = (k : Int) + 1 := by rw [IntKind.wrap_i64]; omega
                have HK1 : Hid (k + 1 ≤ s.cn) := hlt
                have hin := (once_parts ((cachedB_once HCB.out).2 k hkl)).1
                have hbd : Below wr.heap.size wr wr.drew := (Below.refl _ _).drew
                have HX1 : Hid (¬ (s.cs.getD k default).pos < (s.n : Int) → R = false) := fun hf => H5.out k hlt (fun h => hf h.1)
                have HX3 : Hid (¬ (s.cs.getD k default).text = filterAt (ptsOf s.bs) (s.cs.getD k default).pos.toNat → R = false) := fun hf => H5.out k hlt (fun h => hf h.2)
                have HX4 : Hid ((s.cs.getD k default).pos < (s.n : Int) → (s.cs.getD k default).text = filterAt (ptsOf s.bs) (s.cs.getD k default).pos.toNat → ∀ q, q < k + 1 → KeptS s q) := by
                  intro h1 h3 q hq
                  rcases Nat.lt_or_ge q k with h' | h'
                  · exact HQ.out q h'
                  · obtain rfl : q = k := by omega
                    exact ⟨h1, h3⟩
                clear HQ H5 HG HAr
                generalize s.cs.getD k default = c at q0 q1 HX1 HX3 HX4 hin
                obtain ⟨p, tx⟩ := c
                dsimp only at q0 q1 HX1 HX3 HX4 hin
                simp only [inB, Bool.and_eq_true, decide_eq_true_eq] at hin
                obtain ⟨j, rfl⟩ : ∃ j : Nat, p = (j : Int) := ⟨p.toNat, by omega⟩
                have hj0 : (0 : Int) ≤ (j : Int) := by omega
                clear hin
                by_cases hj : s.n ≤ j
                · have HV : Hid (R = false) := HX1.out (by omega)
                  have hd1 : (s.n : Int) ≤ (j : Int) := by omega
                  have hd1' : decide ((s.n : Int) ≤ (j : Int)) = true := decide_eq_true hd1
                  have hd1'' : decide (s.n ≤ j) = true := decide_eq_true hj
                  clear HX1 HX3 HX4 hkl
                  have hheld : ∀ w' : World, Below wr.heap.size wr w' → (fun w' => (w'.cell? ⟨gs, 0, none⟩ = some (.slice (some ⟨s.g, 0, none⟩) s.n s.bc) ∧ w'.cell? ⟨gs, 2, none⟩ = some (.slice (some ⟨s.cg, 0, none⟩) s.cn s.cc)) ∧ (w'.cell? ⟨s.cg, k * 2, none⟩ = some (.int .i64 (j : Int)) ∧ w'.cell? ⟨s.cg, k * 2 + 1, none⟩ = some (.string tx))) w' := fun w' hb => ⟨⟨(CSr.out.call hb).cell 0, (CSr.out.call hb).cell 2⟩, ⟨(hb.cell hcl).trans q0, (hb.cell hcl).trans q1⟩⟩
                  go_wp2_with fail
                  refine wp_region_noPanic ?_
                  refine wp_region_held_drew (S := fun w' => (w'.cell? ⟨gs, 0, none⟩ = some (.slice (some ⟨s.g, 0, none⟩) s.n s.bc) ∧ w'.cell? ⟨gs, 2, none⟩ = some (.slice (some ⟨s.cg, 0, none⟩) s.cn s.cc)) ∧ (w'.cell? ⟨s.cg, k * 2, none⟩ = some (.int .i64 (j : Int)) ∧ w'.cell? ⟨s.cg, k * 2 + 1, none⟩ = some (.string tx))) (by kernel_rfl) (hheld _ hbd) (fun hHeld => ?_)
                  refine takeL 0 (v := ?_) rfl (by kernel_rfl) (by kernel_rfl) (by kernel_rfl) (fun _ _ _ h => h) (by kernel_rfl) ?_ (by assumption) ?_
                  rotate_left
                  · intro w hSw; (try dsimp only at hSw); first | (go_simp; done) | (go_simp; with_reducible rfl)
                  try simp only [Act.put, List.setIfInBounds_toArray, List.set_cons_zero, List.set_cons_succ]
                  refine takeL 1 (v := ?_) rfl (by kernel_rfl) (by kernel_rfl) (by kernel_rfl) (fun _ _ _ h => h) (by kernel_rfl) ?_ (by assumption) ?_
                  rotate_left
                  · intro w hSw; (try dsimp only at hSw); first | (go_simp; done) | (go_simp; with_reducible rfl)
                  try simp only [Act.put, List.setIfInBounds_toArray, List.set_cons_zero, List.set_cons_succ]
                  refine takeL 2 (v := ?_) rfl (by kernel_rfl) (by kernel_rfl) (by kernel_rfl) (fun _ _ _ h => h) (by kernel_rfl) ?_ (by assumption) ?_
                  rotate_left
                  · intro w hSw; (try dsimp only at hSw); first | (go_simp; done) | (go_simp; with_reducible rfl)
                  try simp only [Act.put, List.setIfInBounds_toArray, List.set_cons_zero, List.set_cons_succ]
                  refine takeL 3 (v := ?_) rfl (by kernel_rfl) (by kernel_rfl) (by kernel_rfl) (fun _ _ _ h => h) (by kernel_rfl) ?_ (by assumption) ?_
                  rotate_left
                  · intro w hSw; (try dsimp only at hSw); first | (go_simp; done) | (go_simp; with_reducible rfl)
                  try simp only [Act.put, List.setIfInBounds_toArray, List.set_cons_zero, List.set_cons_succ]
                  refine takeL 4 (v := ?_) rfl (by kernel_rfl) (by kernel_rfl) (by kernel_rfl) (fun _ _ _ h => h) (by kernel_rfl) ?_ (by assumption) ?_
                  rotate_left
                  · intro w hSw; (try dsimp only at hSw); first | (go_simp; done) | (go_simp; with_reducible rfl)
                  try simp only [Act.put, List.setIfInBounds_toArray, List.set_cons_zero, List.set_cons_succ]
                  refine takeL 5 (v := ?_) rfl (by kernel_rfl) (by kernel_rfl) (by kernel_rfl) (fun _ _ _ h => h) (by kernel_rfl) ?_ (by assumption) ?_
                  rotate_left
                  · intro w hSw; (try dsimp only at hSw); first | (go_simp; done) | (go_simp; with_reducible rfl)
                  try simp only [Act.put, List.setIfInBounds_toArray, List.set_cons_zero, List.set_cons_succ]
                  refine takeL 6 (v := ?_) rfl (by kernel_rfl) (by kernel_rfl) (by kernel_rfl) (fun _ _ _ h => h) (by kernel_rfl) ?_ (by assumption) ?_
                  rotate_left
                  · intro w hSw; (try dsimp only at hSw); first | (go_simp; done) | (go_simp; with_reducible rfl)
                  try simp only [Act.put, List.setIfInBounds_toArray, List.set_cons_zero, List.set_cons_succ]
                  refine takeL 7 (v := ?_) rfl (by kernel_rfl) (by kernel_rfl) (by kernel_rfl) (fun _ _ _ h => h) (by kernel_rfl) ?_ (by assumption) ?_
                  rotate_left
                  · intro w hSw; (try dsimp only at hSw); first | (go_simp; done) | (go_simp; with_reducible rfl)
                  try simp only [Act.put, List.setIfInBounds_toArray, List.set_cons_zero, List.set_cons_succ]
                  refine takeL 8 (v := ?_) rfl (by kernel_rfl) (by kernel_rfl) (by kernel_rfl) (fun _ _ _ h => h) (by kernel_rfl) ?_ (by assumption) ?_
                  rotate_left
                  · intro w hSw; (try dsimp only at hSw); first | (go_simp; done) | (go_simp; with_reducible rfl)
                  try simp only [Act.put, List.setIfInBounds_toArray, List.set_cons_zero, List.set_cons_succ]
                  refine takeL 9 (v := ?_) rfl (by kernel_rfl) (by kernel_rfl) (by kernel_rfl) (fun _ _ _ h => h) (by kernel_rfl) ?_ (by assumption) ?_
                  rotate_left
                  · intro w hSw; (try dsimp only at hSw); first | (go_simp; done) | (go_simp; with_reducible rfl)
                  try simp only [Act.put, List.setIfInBounds_toArray, List.set_cons_zero, List.set_cons_succ]
                  refine takeL 10 (v := ?_) rfl (by kernel_rfl) (by kernel_rfl) (by kernel_rfl) (fun _ _ _ h => h) (by kernel_rfl) ?_ (by assumption) ?_
                  rotate_left
                  · intro w hSw; (try dsimp only at hSw); first | (go_simp; done) | (go_simp; with_reducible rfl)
                  try simp only [Act.put, List.setIfInBounds_toArray, List.set_cons_zero, List.set_cons_succ]
                  refine skipL 11 rfl (by kernel_rfl) (by kernel_rfl) (by kernel_rfl) (fun _ _ _ h => h) (by kernel_rfl) (by assumption) ?_
                  try simp only [Act.put, List.setIfInBounds_toArray, List.set_cons_zero, List.set_cons_succ]
                  refine skipL 12 rfl (by kernel_rfl) (by kernel_rfl) (by kernel_rfl) (fun _ _ _ h => h) (by kernel_rfl) (by assumption) ?_
                  try simp only [Act.put, List.setIfInBounds_toArray, List.set_cons_zero, List.set_cons_succ]
                  refine skipL 13 rfl (by kernel_rfl) (by kernel_rfl) (by kernel_rfl) (fun _ _ _ h => h) (by kernel_rfl) (by assumption) ?_
                  try simp only [Act.put, List.setIfInBounds_toArray, List.set_cons_zero, List.set_cons_succ]
                  refine skipL 14 rfl (by kernel_rfl) (by kernel_rfl) (by kernel_rfl) (fun _ _ _ h => h) (by kernel_rfl) (by assumption) ?_
                  try simp only [Act.put, List.setIfInBounds_toArray, List.set_cons_zero, List.set_cons_succ]
                  refine skipL 15 rfl (by kernel_rfl) (by kernel_rfl) (by kernel_rfl) (fun _ _ _ h => h) (by kernel_rfl) (by assumption) ?_
                  try simp only [Act.put, List.setIfInBounds_toArray, List.set_cons_zero, List.set_cons_succ]
                  refine skipL 16 rfl (by kernel_rfl) (by kernel_rfl) (by kernel_rfl) (fun _ _ _ h => h) (by kernel_rfl) (by assumption) ?_
                  try simp only [Act.put, List.setIfInBounds_toArray, List.set_cons_zero, List.set_cons_succ]
                  refine skipL 17 rfl (by kernel_rfl) (by kernel_rfl) (by kernel_rfl) (fun _ _ _ h => h) (by kernel_rfl) (by assumption) ?_
                  try simp only [Act.put, List.setIfInBounds_toArray, List.set_cons_zero, List.set_cons_succ]
                  refine skipL 18 rfl (by kernel_rfl) (by kernel_rfl) (by kernel_rfl) (fun _ _ _ h => h) (by kernel_rfl) (by assumption) ?_
                  try simp only [Act.put, List.setIfInBounds_toArray, List.set_cons_zero, List.set_cons_succ]
                  refine skipL 19 rfl (by kernel_rfl) (by kernel_rfl) (by kernel_rfl) (fun _ _ _ h => h) (by kernel_rfl) (by assumption) ?_
                  try simp only [Act.put, List.setIfInBounds_toArray, List.set_cons_zero, List.set_cons_succ]
                  refine skipL 20 rfl (by kernel_rfl) (by kernel_rfl) (by kernel_rfl) (fun _ _ _ h => h) (by kernel_rfl) (by assumption) ?_
                  try simp only [Act.put, List.setIfInBounds_toArray, List.set_cons_zero, List.set_cons_succ]
                  refine skipL 21 rfl (by kernel_rfl) (by kernel_rfl) (by kernel_rfl) (fun _ _ _ h => h) (by kernel_rfl) (by assumption) ?_
                  try simp only [Act.put, List.setIfInBounds_toArray, List.set_cons_zero, List.set_cons_succ]
                  refine skipL 22 rfl (by kernel_rfl) (by kernel_rfl) (by kernel_rfl) (fun _ _ _ h => h) (by kernel_rfl) (by assumption) ?_
                  try simp only [Act.put, List.setIfInBounds_toArray, List.set_cons_zero, List.set_cons_succ]
                  refine skipL 23 rfl (by kernel_rfl) (by kernel_rfl) (by kernel_rfl) (fun _ _ _ h => h) (by kernel_rfl) (by assumption) ?_
                  try simp only [Act.put, List.setIfInBounds_toArray, List.set_cons_zero, List.set_cons_succ]
                  refine skipL 24 rfl (by kernel_rfl) (by kernel_rfl) (by kernel_rfl) (fun _ _ _ h => h) (by kernel_rfl) (by assumption) ?_
                  try simp only [Act.put, List.setIfInBounds_toArray, List.set_cons_zero, List.set_cons_succ]
                  refine skipL 25 rfl (by kernel_rfl) (by kernel_rfl) (by kernel_rfl) (fun _ _ _ h => h) (by kernel_rfl) (by assumption) ?_
                  try simp only [Act.put, List.setIfInBounds_toArray, List.set_cons_zero, List.set_cons_succ]
                  refine skipL 26 rfl (by kernel_rfl) (by kernel_rfl) (by kernel_rfl) (fun _ _ _ h => h) (by kernel_rfl) (by assumption) ?_
                  try simp only [Act.put, List.setIfInBounds_toArray, List.set_cons_zero, List.set_cons_succ]
                  refine skipL 27 rfl (by kernel_rfl) (by kernel_rfl) (by kernel_rfl) (fun _ _ _ h => h) (by kernel_rfl) (by assumption) ?_
                  try simp only [Act.put, List.setIfInBounds_toArray, List.set_cons_zero, List.set_cons_succ]
                  refine skipL 28 rfl (by kernel_rfl) (by kernel_rfl) (by kernel_rfl) (fun _ _ _ h => h) (by kernel_rfl) (by assumption) ?_
                  try simp only [Act.put, List.setIfInBounds_toArray, List.set_cons_zero, List.set_cons_succ]
                  refine takeL 29 (v := ?_) rfl (by kernel_rfl) (by kernel_rfl) (by kernel_rfl) (fun _ _ _ h => h) (by kernel_rfl) ?_ (by assumption) ?_
                  rotate_left
                  · intro w hSw; (try dsimp only at hSw); first | (go_simp; done) | (go_simp; with_reducible rfl)
                  try simp only [Act.put, List.setIfInBounds_toArray, List.set_cons_zero, List.set_cons_succ]
                  refine wpAnyH_done (by kernel_rfl) ?_ _
                  refine NoPanic.normal ?_
                  go_wp2_with fail
                  go_ret
                  exact ⟨by rw [HV.out]; rfl, HB.out.drew⟩
                · have hd1 : ¬ (s.n : Int) ≤ (j : Int) := by omega
                  have hd1' : decide ((s.n : Int) ≤ (j : Int)) = false := decide_eq_false hd1
                  have hd1'' : decide (s.n ≤ j) = false := decide_eq_false (by omega)
                  have hd2 : (j : Int) < (s.n : Int) := by omega
                  have hjl : j < s.bs.length := by rw [← HBn.out]; omega
                  have HBr : Hid (Blks s.g s.n s.bc s.bs wr) := (HS.out.below HB.out).b
                  have d0 := AtBlk.c0 HBr.out.at_ j hjl
                  have d1 := AtBlk.c1 HBr.out.at_ j hjl
                  have d2 := AtBlk.c2 HBr.out.at_ j hjl
                  have d3 := AtBlk.c3 HBr.out.at_ j hjl
                  have d4 := AtBlk.c4 HBr.out.at_ j hjl
                  have d5 := AtBlk.c5 HBr.out.at_ j hjl
                  have hgl : s.g < wr.heap.size := HBr.out.at_.1
                  have HIT : Hid (ItemsAt wr (s.bs.getD j default)) := HBr.out.items _ (blk_mem hjl)
                  have hprt := blockOk_parts (okP_block HOK.out hjl)
                  have hbf := fun (w' : World) (hb : Below wr.heap.size wr w') => specL3Filter (s.bs.getD j default).h (s.bs.getD j default).g (s.bs.getD j default).n (s.bs.getD j default).cap (s.bs.getD j default).ss w' (HIT.out.1.below hb HIT.out.1.1) HIT.out.2 hprt.1 hprt.2
                  have hfe : (⟨(filterB (sumB (headX (s.bs.getD j default).h)) (s.bs.getD j default).ss).toArray⟩ : ByteArray) = filterAt (ptsOf s.bs) j := by rw [filterAt_blk hjl, blockFilter, if_pos (okP_block HOK.out hjl)]
                  rw [hfe] at hbf
                  rw [Int.toNat_natCast] at HX3 HX4
                  generalize filterAt (ptsOf s.bs) j = f at hbf HX3 HX4
                  clear hfe hprt
                  generalize s.bs.getD j default = bb at d0 d1 d2 d3 d4 d5 hbf
                  obtain ⟨⟨hp, hr, ht, hd, hn⟩, ig, im, ic, iss⟩ := bb
                  unfold blockVal at hbf
                  dsimp only at d0 d1 d2 d3 d4 d5 hbf
                  clear HIT HBr
                  by_cases htx : tx = f
                  · have HQ4 : Hid (∀ q, q < k + 1 → KeptS s q) := HX4.out (by omega) htx
                    have htx' : f = tx := htx.symm
                    subst htx'
                    clear HX1 HX3 HX4 hkl hjl
                    have hheld : ∀ w' : World, Below wr.heap.size wr w' → (fun w' => (w'.cell? ⟨gs, 0, none⟩ = some (.slice (some ⟨s.g, 0, none⟩) s.n s.bc) ∧ w'.cell? ⟨gs, 2, none⟩ = some (.slice (some ⟨s.cg, 0, none⟩) s.cn s.cc)) ∧ (w'.cell? ⟨s.cg, k * 2, none⟩ = some (.int .i64 (j : Int)) ∧ w'.cell? ⟨s.cg, k * 2 + 1, none⟩ = some (.string f)) ∧ w'.cell? ⟨s.g, j * 6, none⟩ = some (.string hp) ∧ w'.cell? ⟨s.g, j * 6 + 1, none⟩ = some (.string hr) ∧ w'.cell? ⟨s.g, j * 6 + 2, none⟩ = some (.int .i64 ht) ∧ w'.cell? ⟨s.g, j * 6 + 3, none⟩ = some (.int .i64 hd) ∧ w'.cell? ⟨s.g, j * 6 + 4, none⟩ = some (.int .i64 hn) ∧ w'.cell? ⟨s.g, j * 6 + 5, none⟩ = some (.slice (some ⟨ig, 0, none⟩) im ic)) w' := fun w' hb => ⟨⟨(CSr.out.call hb).cell 0, (CSr.out.call hb).cell 2⟩, ⟨(hb.cell hcl).trans q0, (hb.cell hcl).trans q1⟩, (hb.cell hgl).trans d0, (hb.cell hgl).trans d1, (hb.cell hgl).trans d2, (hb.cell hgl).trans d3, (hb.cell hgl).trans d4, (hb.cell hgl).trans d5⟩
                    go_wp2_with fail
                    refine wp_region_noPanic ?_
                    refine wp_region_held_drew (S := fun w' => (w'.cell? ⟨gs, 0, none⟩ = some (.slice (some ⟨s.g, 0, none⟩) s.n s.bc) ∧ w'.cell? ⟨gs, 2, none⟩ = some (.slice (some ⟨s.cg, 0, none⟩) s.cn s.cc)) ∧ (w'.cell? ⟨s.cg, k * 2, none⟩ = some (.int .i64 (j : Int)) ∧ w'.cell? ⟨s.cg, k * 2 + 1, none⟩ = some (.string f)) ∧ w'.cell? ⟨s.g, j * 6, none⟩ = some (.string hp) ∧ w'.cell? ⟨s.g, j * 6 + 1, none⟩ = some (.string hr) ∧ w'.cell? ⟨s.g, j * 6 + 2, none⟩ = some (.int .i64 ht) ∧ w'.cell? ⟨s.g, j * 6 + 3, none⟩ = some (.int .i64 hd) ∧ w'.cell? ⟨s.g, j * 6 + 4, none⟩ = some (.int .i64 hn) ∧ w'.cell? ⟨s.g, j * 6 + 5, none⟩ = some (.slice (some ⟨ig, 0, none⟩) im ic)) (by kernel_rfl) (hheld _ hbd) (fun hHeld => ?_)
                    refine takeL 0 (v := ?_) rfl (by kernel_rfl) (by kernel_rfl) (by kernel_rfl) (fun _ _ _ h => h) (by kernel_rfl) ?_ (by assumption) ?_
                    rotate_left
                    · intro w hSw; (try dsimp only at hSw); first | (go_simp; done) | (go_simp; with_reducible rfl)
                    try simp only [Act.put, List.setIfInBounds_toArray, List.set_cons_zero, List.set_cons_succ]
                    refine takeL 1 (v := ?_) rfl (by kernel_rfl) (by kernel_rfl) (by kernel_rfl) (fun _ _ _ h => h) (by kernel_rfl) ?_ (by assumption) ?_
                    rotate_left
                    · intro w hSw; (try dsimp only at hSw); first | (go_simp; done) | (go_simp; with_reducible rfl)
                    try simp only [Act.put, List.setIfInBounds_toArray, List.set_cons_zero, List.set_cons_succ]
                    refine takeL 2 (v := ?_) rfl (by kernel_rfl) (by kernel_rfl) (by kernel_rfl) (fun _ _ _ h => h) (by kernel_rfl) ?_ (by assumption) ?_
                    rotate_left
                    · intro w hSw; (try dsimp only at hSw); first | (go_simp; done) | (go_simp; with_reducible rfl)
                    try simp only [Act.put, List.setIfInBounds_toArray, List.set_cons_zero, List.set_cons_succ]
                    refine takeL 3 (v := ?_) rfl (by kernel_rfl) (by kernel_rfl) (by kernel_rfl) (fun _ _ _ h => h) (by kernel_rfl) ?_ (by assumption) ?_
                    rotate_left
                    · intro w hSw; (try dsimp only at hSw); first | (go_simp; done) | (go_simp; with_reducible rfl)
                    try simp only [Act.put, List.setIfInBounds_toArray, List.set_cons_zero, List.set_cons_succ]
                    refine takeL 4 (v := ?_) rfl (by kernel_rfl) (by kernel_rfl) (by kernel_rfl) (fun _ _ _ h => h) (by kernel_rfl) ?_ (by assumption) ?_
                    rotate_left
                    · intro w hSw; (try dsimp only at hSw); first | (go_simp; done) | (go_simp; with_reducible rfl)
                    try simp only [Act.put, List.setIfInBounds_toArray, List.set_cons_zero, List.set_cons_succ]
                    refine takeL 5 (v := ?_) rfl (by kernel_rfl) (by kernel_rfl) (by kernel_rfl) (fun _ _ _ h => h) (by kernel_rfl) ?_ (by assumption) ?_
                    rotate_left
                    · intro w hSw; (try dsimp only at hSw); first | (go_simp; done) | (go_simp; with_reducible rfl)
                    try simp only [Act.put, List.setIfInBounds_toArray, List.set_cons_zero, List.set_cons_succ]
                    refine takeL 6 (v := ?_) rfl (by kernel_rfl) (by kernel_rfl) (by kernel_rfl) (fun _ _ _ h => h) (by kernel_rfl) ?_ (by assumption) ?_
                    rotate_left
                    · intro w hSw; (try dsimp only at hSw); first | (go_simp; done) | (go_simp; with_reducible rfl)
                    try simp only [Act.put, List.setIfInBounds_toArray, List.set_cons_zero, List.set_cons_succ]
                    refine takeL 7 (v := ?_) rfl (by kernel_rfl) (by kernel_rfl) (by kernel_rfl) (fun _ _ _ h => h) (by kernel_rfl) ?_ (by assumption) ?_
                    rotate_left
                    · intro w hSw; (try dsimp only at hSw); first | (go_simp; done) | (go_simp; with_reducible rfl)
                    try simp only [Act.put, List.setIfInBounds_toArray, List.set_cons_zero, List.set_cons_succ]
                    refine takeL 8 (v := ?_) rfl (by kernel_rfl) (by kernel_rfl) (by kernel_rfl) (fun _ _ _ h => h) (by kernel_rfl) ?_ (by assumption) ?_
                    rotate_left
                    · intro w hSw; (try dsimp only at hSw); first | (go_simp; done) | (go_simp; with_reducible rfl)
                    try simp only [Act.put, List.setIfInBounds_toArray, List.set_cons_zero, List.set_cons_succ]
                    refine takeL 9 (v := ?_) rfl (by kernel_rfl) (by kernel_rfl) (by kernel_rfl) (fun _ _ _ h => h) (by kernel_rfl) ?_ (by assumption) ?_
                    rotate_left
                    · intro w hSw; (try dsimp only at hSw); first | (go_simp; done) | (go_simp; with_reducible rfl)
                    try simp only [Act.put, List.setIfInBounds_toArray, List.set_cons_zero, List.set_cons_succ]
                    refine takeL 10 (v := ?_) rfl (by kernel_rfl) (by kernel_rfl) (by kernel_rfl) (fun _ _ _ h => h) (by kernel_rfl) ?_ (by assumption) ?_
                    rotate_left
                    · intro w hSw; (try dsimp only at hSw); first | (go_simp; done) | (go_simp; with_reducible rfl)
                    try simp only [Act.put, List.setIfInBounds_toArray, List.set_cons_zero, List.set_cons_succ]
                    refine takeL 11 (v := ?_) rfl (by kernel_rfl) (by kernel_rfl) (by kernel_rfl) (fun _ _ _ h => h) (by kernel_rfl) ?_ (by assumption) ?_
                    rotate_left
                    · intro w hSw; (try dsimp only at hSw); first | (go_simp; done) | (go_simp; with_reducible rfl)
                    try simp only [Act.put, List.setIfInBounds_toArray, List.set_cons_zero, List.set_cons_succ]
                    refine takeL 12 (v := ?_) rfl (by kernel_rfl) (by kernel_rfl) (by kernel_rfl) (fun _ _ _ h => h) (by kernel_rfl) ?_ (by assumption) ?_
                    rotate_left
                    · intro w hSw; (try dsimp only at hSw); first | (go_simp; done) | (go_simp; with_reducible rfl)
                    try simp only [Act.put, List.setIfInBounds_toArray, List.set_cons_zero, List.set_cons_succ]
                    refine takeL 13 (v := ?_) rfl (by kernel_rfl) (by kernel_rfl) (by kernel_rfl) (fun _ _ _ h => h) (by kernel_rfl) ?_ (by assumption) ?_
                    rotate_left
                    · intro w hSw; (try dsimp only at hSw); first | (go_simp; done) | (go_simp; with_reducible rfl)
                    try simp only [Act.put, List.setIfInBounds_toArray, List.set_cons_zero, List.set_cons_succ]
                    refine takeL 14 (v := ?_) rfl (by kernel_rfl) (by kernel_rfl) (by kernel_rfl) (fun _ _ _ h => h) (by kernel_rfl) ?_ (by assumption) ?_
                    rotate_left
                    · intro w hSw; (try dsimp only at hSw); first | (go_simp; done) | (go_simp; with_reducible rfl)
                    try simp only [Act.put, List.setIfInBounds_toArray, List.set_cons_zero, List.set_cons_succ]
                    refine takeL 15 (v := ?_) rfl (by kernel_rfl) (by kernel_rfl) (by kernel_rfl) (fun _ _ _ h => h) (by kernel_rfl) ?_ (by assumption) ?_
                    rotate_left
                    · intro w hSw; (try dsimp only at hSw); first | (go_simp; done) | (go_simp; with_reducible rfl)
                    try simp only [Act.put, List.setIfInBounds_toArray, List.set_cons_zero, List.set_cons_succ]
                    refine takeL 16 (v := ?_) rfl (by kernel_rfl) (by kernel_rfl) (by kernel_rfl) (fun _ _ _ h => h) (by kernel_rfl) ?_ (by assumption) ?_
                    rotate_left
                    · intro w hSw; (try dsimp only at hSw); first | (go_simp; done) | (go_simp; with_reducible rfl)
                    try simp only [Act.put, List.setIfInBounds_toArray, List.set_cons_zero, List.set_cons_succ]
                    refine takeL 17 (v := ?_) rfl (by kernel_rfl) (by kernel_rfl) (by kernel_rfl) (fun _ _ _ h => h) (by kernel_rfl) ?_ (by assumption) ?_
                    rotate_left
                    · intro w hSw; (try dsimp only at hSw); first | (go_simp; done) | (go_simp; with_reducible rfl)
                    try simp only [Act.put, List.setIfInBounds_toArray, List.set_cons_zero, List.set_cons_succ]
                    refine takeL 18 (v := ?_) rfl (by kernel_rfl) (by kernel_rfl) (by kernel_rfl) (fun _ _ _ h => h) (by kernel_rfl) ?_ (by assumption) ?_
                    rotate_left
                    · intro w hSw; (try dsimp only at hSw); first | (go_simp; done) | (go_simp; with_reducible rfl)
                    try simp only [Act.put, List.setIfInBounds_toArray, List.set_cons_zero, List.set_cons_succ]
                    refine takeL 19 (v := ?_) rfl (by kernel_rfl) (by kernel_rfl) (by kernel_rfl) (fun _ _ _ h => h) (by kernel_rfl) ?_ (by assumption) ?_
                    rotate_left
                    · intro w hSw; (try dsimp only at hSw); first | (go_simp; done) | (go_simp; with_reducible rfl)
                    try simp only [Act.put, List.setIfInBounds_toArray, List.set_cons_zero, List.set_cons_succ]
                    refine takeL 20 (v := ?_) rfl (by kernel_rfl) (by kernel_rfl) (by kernel_rfl) (fun _ _ _ h => h) (by kernel_rfl) ?_ (by assumption) ?_
                    rotate_left
                    · intro w hSw; (try dsimp only at hSw); first | (go_simp; done) | (go_simp; with_reducible rfl)
                    try simp only [Act.put, List.setIfInBounds_toArray, List.set_cons_zero, List.set_cons_succ]
                    refine takeL 21 (v := ?_) rfl (by kernel_rfl) (by kernel_rfl) (by kernel_rfl) (fun _ _ _ h => h) (by kernel_rfl) ?_ (by assumption) ?_
                    rotate_left
                    · intro w hSw; (try dsimp only at hSw); first | (go_simp; done) | (go_simp; with_reducible rfl)
                    try simp only [Act.put, List.setIfInBounds_toArray, List.set_cons_zero, List.set_cons_succ]
                    refine takeL 22 (v := ?_) rfl (by kernel_rfl) (by kernel_rfl) (by kernel_rfl) (fun _ _ _ h => h) (by kernel_rfl) ?_ (by assumption) ?_
                    rotate_left
                    · intro w hSw; (try dsimp only at hSw); first | (go_simp; done) | (go_simp; with_reducible rfl)
                    try simp only [Act.put, List.setIfInBounds_toArray, List.set_cons_zero, List.set_cons_succ]
                    refine takeL 23 (v := ?_) rfl (by kernel_rfl) (by kernel_rfl) (by kernel_rfl) (fun _ _ _ h => h) (by kernel_rfl) ?_ (by assumption) ?_
                    rotate_left
                    · intro w hSw; (try dsimp only at hSw); first | (go_simp; done) | (go_simp; with_reducible rfl)
                    try simp only [Act.put, List.setIfInBounds_toArray, List.set_cons_zero, List.set_cons_succ]
                    refine takeL 24 (v := ?_) rfl (by kernel_rfl) (by kernel_rfl) (by kernel_rfl) (fun _ _ _ h => h) (by kernel_rfl) ?_ (by assumption) ?_
                    rotate_left
                    · intro w hSw; (try dsimp only at hSw); first | (go_simp; done) | (go_simp; with_reducible rfl)
                    try simp only [Act.put, List.setIfInBounds_toArray, List.set_cons_zero, List.set_cons_succ]
                    refine takeL 25 (v := ?_) rfl (by kernel_rfl) (by kernel_rfl) (by kernel_rfl) (fun _ _ _ h => h) (by kernel_rfl) ?_ (by assumption) ?_
                    rotate_left
                    · intro w hSw; (try dsimp only at hSw); first | (go_simp; done) | (go_simp; with_reducible rfl)
                    try simp only [Act.put, List.setIfInBounds_toArray, List.set_cons_zero, List.set_cons_succ]
                    refine takeL 26 (v := ?_) rfl (by kernel_rfl) (by kernel_rfl) (by kernel_rfl) (fun _ _ _ h => h) (by kernel_rfl) ?_ (by assumption) ?_
                    rotate_left
                    · intro w hSw; (try dsimp only at hSw); first | (go_simp; done) | (go_simp; with_reducible rfl)
                    try simp only [Act.put, List.setIfInBounds_toArray, List.set_cons_zero, List.set_cons_succ]
                    refine callL 27 rfl (by kernel_rfl) (fun K hK => ?_)
                    go_simp
                    refine (hbf _ hbd).mono ?_
                    rintro e w5 ⟨rfl, b5⟩
                    have B5 : Hid (Below wr.heap.size wr w5) := hbd.trans b5
                    have HH5 := hheld _ B5.out
                    clear b5
                    go_wp2_with fail
                    refine hK.out _ _ ?_ (fun hHeld => ?_)
                    · first | exact HH5 | exact HH4
                    clear hK K
                    try simp only [Act.put, List.setIfInBounds_toArray, List.set_cons_zero, List.set_cons_succ]
                    refine takeL 28 (v := ?_) rfl (by kernel_rfl) (by kernel_rfl) (by kernel_rfl) (fun _ _ _ h => h) (by kernel_rfl) ?_ (by assumption) ?_
                    rotate_left
                    · intro w hSw; (try dsimp only at hSw); first | (go_simp; done) | (go_simp; with_reducible rfl)
                    try simp only [Act.put, List.setIfInBounds_toArray, List.set_cons_zero, List.set_cons_succ]
                    refine takeL 29 (v := ?_) rfl (by kernel_rfl) (by kernel_rfl) (by kernel_rfl) (fun _ _ _ h => h) (by kernel_rfl) ?_ (by assumption) ?_
                    rotate_left
                    · intro w hSw; (try dsimp only at hSw); first | (go_simp; done) | (go_simp; with_reducible rfl)
                    try simp only [Act.put, List.setIfInBounds_toArray, List.set_cons_zero, List.set_cons_succ]
                    refine wpAnyH_done (by kernel_rfl) ?_ _
                    refine NoPanic.normal ?_
                    go_wp2_with fail
                    go_roundw
                    case rel => exact ⟨k + 1, HK1.out, by go_num, CSr.out.call B5.out, HB.out.trans (B5.out.mono HB.out.size), HQ4⟩
                    case measure => have := HK1.out; simp [intOf]; omega
                  · have HV : Hid (R = false) := HX3.out htx
                    have htx1 : (tx.toList == f.toList) = false := by rw [sameS, decide_eq_false htx]
                    clear HX1 HX3 HX4 hkl hjl
                    have hheld : ∀ w' : World, Below wr.heap.size wr w' → (fun w' => (w'.cell? ⟨gs, 0, none⟩ = some (.slice (some ⟨s.g, 0, none⟩) s.n s.bc) ∧ w'.cell? ⟨gs, 2, none⟩ = some (.slice (some ⟨s.cg, 0, none⟩) s.cn s.cc)) ∧ (w'.cell? ⟨s.cg, k * 2, none⟩ = some (.int .i64 (j : Int)) ∧ w'.cell? ⟨s.cg, k * 2 + 1, none⟩ = some (.string tx)) ∧ w'.cell? ⟨s.g, j * 6, none⟩ = some (.string hp) ∧ w'.cell? ⟨s.g, j * 6 + 1, none⟩ = some (.string hr) ∧ w'.cell? ⟨s.g, j * 6 + 2, none⟩ = some (.int .i64 ht) ∧ w'.cell? ⟨s.g, j * 6 + 3, none⟩ = some (.int .i64 hd) ∧ w'.cell? ⟨s.g, j * 6 + 4, none⟩ = some (.int .i64 hn) ∧ w'.cell? ⟨s.g, j * 6 + 5, none⟩ = some (.slice (some ⟨ig, 0, none⟩) im ic)) w' := fun w' hb => ⟨⟨(CSr.out.call hb).cell 0, (CSr.out.call hb).cell 2⟩, ⟨(hb.cell hcl).trans q0, (hb.cell hcl).trans q1⟩, (hb.cell hgl).trans d0, (hb.cell hgl).trans d1, (hb.cell hgl).trans d2, (hb.cell hgl).trans d3, (hb.cell hgl).trans d4, (hb.cell hgl).trans d5⟩
                    go_wp2_with fail
                    refine wp_region_noPanic ?_
                    refine wp_region_held_drew (S := fun w' => (w'.cell? ⟨gs, 0, none⟩ = some (.slice (some ⟨s.g, 0, none⟩) s.n s.bc) ∧ w'.cell? ⟨gs, 2, none⟩ = some (.slice (some ⟨s.cg, 0, none⟩) s.cn s.cc)) ∧ (w'.cell? ⟨s.cg, k * 2, none⟩ = some (.int .i64 (j : Int)) ∧ w'.cell? ⟨s.cg, k * 2 + 1, none⟩ = some (.string tx)) ∧ w'.cell? ⟨s.g, j * 6, none⟩ = some (.string hp) ∧ w'.cell? ⟨s.g, j * 6 + 1, none⟩ = some (.string hr) ∧ w'.cell? ⟨s.g, j * 6 + 2, none⟩ = some (.int .i64 ht) ∧ w'.cell? ⟨s.g, j * 6 + 3, none⟩ = some (.int .i64 hd) ∧ w'.cell? ⟨s.g, j * 6 + 4, none⟩ = some (.int .i64 hn) ∧ w'.cell? ⟨s.g, j * 6 + 5, none⟩ = some (.slice (some ⟨ig, 0, none⟩) im ic)) (by kernel_rfl) (hheld _ hbd) (fun hHeld => ?_)
                    refine takeL 0 (v := ?_) rfl (by kernel_rfl) (by kernel_rfl) (by kernel_rfl) (fun _ _ _ h => h) (by kernel_rfl) ?_ (by assumption) ?_
                    rotate_left
                    · intro w hSw; (try dsimp only at hSw); first | (go_simp; done) | (go_simp; with_reducible rfl)
                    try simp only [Act.put, List.setIfInBounds_toArray, List.set_cons_zero, List.set_cons_succ]
                    refine takeL 1 (v := ?_) rfl (by kernel_rfl) (by kernel_rfl) (by kernel_rfl) (fun _ _ _ h => h) (by kernel_rfl) ?_ (by assumption) ?_
                    rotate_left
                    · intro w hSw; (try dsimp only at hSw); first | (go_simp; done) | (go_simp; with_reducible rfl)
                    try simp only [Act.put, List.setIfInBounds_toArray, List.set_cons_zero, List.set_cons_succ]
                    refine takeL 2 (v := ?_) rfl (by kernel_rfl) (by kernel_rfl) (by kernel_rfl) (fun _ _ _ h => h) (by kernel_rfl) ?_ (by assumption) ?_
                    rotate_left
                    · intro w hSw; (try dsimp only at hSw); first | (go_simp; done) | (go_simp; with_reducible rfl)
                    try simp only [Act.put, List.setIfInBounds_toArray, List.set_cons_zero, List.set_cons_succ]
                    refine takeL 3 (v := ?_) rfl (by kernel_rfl) (by kernel_rfl) (by kernel_rfl) (fun _ _ _ h => h) (by kernel_rfl) ?_ (by assumption) ?_
                    rotate_left
                    · intro w hSw; (try dsimp only at hSw); first | (go_simp; done) | (go_simp; with_reducible rfl)
                    try simp only [Act.put, List.setIfInBounds_toArray, List.set_cons_zero, List.set_cons_succ]
                    refine takeL 4 (v := ?_) rfl (by kernel_rfl) (by kernel_rfl) (by kernel_rfl) (fun _ _ _ h => h) (by kernel_rfl) ?_ (by assumption) ?_
                    rotate_left
                    · intro w hSw; (try dsimp only at hSw); first | (go_simp; done) | (go_simp; with_reducible rfl)
                    try simp only [Act.put, List.setIfInBounds_toArray, List.set_cons_zero, List.set_cons_succ]
                    refine takeL 5 (v := ?_) rfl (by kernel_rfl) (by kernel_rfl) (by kernel_rfl) (fun _ _ _ h => h) (by kernel_rfl) ?_ (by assumption) ?_
                    rotate_left
                    · intro w hSw; (try dsimp only at hSw); first | (go_simp; done) | (go_simp; with_reducible rfl)
                    try simp only [Act.put, List.setIfInBounds_toArray, List.set_cons_zero, List.set_cons_succ]
                    refine takeL 6 (v := ?_) rfl (by kernel_rfl) (by kernel_rfl) (by kernel_rfl) (fun _ _ _ h => h) (by kernel_rfl) ?_ (by assumption) ?_
                    rotate_left
                    · intro w hSw; (try dsimp only at hSw); first | (go_simp; done) | (go_simp; with_reducible rfl)
                    try simp only [Act.put, List.setIfInBounds_toArray, List.set_cons_zero, List.set_cons_succ]
                    refine takeL 7 (v := ?_) rfl (by kernel_rfl) (by kernel_rfl) (by kernel_rfl) (fun _ _ _ h => h) (by kernel_rfl) ?_ (by assumption) ?_
                    rotate_left
                    · intro w hSw; (try dsimp only at hSw); first | (go_simp; done) | (go_simp; with_reducible rfl)
                    try simp only [Act.put, List.setIfInBounds_toArray, List.set_cons_zero, List.set_cons_succ]
                    refine takeL 8 (v := ?_) rfl (by kernel_rfl) (by kernel_rfl) (by kernel_rfl) (fun _ _ _ h => h) (by kernel_rfl) ?_ (by assumption) ?_
                    rotate_left
                    · intro w hSw; (try dsimp only at hSw); first | (go_simp; done) | (go_simp; with_reducible rfl)
                    try simp only [Act.put, List.setIfInBounds_toArray, List.set_cons_zero, List.set_cons_succ]
                    refine takeL 9 (v := ?_) rfl (by kernel_rfl) (by kernel_rfl) (by kernel_rfl) (fun _ _ _ h => h) (by kernel_rfl) ?_ (by assumption) ?_
                    rotate_left
                    · intro w hSw; (try dsimp only at hSw); first | (go_simp; done) | (go_simp; with_reducible rfl)
                    try simp only [Act.put, List.setIfInBounds_toArray, List.set_cons_zero, List.set_cons_succ]
                    refine takeL 10 (v := ?_) rfl (by kernel_rfl) (by kernel_rfl) (by kernel_rfl) (fun _ _ _ h => h) (by kernel_rfl) ?_ (by assumption) ?_
                    rotate_left
                    · intro w hSw; (try dsimp only at hSw); first | (go_simp; done) | (go_simp; with_reducible rfl)
                    try simp only [Act.put, List.setIfInBounds_toArray, List.set_cons_zero, List.set_cons_succ]
                    refine takeL 11 (v := ?_) rfl (by kernel_rfl) (by kernel_rfl) (by kernel_rfl) (fun _ _ _ h => h) (by kernel_rfl) ?_ (by assumption) ?_
                    rotate_left
                    · intro w hSw; (try dsimp only at hSw); first | (go_simp; done) | (go_simp; with_reducible rfl)
                    try simp only [Act.put, List.setIfInBounds_toArray, List.set_cons_zero, List.set_cons_succ]
                    refine takeL 12 (v := ?_) rfl (by kernel_rfl) (by kernel_rfl) (by kernel_rfl) (fun _ _ _ h => h) (by kernel_rfl) ?_ (by assumption) ?_
                    rotate_left
                    · intro w hSw; (try dsimp only at hSw); first | (go_simp; done) | (go_simp; with_reducible rfl)
                    try simp only [Act.put, List.setIfInBounds_toArray, List.set_cons_zero, List.set_cons_succ]
                    refine takeL 13 (v := ?_) rfl (by kernel_rfl) (by kernel_rfl) (by kernel_rfl) (fun _ _ _ h => h) (by kernel_rfl) ?_ (by assumption) ?_
                    rotate_left
                    · intro w hSw; (try dsimp only at hSw); first | (go_simp; done) | (go_simp; with_reducible rfl)
                    try simp only [Act.put, List.setIfInBounds_toArray, List.set_cons_zero, List.set_cons_succ]
                    refine takeL 14 (v := ?_) rfl (by kernel_rfl) (by kernel_rfl) (by kernel_rfl) (fun _ _ _ h => h) (by kernel_rfl) ?_ (by assumption) ?_
                    rotate_left
                    · intro w hSw; (try dsimp only at hSw); first | (go_simp; done) | (go_simp; with_reducible rfl)
                    try simp only [Act.put, List.setIfInBounds_toArray, List.set_cons_zero, List.set_cons_succ]
                    refine takeL 15 (v := ?_) rfl (by kernel_rfl) (by kernel_rfl) (by kernel_rfl) (fun _ _ _ h => h) (by kernel_rfl) ?_ (by assumption) ?_
                    rotate_left
                    · intro w hSw; (try dsimp only at hSw); first | (go_simp; done) | (go_simp; with_reducible rfl)
                    try simp only [Act.put, List.setIfInBounds_toArray, List.set_cons_zero, List.set_cons_succ]
                    refine takeL 16 (v := ?_) rfl (by kernel_rfl) (by kernel_rfl) (by kernel_rfl) (fun _ _ _ h => h) (by kernel_rfl) ?_ (by assumption) ?_
                    rotate_left
                    · intro w hSw; (try dsimp only at hSw); first | (go_simp; done) | (go_simp; with_reducible rfl)
                    try simp only [Act.put, List.setIfInBounds_toArray, List.set_cons_zero, List.set_cons_succ]
                    refine takeL 17 (v := ?_) rfl (by kernel_rfl) (by kernel_rfl) (by kernel_rfl) (fun _ _ _ h => h) (by kernel_rfl) ?_ (by assumption) ?_
                    rotate_left
                    · intro w hSw; (try dsimp only at hSw); first | (go_simp; done) | (go_simp; with_reducible rfl)
                    try simp only [Act.put, List.setIfInBounds_toArray, List.set_cons_zero, List.set_cons_succ]
                    refine takeL 18 (v := ?_) rfl (by kernel_rfl) (by kernel_rfl) (by kernel_rfl) (fun _ _ _ h => h) (by kernel_rfl) ?_ (by assumption) ?_
                    rotate_left
                    · intro w hSw; (try dsimp only at hSw); first | (go_simp; done) | (go_simp; with_reducible rfl)
                    try simp only [Act.put, List.setIfInBounds_toArray, List.set_cons_zero, List.set_cons_succ]
                    refine takeL 19 (v := ?_) rfl (by kernel_rfl) (by kernel_rfl) (by kernel_rfl) (fun _ _ _ h => h) (by kernel_rfl) ?_ (by assumption) ?_
                    rotate_left
                    · intro w hSw; (try dsimp only at hSw); first | (go_simp; done) | (go_simp; with_reducible rfl)
                    try simp only [Act.put, List.setIfInBounds_toArray, List.set_cons_zero, List.set_cons_succ]
                    refine takeL 20 (v := ?_) rfl (by kernel_rfl) (by kernel_rfl) (by kernel_rfl) (fun _ _ _ h => h) (by kernel_rfl) ?_ (by assumption) ?_
                    rotate_left
                    · intro w hSw; (try dsimp only at hSw); first | (go_simp; done) | (go_simp; with_reducible rfl)
                    try simp only [Act.put, List.setIfInBounds_toArray, List.set_cons_zero, List.set_cons_succ]
                    refine takeL 21 (v := ?_) rfl (by kernel_rfl) (by kernel_rfl) (by kernel_rfl) (fun _ _ _ h => h) (by kernel_rfl) ?_ (by assumption) ?_
                    rotate_left
                    · intro w hSw; (try dsimp only at hSw); first | (go_simp; done) | (go_simp; with_reducible rfl)
                    try simp only [Act.put, List.setIfInBounds_toArray, List.set_cons_zero, List.set_cons_succ]
                    refine takeL 22 (v := ?_) rfl (by kernel_rfl) (by kernel_rfl) (by kernel_rfl) (fun _ _ _ h => h) (by kernel_rfl) ?_ (by assumption) ?_
                    rotate_left
                    · intro w hSw; (try dsimp only at hSw); first | (go_simp; done) | (go_simp; with_reducible rfl)
                    try simp only [Act.put, List.setIfInBounds_toArray, List.set_cons_zero, List.set_cons_succ]
                    refine takeL 23 (v := ?_) rfl (by kernel_rfl) (by kernel_rfl) (by kernel_rfl) (fun _ _ _ h => h) (by kernel_rfl) ?_ (by assumption) ?_
                    rotate_left
                    · intro w hSw; (try dsimp only at hSw); first | (go_simp; done) | (go_simp; with_reducible rfl)
                    try simp only [Act.put, List.setIfInBounds_toArray, List.set_cons_zero, List.set_cons_succ]
                    refine takeL 24 (v := ?_) rfl (by kernel_rfl) (by kernel_rfl) (by kernel_rfl) (fun _ _ _ h => h) (by kernel_rfl) ?_ (by assumption) ?_
                    rotate_left
                    · intro w hSw; (try dsimp only at hSw); first | (go_simp; done) | (go_simp; with_reducible rfl)
                    try simp only [Act.put, List.setIfInBounds_toArray, List.set_cons_zero, List.set_cons_succ]
                    refine takeL 25 (v := ?_) rfl (by kernel_rfl) (by kernel_rfl) (by kernel_rfl) (fun _ _ _ h => h) (by kernel_rfl) ?_ (by assumption) ?_
                    rotate_left
                    · intro w hSw; (try dsimp only at hSw); first | (go_simp; done) | (go_simp; with_reducible rfl)
                    try simp only [Act.put, List.setIfInBounds_toArray, List.set_cons_zero, List.set_cons_succ]
                    refine takeL 26 (v := ?_) rfl (by kernel_rfl) (by kernel_rfl) (by kernel_rfl) (fun _ _ _ h => h) (by kernel_rfl) ?_ (by assumption) ?_
                    rotate_left
                    · intro w hSw; (try dsimp only at hSw); first | (go_simp; done) | (go_simp; with_reducible rfl)
                    try simp only [Act.put, List.setIfInBounds_toArray, List.set_cons_zero, List.set_cons_succ]
                    refine callL 27 rfl (by kernel_rfl) (fun K hK => ?_)
                    go_simp
                    refine (hbf _ hbd).mono ?_
                    rintro e w5 ⟨rfl, b5⟩
                    have B5 : Hid (Below wr.heap.size wr w5) := hbd.trans b5
                    have HH5 := hheld _ B5.out
                    clear b5
                    go_wp2_with fail
                    refine hK.out _ _ ?_ (fun hHeld => ?_)
                    · first | exact HH5 | exact HH4
                    clear hK K
                    try simp only [Act.put, List.setIfInBounds_toArray, List.set_cons_zero, List.set_cons_succ]
                    refine takeL 28 (v := ?_) rfl (by kernel_rfl) (by kernel_rfl) (by kernel_rfl) (fun _ _ _ h => h) (by kernel_rfl) ?_ (by assumption) ?_
                    rotate_left
                    · intro w hSw; (try dsimp only at hSw); first | (go_simp; done) | (go_simp; with_reducible rfl)
                    try simp only [Act.put, List.setIfInBounds_toArray, List.set_cons_zero, List.set_cons_succ]
                    refine takeL 29 (v := ?_) rfl (by kernel_rfl) (by kernel_rfl) (by kernel_rfl) (fun _ _ _ h => h) (by kernel_rfl) ?_ (by assumption) ?_
                    rotate_left
                    · intro w hSw; (try dsimp only at hSw); first | (go_simp; done) | (go_simp; with_reducible rfl)
                    try simp only [Act.put, List.setIfInBounds_toArray, List.set_cons_zero, List.set_cons_succ]
                    refine wpAnyH_done (by kernel_rfl) ?_ _
                    refine NoPanic.normal ?_
                    go_wp2_with fail
                    go_ret
                    exact ⟨by rw [HV.out]; rfl, HB.out.trans (B5.out.mono HB.out.size)⟩
              · obtain rfl : k = s.cn := by omega
                have HV : Hid (R = true) := HG.out HQ.out
                clear HG HQ H5
                go_wp2_with fail
                go_ret
                exact ⟨by rw [HV.out]; rfl, HB.out⟩
    · have HV : Hid (R = false) := H2.out h3
      have hn3 : ¬ (s.tn : Int) = 3 := by omega
      have hn3' : ((s.tn : Int) != 3) = true := by simpa using hn3
      clear hca H2 H3 H4 H5 H6 h3
      go_wp2_with fail
      go_ret
      exact ⟨by rw [HV.out]; rfl, L1.out⟩

end Go.Proofs.YtphgjhakghblgaaGreatDoor

set_option linter.unusedVariables false
namespace Go.Proofs.YtphgjhakghblgaaGreatDoor
open Go.RowKit Go.Deep

theorem CBk.out3 {w : World} {g : Nat} {T : TypeId} {a b c : Value} (h : CBk w g T #[a, b, c]) : w.cell? ⟨g, 0, none⟩ = some a ∧ w.cell? ⟨g, 1, none⟩ = some b ∧ w.cell? ⟨g, 2, none⟩ = some c := ⟨h.cell 0, h.cell 1, h.cell 2⟩
structure LenSrv (L : LSrv) : Prop where
  b : L.bl.length = L.bn
  t : (L.tz.take L.tn).length = L.tn
  c : L.cl.length = L.cn
theorem IsSrv.lens {w : World} {L : LSrv} (h : IsSrv w L) : LenSrv L := ⟨h.b.len, (row_len h.t).1, h.c.len⟩
theorem CopySrv.at {B : Nat} {L : LSrv} {s : SrvV} {w : World} (h : CopySrv B L s w) (hs : SmallSrv L) (hl : LenSrv L) : SrvAt s w := by
  refine ⟨⟨h.b.at, h.b.its, h.b.len, by rw [h.bn]; exact hs.bn⟩, ?_, ?_, ?_, ?_, ?_, ?_⟩
  · rw [h.ts]; exact h.t.at
  · rw [h.ts, h.tl, hl.t]
  · rw [h.cs]; exact h.c.at 2 enCached_len
  · rw [h.cs, h.cn, hl.c]
  · rw [h.cn]; exact hs.cn
  · rw [h.cc]; exact Nat.le_refl _
theorem CopySrv.blksS {B : Nat} {L : LSrv} {s : SrvV} {w : World} (h : CopySrv B L s w) (hs : SmallSrv L) (hl : LenSrv L) : BlksS s.g s.n s.bc s.bs w := by
  have hb := h.b
  have := CopyB.blksS hb (by rw [h.bn]; exact hs.bn) (by rw [h.bn]; exact hl.b) (fun i hi => hs.bs i (by rw [← h.bn]; exact hi))
  exact ⟨⟨this.b.at_, this.b.items, this.b.len, this.b.max⟩, this.wf, this.few, this.small⟩
def lsrvR (L : LSrv) : Bool := srvOk (ptsL L.bl) (L.tz.take L.tn) L.cl
theorem CopySrv.val {B : Nat} {L : LSrv} {s : SrvV} {w : World} (h : CopySrv B L s w) : srvR s = lsrvR L := by
  rw [srvR, lsrvR, show ptsOf s.bs = ptsL L.bl from h.b.pts, h.ts, h.cs]

set_option maxHeartbeats 1000000 in
set_option maxRecDepth 100000 in
theorem specServerOk (s : SrvV) (w : World) (h : SrvAt s w) (hB : BlksS s.g s.n s.bc s.bs w) :
    Calls Tryz.prog 6 #[srvVal s] w fun e w' => e = .returned (.bool (srvR s)) ∧ Below w.heap.size w w' := by
  have hk := fun (w' : World) (hb : Below w.heap.size w w') => specL7Ok s w' (h.below hb) (hB.below hb)
  generalize srvR s = R at hk ⊢
  clear h hB
  unfold srvVal at hk ⊢
  have L0 : Hid (Below w.heap.size w (w.alloc (.cells #[.slice (some ⟨s.g, 0, none⟩) s.n s.bc, .slice (some ⟨s.tg, 0, none⟩) s.tn s.tc, .slice (some ⟨s.cg, 0, none⟩) s.cn s.cc] 32))) := (Below.refl _ w).alloc (Nat.le_refl _) _
  go_enter Tryz.func6, Tryz.ntmps6
  go_wp2_with fail
  refine (hk _ L0.out).mono ?_
  rintro e w1 ⟨rfl, b1⟩
  go_wp2_with fail
  go_ret
  exact ⟨rfl, L0.out.trans (b1.mono L0.out.size)⟩

set_option maxHeartbeats 2000000 in
set_option maxRecDepth 100000 in
theorem eqServer1 (L : LSrv) (s t : SrvV) (B C : Nat) (w : World) (hs : SmallSrv L) (hl : LenSrv L) (h1 : CopySrv B L s w) (h2 : CopySrv C L t w) :
    Calls Tryz.prog 9 #[srvVal s, srvVal t] w fun e w' => e = .returned (.bool true) ∧ Below w.heap.size w w' := by
  have e1 : t.n = s.n := by rw [h1.bn, h2.bn]
  have e2 : t.tn = s.tn := by rw [h1.tl, h2.tl]
  have e3 : t.cn = s.cn := by rw [h1.cn, h2.cn]
  have hq1 := fun (w' : World) (hb : Below w.heap.size w w') => eqBlks s.g t.g s.n s.bc t.bc s.bs t.bs w' (h1.below hb).b.at (h2.below hb).b.at (h1.below hb).b.its (h2.below hb).b.its (h1.b.pts.trans h2.b.pts.symm) h1.b.len (by rw [h1.bn]; exact hs.bn) (fun c hc => by have := CopyB.few h1.b (by rw [h1.bn]; exact hl.b) (fun i hi => hs.bs i (by rw [← h1.bn]; exact hi)) c hc; omega)
  have hq2 := fun (w' : World) (hb : Below w.heap.size w w') => eqInts s.tg t.tg s.tn s.tc t.tc (L.tz.take L.tn) w' (h1.below hb).t.at (h2.below hb).t.at (by rw [h1.tl, hl.t]) (by rw [h1.tl]; have := hs.tn; omega)
  have hq3 := fun (w' : World) (hb : Below w.heap.size w w') => eqCacheds s.cg t.cg s.cn s.cc t.cc L.cl w' ((h1.below hb).c.at 2 enCached_len) ((h2.below hb).c.at 2 enCached_len) (by rw [h1.cn, hl.c]) (by rw [h1.cn]; have := hs.cn; omega)
  unfold srvVal
  rw [e1, e2, e3]
  clear h1 h2 hs hl e1 e2 e3
  have C0 : Hid (CBk ((w.alloc (.cells #[.slice (some ⟨s.g, 0, none⟩) s.n s.bc, .slice (some ⟨s.tg, 0, none⟩) s.tn s.tc, .slice (some ⟨s.cg, 0, none⟩) s.cn s.cc] 32)).alloc (.cells #[.slice (some ⟨t.g, 0, none⟩) s.n t.bc, .slice (some ⟨t.tg, 0, none⟩) s.tn t.tc, .slice (some ⟨t.cg, 0, none⟩) s.cn t.cc] 32)) w.heap.size 32 #[.slice (some ⟨s.g, 0, none⟩) s.n s.bc, .slice (some ⟨s.tg, 0, none⟩) s.tn s.tc, .slice (some ⟨s.cg, 0, none⟩) s.cn s.cc]) := (CBk.new w _ _).alloc _
  have D0 : Hid (CBk ((w.alloc (.cells #[.slice (some ⟨s.g, 0, none⟩) s.n s.bc, .slice (some ⟨s.tg, 0, none⟩) s.tn s.tc, .slice (some ⟨s.cg, 0, none⟩) s.cn s.cc] 32)).alloc (.cells #[.slice (some ⟨t.g, 0, none⟩) s.n t.bc, .slice (some ⟨t.tg, 0, none⟩) s.tn t.tc, .slice (some ⟨t.cg, 0, none⟩) s.cn t.cc] 32)) (w.heap.size + 1) 32 #[.slice (some ⟨t.g, 0, none⟩) s.n t.bc, .slice (some ⟨t.tg, 0, none⟩) s.tn t.tc, .slice (some ⟨t.cg, 0, none⟩) s.cn t.cc]) := by
    have := CBk.new (w.alloc (.cells #[.slice (some ⟨s.g, 0, none⟩) s.n s.bc, .slice (some ⟨s.tg, 0, none⟩) s.tn s.tc, .slice (some ⟨s.cg, 0, none⟩) s.cn s.cc] 32)) 32 #[.slice (some ⟨t.g, 0, none⟩) s.n t.bc, .slice (some ⟨t.tg, 0, none⟩) s.tn t.tc, .slice (some ⟨t.cg, 0, none⟩) s.cn t.cc]
    rwa [show (w.alloc (.cells #[.slice (some ⟨s.g, 0, none⟩) s.n s.bc, .slice (some ⟨s.tg, 0, none⟩) s.tn s.tc, .slice (some ⟨s.cg, 0, none⟩) s.cn s.cc] 32)).heap.size = w.heap.size + 1 from by simp] at this
  have L0 : Hid (Below w.heap.size w ((w.alloc (.cells #[.slice (some ⟨s.g, 0, none⟩) s.n s.bc, .slice (some ⟨s.tg, 0, none⟩) s.tn s.tc, .slice (some ⟨s.cg, 0, none⟩) s.cn s.cc] 32)).alloc (.cells #[.slice (some ⟨t.g, 0, none⟩) s.n t.bc, .slice (some ⟨t.tg, 0, none⟩) s.tn t.tc, .slice (some ⟨t.cg, 0, none⟩) s.cn t.cc] 32))) := ((Below.refl _ w).alloc (Nat.le_refl _) _).alloc (by simp) _
  go_enter Tryz.func9, Tryz.ntmps9
  go_wp2_with fail
  refine (hq1 _ L0.out).mono ?_
  rintro e w1 ⟨rfl, b1⟩
  have C1 : Hid (CBk w1 w.heap.size 32 #[.slice (some ⟨s.g, 0, none⟩) s.n s.bc, .slice (some ⟨s.tg, 0, none⟩) s.tn s.tc, .slice (some ⟨s.cg, 0, none⟩) s.cn s.cc]) := C0.out.call b1
  have D1 : Hid (CBk w1 (w.heap.size + 1) 32 #[.slice (some ⟨t.g, 0, none⟩) s.n t.bc, .slice (some ⟨t.tg, 0, none⟩) s.tn t.tc, .slice (some ⟨t.cg, 0, none⟩) s.cn t.cc]) := D0.out.call b1
  have L1 : Hid (Below w.heap.size w w1) := L0.out.trans (b1.mono L0.out.size)
  obtain ⟨c0, c1, c2, _⟩ := C1.out.three
  obtain ⟨d0, d1, d2, _⟩ := D1.out.three
  clear C0 D0 L0 b1 hq1
  go_wp2_with fail
  refine (hq2 _ L1.out).mono ?_
  rintro e w2 ⟨rfl, b2⟩
  have L2 : Hid (Below w.heap.size w w2) := L1.out.trans (b2.mono L1.out.size)
  have C2 : Hid (CBk w2 w.heap.size 32 #[.slice (some ⟨s.g, 0, none⟩) s.n s.bc, .slice (some ⟨s.tg, 0, none⟩) s.tn s.tc, .slice (some ⟨s.cg, 0, none⟩) s.cn s.cc]) := C1.out.call b2
  have D2 : Hid (CBk w2 (w.heap.size + 1) 32 #[.slice (some ⟨t.g, 0, none⟩) s.n t.bc, .slice (some ⟨t.tg, 0, none⟩) s.tn t.tc, .slice (some ⟨t.cg, 0, none⟩) s.cn t.cc]) := D1.out.call b2
  clear c0 c1 c2 d0 d1 d2 C1 D1 L1 b2 hq2
  obtain ⟨c0, c1, c2, _⟩ := C2.out.three
  obtain ⟨d0, d1, d2, _⟩ := D2.out.three
  go_wp2_with fail
  refine (hq3 _ L2.out).mono ?_
  rintro e w3 ⟨rfl, b3⟩
  go_wp2_with fail
  go_ret
  exact ⟨rfl, L2.out.trans (b3.mono L2.out.size)⟩

set_option maxHeartbeats 4000000 in
set_option maxRecDepth 100000 in
theorem walk_FnExactServerOk (L : LSrv) (w : World) (h0 : IsSrv w L) (hK : RowG w shaK) (hP : TabP w) (hE : ErrT w) :
    Calls Tryz.prog 3 #[lsrvVal L] w fun e w' => e = .returned (.bool true) ∧ Below w.heap.size w w' := by
  have HK : Hid (RowG w shaK) := hK
  have HP : Hid (TabP w) := hP
  have HE : Hid (ErrT w) := hE
  have HLN : Hid (LenSrv L) := h0.lens
  have HSZ : Hid (∀ w1, Below w.heap.size w w1 → Calls Tryz.prog 5 #[lsrvVal L, .int .i64 1048576] w1 fun e w' => Below w1.heap.size w1 w' ∧ (e = .returned (.int .i64 (-1)) ∨ ∃ r : Nat, e = .returned (.int .i64 (r : Int)) ∧ r ≤ 1048576 ∧ SmallSrv L)) := fun w1 hb => szServer1 L w1 (h0.below hb)
  have HTO : Hid (SmallSrv L → ∀ w1, Below w.heap.size w w1 → Calls Tryz.prog 7 #[lsrvVal L] w1 fun e w' => ∃ s, e = .returned (srvVal s) ∧ CopySrv w1.heap.size L s w' ∧ Below w1.heap.size w1 w') := fun hs w1 hb => toServer1 L w1 w h0 hb hs
  have HSP : Hid (SmallSrv L → ∀ (s : SrvV) (B : Nat) w1, CopySrv B L s w1 → Calls Tryz.prog 6 #[srvVal s] w1 fun e w' => e = .returned (.bool (lsrvR L)) ∧ Below w1.heap.size w1 w') := fun hs s B w1 hc => by
    have := specServerOk s w1 (hc.at hs HLN.out) (hc.blksS hs HLN.out)
    rw [hc.val] at this
    exact this
  have HIM : Hid (SmallSrv L → ∀ (s : SrvV) (B : Nat) w1, CopySrv B L s w1 → Below w.heap.size w w1 → Calls Tryz.prog 8 #[srvVal s] w1 fun e w' => e = .returned (.bool (lsrvR L)) ∧ Below w1.heap.size w1 w') := fun hs s B w1 hc hb => by
    have := implServerOk s w1 (hc.at hs HLN.out) (HK.out.below hb HK.out.lt) (TabP.below HP.out hb (Nat.le_refl _)) (HE.out.below hb HE.out.lt)
    rw [hc.val] at this
    exact this
  have HEQ : Hid (SmallSrv L → ∀ (s t : SrvV) (B C : Nat) w1, CopySrv B L s w1 → CopySrv C L t w1 → Calls Tryz.prog 9 #[srvVal s, srvVal t] w1 fun e w' => e = .returned (.bool true) ∧ Below w1.heap.size w1 w') := fun hs s t B C w1 h1 h2 => eqServer1 L s t B C w1 hs HLN.out h1 h2
  clear h0 hK hP hE HLN
  generalize (lsrvR L) = R at HSP HIM
  unfold lsrvVal at HSZ HTO ⊢
  unfold srvVal at HTO HSP HIM HEQ
  have C0 : Hid (CBk (w.alloc (.cells #[.slice L.ba L.bn L.bc, .slice L.ta L.tn L.tc, .slice L.ca L.cn L.cc] 26)) w.heap.size 26 #[.slice L.ba L.bn L.bc, .slice L.ta L.tn L.tc, .slice L.ca L.cn L.cc]) := CBk.new w _ _
  have L0 : Hid (Below w.heap.size w (w.alloc (.cells #[.slice L.ba L.bn L.bc, .slice L.ta L.tn L.tc, .slice L.ca L.cn L.cc] 26))) := (Below.refl _ w).alloc (Nat.le_refl _) _
  go_enter Tryz.func3, Tryz.ntmps3
  go_wp2_with fail
  refine (HSZ.out _ L0.out).mono ?_
  rintro e w1 ⟨b1, rfl | ⟨r, rfl, hr, hsm⟩⟩
  · have L1 : Hid (Below w.heap.size w w1) := L0.out.trans (b1.mono L0.out.size)
    clear HTO HSP HIM HEQ
    go_wp2_with fail
    go_ret
    exact ⟨rfl, L1.out⟩
  have HTO : Hid _ := HTO.out hsm
  have HSP : Hid _ := HSP.out hsm
  have HIM : Hid _ := HIM.out hsm
  have HEQ : Hid _ := HEQ.out hsm
  have L1 : Hid (Below w.heap.size w w1) := L0.out.trans (b1.mono L0.out.size)
  have C1 : Hid (CBk w1 w.heap.size 26 #[.slice L.ba L.bn L.bc, .slice L.ta L.tn L.tc, .slice L.ca L.cn L.cc]) := C0.out.call b1
  clear C0 L0 b1 HSZ hsm
  have hr0 : ¬ (r : Int) < 0 := by omega
  obtain ⟨c0, c1, c2, _⟩ := C1.out.three
  go_wp2_with fail
  refine (HTO.out _ L1.out).mono ?_
  rintro e w2 ⟨s2, rfl, c2', b2⟩
  have L2 : Hid (Below w.heap.size w w2) := L1.out.trans (b2.mono L1.out.size)
  have C2 : Hid (CBk w2 w.heap.size 26 #[.slice L.ba L.bn L.bc, .slice L.ta L.tn L.tc, .slice L.ca L.cn L.cc]) := C1.out.call b2
  have hsp := HSP.out s2 _ w2 c2'
  clear c0 c1 c2 C1 b2 c2' L1 hr0
  go_wp2_with fail
  refine hsp.mono ?_
  rintro e w3 ⟨rfl, b3⟩
  have L3 : Hid (Below w.heap.size w w3) := L2.out.trans (b3.mono L2.out.size)
  have C3 : Hid (CBk w3 w.heap.size 26 #[.slice L.ba L.bn L.bc, .slice L.ta L.tn L.tc, .slice L.ca L.cn L.cc]) := C2.out.call b3
  obtain ⟨c0, c1, c2, _⟩ := C3.out.three
  clear hsp b3 C2 L2
  go_wp2_with fail
  refine (HTO.out _ L3.out).mono ?_
  rintro e w4 ⟨s4, rfl, r4, b4⟩
  have L4 : Hid (Below w.heap.size w w4) := L3.out.trans (b4.mono L3.out.size)
  have C4 : Hid (CBk w4 w.heap.size 26 #[.slice L.ba L.bn L.bc, .slice L.ta L.tn L.tc, .slice L.ca L.cn L.cc]) := C3.out.call b4
  have R4 : Hid (CopySrv w3.heap.size L s4 w4) := r4
  clear c0 c1 c2 C3 b4 r4 L3
  have X4 : Hid (CBk (w4.alloc (.cells #[.slice (some ⟨s4.g, 0, none⟩) s4.n s4.bc, .slice (some ⟨s4.tg, 0, none⟩) s4.tn s4.tc, .slice (some ⟨s4.cg, 0, none⟩) s4.cn s4.cc] 32)) w4.heap.size 32 #[.slice (some ⟨s4.g, 0, none⟩) s4.n s4.bc, .slice (some ⟨s4.tg, 0, none⟩) s4.tn s4.tc, .slice (some ⟨s4.cg, 0, none⟩) s4.cn s4.cc]) := CBk.new w4 _ _
  have L5 : Hid (Below w.heap.size w (w4.alloc (.cells #[.slice (some ⟨s4.g, 0, none⟩) s4.n s4.bc, .slice (some ⟨s4.tg, 0, none⟩) s4.tn s4.tc, .slice (some ⟨s4.cg, 0, none⟩) s4.cn s4.cc] 32))) := L4.out.alloc L4.out.size _
  have C5 : Hid (CBk (w4.alloc (.cells #[.slice (some ⟨s4.g, 0, none⟩) s4.n s4.bc, .slice (some ⟨s4.tg, 0, none⟩) s4.tn s4.tc, .slice (some ⟨s4.cg, 0, none⟩) s4.cn s4.cc] 32)) w.heap.size 26 #[.slice L.ba L.bn L.bc, .slice L.ta L.tn L.tc, .slice L.ca L.cn L.cc]) := C4.out.alloc _
  have R5 : Hid (CopySrv w3.heap.size L s4 (w4.alloc (.cells #[.slice (some ⟨s4.g, 0, none⟩) s4.n s4.bc, .slice (some ⟨s4.tg, 0, none⟩) s4.tn s4.tc, .slice (some ⟨s4.cg, 0, none⟩) s4.cn s4.cc] 32))) := R4.out.below ((Below.refl _ w4).alloc (Nat.le_refl _) _)
  have him := HIM.out s4 _ _ R5.out L5.out
  clear HIM HSP C4 L4 R4
  go_wp2_with fail
  refine him.mono ?_
  rintro e w6 ⟨rfl, b6⟩
  have X6 : Hid (CBk w6 w4.heap.size 32 #[.slice (some ⟨s4.g, 0, none⟩) s4.n s4.bc, .slice (some ⟨s4.tg, 0, none⟩) s4.tn s4.tc, .slice (some ⟨s4.cg, 0, none⟩) s4.cn s4.cc]) := X4.out.call b6
  have L6 : Hid (Below w.heap.size w w6) := L5.out.trans (b6.mono L5.out.size)
  have C6 : Hid (CBk w6 w.heap.size 26 #[.slice L.ba L.bn L.bc, .slice L.ta L.tn L.tc, .slice L.ca L.cn L.cc]) := C5.out.call b6
  have R6 : Hid (CopySrv w3.heap.size L s4 w6) := R5.out.below b6
  clear X4 L5 C5 R5 b6 him
  obtain ⟨c0, c1, c2, _⟩ := C6.out.three
  obtain ⟨d0, d1, d2, _⟩ := X6.out.three
  cases R <;>
  · go_wp2_with fail
    go_region_held3 (fun w' => (w'.cell? ⟨w4.heap.size, 0, none⟩ = some (.slice (some ⟨s4.g, 0, none⟩) s4.n s4.bc) ∧ w'.cell? ⟨w4.heap.size, 1, none⟩ = some (.slice (some ⟨s4.tg, 0, none⟩) s4.tn s4.tc) ∧ w'.cell? ⟨w4.heap.size, 2, none⟩ = some (.slice (some ⟨s4.cg, 0, none⟩) s4.cn s4.cc)) ∧ (w'.cell? ⟨w.heap.size, 0, none⟩ = some (.slice L.ba L.bn L.bc) ∧ w'.cell? ⟨w.heap.size, 1, none⟩ = some (.slice L.ta L.tn L.tc) ∧ w'.cell? ⟨w.heap.size, 2, none⟩ = some (.slice L.ca L.cn L.cc)))
      (first | exact ⟨X6.out.drew.out3, C6.out.drew.out3⟩ | exact ⟨X7.out.out3, C7.out.out3⟩ | exact ⟨X8.out.out3, C8.out.out3⟩)
      (first
        | (go_at_call 7; refine (HTO.out _ L6.out.drew).mono ?_; rintro e w7 ⟨s7, rfl, r7, b7⟩; have L7 : Hid (Below w.heap.size w w7) := L6.out.drew.trans (b7.mono L6.out.size); have X7 : Hid (CBk w7 w4.heap.size 32 #[.slice (some ⟨s4.g, 0, none⟩) s4.n s4.bc, .slice (some ⟨s4.tg, 0, none⟩) s4.tn s4.tc, .slice (some ⟨s4.cg, 0, none⟩) s4.cn s4.cc]) := X6.out.drew.call b7; have C7 : Hid (CBk w7 w.heap.size 26 #[.slice L.ba L.bn L.bc, .slice L.ta L.tn L.tc, .slice L.ca L.cn L.cc]) := C6.out.drew.call b7; have R7 : Hid (CopySrv w3.heap.size L s4 w7) := (R6.out.below (Below.refl _ _).drew).below b7; have Q7 : Hid (CopySrv w6.drew.heap.size L s7 w7) := r7)
        | (go_at_call 9; refine (HEQ.out s4 s7 _ _ _ R7.out Q7.out).mono ?_; rintro e w8 ⟨rfl, b8⟩; have L8 : Hid (Below w.heap.size w w8) := L7.out.trans (b8.mono L7.out.size); have X8 : Hid (CBk w8 w4.heap.size 32 #[.slice (some ⟨s4.g, 0, none⟩) s4.n s4.bc, .slice (some ⟨s4.tg, 0, none⟩) s4.tn s4.tc, .slice (some ⟨s4.cg, 0, none⟩) s4.cn s4.cc]) := X7.out.call b8; have C8 : Hid (CBk w8 w.heap.size 26 #[.slice L.ba L.bn L.bc, .slice L.ta L.tn L.tc, .slice L.ca L.cn L.cc]) := C7.out.call b8))
    go_wp2_with fail
    go_ret
    exact ⟨rfl, L8.out⟩

end Go.Proofs.YtphgjhakghblgaaGreatDoor

namespace Go.Proofs.YtphgjhakghblgaaGreatDoor
open Go.ChangeShapes Go.WideShapes Go.ChangeAt Go.RowKit
open Go.ChangeMaps (open_string shut_string)
set_option linter.unusedVariables false

theorem own_fnExactServerOk : ownKnob Tryz.prog.godebug = none := by kernel_rfl
theorem laid_fnExactServerOk : laidOutB Tryz.prog = true := by kernel_rfl
theorem table_fnExactServerOk {W : World} (h : laidMetH Tryz.prog Rows.fnExactServerOkRow.laid W) : RowG W shaK ∧ TabP W ∧ ErrT W := tabs_of_laidE h

theorem met_fnExactServerOk (os : Os) : laidMetH Tryz.prog Rows.fnExactServerOkRow.laid ((laidWorldE os).forCall (fun _ _ => 0) ⟨#[], #[.agg #[.slice none 0 0, .slice none 0 0, .slice none 0 0]], []⟩).memory :=
  laidMetH_of_parts (laidMet_of_run' 8 (by kernel_rfl) (by kernel_rfl)) (by kernel_rfl)
theorem reads_fnExactServerOk (os : Os) {H : Type} (enc : TypeId × Value → H) : ∃ places, DataW.whole enc Tryz.prog ((laidWorldE os).forCall (fun _ _ => 0) ⟨#[], #[.agg #[.slice none 0 0, .slice none 0 0, .slice none 0 0]], []⟩).memory Tryz.f3.params.toList Rows.fnExactServerOkSpec.vars false (#[.agg #[.slice none 0 0, .slice none 0 0, .slice none 0 0]] : Array Value).toList 8 = some ([.agg [.nil, .nil, .nil]], [Rows.laid_loop_example_cordillera_impl_sumRounds], places) :=
  ⟨MemPlace.row ⟨1, 0, none⟩ 64, by kernel_rfl⟩

set_option maxRecDepth 100000 in
theorem lifted_fnExactServerOk (os : Os) (started : os.Started) (H : Type) (enc : TypeId × Value → H) (F : Stop.Interp) :
    ReturnsInHanded {} Tryz.checked os 3 .any ((OpenSpec.ofChange Rows.fnExactServerOkSpec).preRow enc Tryz.prog Tryz.f3 Rows.fnExactServerOkRow.domain false Rows.fnExactServerOkRow.laid) (((OpenSpec.ofChange Rows.fnExactServerOkSpec).at F).post enc Tryz.prog Tryz.f3 false true false false) := by
  obtain ⟨places, hx⟩ := reads_fnExactServerOk os enc
  refine returnsInHanded_of_row (C := Tryz.checked) (s := OpenSpec.ofChange Rows.fnExactServerOkSpec) own_fnExactServerOk started (by kernel_rfl) Tryz.func3
    (witness_row_at (enc := enc) (C := Tryz.checked) false (laidWorldE os) #[.agg #[.slice none 0 0, .slice none 0 0, .slice none 0 0]] rfl (by kernel_rfl) (by kernel_rfl) (by kernel_rfl)
      (OpenSpec.preRow_of_cond 8 hx (by kernel_rfl) (fun k hk => by cases hk) (by kernel_rfl) (met_fnExactServerOk os))) ?_
  intro W base args ds gs before hval0 hW _ _ _ hL _ _
  have hval : ∀ (j : Nat) t v, Tryz.f3.params[j]? = some t → args[j]? = some v → Value.okWide Tryz.prog W .any base t v := hval0
  have hW' := hW
  obtain ⟨p, q, hA0, hV, rfl, hfz, hnd⟩ := hW
  have hA : DataW.TrodAll enc Tryz.prog W 0 (fun _ => true) true Tryz.f3.params.toList args.toList ds p := hA0
  rw [Tryz.params3] at hA hval
  obtain ⟨v0, vs0, d0, ds0, p0, q0, hargs, rfl, rfl, h0, r0⟩ := trodAll_cons hA
  obtain ⟨rfl, rfl, rfl⟩ := trodAll_nil r0
  obtain rfl : args = #[v0] := by cases args; simp_all
  obtain ⟨gv, tv, cv, fv, dv, pv, rfl, hgv, htv, hvv, hdv, rfl⟩ := trodVars_one hV
  have k0 := h0
  have lt0 : ∀ x ∈ p0, x.block < W.heap.size := by obtain ⟨m, hm⟩ := k0; exact DataW.trod_lt m _ _ _ hm
  obtain ⟨a0, rfl, w0⟩ := open_server (hval 0 26 v0 rfl rfl) h0
  clear hA0 hval0
  refine (walk_FnExactServerOk a0 W w0 (table_fnExactServerOk hL).1 (table_fnExactServerOk hL).2.1 (table_fnExactServerOk hL).2.2).mono fun e W' ⟨he, bel⟩ => ?_
  subst he
  obtain ⟨pv', hpv⟩ := varsBack laid_fnExactServerOk hgv htv hvv hdv bel
  exact ⟨_, rfl, _, _, _, [], _, pv', hW', trodAll_mk1 (shut_bool Tryz.underlying4 _), (trodAll_cons_mk (Below.trod laid_fnExactServerOk (by kernel_rfl) (of_decide_eq_true (by kernel_rfl)) k0 bel lt0) trodAll_mk0), hpv, bel.frame _, fun h => by cases h⟩

theorem fnExactServerOk_said : Rows.FnExactServerOkSaid :=
  OpenClaim.holds_of_cond 3 Tryz.f3 rfl rfl rfl rfl rfl rfl rfl ⟨rfl, rfl, rfl, rfl, rfl⟩ rfl rfl rfl rfl rfl (by kernel_rfl) Tryz.func3 (by kernel_rfl)
    (of_decide_eq_true (by kernel_rfl)) (by unfold Func.isWrapper; first | (rw [if_pos (by decide +kernel)]; kernel_rfl) | (rw [if_neg (by decide +kernel)]; exact ⟨rfl, rfl⟩))
    (fun os started H enc _ F => by rw [OpenClaim.pre_eq_preRow]; exact lifted_fnExactServerOk os started H enc F)
theorem plain_fnExactServerOk (f : FuncId) (fn : Func) (hf : Tryz.pinned.checked.prog.funcNamed "loop.example/cordillera/laws.FnExactServerOk" = some f) (hfn : Tryz.pinned.checked.prog.funcs[f]? = some fn) :
    true = Tryz.pinned.checked.prog.looks [] ∧ ∀ (j : Nat) t, fn.params[j]? = some t → Tryz.pinned.checked.prog.wantsStandIn t = false := by
  obtain rfl : f = 3 := Option.some.inj ((show Tryz.prog.funcNamed "loop.example/cordillera/laws.FnExactServerOk" = some 3 by kernel_rfl).symm.trans hf) |>.symm
  obtain rfl : fn = Tryz.f3 := (Option.some.inj (Tryz.func3.symm.trans hfn)).symm
  refine ⟨by kernel_rfl, fun j t ht => ?_⟩
  rw [Tryz.params3] at ht
  have hall : ∀ t ∈ (#[26] : Array TypeId), Tryz.prog.wantsStandIn t = false := by
    intro t ht
    simp only [List.mem_toArray, List.mem_cons, List.not_mem_nil, or_false] at ht
    subst ht; kernel_rfl
  exact hall t (Array.mem_of_getElem? ht)
theorem fnExactServerOk_holds : Rows.FnExactServerOkCardSaid :=
  Claim7.holds_tied_plain_at .later [] _ _ _ _ fnExactServerOk_said (fun _ h => by cases h) (by kernel_rfl) (fun _ h => by cases h) fnExactServerOk_row_tie rfl ⟨rfl, rfl⟩ (by kernel_rfl) rfl plain_fnExactServerOk (by kernel_rfl)
#print axioms fnExactServerOk_holds
end Go.Proofs.YtphgjhakghblgaaGreatDoor

