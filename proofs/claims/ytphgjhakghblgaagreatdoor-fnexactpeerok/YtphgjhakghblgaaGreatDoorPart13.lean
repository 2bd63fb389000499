/-
  Texts that the last part needs, joined.
-/
import Derived.Test.YtphgjhakghblgaaGreatDoorPart1
import Derived.Test.YtphgjhakghblgaaGreatDoorPart2
import Derived.Test.YtphgjhakghblgaaGreatDoorPart3
import Derived.Test.YtphgjhakghblgaaGreatDoorPart4
import Derived.Test.YtphgjhakghblgaaGreatDoorPart5
import Derived.Test.YtphgjhakghblgaaGreatDoorPart6
import Derived.Test.YtphgjhakghblgaaGreatDoorPart7
import Derived.Test.YtphgjhakghblgaaGreatDoorPart8
import Derived.Test.YtphgjhakghblgaaGreatDoorPart9
import Derived.Test.YtphgjhakghblgaaGreatDoorPart10
import Derived.Test.YtphgjhakghblgaaGreatDoorPart11
import Derived.Test.YtphgjhakghblgaaGreatDoorPart12
import Derived.Deep.RegionHeld3
set_option linter.unusedVariables false
namespace Go.Proofs.YtphgjhakghblgaaGreatDoor
open Go.RowKit Go.Deep

/-- What is kept at a place is the filter of a block. -/
def KeptS (s : SrvV) (i : Nat) : Prop := (s.cs.getD i default).pos < (s.n : Int) ∧ (s.cs.getD i default).text = filterAt (ptsOf s.bs) (s.cs.getD i default).pos.toNat
theorem cached_no {s : SrvV} (hl : s.n = s.bs.length) (hok : okP (ptsOf s.bs) = true) (h : cachedB s.cs = false) : srvR s = false := by
  refine srv_cache ?_
  by_cases h4 : s.cs.length ≤ 4
  · by_cases hx : ∀ i, i < s.cs.length → onceOk s.cs i = true
    · rw [cachedB_good hx, decide_eq_true h4] at h
      exact absurd h (by decide)
    · obtain ⟨i, hi⟩ := Classical.not_forall.1 hx
      obtain ⟨hil, hi2⟩ := Classical.not_imp.1 hi
      have ho : onceOk s.cs i = false := by simpa using hi2
      refine cache_bad hil ?_
      have hlen := okP_len hok
      rw [onceOk, Bool.and_eq_false_iff] at ho
      rcases ho with ho | ho
      · refine kept_range ?_
        intro hr
        have hin : inB (s.cs.getD i default).pos 0 19 = true := inB_yes (by omega)
        rw [hin] at ho
        exact absurd ho (by decide)
      · exact kept_has (by simpa using ho)
  · exact cache_len h4
theorem kept_no {s : SrvV} (hl : s.n = s.bs.length) {i : Nat} (hi : i < s.cs.length) (h : ¬ KeptS s i) : srvR s = false := by
  refine srv_cache (cache_bad hi ?_)
  by_cases h1 : (s.cs.getD i default).pos < (s.n : Int)
  · have h2 : ¬ (s.cs.getD i default).text = filterAt (ptsOf s.bs) (s.cs.getD i default).pos.toNat := fun h3 => h ⟨h1, h3⟩
    exact kept_text h2
  · exact kept_range (by rw [pts_len, ← hl]; omega)
set_option linter.unusedSimpArgs false in
theorem once_parts {cs : List CachedV} {i : Nat} (h : onceOk cs i = true) : inB (cs.getD i default).pos 0 19 = true ∧ hasC (cs.take i) (cs.getD i default).pos = false := by
  simpa [onceOk] using h
theorem srv_yes {s : SrvV} (hl : s.n = s.bs.length) (hok : okP (ptsOf s.bs) = true) (ht : tokOk s.ts = true) (hc : cachedB s.cs = true) (h : ∀ i, i < s.cs.length → KeptS s i) : srvR s = true := by
  refine srv_good ht hok (cache_good (cachedB_once hc).1 fun i hi => ?_)
  have ho := once_parts ((cachedB_once hc).2 i hi)
  have hk := h i hi
  have hr : 0 ≤ (s.cs.getD i default).pos := by
    have := ho.1
    simp only [inB, decide_eq_true_eq] at this
    omega
  exact kept_good ⟨hr, by rw [pts_len, ← hl]; exact hk.1⟩ ho.2 hk.2

set_option linter.unusedSimpArgs false in
set_option maxHeartbeats 8000000 in
set_option maxRecDepth 100000 in
theorem specL7Ok (s : SrvV) (w : World) (h : SrvAt s w) (hB : BlksS s.g s.n s.bc s.bs w) :
    Calls Tryz.prog 18 #[srvVal s] w fun e w' => e = .returned (.bool (srvR s)) ∧ Below w.heap.size w w' := by
  have HS : Hid (SrvAt s w) := h
  have HBn : Hid (s.n = s.bs.length) := h.b.len
  have HTn : Hid (s.tn = s.ts.length) := h.tl
  have HCn : Hid (s.cn = s.cs.length) := h.cl
  have hbm := h.b.max
  have hcm := h.cm
  have H1 : Hid (okP (ptsOf s.bs) = false → srvR s = false) := fun h => srv_okP h
  have H2 : Hid (¬ s.tn = 3 → srvR s = false) := fun hf => srv_tok (tok_len (by rw [← HTn.out]; exact hf))
  have H3 : Hid (okP (ptsOf s.bs) = true → cachedB s.cs = false → srvR s = false) := fun h1 h2 => cached_no HBn.out h1 h2
  have H4 : Hid (∀ k, k < s.tn → inB (s.ts.getD k 0) 0 8 = false → srvR s = false) := fun k hk hf => srv_tok (tok_bad (by rw [← HTn.out]; exact hk) (by
    intro hr
    rw [inB_yes hr] at hf
    exact absurd hf (by decide)))
  have H5 : Hid (∀ k, k < s.cn → ¬ KeptS s k → srvR s = false) := fun k hk hf => kept_no HBn.out (by rw [← HCn.out]; exact hk) hf
  have H6 : Hid (s.tn = 3 → (∀ k, k < s.tn → inB (s.ts.getD k 0) 0 8 = true) → okP (ptsOf s.bs) = true → cachedB s.cs = true → (∀ k, k < s.cn → KeptS s k) → srvR s = true) := fun h1 h2 h3 h4 h5 => srv_yes HBn.out h3 (tok_good (by rw [← HTn.out]; exact h1) (fun k hk => by
    have := h2 k (by rw [HTn.out]; exact hk)
    simp only [inB, Bool.and_eq_true, decide_eq_true_eq] at this
    exact this)) h4 (fun k hk => h5 k (by rw [HCn.out]; exact hk))
  have hbl := fun (w' : World) (hb : Below w.heap.size w w') => specL4Blocks s.g s.n s.bc s.bs w' (hB.below hb)
  have hca := fun (w' : World) (hb : Below w.heap.size w w') => specL7Cached s.cg s.cn s.cc s.cs w' (h.below hb).c h.cl h.cm
  generalize srvR s = R at H1 H2 H3 H4 H5 H6 ⊢
  clear h hB
  unfold srvVal
  have C0 : Hid (CBk (w.alloc (.cells #[.slice (some ⟨s.g, 0, none⟩) s.n s.bc, .slice (some ⟨s.tg, 0, none⟩) s.tn s.tc, .slice (some ⟨s.cg, 0, none⟩) s.cn s.cc] 32)) w.heap.size 32 #[.slice (some ⟨s.g, 0, none⟩) s.n s.bc, .slice (some ⟨s.tg, 0, none⟩) s.tn s.tc, .slice (some ⟨s.cg, 0, none⟩) s.cn s.cc]) := CBk.new w _ _
  have L0 : Hid (Below w.heap.size w (w.alloc (.cells #[.slice (some ⟨s.g, 0, none⟩) s.n s.bc, .slice (some ⟨s.tg, 0, none⟩) s.tn s.tc, .slice (some ⟨s.cg, 0, none⟩) s.cn s.cc] 32))) := (Below.refl _ w).alloc (Nat.le_refl _) _
  go_enter Tryz.func18, Tryz.ntmps18
  go_wp2_with fail
  have hb0 := hbl _ L0.out
  clear hbl
  cases hok : okP (ptsOf s.bs) with
  | false =>
    have HV : Hid (R = false) := H1.out hok
    rw [hok] at hb0
    clear hca H1 H2 H3 H4 H5 H6 hok
    refine hb0.mono ?_
    rintro e w1 ⟨rfl, b1⟩
    go_wp2_with fail
    go_ret
    exact ⟨by rw [HV.out]; rfl, L0.out.trans (b1.mono L0.out.size)⟩
  | true =>
    have HOK : Hid (okP (ptsOf s.bs) = true) := hok
    have H3 := H3.out hok
    rw [hok] at hb0
    clear H1 hok
    refine hb0.mono ?_
    rintro e w1 ⟨rfl, b1⟩
    obtain ⟨gs, hgs⟩ : ∃ gs, gs = w.heap.size := ⟨_, rfl⟩
    have CS : Hid (CBk w1 gs 32 #[.slice (some ⟨s.g, 0, none⟩) s.n s.bc, .slice (some ⟨s.tg, 0, none⟩) s.tn s.tc, .slice (some ⟨s.cg, 0, none⟩) s.cn s.cc]) := by rw [hgs]; exact C0.out.call b1
    have L1 : Hid (Below w.heap.size w w1) := L0.out.trans (b1.mono L0.out.size)
    rw [← hgs]
    clear hgs
    clear C0 L0 b1 hb0
    obtain ⟨c0, c1, c2, _⟩ := CS.out.three
    by_cases h3 : s.tn = 3
    · have hn3 : (s.tn : Int) = 3 := by omega
      have hn3' : ((s.tn : Int) != 3) = false := by rw [hn3]; rfl
      have HT3 : Hid (s.tn = 3) := h3
      have hc0 := hca _ L1.out
      clear hca H2
      cases hcb : cachedB s.cs with
      | false =>
        have HV : Hid (R = false) := H3 hcb
        rw [hcb] at hc0
        clear H3 H4 H5 H6 hcb
        go_wp2_with fail
        refine hc0.mono ?_
        rintro e w2 ⟨rfl, b2⟩
        go_wp2_with fail
        go_ret
        exact ⟨by rw [HV.out]; rfl, L1.out.trans (b2.mono L1.out.size)⟩
      | true =>
        have HCB : Hid (cachedB s.cs = true) := hcb
        rw [hcb] at hc0
        clear H3 hcb
        go_wp2_with fail
        refine hc0.mono ?_
        rintro e w2 ⟨rfl, b2⟩
        have CS2 : Hid (CBk w2 gs 32 #[.slice (some ⟨s.g, 0, none⟩) s.n s.bc, .slice (some ⟨s.tg, 0, none⟩) s.tn s.tc, .slice (some ⟨s.cg, 0, none⟩) s.cn s.cc]) := CS.out.call b2
        have L2 : Hid (Below w.heap.size w w2) := L1.out.trans (b2.mono L1.out.size)
        clear CS L1 b2 hc0 c0 c1 c2 hn3 hn3' h3
        go_wp2_with fail
        go_loopw [3] (fun i wr => ∃ k : Nat, k ≤ s.tn ∧ i = .int .i64 (k : Int) ∧ Hid (CBk wr gs 32 #[.slice (some ⟨s.g, 0, none⟩) s.n s.bc, .slice (some ⟨s.tg, 0, none⟩) s.tn s.tc, .slice (some ⟨s.cg, 0, none⟩) s.cn s.cc]) ∧ Hid (Below w.heap.size w wr) ∧ Hid (∀ q, q < k → inB (s.ts.getD q 0) 0 8 = true)) (fun i _ => s.tn - (intOf i).toNat)
        case atStart => exact ⟨0, by omega, rfl, CS2, L2, fun q hq => by omega⟩
        case round =>
          clear CS2 L2
          obtain ⟨k, hk, rfl, CSr, HB, HQ⟩ := hrel
          obtain ⟨c0, c1, c2, _⟩ := CSr.out.three
          by_cases hlt : k < s.tn
          · have q0 := (HS.out.below HB.out).t.2 k (by rw [← HTn.out]; exact hlt)
            have lk : (k : Int) < (s.tn : Int) := by omega
            have lk0 : (0 : Int) ≤ (k : Int) := by omega
            have wk : IntKind.i64.wrap ((k : Int) + 1) = (k : Int) + 1 := by rw [IntKind.wrap_i64]; have := HT3.out; omega
            have HK1 : Hid (k + 1 ≤ s.tn) := hlt
            have HX1 : Hid (inB (s.ts.getD k 0) 0 8 = false → R = false) := H4.out k hlt
            have HX2 : Hid (inB (s.ts.getD k 0) 0 8 = true → ∀ q, q < k + 1 → inB (s.ts.getD q 0) 0 8 = true) := by
              intro h q hq
              rcases Nat.lt_or_ge q k with h' | h'
              · exact HQ.out q h'
              · obtain rfl : q = k := by omega
                exact h
            clear HQ
            have hin := specIn (s.ts.getD k 0) 0 8 wr
            generalize inB (s.ts.getD k 0) 0 8 = b at hin HX1 HX2
            generalize s.ts.getD k 0 = t at q0 hin
            cases b with
            | false =>
              have HV : Hid (R = false) := HX1.out rfl
              clear HX1 HX2 H4 H5 H6
              go_wp2_with fail
              refine hin.mono ?_
              rintro e w3 ⟨rfl, rfl⟩
              go_wp2_with fail
              go_ret
              exact ⟨by rw [HV.out]; rfl, HB.out⟩
            | true =>
              have HQ2 : Hid (∀ q, q < k + 1 → inB (s.ts.getD q 0) 0 8 = true) := HX2.out rfl
              clear HX1 HX2
              go_wp2_with fail
              refine hin.mono ?_
              rintro e w3 ⟨rfl, rfl⟩
              go_wp2_with fail
              go_roundw
              case rel => exact ⟨k + 1, HK1.out, by go_num, CSr, HB, HQ2⟩
              case measure => have := HK1.out; simp [intOf]; omega
          · have HTQ : Hid (∀ q, q < s.tn → inB (s.ts.getD q 0) 0 8 = true) := fun q hq => HQ.out q (by omega)
            have lk : ¬ (k : Int) < (s.tn : Int) := by omega
            have HG : Hid ((∀ k, k < s.cn → KeptS s k) → R = true) := fun h => H6.out HT3.out HTQ.out HOK.out HCB.out h
            have HCS : Hid (CBk wr gs 32 #[.slice (some ⟨s.g, 0, none⟩) s.n s.bc, .slice (some ⟨s.tg, 0, none⟩) s.tn s.tc, .slice (some ⟨s.cg, 0, none⟩) s.cn s.cc]) := CSr
            have HBS : Hid (Below w.heap.size w wr) := HB
            clear H4 H6 HQ HTQ
            go_wp2_with fail
            clear c0 c1 c2 lk
            go_loopw [4] (fun i wr => ∃ k : Nat, k ≤ s.cn ∧ i = .int .i64 (k : Int) ∧ Hid (CBk wr gs 32 #[.slice (some ⟨s.g, 0, none⟩) s.n s.bc, .slice (some ⟨s.tg, 0, none⟩) s.tn s.tc, .slice (some ⟨s.cg, 0, none⟩) s.cn s.cc]) ∧ Hid (Below w.heap.size w wr) ∧ Hid (∀ q, q < k → KeptS s q)) (fun i _ => s.cn - (intOf i).toNat)
            case atStart => exact ⟨0, by omega, rfl, HCS, HBS, fun q hq => by omega⟩
            case round =>
              clear HCS HBS hlt hk HB CSr
              obtain ⟨k, hk, rfl, CSr, HB, HQ⟩ := hrel
              obtain ⟨c0, c1, c2, _⟩ := CSr.out.three
              by_cases hlt : k < s.cn
              · have hkl : k < s.cs.length := by rw [← HCn.out]; exact hlt
                have HAr : Hid (AtCached wr s.cg s.cs) := (HS.out.below HB.out).c
                have q0 := AtCached.c0 HAr.out k hkl
                have q1 := AtCached.c1 HAr.out k hkl
                have hcl : s.cg < wr.heap.size := HAr.out.1
                have lk : (k : Int) < (s.cn : Int) := by omega
                have lk0 : (0 : Int) ≤ (k : Int) := by omega
                have wk : IntKind.i64.wrap ((k : Int) + 1) = (k : Int) + 1 := by rw [IntKind.wrap_i64]; omega
                have HK1 : Hid (k + 1 ≤ s.cn) := hlt
                have hin := (once_parts ((cachedB_once HCB.out).2 k hkl)).1
                have hbd : Below wr.heap.size wr wr.drew := (Below.refl _ _).drew
                have HX1 : Hid (¬ (s.cs.getD k default).pos < (s.n : Int) → R = false) := fun hf => H5.out k hlt (fun h => hf h.1)
                have HX3 : Hid (¬ (s.cs.getD k default).text = filterAt (ptsOf s.bs) (s.cs.getD k default).pos.toNat → R = false) := fun hf => H5.out k hlt (fun h => hf h.2)
                have HX4 : Hid ((s.cs.getD k default).pos < (s.n : Int) → (s.cs.getD k default).text = filterAt (ptsOf s.bs) (s.cs.getD k default).pos.toNat → ∀ q, q < k + 1 → KeptS s q) := by
                  intro h1 h3 q hq
                  rcases Nat.lt_or_ge q k with h' | h'
                  · exact HQ.out q h'
                  · obtain rfl : q = k := by omega
                    exact ⟨h1, h3⟩
                clear HQ H5 HG HAr
                generalize s.cs.getD k default = c at q0 q1 HX1 HX3 HX4 hin
                obtain ⟨p, tx⟩ := c
                dsimp only at q0 q1 HX1 HX3 HX4 hin
                simp only [inB, Bool.and_eq_true, decide_eq_true_eq] at hin
                obtain ⟨j, rfl⟩ : ∃ j : Nat, p = (j : Int) := ⟨p.toNat, by omega⟩
                have hj0 : (0 : Int) ≤ (j : Int) := by omega
                clear hin
                by_cases hj : s.n ≤ j
                · have HV : Hid (R = false) := HX1.out (by omega)
                  have hd1 : (s.n : Int) ≤ (j : Int) := by omega
                  have hd1' : decide ((s.n : Int) ≤ (j : Int)) = true := decide_eq_true hd1
                  have hd1'' : decide (s.n ≤ j) = true := decide_eq_true hj
                  clear HX1 HX3 HX4 hkl
                  have hheld : ∀ w' : World, Below wr.heap.size wr w' → (fun w' => (w'.cell? ⟨gs, 0, none⟩ = some (.slice (some ⟨s.g, 0, none⟩) s.n s.bc) ∧ w'.cell? ⟨gs, 2, none⟩ = some (.slice (some ⟨s.cg, 0, none⟩) s.cn s.cc)) ∧ (w'.cell? ⟨s.cg, k * 2, none⟩ = some (.int .i64 (j : Int)) ∧ w'.cell? ⟨s.cg, k * 2 + 1, none⟩ = some (.string tx))) w' := fun w' hb => ⟨⟨(CSr.out.call hb).cell 0, (CSr.out.call hb).cell 2⟩, ⟨(hb.cell hcl).trans q0, (hb.cell hcl).trans q1⟩⟩
                  go_wp2_with fail
                  refine wp_region_noPanic ?_
                  refine wp_region_held_drew (S := fun w' => (w'.cell? ⟨gs, 0, none⟩ = some (.slice (some ⟨s.g, 0, none⟩) s.n s.bc) ∧ w'.cell? ⟨gs, 2, none⟩ = some (.slice (some ⟨s.cg, 0, none⟩) s.cn s.cc)) ∧ (w'.cell? ⟨s.cg, k * 2, none⟩ = some (.int .i64 (j : Int)) ∧ w'.cell? ⟨s.cg, k * 2 + 1, none⟩ = some (.string tx))) (by kernel_rfl) (hheld _ hbd) (fun hHeld => ?_)
                  refine takeL 0 (v := ?_) rfl (by kernel_rfl) (by kernel_rfl) (by kernel_rfl) (fun _ _ _ h => h) (by kernel_rfl) ?_ (by assumption) ?_
                  rotate_left
                  · intro w hSw; (try dsimp only at hSw); first | (go_simp; done) | (go_simp; with_reducible rfl)
                  try simp only [Act.put, List.setIfInBounds_toArray, List.set_cons_zero, List.set_cons_succ]
                  refine takeL 1 (v := ?_) rfl (by kernel_rfl) (by kernel_rfl) (by kernel_rfl) (fun _ _ _ h => h) (by kernel_rfl) ?_ (by assumption) ?_
                  rotate_left
                  · intro w hSw; (try dsimp only at hSw); first | (go_simp; done) | (go_simp; with_reducible rfl)
                  try simp only [Act.put, List.setIfInBounds_toArray, List.set_cons_zero, List.set_cons_succ]
                  refine takeL 2 (v := ?_) rfl (by kernel_rfl) (by kernel_rfl) (by kernel_rfl) (fun _ _ _ h => h) (by kernel_rfl) ?_ (by assumption) ?_
                  rotate_left
                  · intro w hSw; (try dsimp only at hSw); first | (go_simp; done) | (go_simp; with_reducible rfl)
                  try simp only [Act.put, List.setIfInBounds_toArray, List.set_cons_zero, List.set_cons_succ]
                  refine takeL 3 (v := ?_) rfl (by kernel_rfl) (by kernel_rfl) (by kernel_rfl) (fun _ _ _ h => h) (by kernel_rfl) ?_ (by assumption) ?_
                  rotate_left
                  · intro w hSw; (try dsimp only at hSw); first | (go_simp; done) | (go_simp; with_reducible rfl)
                  try simp only [Act.put, List.setIfInBounds_toArray, List.set_cons_zero, List.set_cons_succ]
                  refine takeL 4 (v := ?_) rfl (by kernel_rfl) (by kernel_rfl) (by kernel_rfl) (fun _ _ _ h => h) (by kernel_rfl) ?_ (by assumption) ?_
                  rotate_left
                  · intro w hSw; (try dsimp only at hSw); first | (go_simp; done) | (go_simp; with_reducible rfl)
                  try simp only [Act.put, List.setIfInBounds_toArray, List.set_cons_zero, List.set_cons_succ]
                  refine takeL 5 (v := ?_) rfl (by kernel_rfl) (by kernel_rfl) (by kernel_rfl) (fun _ _ _ h => h) (by kernel_rfl) ?_ (by assumption) ?_
                  rotate_left
                  · intro w hSw; (try dsimp only at hSw); first | (go_simp; done) | (go_simp; with_reducible rfl)
                  try simp only [Act.put, List.setIfInBounds_toArray, List.set_cons_zero, List.set_cons_succ]
                  refine takeL 6 (v := ?_) rfl (by kernel_rfl) (by kernel_rfl) (by kernel_rfl) (fun _ _ _ h => h) (by kernel_rfl) ?_ (by assumption) ?_
                  rotate_left
                  · intro w hSw; (try dsimp only at hSw); first | (go_simp; done) | (go_simp; with_reducible rfl)
                  try simp only [Act.put, List.setIfInBounds_toArray, List.set_cons_zero, List.set_cons_succ]
                  refine takeL 7 (v := ?_) rfl (by kernel_rfl) (by kernel_rfl) (by kernel_rfl) (fun _ _ _ h => h) (by kernel_rfl) ?_ (by assumption) ?_
                  rotate_left
                  · intro w hSw; (try dsimp only at hSw); first | (go_simp; done) | (go_simp; with_reducible rfl)
                  try simp only [Act.put, List.setIfInBounds_toArray, List.set_cons_zero, List.set_cons_succ]
                  refine takeL 8 (v := ?_) rfl (by kernel_rfl) (by kernel_rfl) (by kernel_rfl) (fun _ _ _ h => h) (by kernel_rfl) ?_ (by assumption) ?_
                  rotate_left
                  · intro w hSw; (try dsimp only at hSw); first | (go_simp; done) | (go_simp; with_reducible rfl)
                  try simp only [Act.put, List.setIfInBounds_toArray, List.set_cons_zero, List.set_cons_succ]
                  refine takeL 9 (v := ?_) rfl (by kernel_rfl) (by kernel_rfl) (by kernel_rfl) (fun _ _ _ h => h) (by kernel_rfl) ?_ (by assumption) ?_
                  rotate_left
                  · intro w hSw; (try dsimp only at hSw); first | (go_simp; done) | (go_simp; with_reducible rfl)
                  try simp only [Act.put, List.setIfInBounds_toArray, List.set_cons_zero, List.set_cons_succ]
                  refine takeL 10 (v := ?_) rfl (by kernel_rfl) (by kernel_rfl) (by kernel_rfl) (fun _ _ _ h => h) (by kernel_rfl) ?_ (by assumption) ?_
                  rotate_left
                  · intro w hSw; (try dsimp only at hSw); first | (go_simp; done) | (go_simp; with_reducible rfl)
                  try simp only [Act.put, List.setIfInBounds_toArray, List.set_cons_zero, List.set_cons_succ]
                  refine skipL 11 rfl (by kernel_rfl) (by kernel_rfl) (by kernel_rfl) (fun _ _ _ h => h) (by kernel_rfl) (by assumption) ?_
                  try simp only [Act.put, List.setIfInBounds_toArray, List.set_cons_zero, List.set_cons_succ]
                  refine skipL 12 rfl (by kernel_rfl) (by kernel_rfl) (by kernel_rfl) (fun _ _ _ h => h) (by kernel_rfl) (by assumption) ?_
                  try simp only [Act.put, List.setIfInBounds_toArray, List.set_cons_zero, List.set_cons_succ]
                  refine skipL 13 rfl (by kernel_rfl) (by kernel_rfl) (by kernel_rfl) (fun _ _ _ h => h) (by kernel_rfl) (by assumption) ?_
                  try simp only [Act.put, List.setIfInBounds_toArray, List.set_cons_zero, List.set_cons_succ]
                  refine skipL 14 rfl (by kernel_rfl) (by kernel_rfl) (by kernel_rfl) (fun _ _ _ h => h) (by kernel_rfl) (by assumption) ?_
                  try simp only [Act.put, List.setIfInBounds_toArray, List.set_cons_zero, List.set_cons_succ]
                  refine skipL 15 rfl (by kernel_rfl) (by kernel_rfl) (by kernel_rfl) (fun _ _ _ h => h) (by kernel_rfl) (by assumption) ?_
                  try simp only [Act.put, List.setIfInBounds_toArray, List.set_cons_zero, List.set_cons_succ]
                  refine skipL 16 rfl (by kernel_rfl) (by kernel_rfl) (by kernel_rfl) (fun _ _ _ h => h) (by kernel_rfl) (by assumption) ?_
                  try simp only [Act.put, List.setIfInBounds_toArray, List.set_cons_zero, List.set_cons_succ]
                  refine skipL 17 rfl (by kernel_rfl) (by kernel_rfl) (by kernel_rfl) (fun _ _ _ h => h) (by kernel_rfl) (by assumption) ?_
                  try simp only [Act.put, List.setIfInBounds_toArray, List.set_cons_zero, List.set_cons_succ]
                  refine skipL 18 rfl (by kernel_rfl) (by kernel_rfl) (by kernel_rfl) (fun _ _ _ h => h) (by kernel_rfl) (by assumption) ?_
                  try simp only [Act.put, List.setIfInBounds_toArray, List.set_cons_zero, List.set_cons_succ]
                  refine skipL 19 rfl (by kernel_rfl) (by kernel_rfl) (by kernel_rfl) (fun _ _ _ h => h) (by kernel_rfl) (by assumption) ?_
                  try simp only [Act.put, List.setIfInBounds_toArray, List.set_cons_zero, List.set_cons_succ]
                  refine skipL 20 rfl (by kernel_rfl) (by kernel_rfl) (by kernel_rfl) (fun _ _ _ h => h) (by kernel_rfl) (by assumption) ?_
                  try simp only [Act.put, List.setIfInBounds_toArray, List.set_cons_zero, List.set_cons_succ]
                  refine skipL 21 rfl (by kernel_rfl) (by kernel_rfl) (by kernel_rfl) (fun _ _ _ h => h) (by kernel_rfl) (by assumption) ?_
                  try simp only [Act.put, List.setIfInBounds_toArray, List.set_cons_zero, List.set_cons_succ]
                  refine skipL 22 rfl (by kernel_rfl) (by kernel_rfl) (by kernel_rfl) (fun _ _ _ h => h) (by kernel_rfl) (by assumption) ?_
                  try simp only [Act.put, List.setIfInBounds_toArray, List.set_cons_zero, List.set_cons_succ]
                  refine skipL 23 rfl (by kernel_rfl) (by kernel_rfl) (by kernel_rfl) (fun _ _ _ h => h) (by kernel_rfl) (by assumption) ?_
                  try simp only [Act.put, List.setIfInBounds_toArray, List.set_cons_zero, List.set_cons_succ]
                  refine skipL 24 rfl (by kernel_rfl) (by kernel_rfl) (by kernel_rfl) (fun _ _ _ h => h) (by kernel_rfl) (by assumption) ?_
                  try simp only [Act.put, List.setIfInBounds_toArray, List.set_cons_zero, List.set_cons_succ]
                  refine skipL 25 rfl (by kernel_rfl) (by kernel_rfl) (by kernel_rfl) (fun _ _ _ h => h) (by kernel_rfl) (by assumption) ?_
                  try simp only [Act.put, List.setIfInBounds_toArray, List.set_cons_zero, List.set_cons_succ]
                  refine skipL 26 rfl (by kernel_rfl) (by kernel_rfl) (by kernel_rfl) (fun _ _ _ h => h) (by kernel_rfl) (by assumption) ?_
                  try simp only [Act.put, List.setIfInBounds_toArray, List.set_cons_zero, List.set_cons_succ]
                  refine skipL 27 rfl (by kernel_rfl) (by kernel_rfl) (by kernel_rfl) (fun _ _ _ h => h) (by kernel_rfl) (by assumption) ?_
                  try simp only [Act.put, List.setIfInBounds_toArray, List.set_cons_zero, List.set_cons_succ]
                  refine skipL 28 rfl (by kernel_rfl) (by kernel_rfl) (by kernel_rfl) (fun _ _ _ h => h) (by kernel_rfl) (by assumption) ?_
                  try simp only [Act.put, List.setIfInBounds_toArray, List.set_cons_zero, List.set_cons_succ]
                  refine takeL 29 (v := ?_) rfl (by kernel_rfl) (by kernel_rfl) (by kernel_rfl) (fun _ _ _ h => h) (by kernel_rfl) ?_ (by assumption) ?_
                  rotate_left
                  · intro w hSw; (try dsimp only at hSw); first | (go_simp; done) | (go_simp; with_reducible rfl)
                  try simp only [Act.put, List.setIfInBounds_toArray, List.set_cons_zero, List.set_cons_succ]
                  refine wpAnyH_done (by kernel_rfl) ?_ _
                  refine NoPanic.normal ?_
                  go_wp2_with fail
                  go_ret
                  exact ⟨by rw [HV.out]; rfl, HB.out.drew⟩
                · have hd1 : ¬ (s.n : Int) ≤ (j : Int) := by omega
                  have hd1' : decide ((s.n : Int) ≤ (j : Int)) = false := decide_eq_false hd1
                  have hd1'' : decide (s.n ≤ j) = false := decide_eq_false (by omega)
                  have hd2 : (j : Int) < (s.n : Int) := by omega
                  have hjl : j < s.bs.length := by rw [← HBn.out]; omega
                  have HBr : Hid (Blks s.g s.n s.bc s.bs wr) := (HS.out.below HB.out).b
                  have d0 := AtBlk.c0 HBr.out.at_ j hjl
                  have d1 := AtBlk.c1 HBr.out.at_ j hjl
                  have d2 := AtBlk.c2 HBr.out.at_ j hjl
                  have d3 := AtBlk.c3 HBr.out.at_ j hjl
                  have d4 := AtBlk.c4 HBr.out.at_ j hjl
                  have d5 := AtBlk.c5 HBr.out.at_ j hjl
                  have hgl : s.g < wr.heap.size := HBr.out.at_.1
                  have HIT : Hid (ItemsAt wr (s.bs.getD j default)) := HBr.out.items _ (blk_mem hjl)
                  have hprt := blockOk_parts (okP_block HOK.out hjl)
                  have hbf := fun (w' : World) (hb : Below wr.heap.size wr w') => specL3Filter (s.bs.getD j default).h (s.bs.getD j default).g (s.bs.getD j default).n (s.bs.getD j default).cap (s.bs.getD j default).ss w' (HIT.out.1.below hb HIT.out.1.1) HIT.out.2 hprt.1 hprt.2
                  have hfe : (⟨(filterB (sumB (headX (s.bs.getD j default).h)) (s.bs.getD j default).ss).toArray⟩ : ByteArray) = filterAt (ptsOf s.bs) j := by rw [filterAt_blk hjl, blockFilter, if_pos (okP_block HOK.out hjl)]
                  rw [hfe] at hbf
                  rw [Int.toNat_natCast] at HX3 HX4
                  generalize filterAt (ptsOf s.bs) j = f at hbf HX3 HX4
                  clear hfe hprt
                  generalize s.bs.getD j default = bb at d0 d1 d2 d3 d4 d5 hbf
                  obtain ⟨⟨hp, hr, ht, hd, hn⟩, ig, im, ic, iss⟩ := bb
                  unfold blockVal at hbf
                  dsimp only at d0 d1 d2 d3 d4 d5 hbf
                  clear HIT HBr
                  by_cases htx : tx = f
                  · have HQ4 : Hid (∀ q, q < k + 1 → KeptS s q) := HX4.out (by omega) htx
                    have htx' : f = tx := htx.symm
                    subst htx'
                    clear HX1 HX3 HX4 hkl hjl
                    have hheld : ∀ w' : World, Below wr.heap.size wr w' → (fun w' => (w'.cell? ⟨gs, 0, none⟩ = some (.slice (some ⟨s.g, 0, none⟩) s.n s.bc) ∧ w'.cell? ⟨gs, 2, none⟩ = some (.slice (some ⟨s.cg, 0, none⟩) s.cn s.cc)) ∧ (w'.cell? ⟨s.cg, k * 2, none⟩ = some (.int .i64 (j : Int)) ∧ w'.cell? ⟨s.cg, k * 2 + 1, none⟩ = some (.string f)) ∧ w'.cell? ⟨s.g, j * 6, none⟩ = some (.string hp) ∧ w'.cell? ⟨s.g, j * 6 + 1, none⟩ = some (.string hr) ∧ w'.cell? ⟨s.g, j * 6 + 2, none⟩ = some (.int .i64 ht) ∧ w'.cell? ⟨s.g, j * 6 + 3, none⟩ = some (.int .i64 hd) ∧ w'.cell? ⟨s.g, j * 6 + 4, none⟩ = some (.int .i64 hn) ∧ w'.cell? ⟨s.g, j * 6 + 5, none⟩ = some (.slice (some ⟨ig, 0, none⟩) im ic)) w' := fun w' hb => ⟨⟨(CSr.out.call hb).cell 0, (CSr.out.call hb).cell 2⟩, ⟨(hb.cell hcl).trans q0, (hb.cell hcl).trans q1⟩, (hb.cell hgl).trans d0, (hb.cell hgl).trans d1, (hb.cell hgl).trans d2, (hb.cell hgl).trans d3, (hb.cell hgl).trans d4, (hb.cell hgl).trans d5⟩
                    go_wp2_with fail
                    refine wp_region_noPanic ?_
                    refine wp_region_held_drew (S := fun w' => (w'.cell? ⟨gs, 0, none⟩ = some (.slice (some ⟨s.g, 0, none⟩) s.n s.bc) ∧ w'.cell? ⟨gs, 2, none⟩ = some (.slice (some ⟨s.cg, 0, none⟩) s.cn s.cc)) ∧ (w'.cell? ⟨s.cg, k * 2, none⟩ = some (.int .i64 (j : Int)) ∧ w'.cell? ⟨s.cg, k * 2 + 1, none⟩ = some (.string f)) ∧ w'.cell? ⟨s.g, j * 6, none⟩ = some (.string hp) ∧ w'.cell? ⟨s.g, j * 6 + 1, none⟩ = some (.string hr) ∧ w'.cell? ⟨s.g, j * 6 + 2, none⟩ = some (.int .i64 ht) ∧ w'.cell? ⟨s.g, j * 6 + 3, none⟩ = some (.int .i64 hd) ∧ w'.cell? ⟨s.g, j * 6 + 4, none⟩ = some (.int .i64 hn) ∧ w'.cell? ⟨s.g, j * 6 + 5, none⟩ = some (.slice (some ⟨ig, 0, none⟩) im ic)) (by kernel_rfl) (hheld _ hbd) (fun hHeld => ?_)
                    refine takeL 0 (v := ?_) rfl (by kernel_rfl) (by kernel_rfl) (by kernel_rfl) (fun _ _ _ h => h) (by kernel_rfl) ?_ (by assumption) ?_
                    rotate_left
                    · intro w hSw; (try dsimp only at hSw); first | (go_simp; done) | (go_simp; with_reducible rfl)
                    try simp only [Act.put, List.setIfInBounds_toArray, List.set_cons_zero, List.set_cons_succ]
                    refine takeL 1 (v := ?_) rfl (by kernel_rfl) (by kernel_rfl) (by kernel_rfl) (fun _ _ _ h => h) (by kernel_rfl) ?_ (by assumption) ?_
                    rotate_left
                    · intro w hSw; (try dsimp only at hSw); first | (go_simp; done) | (go_simp; with_reducible rfl)
                    try simp only [Act.put, List.setIfInBounds_toArray, List.set_cons_zero, List.set_cons_succ]
                    refine takeL 2 (v := ?_) rfl (by kernel_rfl) (by kernel_rfl) (by kernel_rfl) (fun _ _ _ h => h) (by kernel_rfl) ?_ (by assumption) ?_
                    rotate_left
                    · intro w hSw; (try dsimp only at hSw); first | (go_simp; done) | (go_simp; with_reducible rfl)
                    try simp only [Act.put, List.setIfInBounds_toArray, List.set_cons_zero, List.set_cons_succ]
                    refine takeL 3 (v := ?_) rfl (by kernel_rfl) (by kernel_rfl) (by kernel_rfl) (fun _ _ _ h => h) (by kernel_rfl) ?_ (by assumption) ?_
                    rotate_left
                    · intro w hSw; (try dsimp only at hSw); first | (go_simp; done) | (go_simp; with_reducible rfl)
                    try simp only [Act.put, List.setIfInBounds_toArray, List.set_cons_zero, List.set_cons_succ]
                    refine takeL 4 (v := ?_) rfl (by kernel_rfl) (by kernel_rfl) (by kernel_rfl) (fun _ _ _ h => h) (by kernel_rfl) ?_ (by assumption) ?_
                    rotate_left
                    · intro w hSw; (try dsimp only at hSw); first | (go_simp; done) | (go_simp; with_reducible rfl)
                    try simp only [Act.put, List.setIfInBounds_toArray, List.set_cons_zero, List.set_cons_succ]
                    refine takeL 5 (v := ?_) rfl (by kernel_rfl) (by kernel_rfl) (by kernel_rfl) (fun _ _ _ h => h) (by kernel_rfl) ?_ (by assumption) ?_
                    rotate_left
                    · intro w hSw; (try dsimp only at hSw); first | (go_simp; done) | (go_simp; with_reducible rfl)
                    try simp only [Act.put, List.setIfInBounds_toArray, List.set_cons_zero, List.set_cons_succ]
                    refine takeL 6 (v := ?_) rfl (by kernel_rfl) (by kernel_rfl) (by kernel_rfl) (fun _ _ _ h => h) (by kernel_rfl) ?_ (by assumption) ?_
                    rotate_left
                    · intro w hSw; (try dsimp only at hSw); first | (go_simp; done) | (go_simp; with_reducible rfl)
                    try simp only [Act.put, List.setIfInBounds_toArray, List.set_cons_zero, List.set_cons_succ]
                    refine takeL 7 (v := ?_) rfl (by kernel_rfl) (by kernel_rfl) (by kernel_rfl) (fun _ _ _ h => h) (by kernel_rfl) ?_ (by assumption) ?_
                    rotate_left
                    · intro w hSw; (try dsimp only at hSw); first | (go_simp; done) | (go_simp; with_reducible rfl)
                    try simp only [Act.put, List.setIfInBounds_toArray, List.set_cons_zero, List.set_cons_succ]
                    refine takeL 8 (v := ?_) rfl (by kernel_rfl) (by kernel_rfl) (by kernel_rfl) (fun _ _ _ h => h) (by kernel_rfl) ?_ (by assumption) ?_
                    rotate_left
                    · intro w hSw; (try dsimp only at hSw); first | (go_simp; done) | (go_simp; with_reducible rfl)
                    try simp only [Act.put, List.setIfInBounds_toArray, List.set_cons_zero, List.set_cons_succ]
                    refine takeL 9 (v := ?_) rfl (by kernel_rfl) (by kernel_rfl) (by kernel_rfl) (fun _ _ _ h => h) (by kernel_rfl) ?_ (by assumption) ?_
                    rotate_left
                    · intro w hSw; (try dsimp only at hSw); first | (go_simp; done) | (go_simp; with_reducible rfl)
                    try simp only [Act.put, List.setIfInBounds_toArray, List.set_cons_zero, List.set_cons_succ]
                    refine takeL 10 (v := ?_) rfl (by kernel_rfl) (by kernel_rfl) (by kernel_rfl) (fun _ _ _ h => h) (by kernel_rfl) ?_ (by assumption) ?_
                    rotate_left
                    · intro w hSw; (try dsimp only at hSw); first | (go_simp; done) | (go_simp; with_reducible rfl)
                    try simp only [Act.put, List.setIfInBounds_toArray, List.set_cons_zero, List.set_cons_succ]
                    refine takeL 11 (v := ?_) rfl (by kernel_rfl) (by kernel_rfl) (by kernel_rfl) (fun _ _ _ h => h) (by kernel_rfl) ?_ (by assumption) ?_
                    rotate_left
                    · intro w hSw; (try dsimp only at hSw); first | (go_simp; done) | (go_simp; with_reducible rfl)
                    try simp only [Act.put, List.setIfInBounds_toArray, List.set_cons_zero, List.set_cons_succ]
                    refine takeL 12 (v := ?_) rfl (by kernel_rfl) (by kernel_rfl) (by kernel_rfl) (fun _ _ _ h => h) (by kernel_rfl) ?_ (by assumption) ?_
                    rotate_left
                    · intro w hSw; (try dsimp only at hSw); first | (go_simp; done) | (go_simp; with_reducible rfl)
                    try simp only [Act.put, List.setIfInBounds_toArray, List.set_cons_zero, List.set_cons_succ]
                    refine takeL 13 (v := ?_) rfl (by kernel_rfl) (by kernel_rfl) (by kernel_rfl) (fun _ _ _ h => h) (by kernel_rfl) ?_ (by assumption) ?_
                    rotate_left
                    · intro w hSw; (try dsimp only at hSw); first | (go_simp; done) | (go_simp; with_reducible rfl)
                    try simp only [Act.put, List.setIfInBounds_toArray, List.set_cons_zero, List.set_cons_succ]
                    refine takeL 14 (v := ?_) rfl (by kernel_rfl) (by kernel_rfl) (by kernel_rfl) (fun _ _ _ h => h) (by kernel_rfl) ?_ (by assumption) ?_
                    rotate_left
                    · intro w hSw; (try dsimp only at hSw); first | (go_simp; done) | (go_simp; with_reducible rfl)
                    try simp only [Act.put, List.setIfInBounds_toArray, List.set_cons_zero, List.set_cons_succ]
                    refine takeL 15 (v := ?_) rfl (by kernel_rfl) (by kernel_rfl) (by kernel_rfl) (fun _ _ _ h => h) (by kernel_rfl) ?_ (by assumption) ?_
                    rotate_left
                    · intro w hSw; (try dsimp only at hSw); first | (go_simp; done) | (go_simp; with_reducible rfl)
                    try simp only [Act.put, List.setIfInBounds_toArray, List.set_cons_zero, List.set_cons_succ]
                    refine takeL 16 (v := ?_) rfl (by kernel_rfl) (by kernel_rfl) (by kernel_rfl) (fun _ _ _ h => h) (by kernel_rfl) ?_ (by assumption) ?_
                    rotate_left
                    · intro w hSw; (try dsimp only at hSw); first | (go_simp; done) | (go_simp; with_reducible rfl)
                    try simp only [Act.put, List.setIfInBounds_toArray, List.set_cons_zero, List.set_cons_succ]
                    refine takeL 17 (v := ?_) rfl (by kernel_rfl) (by kernel_rfl) (by kernel_rfl) (fun _ _ _ h => h) (by kernel_rfl) ?_ (by assumption) ?_
                    rotate_left
                    · intro w hSw; (try dsimp only at hSw); first | (go_simp; done) | (go_simp; with_reducible rfl)
                    try simp only [Act.put, List.setIfInBounds_toArray, List.set_cons_zero, List.set_cons_succ]
                    refine takeL 18 (v := ?_) rfl (by kernel_rfl) (by kernel_rfl) (by kernel_rfl) (fun _ _ _ h => h) (by kernel_rfl) ?_ (by assumption) ?_
                    rotate_left
                    · intro w hSw; (try dsimp only at hSw); first | (go_simp; done) | (go_simp; with_reducible rfl)
                    try simp only [Act.put, List.setIfInBounds_toArray, List.set_cons_zero, List.set_cons_succ]
                    refine takeL 19 (v := ?_) rfl (by kernel_rfl) (by kernel_rfl) (by kernel_rfl) (fun _ _ _ h => h) (by kernel_rfl) ?_ (by assumption) ?_
                    rotate_left
                    · intro w hSw; (try dsimp only at hSw); first | (go_simp; done) | (go_simp; with_reducible rfl)
                    try simp only [Act.put, List.setIfInBounds_toArray, List.set_cons_zero, List.set_cons_succ]
                    refine takeL 20 (v := ?_) rfl (by kernel_rfl) (by kernel_rfl) (by kernel_rfl) (fun _ _ _ h => h) (by kernel_rfl) ?_ (by assumption) ?_
                    rotate_left
                    · intro w hSw; (try dsimp only at hSw); first | (go_simp; done) | (go_simp; with_reducible rfl)
                    try simp only [Act.put, List.setIfInBounds_toArray, List.set_cons_zero, List.set_cons_succ]
                    refine takeL 21 (v := ?_) rfl (by kernel_rfl) (by kernel_rfl) (by kernel_rfl) (fun _ _ _ h => h) (by kernel_rfl) ?_ (by assumption) ?_
                    rotate_left
                    · intro w hSw; (try dsimp only at hSw); first | (go_simp; done) | (go_simp; with_reducible rfl)
                    try simp only [Act.put, List.setIfInBounds_toArray, List.set_cons_zero, List.set_cons_succ]
                    refine takeL 22 (v := ?_) rfl (by kernel_rfl) (by kernel_rfl) (by kernel_rfl) (fun _ _ _ h => h) (by kernel_rfl) ?_ (by assumption) ?_
                    rotate_left
                    · intro w hSw; (try dsimp only at hSw); first | (go_simp; done) | (go_simp; with_reducible rfl)
                    try simp only [Act.put, List.setIfInBounds_toArray, List.set_cons_zero, List.set_cons_succ]
                    refine takeL 23 (v := ?_) rfl (by kernel_rfl) (by kernel_rfl) (by kernel_rfl) (fun _ _ _ h => h) (by kernel_rfl) ?_ (by assumption) ?_
                    rotate_left
                    · intro w hSw; (try dsimp only at hSw); first | (go_simp; done) | (go_simp; with_reducible rfl)
                    try simp only [Act.put, List.setIfInBounds_toArray, List.set_cons_zero, List.set_cons_succ]
                    refine takeL 24 (v := ?_) rfl (by kernel_rfl) (by kernel_rfl) (by kernel_rfl) (fun _ _ _ h => h) (by kernel_rfl) ?_ (by assumption) ?_
                    rotate_left
                    · intro w hSw; (try dsimp only at hSw); first | (go_simp; done) | (go_simp; with_reducible rfl)
                    try simp only [Act.put, List.setIfInBounds_toArray, List.set_cons_zero, List.set_cons_succ]
                    refine takeL 25 (v := ?_) rfl (by kernel_rfl) (by kernel_rfl) (by kernel_rfl) (fun _ _ _ h => h) (by kernel_rfl) ?_ (by assumption) ?_
                    rotate_left
                    · intro w hSw; (try dsimp only at hSw); first | (go_simp; done) | (go_simp; with_reducible rfl)
                    try simp only [Act.put, List.setIfInBounds_toArray, List.set_cons_zero, List.set_cons_succ]
                    refine takeL 26 (v := ?_) rfl (by kernel_rfl) (by kernel_rfl) (by kernel_rfl) (fun _ _ _ h => h) (by kernel_rfl) ?_ (by assumption) ?_
                    rotate_left
                    · intro w hSw; (try dsimp only at hSw); first | (go_simp; done) | (go_simp; with_reducible rfl)
                    try simp only [Act.put, List.setIfInBounds_toArray, List.set_cons_zero, List.set_cons_succ]
                    refine callL 27 rfl (by kernel_rfl) (fun K hK => ?_)
                    go_simp
                    refine (hbf _ hbd).mono ?_
                    rintro e w5 ⟨rfl, b5⟩
                    have B5 : Hid (Below wr.heap.size wr w5) := hbd.trans b5
                    have HH5 := hheld _ B5.out
                    clear b5
                    go_wp2_with fail
                    refine hK.out _ _ ?_ (fun hHeld => ?_)
                    · first | exact HH5 | exact HH4
                    clear hK K
                    try simp only [Act.put, List.setIfInBounds_toArray, List.set_cons_zero, List.set_cons_succ]
                    refine takeL 28 (v := ?_) rfl (by kernel_rfl) (by kernel_rfl) (by kernel_rfl) (fun _ _ _ h => h) (by kernel_rfl) ?_ (by assumption) ?_
                    rotate_left
                    · intro w hSw; (try dsimp only at hSw); first | (go_simp; done) | (go_simp; with_reducible rfl)
                    try simp only [Act.put, List.setIfInBounds_toArray, List.set_cons_zero, List.set_cons_succ]
                    refine takeL 29 (v := ?_) rfl (by kernel_rfl) (by kernel_rfl) (by kernel_rfl) (fun _ _ _ h => h) (by kernel_rfl) ?_ (by assumption) ?_
                    rotate_left
                    · intro w hSw; (try dsimp only at hSw); first | (go_simp; done) | (go_simp; with_reducible rfl)
                    try simp only [Act.put, List.setIfInBounds_toArray, List.set_cons_zero, List.set_cons_succ]
                    refine wpAnyH_done (by kernel_rfl) ?_ _
                    refine NoPanic.normal ?_
                    go_wp2_with fail
                    go_roundw
                    case rel => exact ⟨k + 1, HK1.out, by go_num, CSr.out.call B5.out, HB.out.trans (B5.out.mono HB.out.size), HQ4⟩
                    case measure => have := HK1.out; simp [intOf]; omega
                  · have HV : Hid (R = false) := HX3.out htx
                    have htx1 : (tx.toList == f.toList) = false := by rw [sameS, decide_eq_false htx]
                    clear HX1 HX3 HX4 hkl hjl
                    have hheld : ∀ w' : World, Below wr.heap.size wr w' → (fun w' => (w'.cell? ⟨gs, 0, none⟩ = some (.slice (some ⟨s.g, 0, none⟩) s.n s.bc) ∧ w'.cell? ⟨gs, 2, none⟩ = some (.slice (some ⟨s.cg, 0, none⟩) s.cn s.cc)) ∧ (w'.cell? ⟨s.cg, k * 2, none⟩ = some (.int .i64 (j : Int)) ∧ w'.cell? ⟨s.cg, k * 2 + 1, none⟩ = some (.string tx)) ∧ w'.cell? ⟨s.g, j * 6, none⟩ = some (.string hp) ∧ w'.cell? ⟨s.g, j * 6 + 1, none⟩ = some (.string hr) ∧ w'.cell? ⟨s.g, j * 6 + 2, none⟩ = some (.int .i64 ht) ∧ w'.cell? ⟨s.g, j * 6 + 3, none⟩ = some (.int .i64 hd) ∧ w'.cell? ⟨s.g, j * 6 + 4, none⟩ = some (.int .i64 hn) ∧ w'.cell? ⟨s.g, j * 6 + 5, none⟩ = some (.slice (some ⟨ig, 0, none⟩) im ic)) w' := fun w' hb => ⟨⟨(CSr.out.call hb).cell 0, (CSr.out.call hb).cell 2⟩, ⟨(hb.cell hcl).trans q0, (hb.cell hcl).trans q1⟩, (hb.cell hgl).trans d0, (hb.cell hgl).trans d1, (hb.cell hgl).trans d2, (hb.cell hgl).trans d3, (hb.cell hgl).trans d4, (hb.cell hgl).trans d5⟩
                    go_wp2_with fail
                    refine wp_region_noPanic ?_
                    refine wp_region_held_drew (S := fun w' => (w'.cell? ⟨gs, 0, none⟩ = some (.slice (some ⟨s.g, 0, none⟩) s.n s.bc) ∧ w'.cell? ⟨gs, 2, none⟩ = some (.slice (some ⟨s.cg, 0, none⟩) s.cn s.cc)) ∧ (w'.cell? ⟨s.cg, k * 2, none⟩ = some (.int .i64 (j : Int)) ∧ w'.cell? ⟨s.cg, k * 2 + 1, none⟩ = some (.string tx)) ∧ w'.cell? ⟨s.g, j * 6, none⟩ = some (.string hp) ∧ w'.cell? ⟨s.g, j * 6 + 1, none⟩ = some (.string hr) ∧ w'.cell? ⟨s.g, j * 6 + 2, none⟩ = some (.int .i64 ht) ∧ w'.cell? ⟨s.g, j * 6 + 3, none⟩ = some (.int .i64 hd) ∧ w'.cell? ⟨s.g, j * 6 + 4, none⟩ = some (.int .i64 hn) ∧ w'.cell? ⟨s.g, j * 6 + 5, none⟩ = some (.slice (some ⟨ig, 0, none⟩) im ic)) (by kernel_rfl) (hheld _ hbd) (fun hHeld => ?_)
                    refine takeL 0 (v := ?_) rfl (by kernel_rfl) (by kernel_rfl) (by kernel_rfl) (fun _ _ _ h => h) (by kernel_rfl) ?_ (by assumption) ?_
                    rotate_left
                    · intro w hSw; (try dsimp only at hSw); first | (go_simp; done) | (go_simp; with_reducible rfl)
                    try simp only [Act.put, List.setIfInBounds_toArray, List.set_cons_zero, List.set_cons_succ]
                    refine takeL 1 (v := ?_) rfl (by kernel_rfl) (by kernel_rfl) (by kernel_rfl) (fun _ _ _ h => h) (by kernel_rfl) ?_ (by assumption) ?_
                    rotate_left
                    · intro w hSw; (try dsimp only at hSw); first | (go_simp; done) | (go_simp; with_reducible rfl)
                    try simp only [Act.put, List.setIfInBounds_toArray, List.set_cons_zero, List.set_cons_succ]
                    refine takeL 2 (v := ?_) rfl (by kernel_rfl) (by kernel_rfl) (by kernel_rfl) (fun _ _ _ h => h) (by kernel_rfl) ?_ (by assumption) ?_
                    rotate_left
                    · intro w hSw; (try dsimp only at hSw); first | (go_simp; done) | (go_simp; with_reducible rfl)
                    try simp only [Act.put, List.setIfInBounds_toArray, List.set_cons_zero, List.set_cons_succ]
                    refine takeL 3 (v := ?_) rfl (by kernel_rfl) (by kernel_rfl) (by kernel_rfl) (fun _ _ _ h => h) (by kernel_rfl) ?_ (by assumption) ?_
                    rotate_left
                    · intro w hSw; (try dsimp only at hSw); first | (go_simp; done) | (go_simp; with_reducible rfl)
                    try simp only [Act.put, List.setIfInBounds_toArray, List.set_cons_zero, List.set_cons_succ]
                    refine takeL 4 (v := ?_) rfl (by kernel_rfl) (by kernel_rfl) (by kernel_rfl) (fun _ _ _ h => h) (by kernel_rfl) ?_ (by assumption) ?_
                    rotate_left
                    · intro w hSw; (try dsimp only at hSw); first | (go_simp; done) | (go_simp; with_reducible rfl)
                    try simp only [Act.put, List.setIfInBounds_toArray, List.set_cons_zero, List.set_cons_succ]
                    refine takeL 5 (v := ?_) rfl (by kernel_rfl) (by kernel_rfl) (by kernel_rfl) (fun _ _ _ h => h) (by kernel_rfl) ?_ (by assumption) ?_
                    rotate_left
                    · intro w hSw; (try dsimp only at hSw); first | (go_simp; done) | (go_simp; with_reducible rfl)
                    try simp only [Act.put, List.setIfInBounds_toArray, List.set_cons_zero, List.set_cons_succ]
                    refine takeL 6 (v := ?_) rfl (by kernel_rfl) (by kernel_rfl) (by kernel_rfl) (fun _ _ _ h => h) (by kernel_rfl) ?_ (by assumption) ?_
                    rotate_left
                    · intro w hSw; (try dsimp only at hSw); first | (go_simp; done) | (go_simp; with_reducible rfl)
                    try simp only [Act.put, List.setIfInBounds_toArray, List.set_cons_zero, List.set_cons_succ]
                    refine takeL 7 (v := ?_) rfl (by kernel_rfl) (by kernel_rfl) (by kernel_rfl) (fun _ _ _ h => h) (by kernel_rfl) ?_ (by assumption) ?_
                    rotate_left
                    · intro w hSw; (try dsimp only at hSw); first | (go_simp; done) | (go_simp; with_reducible rfl)
                    try simp only [Act.put, List.setIfInBounds_toArray, List.set_cons_zero, List.set_cons_succ]
                    refine takeL 8 (v := ?_) rfl (by kernel_rfl) (by kernel_rfl) (by kernel_rfl) (fun _ _ _ h => h) (by kernel_rfl) ?_ (by assumption) ?_
                    rotate_left
                    · intro w hSw; (try dsimp only at hSw); first | (go_simp; done) | (go_simp; with_reducible rfl)
                    try simp only [Act.put, List.setIfInBounds_toArray, List.set_cons_zero, List.set_cons_succ]
                    refine takeL 9 (v := ?_) rfl (by kernel_rfl) (by kernel_rfl) (by kernel_rfl) (fun _ _ _ h => h) (by kernel_rfl) ?_ (by assumption) ?_
                    rotate_left
                    · intro w hSw; (try dsimp only at hSw); first | (go_simp; done) | (go_simp; with_reducible rfl)
                    try simp only [Act.put, List.setIfInBounds_toArray, List.set_cons_zero, List.set_cons_succ]
                    refine takeL 10 (v := ?_) rfl (by kernel_rfl) (by kernel_rfl) (by kernel_rfl) (fun _ _ _ h => h) (by kernel_rfl) ?_ (by assumption) ?_
                    rotate_left
                    · intro w hSw; (try dsimp only at hSw); first | (go_simp; done) | (go_simp; with_reducible rfl)
                    try simp only [Act.put, List.setIfInBounds_toArray, List.set_cons_zero, List.set_cons_succ]
                    refine takeL 11 (v := ?_) rfl (by kernel_rfl) (by kernel_rfl) (by kernel_rfl) (fun _ _ _ h => h) (by kernel_rfl) ?_ (by assumption) ?_
                    rotate_left
                    · intro w hSw; (try dsimp only at hSw); first | (go_simp; done) | (go_simp; with_reducible rfl)
                    try simp only [Act.put, List.setIfInBounds_toArray, List.set_cons_zero, List.set_cons_succ]
                    refine takeL 12 (v := ?_) rfl (by kernel_rfl) (by kernel_rfl) (by kernel_rfl) (fun _ _ _ h => h) (by kernel_rfl) ?_ (by assumption) ?_
                    rotate_left
                    · intro w hSw; (try dsimp only at hSw); first | (go_simp; done) | (go_simp; with_reducible rfl)
                    try simp only [Act.put, List.setIfInBounds_toArray, List.set_cons_zero, List.set_cons_succ]
                    refine takeL 13 (v := ?_) rfl (by kernel_rfl) (by kernel_rfl) (by kernel_rfl) (fun _ _ _ h => h) (by kernel_rfl) ?_ (by assumption) ?_
                    rotate_left
                    · intro w hSw; (try dsimp only at hSw); first | (go_simp; done) | (go_simp; with_reducible rfl)
                    try simp only [Act.put, List.setIfInBounds_toArray, List.set_cons_zero, List.set_cons_succ]
                    refine takeL 14 (v := ?_) rfl (by kernel_rfl) (by kernel_rfl) (by kernel_rfl) (fun _ _ _ h => h) (by kernel_rfl) ?_ (by assumption) ?_
                    rotate_left
                    · intro w hSw; (try dsimp only at hSw); first | (go_simp; done) | (go_simp; with_reducible rfl)
                    try simp only [Act.put, List.setIfInBounds_toArray, List.set_cons_zero, List.set_cons_succ]
                    refine takeL 15 (v := ?_) rfl (by kernel_rfl) (by kernel_rfl) (by kernel_rfl) (fun _ _ _ h => h) (by kernel_rfl) ?_ (by assumption) ?_
                    rotate_left
                    · intro w hSw; (try dsimp only at hSw); first | (go_simp; done) | (go_simp; with_reducible rfl)
                    try simp only [Act.put, List.setIfInBounds_toArray, List.set_cons_zero, List.set_cons_succ]
                    refine takeL 16 (v := ?_) rfl (by kernel_rfl) (by kernel_rfl) (by kernel_rfl) (fun _ _ _ h => h) (by kernel_rfl) ?_ (by assumption) ?_
                    rotate_left
                    · intro w hSw; (try dsimp only at hSw); first | (go_simp; done) | (go_simp; with_reducible rfl)
                    try simp only [Act.put, List.setIfInBounds_toArray, List.set_cons_zero, List.set_cons_succ]
                    refine takeL 17 (v := ?_) rfl (by kernel_rfl) (by kernel_rfl) (by kernel_rfl) (fun _ _ _ h => h) (by kernel_rfl) ?_ (by assumption) ?_
                    rotate_left
                    · intro w hSw; (try dsimp only at hSw); first | (go_simp; done) | (go_simp; with_reducible rfl)
                    try simp only [Act.put, List.setIfInBounds_toArray, List.set_cons_zero, List.set_cons_succ]
                    refine takeL 18 (v := ?_) rfl (by kernel_rfl) (by kernel_rfl) (by kernel_rfl) (fun _ _ _ h => h) (by kernel_rfl) ?_ (by assumption) ?_
                    rotate_left
                    · intro w hSw; (try dsimp only at hSw); first | (go_simp; done) | (go_simp; with_reducible rfl)
                    try simp only [Act.put, List.setIfInBounds_toArray, List.set_cons_zero, List.set_cons_succ]
                    refine takeL 19 (v := ?_) rfl (by kernel_rfl) (by kernel_rfl) (by kernel_rfl) (fun _ _ _ h => h) (by kernel_rfl) ?_ (by assumption) ?_
                    rotate_left
                    · intro w hSw; (try dsimp only at hSw); first | (go_simp; done) | (go_simp; with_reducible rfl)
                    try simp only [Act.put, List.setIfInBounds_toArray, List.set_cons_zero, List.set_cons_succ]
                    refine takeL 20 (v := ?_) rfl (by kernel_rfl) (by kernel_rfl) (by kernel_rfl) (fun _ _ _ h => h) (by kernel_rfl) ?_ (by assumption) ?_
                    rotate_left
                    · intro w hSw; (try dsimp only at hSw); first | (go_simp; done) | (go_simp; with_reducible rfl)
                    try simp only [Act.put, List.setIfInBounds_toArray, List.set_cons_zero, List.set_cons_succ]
                    refine takeL 21 (v := ?_) rfl (by kernel_rfl) (by kernel_rfl) (by kernel_rfl) (fun _ _ _ h => h) (by kernel_rfl) ?_ (by assumption) ?_
                    rotate_left
                    · intro w hSw; (try dsimp only at hSw); first | (go_simp; done) | (go_simp; with_reducible rfl)
                    try simp only [Act.put, List.setIfInBounds_toArray, List.set_cons_zero, List.set_cons_succ]
                    refine takeL 22 (v := ?_) rfl (by kernel_rfl) (by kernel_rfl) (by kernel_rfl) (fun _ _ _ h => h) (by kernel_rfl) ?_ (by assumption) ?_
                    rotate_left
                    · intro w hSw; (try dsimp only at hSw); first | (go_simp; done) | (go_simp; with_reducible rfl)
                    try simp only [Act.put, List.setIfInBounds_toArray, List.set_cons_zero, List.set_cons_succ]
                    refine takeL 23 (v := ?_) rfl (by kernel_rfl) (by kernel_rfl) (by kernel_rfl) (fun _ _ _ h => h) (by kernel_rfl) ?_ (by assumption) ?_
                    rotate_left
                    · intro w hSw; (try dsimp only at hSw); first | (go_simp; done) | (go_simp; with_reducible rfl)
                    try simp only [Act.put, List.setIfInBounds_toArray, List.set_cons_zero, List.set_cons_succ]
                    refine takeL 24 (v := ?_) rfl (by kernel_rfl) (by kernel_rfl) (by kernel_rfl) (fun _ _ _ h => h) (by kernel_rfl) ?_ (by assumption) ?_
                    rotate_left
                    · intro w hSw; (try dsimp only at hSw); first | (go_simp; done) | (go_simp; with_reducible rfl)
                    try simp only [Act.put, List.setIfInBounds_toArray, List.set_cons_zero, List.set_cons_succ]
                    refine takeL 25 (v := ?_) rfl (by kernel_rfl) (by kernel_rfl) (by kernel_rfl) (fun _ _ _ h => h) (by kernel_rfl) ?_ (by assumption) ?_
                    rotate_left
                    · intro w hSw; (try dsimp only at hSw); first | (go_simp; done) | (go_simp; with_reducible rfl)
                    try simp only [Act.put, List.setIfInBounds_toArray, List.set_cons_zero, List.set_cons_succ]
                    refine takeL 26 (v := ?_) rfl (by kernel_rfl) (by kernel_rfl) (by kernel_rfl) (fun _ _ _ h => h) (by kernel_rfl) ?_ (by assumption) ?_
                    rotate_left
                    · intro w hSw; (try dsimp only at hSw); first | (go_simp; done) | (go_simp; with_reducible rfl)
                    try simp only [Act.put, List.setIfInBounds_toArray, List.set_cons_zero, List.set_cons_succ]
                    refine callL 27 rfl (by kernel_rfl) (fun K hK => ?_)
                    go_simp
                    refine (hbf _ hbd).mono ?_
                    rintro e w5 ⟨rfl, b5⟩
                    have B5 : Hid (Below wr.heap.size wr w5) := hbd.trans b5
                    have HH5 := hheld _ B5.out
                    clear b5
                    go_wp2_with fail
                    refine hK.out _ _ ?_ (fun hHeld => ?_)
                    · first | exact HH5 | exact HH4
                    clear hK K
                    try simp only [Act.put, List.setIfInBounds_toArray, List.set_cons_zero, List.set_cons_succ]
                    refine takeL 28 (v := ?_) rfl (by kernel_rfl) (by kernel_rfl) (by kernel_rfl) (fun _ _ _ h => h) (by kernel_rfl) ?_ (by assumption) ?_
                    rotate_left
                    · intro w hSw; (try dsimp only at hSw); first | (go_simp; done) | (go_simp; with_reducible rfl)
                    try simp only [Act.put, List.setIfInBounds_toArray, List.set_cons_zero, List.set_cons_succ]
                    refine takeL 29 (v := ?_) rfl (by kernel_rfl) (by kernel_rfl) (by kernel_rfl) (fun _ _ _ h => h) (by kernel_rfl) ?_ (by assumption) ?_
                    rotate_left
                    · intro w hSw; (try dsimp only at hSw); first | (go_simp; done) | (go_simp; with_reducible rfl)
                    try simp only [Act.put, List.setIfInBounds_toArray, List.set_cons_zero, List.set_cons_succ]
                    refine wpAnyH_done (by kernel_rfl) ?_ _
                    refine NoPanic.normal ?_
                    go_wp2_with fail
                    go_ret
                    exact ⟨by rw [HV.out]; rfl, HB.out.trans (B5.out.mono HB.out.size)⟩
              · obtain rfl : k = s.cn := by omega
                have HV : Hid (R = true) := HG.out HQ.out
                clear HG HQ H5
                go_wp2_with fail
                go_ret
                exact ⟨by rw [HV.out]; rfl, HB.out⟩
    · have HV : Hid (R = false) := H2.out h3
      have hn3 : ¬ (s.tn : Int) = 3 := by omega
      have hn3' : ((s.tn : Int) != 3) = true := by simpa using hn3
      clear hca H2 H3 H4 H5 H6 h3
      go_wp2_with fail
      go_ret
      exact ⟨by rw [HV.out]; rfl, L1.out⟩

end Go.Proofs.YtphgjhakghblgaaGreatDoor

set_option linter.unusedVariables false
namespace Go.Proofs.YtphgjhakghblgaaGreatDoor
open Go.RowKit Go.Deep

theorem CBk.out3 {w : World} {g : Nat} {T : TypeId} {a b c : Value} (h : CBk w g T #[a, b, c]) : w.cell? ⟨g, 0, none⟩ = some a ∧ w.cell? ⟨g, 1, none⟩ = some b ∧ w.cell? ⟨g, 2, none⟩ = some c := ⟨h.cell 0, h.cell 1, h.cell 2⟩
structure LenSrv (L : LSrv) : Prop where
  b : L.bl.length = L.bn
  t : (L.tz.take L.tn).length = L.tn
  c : L.cl.length = L.cn
theorem IsSrv.lens {w : World} {L : LSrv} (h : IsSrv w L) : LenSrv L := ⟨h.b.len, (row_len h.t).1, h.c.len⟩
theorem CopySrv.at {B : Nat} {L : LSrv} {s : SrvV} {w : World} (h : CopySrv B L s w) (hs : SmallSrv L) (hl : LenSrv L) : SrvAt s w := by
  refine ⟨⟨h.b.at, h.b.its, h.b.len, by rw [h.bn]; exact hs.bn⟩, ?_, ?_, ?_, ?_, ?_, ?_⟩
  · rw [h.ts]; exact h.t.at
  · rw [h.ts, h.tl, hl.t]
  · rw [h.cs]; exact h.c.at 2 enCached_len
  · rw [h.cs, h.cn, hl.c]
  · rw [h.cn]; exact hs.cn
  · rw [h.cc]; exact Nat.le_refl _
theorem CopySrv.blksS {B : Nat} {L : LSrv} {s : SrvV} {w : World} (h : CopySrv B L s w) (hs : SmallSrv L) (hl : LenSrv L) : BlksS s.g s.n s.bc s.bs w := by
  have hb := h.b
  have := CopyB.blksS hb (by rw [h.bn]; exact hs.bn) (by rw [h.bn]; exact hl.b) (fun i hi => hs.bs i (by rw [← h.bn]; exact hi))
  exact ⟨⟨this.b.at_, this.b.items, this.b.len, this.b.max⟩, this.wf, this.few, this.small⟩
def lsrvR (L : LSrv) : Bool := srvOk (ptsL L.bl) (L.tz.take L.tn) L.cl
theorem CopySrv.val {B : Nat} {L : LSrv} {s : SrvV} {w : World} (h : CopySrv B L s w) : srvR s = lsrvR L := by
  rw [srvR, lsrvR, show ptsOf s.bs = ptsL L.bl from h.b.pts, h.ts, h.cs]

set_option maxHeartbeats 1000000 in
set_option maxRecDepth 100000 in
theorem specServerOk (s : SrvV) (w : World) (h : SrvAt s w) (hB : BlksS s.g s.n s.bc s.bs w) :
    Calls Tryz.prog 6 #[srvVal s] w fun e w' => e = .returned (.bool (srvR s)) ∧ Below w.heap.size w w' := by
  have hk := fun (w' : World) (hb : Below w.heap.size w w') => specL7Ok s w' (h.below hb) (hB.below hb)
  generalize srvR s = R at hk ⊢
  clear h hB
  unfold srvVal at hk ⊢
  have L0 : Hid (Below w.heap.size w (w.alloc (.cells #[.slice (some ⟨s.g, 0, none⟩) s.n s.bc, .slice (some ⟨s.tg, 0, none⟩) s.tn s.tc, .slice (some ⟨s.cg, 0, none⟩) s.cn s.cc] 32))) := (Below.refl _ w).alloc (Nat.le_refl _) _
  go_enter Tryz.func6, Tryz.ntmps6
  go_wp2_with fail
  refine (hk _ L0.out).mono ?_
  rintro e w1 ⟨rfl, b1⟩
  go_wp2_with fail
  go_ret
  exact ⟨rfl, L0.out.trans (b1.mono L0.out.size)⟩

set_option maxHeartbeats 2000000 in
set_option maxRecDepth 100000 in
theorem eqServer1 (L : LSrv) (s t : SrvV) (B C : Nat) (w : World) (hs : SmallSrv L) (hl : LenSrv L) (h1 : CopySrv B L s w) (h2 : CopySrv C L t w) :
    Calls Tryz.prog 9 #[srvVal s, srvVal t] w fun e w' => e = .returned (.bool true) ∧ Below w.heap.size w w' := by
  have e1 : t.n = s.n := by rw [h1.bn, h2.bn]
  have e2 : t.tn = s.tn := by rw [h1.tl, h2.tl]
  have e3 : t.cn = s.cn := by rw [h1.cn, h2.cn]
  have hq1 := fun (w' : World) (hb : Below w.heap.size w w') => eqBlks s.g t.g s.n s.bc t.bc s.bs t.bs w' (h1.below hb).b.at (h2.below hb).b.at (h1.below hb).b.its (h2.below hb).b.its (h1.b.pts.trans h2.b.pts.symm) h1.b.len (by rw [h1.bn]; exact hs.bn) (fun c hc => by have := CopyB.few h1.b (by rw [h1.bn]; exact hl.b) (fun i hi => hs.bs i (by rw [← h1.bn]; exact hi)) c hc; omega)
  have hq2 := fun (w' : World) (hb : Below w.heap.size w w') => eqInts s.tg t.tg s.tn s.tc t.tc (L.tz.take L.tn) w' (h1.below hb).t.at (h2.below hb).t.at (by rw [h1.tl, hl.t]) (by rw [h1.tl]; have := hs.tn; omega)
  have hq3 := fun (w' : World) (hb : Below w.heap.size w w') => eqCacheds s.cg t.cg s.cn s.cc t.cc L.cl w' ((h1.below hb).c.at 2 enCached_len) ((h2.below hb).c.at 2 enCached_len) (by rw [h1.cn, hl.c]) (by rw [h1.cn]; have := hs.cn; omega)
  unfold srvVal
  rw [e1, e2, e3]
  clear h1 h2 hs hl e1 e2 e3
  have C0 : Hid (CBk ((w.alloc (.cells #[.slice (some ⟨s.g, 0, none⟩) s.n s.bc, .slice (some ⟨s.tg, 0, none⟩) s.tn s.tc, .slice (some ⟨s.cg, 0, none⟩) s.cn s.cc] 32)).alloc (.cells #[.slice (some ⟨t.g, 0, none⟩) s.n t.bc, .slice (some ⟨t.tg, 0, none⟩) s.tn t.tc, .slice (some ⟨t.cg, 0, none⟩) s.cn t.cc] 32)) w.heap.size 32 #[.slice (some ⟨s.g, 0, none⟩) s.n s.bc, .slice (some ⟨s.tg, 0, none⟩) s.tn s.tc, .slice (some ⟨s.cg, 0, none⟩) s.cn s.cc]) := (CBk.new w _ _).alloc _
  have D0 : Hid (CBk ((w.alloc (.cells #[.slice (some ⟨s.g, 0, none⟩) s.n s.bc, .slice (some ⟨s.tg, 0, none⟩) s.tn s.tc, .slice (some ⟨s.cg, 0, none⟩) s.cn s.cc] 32)).alloc (.cells #[.slice (some ⟨t.g, 0, none⟩) s.n t.bc, .slice (some ⟨t.tg, 0, none⟩) s.tn t.tc, .slice (some ⟨t.cg, 0, none⟩) s.cn t.cc] 32)) (w.heap.size + 1) 32 #[.slice (some ⟨t.g, 0, none⟩) s.n t.bc, .slice (some ⟨t.tg, 0, none⟩) s.tn t.tc, .slice (some ⟨t.cg, 0, none⟩) s.cn t.cc]) := by
    have := CBk.new (w.alloc (.cells #[.slice (some ⟨s.g, 0, none⟩) s.n s.bc, .slice (some ⟨s.tg, 0, none⟩) s.tn s.tc, .slice (some ⟨s.cg, 0, none⟩) s.cn s.cc] 32)) 32 #[.slice (some ⟨t.g, 0, none⟩) s.n t.bc, .slice (some ⟨t.tg, 0, none⟩) s.tn t.tc, .slice (some ⟨t.cg, 0, none⟩) s.cn t.cc]
    rwa [show (w.alloc (.cells #[.slice (some ⟨s.g, 0, none⟩) s.n s.bc, .slice (some ⟨s.tg, 0, none⟩) s.tn s.tc, .slice (some ⟨s.cg, 0, none⟩) s.cn s.cc] 32)).heap.size = w.heap.size + 1 from by simp] at this
  have L0 : Hid (Below w.heap.size w ((w.alloc (.cells #[.slice (some ⟨s.g, 0, none⟩) s.n s.bc, .slice (some ⟨s.tg, 0, none⟩) s.tn s.tc, .slice (some ⟨s.cg, 0, none⟩) s.cn s.cc] 32)).alloc (.cells #[.slice (some ⟨t.g, 0, none⟩) s.n t.bc, .slice (some ⟨t.tg, 0, none⟩) s.tn t.tc, .slice (some ⟨t.cg, 0, none⟩) s.cn t.cc] 32))) := ((Below.refl _ w).alloc (Nat.le_refl _) _).alloc (by simp) _
  go_enter Tryz.func9, Tryz.ntmps9
  go_wp2_with fail
  refine (hq1 _ L0.out).mono ?_
  rintro e w1 ⟨rfl, b1⟩
  have C1 : Hid (CBk w1 w.heap.size 32 #[.slice (some ⟨s.g, 0, none⟩) s.n s.bc, .slice (some ⟨s.tg, 0, none⟩) s.tn s.tc, .slice (some ⟨s.cg, 0, none⟩) s.cn s.cc]) := C0.out.call b1
  have D1 : Hid (CBk w1 (w.heap.size + 1) 32 #[.slice (some ⟨t.g, 0, none⟩) s.n t.bc, .slice (some ⟨t.tg, 0, none⟩) s.tn t.tc, .slice (some ⟨t.cg, 0, none⟩) s.cn t.cc]) := D0.out.call b1
  have L1 : Hid (Below w.heap.size w w1) := L0.out.trans (b1.mono L0.out.size)
  obtain ⟨c0, c1, c2, _⟩ := C1.out.three
  obtain ⟨d0, d1, d2, _⟩ := D1.out.three
  clear C0 D0 L0 b1 hq1
  go_wp2_with fail
  refine (hq2 _ L1.out).mono ?_
  rintro e w2 ⟨rfl, b2⟩
  have L2 : Hid (Below w.heap.size w w2) := L1.out.trans (b2.mono L1.out.size)
  have C2 : Hid (CBk w2 w.heap.size 32 #[.slice (some ⟨s.g, 0, none⟩) s.n s.bc, .slice (some ⟨s.tg, 0, none⟩) s.tn s.tc, .slice (some ⟨s.cg, 0, none⟩) s.cn s.cc]) := C1.out.call b2
  have D2 : Hid (CBk w2 (w.heap.size + 1) 32 #[.slice (some ⟨t.g, 0, none⟩) s.n t.bc, .slice (some ⟨t.tg, 0, none⟩) s.tn t.tc, .slice (some ⟨t.cg, 0, none⟩) s.cn t.cc]) := D1.out.call b2
  clear c0 c1 c2 d0 d1 d2 C1 D1 L1 b2 hq2
  obtain ⟨c0, c1, c2, _⟩ := C2.out.three
  obtain ⟨d0, d1, d2, _⟩ := D2.out.three
  go_wp2_with fail
  refine (hq3 _ L2.out).mono ?_
  rintro e w3 ⟨rfl, b3⟩
  go_wp2_with fail
  go_ret
  exact ⟨rfl, L2.out.trans (b3.mono L2.out.size)⟩

set_option maxHeartbeats 4000000 in
set_option maxRecDepth 100000 in
theorem walk_FnExactServerOk (L : LSrv) (w : World) (h0 : IsSrv w L) (hK : RowG w shaK) (hP : TabP w) (hE : ErrT w) :
    Calls Tryz.prog 3 #[lsrvVal L] w fun e w' => e = .returned (.bool true) ∧ Below w.heap.size w w' := by
  have HK : Hid (RowG w shaK) := hK
  have HP : Hid (TabP w) := hP
  have HE : Hid (ErrT w) := hE
  have HLN : Hid (LenSrv L) := h0.lens
  have HSZ : Hid (∀ w1, Below w.heap.size w w1 → Calls Tryz.prog 5 #[lsrvVal L, .int .i64 1048576] w1 fun e w' => Below w1.heap.size w1 w' ∧ (e = .returned (.int .i64 (-1)) ∨ ∃ r : Nat, e = .returned (.int .i64 (r : Int)) ∧ r ≤ 1048576 ∧ SmallSrv L)) := fun w1 hb => szServer1 L w1 (h0.below hb)
  have HTO : Hid (SmallSrv L → ∀ w1, Below w.heap.size w w1 → Calls Tryz.prog 7 #[lsrvVal L] w1 fun e w' => ∃ s, e = .returned (srvVal s) ∧ CopySrv w1.heap.size L s w' ∧ Below w1.heap.size w1 w') := fun hs w1 hb => toServer1 L w1 w h0 hb hs
  have HSP : Hid (SmallSrv L → ∀ (s : SrvV) (B : Nat) w1, CopySrv B L s w1 → Calls Tryz.prog 6 #[srvVal s] w1 fun e w' => e = .returned (.bool (lsrvR L)) ∧ Below w1.heap.size w1 w') := fun hs s B w1 hc => by
    have := specServerOk s w1 (hc.at hs HLN.out) (hc.blksS hs HLN.out)
    rw [hc.val] at this
    exact this
  have HIM : Hid (SmallSrv L → ∀ (s : SrvV) (B : Nat) w1, CopySrv B L s w1 → Below w.heap.size w w1 → Calls Tryz.prog 8 #[srvVal s] w1 fun e w' => e = .returned (.bool (lsrvR L)) ∧ Below w1.heap.size w1 w') := fun hs s B w1 hc hb => by
    have := implServerOk s w1 (hc.at hs HLN.out) (HK.out.below hb HK.out.lt) (TabP.below HP.out hb (Nat.le_refl _)) (HE.out.below hb HE.out.lt)
    rw [hc.val] at this
    exact this
  have HEQ : Hid (SmallSrv L → ∀ (s t : SrvV) (B C : Nat) w1, CopySrv B L s w1 → CopySrv C L t w1 → Calls Tryz.prog 9 #[srvVal s, srvVal t] w1 fun e w' => e = .returned (.bool true) ∧ Below w1.heap.size w1 w') := fun hs s t B C w1 h1 h2 => eqServer1 L s t B C w1 hs HLN.out h1 h2
  clear h0 hK hP hE HLN
  generalize (lsrvR L) = R at HSP HIM
  unfold lsrvVal at HSZ HTO ⊢
  unfold srvVal at HTO HSP HIM HEQ
  have C0 : Hid (CBk (w.alloc (.cells #[.slice L.ba L.bn L.bc, .slice L.ta L.tn L.tc, .slice L.ca L.cn L.cc] 26)) w.heap.size 26 #[.slice L.ba L.bn L.bc, .slice L.ta L.tn L.tc, .slice L.ca L.cn L.cc]) := CBk.new w _ _
  have L0 : Hid (Below w.heap.size w (w.alloc (.cells #[.slice L.ba L.bn L.bc, .slice L.ta L.tn L.tc, .slice L.ca L.cn L.cc] 26))) := (Below.refl _ w).alloc (Nat.le_refl _) _
  go_enter Tryz.func3, Tryz.ntmps3
  go_wp2_with fail
  refine (HSZ.out _ L0.out).mono ?_
  rintro e w1 ⟨b1, rfl | ⟨r, rfl, hr, hsm⟩⟩
  · have L1 : Hid (Below w.heap.size w w1) := L0.out.trans (b1.mono L0.out.size)
    clear HTO HSP HIM HEQ
    go_wp2_with fail
    go_ret
    exact ⟨rfl, L1.out⟩
  have HTO : Hid _ := HTO.out hsm
  have HSP : Hid _ := HSP.out hsm
  have HIM : Hid _ := HIM.out hsm
  have HEQ : Hid _ := HEQ.out hsm
  have L1 : Hid (Below w.heap.size w w1) := L0.out.trans (b1.mono L0.out.size)
  have C1 : Hid (CBk w1 w.heap.size 26 #[.slice L.ba L.bn L.bc, .slice L.ta L.tn L.tc, .slice L.ca L.cn L.cc]) := C0.out.call b1
  clear C0 L0 b1 HSZ hsm
  have hr0 : ¬ (r : Int) < 0 := by omega
  obtain ⟨c0, c1, c2, _⟩ := C1.out.three
  go_wp2_with fail
  refine (HTO.out _ L1.out).mono ?_
  rintro e w2 ⟨s2, rfl, c2', b2⟩
  have L2 : Hid (Below w.heap.size w w2) := L1.out.trans (b2.mono L1.out.size)
  have C2 : Hid (CBk w2 w.heap.size 26 #[.slice L.ba L.bn L.bc, .slice L.ta L.tn L.tc, .slice L.ca L.cn L.cc]) := C1.out.call b2
  have hsp := HSP.out s2 _ w2 c2'
  clear c0 c1 c2 C1 b2 c2' L1 hr0
  go_wp2_with fail
  refine hsp.mono ?_
  rintro e w3 ⟨rfl, b3⟩
  have L3 : Hid (Below w.heap.size w w3) := L2.out.trans (b3.mono L2.out.size)
  have C3 : Hid (CBk w3 w.heap.size 26 #[.slice L.ba L.bn L.bc, .slice L.ta L.tn L.tc, .slice L.ca L.cn L.cc]) := C2.out.call b3
  obtain ⟨c0, c1, c2, _⟩ := C3.out.three
  clear hsp b3 C2 L2
  go_wp2_with fail
  refine (HTO.out _ L3.out).mono ?_
  rintro e w4 ⟨s4, rfl, r4, b4⟩
  have L4 : Hid (Below w.heap.size w w4) := L3.out.trans (b4.mono L3.out.size)
  have C4 : Hid (CBk w4 w.heap.size 26 #[.slice L.ba L.bn L.bc, .slice L.ta L.tn L.tc, .slice L.ca L.cn L.cc]) := C3.out.call b4
  have R4 : Hid (CopySrv w3.heap.size L s4 w4) := r4
  clear c0 c1 c2 C3 b4 r4 L3
  have X4 : Hid (CBk (w4.alloc (.cells #[.slice (some ⟨s4.g, 0, none⟩) s4.n s4.bc, .slice (some ⟨s4.tg, 0, none⟩) s4.tn s4.tc, .slice (some ⟨s4.cg, 0, none⟩) s4.cn s4.cc] 32)) w4.heap.size 32 #[.slice (some ⟨s4.g, 0, none⟩) s4.n s4.bc, .slice (some ⟨s4.tg, 0, none⟩) s4.tn s4.tc, .slice (some ⟨s4.cg, 0, none⟩) s4.cn s4.cc]) := CBk.new w4 _ _
  have L5 : Hid (Below w.heap.size w (w4.alloc (.cells #[.slice (some ⟨s4.g, 0, none⟩) s4.n s4.bc, .slice (some ⟨s4.tg, 0, none⟩) s4.tn s4.tc, .slice (some ⟨s4.cg, 0, none⟩) s4.cn s4.cc] 32))) := L4.out.alloc L4.out.size _
  have C5 : Hid (CBk (w4.alloc (.cells #[.slice (some ⟨s4.g, 0, none⟩) s4.n s4.bc, .slice (some ⟨s4.tg, 0, none⟩) s4.tn s4.tc, .slice (some ⟨s4.cg, 0, none⟩) s4.cn s4.cc] 32)) w.heap.size 26 #[.slice L.ba L.bn L.bc, .slice L.ta L.tn L.tc, .slice L.ca L.cn L.cc]) := C4.out.alloc _
  have R5 : Hid (CopySrv w3.heap.size L s4 (w4.alloc (.cells #[.slice (some ⟨s4.g, 0, none⟩) s4.n s4.bc, .slice (some ⟨s4.tg, 0, none⟩) s4.tn s4.tc, .slice (some ⟨s4.cg, 0, none⟩) s4.cn s4.cc] 32))) := R4.out.below ((Below.refl _ w4).alloc (Nat.le_refl _) _)
  have him := HIM.out s4 _ _ R5.out L5.out
  clear HIM HSP C4 L4 R4
  go_wp2_with fail
  refine him.mono ?_
  rintro e w6 ⟨rfl, b6⟩
  have X6 : Hid (CBk w6 w4.heap.size 32 #[.slice (some ⟨s4.g, 0, none⟩) s4.n s4.bc, .slice (some ⟨s4.tg, 0, none⟩) s4.tn s4.tc, .slice (some ⟨s4.cg, 0, none⟩) s4.cn s4.cc]) := X4.out.call b6
  have L6 : Hid (Below w.heap.size w w6) := L5.out.trans (b6.mono L5.out.size)
  have C6 : Hid (CBk w6 w.heap.size 26 #[.slice L.ba L.bn L.bc, .slice L.ta L.tn L.tc, .slice L.ca L.cn L.cc]) := C5.out.call b6
  have R6 : Hid (CopySrv w3.heap.size L s4 w6) := R5.out.below b6
  clear X4 L5 C5 R5 b6 him
  obtain ⟨c0, c1, c2, _⟩ := C6.out.three
  obtain ⟨d0, d1, d2, _⟩ := X6.out.three
  cases R <;>
  · go_wp2_with fail
    go_region_held3 (fun w' => (w'.cell? ⟨w4.heap.size, 0, none⟩ = some (.slice (some ⟨s4.g, 0, none⟩) s4.n s4.bc) ∧ w'.cell? ⟨w4.heap.size, 1, none⟩ = some (.slice (some ⟨s4.tg, 0, none⟩) s4.tn s4.tc) ∧ w'.cell? ⟨w4.heap.size, 2, none⟩ = some (.slice (some ⟨s4.cg, 0, none⟩) s4.cn s4.cc)) ∧ (w'.cell? ⟨w.heap.size, 0, none⟩ = some (.slice L.ba L.bn L.bc) ∧ w'.cell? ⟨w.heap.size, 1, none⟩ = some (.slice L.ta L.tn L.tc) ∧ w'.cell? ⟨w.heap.size, 2, none⟩ = some (.slice L.ca L.cn L.cc)))
      (first | exact ⟨X6.out.drew.out3, C6.out.drew.out3⟩ | exact ⟨X7.out.out3, C7.out.out3⟩ | exact ⟨X8.out.out3, C8.out.out3⟩)
      (first
        | (go_at_call 7; refine (HTO.out _ L6.out.drew).mono ?_; rintro e w7 ⟨s7, rfl, r7, b7⟩; have L7 : Hid (Below w.heap.size w w7) := L6.out.drew.trans (b7.mono L6.out.size); have X7 : Hid (CBk w7 w4.heap.size 32 #[.slice (some ⟨s4.g, 0, none⟩) s4.n s4.bc, .slice (some ⟨s4.tg, 0, none⟩) s4.tn s4.tc, .slice (some ⟨s4.cg, 0, none⟩) s4.cn s4.cc]) := X6.out.drew.call b7; have C7 : Hid (CBk w7 w.heap.size 26 #[.slice L.ba L.bn L.bc, .slice L.ta L.tn L.tc, .slice L.ca L.cn L.cc]) := C6.out.drew.call b7; have R7 : Hid (CopySrv w3.heap.size L s4 w7) := (R6.out.below (Below.refl _ _).drew).below b7; have Q7 : Hid (CopySrv w6.drew.heap.size L s7 w7) := r7)
        | (go_at_call 9; refine (HEQ.out s4 s7 _ _ _ R7.out Q7.out).mono ?_; rintro e w8 ⟨rfl, b8⟩; have L8 : Hid (Below w.heap.size w w8) := L7.out.trans (b8.mono L7.out.size); have X8 : Hid (CBk w8 w4.heap.size 32 #[.slice (some ⟨s4.g, 0, none⟩) s4.n s4.bc, .slice (some ⟨s4.tg, 0, none⟩) s4.tn s4.tc, .slice (some ⟨s4.cg, 0, none⟩) s4.cn s4.cc]) := X7.out.call b8; have C8 : Hid (CBk w8 w.heap.size 26 #[.slice L.ba L.bn L.bc, .slice L.ta L.tn L.tc, .slice L.ca L.cn L.cc]) := C7.out.call b8))
    go_wp2_with fail
    go_ret
    exact ⟨rfl, L8.out⟩

end Go.Proofs.YtphgjhakghblgaaGreatDoor

set_option linter.unusedVariables false
namespace Go.Proofs.YtphgjhakghblgaaGreatDoor
open Go.ChangeShapes Go.WideShapes Go.ChangeAt Go.RowKit Go.Deep Go.Joins

def lpeerVal (L : LSrv) (x y : Int) : Value := .agg #[.slice L.ba L.bn L.bc, .slice L.ta L.tn L.tc, .slice L.ca L.cn L.cc, .int .i64 x, .int .i64 y]
def peerVal (s : SrvV) (x y : Int) : Value := .agg #[.slice (some ⟨s.g, 0, none⟩) s.n s.bc, .slice (some ⟨s.tg, 0, none⟩) s.tn s.tc, .slice (some ⟨s.cg, 0, none⟩) s.cn s.cc, .int .i64 x, .int .i64 y]
theorem CBk.five {w : World} {g : Nat} {T : TypeId} {a b c d e : Value} (h : CBk w g T #[a, b, c, d, e]) : w.cell? ⟨g, 0, none⟩ = some a ∧ w.cell? ⟨g, 1, none⟩ = some b ∧ w.cell? ⟨g, 2, none⟩ = some c ∧ w.cell? ⟨g, 3, none⟩ = some d ∧ w.cell? ⟨g, 4, none⟩ = some e ∧ w.frozen? ⟨g, 0, none⟩ = false ∧ w.frozen? ⟨g, 1, none⟩ = false ∧ w.frozen? ⟨g, 2, none⟩ = false ∧ w.frozen? ⟨g, 3, none⟩ = false ∧ w.frozen? ⟨g, 4, none⟩ = false :=
  ⟨h.cell 0, h.cell 1, h.cell 2, h.cell 3, h.cell 4, h.frozen 0, h.frozen 1, h.frozen 2, h.frozen 3, h.frozen 4⟩
theorem CBk.out5 {w : World} {g : Nat} {T : TypeId} {a b c d e : Value} (h : CBk w g T #[a, b, c, d, e]) : w.cell? ⟨g, 0, none⟩ = some a ∧ w.cell? ⟨g, 1, none⟩ = some b ∧ w.cell? ⟨g, 2, none⟩ = some c ∧ w.cell? ⟨g, 3, none⟩ = some d ∧ w.cell? ⟨g, 4, none⟩ = some e := ⟨h.cell 0, h.cell 1, h.cell 2, h.cell 3, h.cell 4⟩
theorem cellsLPeer : Tryz.prog.cellsOf 37 = 5 := by kernel_rfl
theorem cellsInt1 : Tryz.prog.cellsOf 3 = 1 := by kernel_rfl
theorem five_of_server {cs : Array Value} {a b c d e : Value} (hl : cs.toList.length = 5) (h0 : (cs.toList.drop 0).take 3 = [a, b, c]) (h1 : (cs.toList.drop 3).take 1 = [d]) (h2 : (cs.toList.drop 4).take 1 = [e]) : cs = #[a, b, c, d, e] := by
  refine Array.ext' ?_
  match hx : cs.toList, hl with
  | [x0, x1, x2, x3, x4], _ =>
    rw [hx] at h0 h1 h2
    simp at h0 h1 h2
    obtain ⟨rfl, rfl, rfl⟩ := h0
    subst h1 h2
    rfl
set_option maxRecDepth 100000 in
theorem open_peer {H : Type} {enc : TypeId × Value → H} {W : World} {base b0 : Nat} {held : Bool} {v : Value} {d : DataW H} {p : List MemPlace} (hv : Value.okWide Tryz.prog W .any b0 37 v) (h : DataW.Trod enc Tryz.prog W base (fun _ => true) held 37 v d p) :
    ∃ (L : LSrv) (x y : Int), v = lpeerVal L x y ∧ IsSrv W L := by
  obtain ⟨cs, rfl, hcs⟩ := okWide_struct Tryz.underlying37 hv
  obtain ⟨fuel, hf⟩ := h
  obtain ⟨xs, n, _, _, hl, hlen, hx⟩ := DataW.trod_struct Tryz.underlying37 hf
  match xs, hlen with
  | [y0, y1, y2], _ =>
    have g0 := hx 0 _ rfl
    have g1 := hx 1 _ rfl
    have g2 := hx 2 _ rfl
    replace hl : cs.toList.length = Tryz.prog.cellsOf 37 := hl
    rw [cellsLPeer] at hl
    replace g0 : DataW.trod enc Tryz.prog W base (fun _ => true) held n 26 ((cs.toList.drop 0).take (Tryz.prog.cellsOf 26)) = some y0 := g0
    rw [cellsLServer] at g0
    obtain ⟨s1, e1, _, z1⟩ := DataW.trod_int Tryz.underlying3 g1
    replace e1 : (cs.toList.drop 3).take (Tryz.prog.cellsOf 3) = [_] := e1
    rw [cellsInt1] at e1
    obtain ⟨s2, e2, _, z2⟩ := DataW.trod_int Tryz.underlying3 g2
    replace e2 : (cs.toList.drop 4).take (Tryz.prog.cellsOf 3) = [_] := e2
    rw [cellsInt1] at e2
    have hl3 : ((cs.toList.drop 0).take 3).length = 3 := by rw [List.length_take, List.length_drop, hl]; decide
    generalize hq : (cs.toList.drop 0).take 3 = q at g0 hl3
    match q, hl3 with
    | [v0, v1, v2], _ =>
      obtain ⟨w0, w1, w2, n2, hw, _, k0, k1, k2⟩ := trod_struct3 Tryz.underlying26 g0
      obtain ⟨L, rfl, rfl, rfl, hs⟩ := srv_parts k0 k1 k2
      refine ⟨L, s1, s2, ?_, hs⟩
      rw [lpeerVal]
      congr 1
      exact five_of_server hl hq e1 e2

set_option maxHeartbeats 1000000 in
set_option maxRecDepth 100000 in
theorem szPeer1 (L : LSrv) (x y : Int) (w : World) (h : IsSrv w L) :
    Calls Tryz.prog 10 #[lpeerVal L x y, .int .i64 1048576] w fun e w' => Below w.heap.size w w' ∧ (e = .returned (.int .i64 (-1)) ∨ ∃ r : Nat, e = .returned (.int .i64 (r : Int)) ∧ r ≤ 1048576 ∧ SmallSrv L) := by
  have L0 : Hid (Below w.heap.size w (w.alloc (.cells #[.slice L.ba L.bn L.bc, .slice L.ta L.tn L.tc, .slice L.ca L.cn L.cc, .int .i64 x, .int .i64 y] 37))) := (Below.refl _ w).alloc (Nat.le_refl _) _
  have hsz := szServer1 L _ (h.below L0.out)
  clear h
  unfold lsrvVal at hsz
  unfold lpeerVal
  go_enter Tryz.func10, Tryz.ntmps10
  go_wp2_with fail
  refine hsz.mono ?_
  rintro e w1 ⟨b1, rfl | ⟨r, rfl, hr, hs⟩⟩
  · go_wp2_with fail
    go_ret
    exact ⟨L0.out.trans (b1.mono L0.out.size), .inl rfl⟩
  have hr0 : ¬ (r : Int) < 0 := by omega
  have HS : Hid (SmallSrv L) := hs
  have HR : Hid (r ≤ 1048576) := hr
  clear hs hr hsz
  go_wp2_with fail
  go_ret
  exact ⟨L0.out.trans (b1.mono L0.out.size), .inr ⟨r, rfl, HR.out, HS.out⟩⟩

theorem copySrv_other {B : Nat} {L : LSrv} {s : SrvV} {w : World} (h : CopySrv B L s w) {g' : Nat} (hg : g' < B) (j : Nat) (v : Value) : CopySrv B L s (w.setCell ⟨g', j, none⟩ v) := by
  have hlo := h.b.lo
  have h1 := h.up1
  have h2 := h.up2
  have cb := h.b.other (g' := g') (by omega) j v
  exact ⟨cb, h.bn, h.bc, rowI_other h.t (by omega) j v, h.tl, h.tc, h.ts, rowF_other h.c (by omega) j v, h.cn, h.cc, h.cs, h.up1, h.up2⟩
theorem copySrv_lo {B C : Nat} {L : LSrv} {s : SrvV} {w : World} (h : CopySrv B L s w) (hc : C ≤ B) : CopySrv C L s w :=
  ⟨⟨h.b.row, h.b.len, h.b.pts, h.b.items, Nat.le_trans hc h.b.lo⟩, h.bn, h.bc, h.t, h.tl, h.tc, h.ts, h.c, h.cn, h.cc, h.cs, h.up1, h.up2⟩

set_option maxHeartbeats 2000000 in
set_option maxRecDepth 100000 in
theorem toPeer1 (L : LSrv) (x y : Int) (w w0 : World) (h0 : IsSrv w0 L) (hw : Below w0.heap.size w0 w) (hs : SmallSrv L) :
    Calls Tryz.prog 12 #[lpeerVal L x y] w fun e w' => ∃ s, e = .returned (peerVal s x y) ∧ CopySrv w.heap.size L s w' ∧ Below w.heap.size w w' := by
  have HB : Hid (∀ w', Below w.heap.size w w' → Calls Tryz.prog 7 #[lsrvVal L] w' fun e w'' => ∃ s, e = .returned (srvVal s) ∧ CopySrv w'.heap.size L s w'' ∧ Below w'.heap.size w' w'') := fun w' hb => toServer1 L w' w0 h0 (hw.trans (hb.mono hw.size)) hs
  have HQ : Hid (∀ (e : Ending) (w' : World) (s : SrvV), e = .returned (peerVal s x y) → CopySrv w.heap.size L s w' → Below w.heap.size w w' → ∃ s, e = .returned (peerVal s x y) ∧ CopySrv w.heap.size L s w' ∧ Below w.heap.size w w') := fun e w' s h1 h2 h3 => ⟨s, h1, h2, h3⟩
  clear h0 hw hs
  unfold lpeerVal
  unfold lsrvVal srvVal at HB
  have A0 : Hid (CBk (((w.alloc (.cells #[.slice L.ba L.bn L.bc, .slice L.ta L.tn L.tc, .slice L.ca L.cn L.cc, .int .i64 x, .int .i64 y] 37)).alloc (.cells #[.slice none 0 0, .slice none 0 0, .slice none 0 0, .int .i64 0, .int .i64 0] 41)).alloc (.cells #[.slice none 0 0, .slice none 0 0, .slice none 0 0, .int .i64 0, .int .i64 0] 41)) w.heap.size 37 #[.slice L.ba L.bn L.bc, .slice L.ta L.tn L.tc, .slice L.ca L.cn L.cc, .int .i64 x, .int .i64 y]) := ((CBk.new w _ _).alloc _).alloc _
  have A1 : Hid (CBk (((w.alloc (.cells #[.slice L.ba L.bn L.bc, .slice L.ta L.tn L.tc, .slice L.ca L.cn L.cc, .int .i64 x, .int .i64 y] 37)).alloc (.cells #[.slice none 0 0, .slice none 0 0, .slice none 0 0, .int .i64 0, .int .i64 0] 41)).alloc (.cells #[.slice none 0 0, .slice none 0 0, .slice none 0 0, .int .i64 0, .int .i64 0] 41)) (w.heap.size + 1) 41 #[.slice none 0 0, .slice none 0 0, .slice none 0 0, .int .i64 0, .int .i64 0]) := by
    have := (CBk.new (w.alloc (.cells #[.slice L.ba L.bn L.bc, .slice L.ta L.tn L.tc, .slice L.ca L.cn L.cc, .int .i64 x, .int .i64 y] 37)) 41 #[.slice none 0 0, .slice none 0 0, .slice none 0 0, .int .i64 0, .int .i64 0]).alloc (.cells #[.slice none 0 0, .slice none 0 0, .slice none 0 0, .int .i64 0, .int .i64 0] 41)
    rwa [show (w.alloc (.cells #[.slice L.ba L.bn L.bc, .slice L.ta L.tn L.tc, .slice L.ca L.cn L.cc, .int .i64 x, .int .i64 y] 37)).heap.size = w.heap.size + 1 from by simp] at this
  have A2 : Hid (CBk (((w.alloc (.cells #[.slice L.ba L.bn L.bc, .slice L.ta L.tn L.tc, .slice L.ca L.cn L.cc, .int .i64 x, .int .i64 y] 37)).alloc (.cells #[.slice none 0 0, .slice none 0 0, .slice none 0 0, .int .i64 0, .int .i64 0] 41)).alloc (.cells #[.slice none 0 0, .slice none 0 0, .slice none 0 0, .int .i64 0, .int .i64 0] 41)) (w.heap.size + 1 + 1) 41 #[.slice none 0 0, .slice none 0 0, .slice none 0 0, .int .i64 0, .int .i64 0]) := by
    have := CBk.new ((w.alloc (.cells #[.slice L.ba L.bn L.bc, .slice L.ta L.tn L.tc, .slice L.ca L.cn L.cc, .int .i64 x, .int .i64 y] 37)).alloc (.cells #[.slice none 0 0, .slice none 0 0, .slice none 0 0, .int .i64 0, .int .i64 0] 41)) 41 #[.slice none 0 0, .slice none 0 0, .slice none 0 0, .int .i64 0, .int .i64 0]
    rwa [show ((w.alloc (.cells #[.slice L.ba L.bn L.bc, .slice L.ta L.tn L.tc, .slice L.ca L.cn L.cc, .int .i64 x, .int .i64 y] 37)).alloc (.cells #[.slice none 0 0, .slice none 0 0, .slice none 0 0, .int .i64 0, .int .i64 0] 41)).heap.size = w.heap.size + 1 + 1 from by simp] at this
  have L0 : Hid (Below w.heap.size w (((w.alloc (.cells #[.slice L.ba L.bn L.bc, .slice L.ta L.tn L.tc, .slice L.ca L.cn L.cc, .int .i64 x, .int .i64 y] 37)).alloc (.cells #[.slice none 0 0, .slice none 0 0, .slice none 0 0, .int .i64 0, .int .i64 0] 41)).alloc (.cells #[.slice none 0 0, .slice none 0 0, .slice none 0 0, .int .i64 0, .int .i64 0] 41))) := (((Below.refl _ w).alloc (Nat.le_refl _) _).alloc (by simp) _).alloc (by simp; omega) _
  have HL3 : Hid (w.heap.size + 3 ≤ (((w.alloc (.cells #[.slice L.ba L.bn L.bc, .slice L.ta L.tn L.tc, .slice L.ca L.cn L.cc, .int .i64 x, .int .i64 y] 37)).alloc (.cells #[.slice none 0 0, .slice none 0 0, .slice none 0 0, .int .i64 0, .int .i64 0] 41)).alloc (.cells #[.slice none 0 0, .slice none 0 0, .slice none 0 0, .int .i64 0, .int .i64 0] 41)).heap.size) := by show _ ≤ _; simp
  go_enter Tryz.func12, Tryz.ntmps12
  go_wp2_with fail
  generalize (((w.alloc (.cells #[.slice L.ba L.bn L.bc, .slice L.ta L.tn L.tc, .slice L.ca L.cn L.cc, .int .i64 x, .int .i64 y] 37)).alloc (.cells #[.slice none 0 0, .slice none 0 0, .slice none 0 0, .int .i64 0, .int .i64 0] 41)).alloc (.cells #[.slice none 0 0, .slice none 0 0, .slice none 0 0, .int .i64 0, .int .i64 0] 41)) = W0 at A0 A1 A2 L0 HL3 ⊢
  refine (HB.out _ L0.out).mono ?_
  rintro e w1 ⟨s, rfl, C1, b1⟩
  obtain ⟨g0, hg0⟩ : ∃ g0, g0 = w.heap.size := ⟨_, rfl⟩
  have A01 : Hid (CBk w1 g0 37 #[.slice L.ba L.bn L.bc, .slice L.ta L.tn L.tc, .slice L.ca L.cn L.cc, .int .i64 x, .int .i64 y]) := by rw [hg0]; exact A0.out.call b1
  have A11 : Hid (CBk w1 (g0 + 1) 41 #[.slice none 0 0, .slice none 0 0, .slice none 0 0, .int .i64 0, .int .i64 0]) := by rw [hg0]; exact A1.out.call b1
  have A21 : Hid (CBk w1 (g0 + 1 + 1) 41 #[.slice none 0 0, .slice none 0 0, .slice none 0 0, .int .i64 0, .int .i64 0]) := by rw [hg0]; exact A2.out.call b1
  have L1 : Hid (Below w.heap.size w w1) := L0.out.trans (b1.mono L0.out.size)
  have HLw : Hid (g0 = w.heap.size) := hg0
  have C1' : Hid (CopySrv (g0 + 3) L s w1) := copySrv_lo C1 (by have := HL3.out; omega)
  rw [← hg0]
  clear A0 A1 A2 L0 b1 C1 HL3
  clear hg0
  clear W0
  obtain ⟨c0, c1, c2, c3, c4, _⟩ := A01.out.five
  obtain ⟨d0, d1, d2, d3, d4, z0, z1, z2, z3, z4⟩ := A21.out.five
  obtain ⟨p0, p1, p2, p3, p4, y0, y1, y2, y3, y4⟩ := A11.out.five
  have S3 : Hid (CBk (((((w1.setCell ⟨g0 + 1 + 1, 0, none⟩ (.slice (some ⟨s.g, 0, none⟩) s.n s.bc)).setCell ⟨g0 + 1 + 1, 1, none⟩ (.slice (some ⟨s.tg, 0, none⟩) s.tn s.tc)).setCell ⟨g0 + 1 + 1, 2, none⟩ (.slice (some ⟨s.cg, 0, none⟩) s.cn s.cc)).setCell ⟨g0 + 1 + 1, 3, none⟩ (.int .i64 x)).setCell ⟨g0 + 1 + 1, 4, none⟩ (.int .i64 y)) (g0 + 1 + 1) 41 #[.slice (some ⟨s.g, 0, none⟩) s.n s.bc, .slice (some ⟨s.tg, 0, none⟩) s.tn s.tc, .slice (some ⟨s.cg, 0, none⟩) s.cn s.cc, .int .i64 x, .int .i64 y]) := (((((A21.out.set 0 _).set 1 _).set 2 _).set 3 _).set 4 _)
  have T3 : Hid (CBk ((((((((((w1.setCell ⟨g0 + 1 + 1, 0, none⟩ (.slice (some ⟨s.g, 0, none⟩) s.n s.bc)).setCell ⟨g0 + 1 + 1, 1, none⟩ (.slice (some ⟨s.tg, 0, none⟩) s.tn s.tc)).setCell ⟨g0 + 1 + 1, 2, none⟩ (.slice (some ⟨s.cg, 0, none⟩) s.cn s.cc)).setCell ⟨g0 + 1 + 1, 3, none⟩ (.int .i64 x)).setCell ⟨g0 + 1 + 1, 4, none⟩ (.int .i64 y)).setCell ⟨g0 + 1, 0, none⟩ (.slice (some ⟨s.g, 0, none⟩) s.n s.bc)).setCell ⟨g0 + 1, 1, none⟩ (.slice (some ⟨s.tg, 0, none⟩) s.tn s.tc)).setCell ⟨g0 + 1, 2, none⟩ (.slice (some ⟨s.cg, 0, none⟩) s.cn s.cc)).setCell ⟨g0 + 1, 3, none⟩ (.int .i64 x)).setCell ⟨g0 + 1, 4, none⟩ (.int .i64 y)) (g0 + 1) 41 #[.slice (some ⟨s.g, 0, none⟩) s.n s.bc, .slice (some ⟨s.tg, 0, none⟩) s.tn s.tc, .slice (some ⟨s.cg, 0, none⟩) s.cn s.cc, .int .i64 x, .int .i64 y]) := ((((((((((A11.out.other (by omega) _).other (by omega) _).other (by omega) _).other (by omega) _).other (by omega) _).set 0 _).set 1 _).set 2 _).set 3 _).set 4 _)
  have CF : Hid (CopySrv w.heap.size L s ((((((((((w1.setCell ⟨g0 + 1 + 1, 0, none⟩ (.slice (some ⟨s.g, 0, none⟩) s.n s.bc)).setCell ⟨g0 + 1 + 1, 1, none⟩ (.slice (some ⟨s.tg, 0, none⟩) s.tn s.tc)).setCell ⟨g0 + 1 + 1, 2, none⟩ (.slice (some ⟨s.cg, 0, none⟩) s.cn s.cc)).setCell ⟨g0 + 1 + 1, 3, none⟩ (.int .i64 x)).setCell ⟨g0 + 1 + 1, 4, none⟩ (.int .i64 y)).setCell ⟨g0 + 1, 0, none⟩ (.slice (some ⟨s.g, 0, none⟩) s.n s.bc)).setCell ⟨g0 + 1, 1, none⟩ (.slice (some ⟨s.tg, 0, none⟩) s.tn s.tc)).setCell ⟨g0 + 1, 2, none⟩ (.slice (some ⟨s.cg, 0, none⟩) s.cn s.cc)).setCell ⟨g0 + 1, 3, none⟩ (.int .i64 x)).setCell ⟨g0 + 1, 4, none⟩ (.int .i64 y))) := by
    have := (copySrv_other (copySrv_other (copySrv_other (copySrv_other (copySrv_other (copySrv_other (copySrv_other (copySrv_other (copySrv_other (copySrv_other C1'.out (g' := g0 + 1 + 1) (by omega) 0 (.slice (some ⟨s.g, 0, none⟩) s.n s.bc)) (g' := g0 + 1 + 1) (by omega) 1 (.slice (some ⟨s.tg, 0, none⟩) s.tn s.tc)) (g' := g0 + 1 + 1) (by omega) 2 (.slice (some ⟨s.cg, 0, none⟩) s.cn s.cc)) (g' := g0 + 1 + 1) (by omega) 3 (.int .i64 x)) (g' := g0 + 1 + 1) (by omega) 4 (.int .i64 y)) (g' := g0 + 1) (by omega) 0 (.slice (some ⟨s.g, 0, none⟩) s.n s.bc)) (g' := g0 + 1) (by omega) 1 (.slice (some ⟨s.tg, 0, none⟩) s.tn s.tc)) (g' := g0 + 1) (by omega) 2 (.slice (some ⟨s.cg, 0, none⟩) s.cn s.cc)) (g' := g0 + 1) (by omega) 3 (.int .i64 x)) (g' := g0 + 1) (by omega) 4 (.int .i64 y))
    exact copySrv_lo this (by have := HLw.out; omega)
  have LF : Hid (Below w.heap.size w ((((((((((w1.setCell ⟨g0 + 1 + 1, 0, none⟩ (.slice (some ⟨s.g, 0, none⟩) s.n s.bc)).setCell ⟨g0 + 1 + 1, 1, none⟩ (.slice (some ⟨s.tg, 0, none⟩) s.tn s.tc)).setCell ⟨g0 + 1 + 1, 2, none⟩ (.slice (some ⟨s.cg, 0, none⟩) s.cn s.cc)).setCell ⟨g0 + 1 + 1, 3, none⟩ (.int .i64 x)).setCell ⟨g0 + 1 + 1, 4, none⟩ (.int .i64 y)).setCell ⟨g0 + 1, 0, none⟩ (.slice (some ⟨s.g, 0, none⟩) s.n s.bc)).setCell ⟨g0 + 1, 1, none⟩ (.slice (some ⟨s.tg, 0, none⟩) s.tn s.tc)).setCell ⟨g0 + 1, 2, none⟩ (.slice (some ⟨s.cg, 0, none⟩) s.cn s.cc)).setCell ⟨g0 + 1, 3, none⟩ (.int .i64 x)).setCell ⟨g0 + 1, 4, none⟩ (.int .i64 y))) := by
    have e4 := HLw.out
    exact ((((((((((L1.out.setCell (p := ⟨g0 + 1 + 1, 0, none⟩) (by show w.heap.size ≤ g0 + 1 + 1; omega) _).setCell (p := ⟨g0 + 1 + 1, 1, none⟩) (by show w.heap.size ≤ g0 + 1 + 1; omega) _).setCell (p := ⟨g0 + 1 + 1, 2, none⟩) (by show w.heap.size ≤ g0 + 1 + 1; omega) _).setCell (p := ⟨g0 + 1 + 1, 3, none⟩) (by show w.heap.size ≤ g0 + 1 + 1; omega) _).setCell (p := ⟨g0 + 1 + 1, 4, none⟩) (by show w.heap.size ≤ g0 + 1 + 1; omega) _).setCell (p := ⟨g0 + 1, 0, none⟩) (by show w.heap.size ≤ g0 + 1; omega) _).setCell (p := ⟨g0 + 1, 1, none⟩) (by show w.heap.size ≤ g0 + 1; omega) _).setCell (p := ⟨g0 + 1, 2, none⟩) (by show w.heap.size ≤ g0 + 1; omega) _).setCell (p := ⟨g0 + 1, 3, none⟩) (by show w.heap.size ≤ g0 + 1; omega) _).setCell (p := ⟨g0 + 1, 4, none⟩) (by show w.heap.size ≤ g0 + 1; omega) _)
  obtain ⟨s0, s1, s2, s3, s4, _⟩ := S3.out.five
  clear A11 A21 A01 L1 C1' HB
  go_wp2_with fail
  exact bodyPost_ret (results_cell_row (p := 2) rfl _ _ (g0 + 1) 41 #[.slice (some ⟨s.g, 0, none⟩) s.n s.bc, .slice (some ⟨s.tg, 0, none⟩) s.tn s.tc, .slice (some ⟨s.cg, 0, none⟩) s.cn s.cc, .int .i64 x, .int .i64 y] (0, 0) _ rfl T3.out Tryz.underlying41 rfl (by kernel_rfl)) rfl (HQ.out _ _ _ rfl CF.out LF.out)

set_option maxHeartbeats 2000000 in
set_option maxRecDepth 100000 in
theorem eqPeer1 (L : LSrv) (x y : Int) (s t : SrvV) (B C : Nat) (w : World) (hs : SmallSrv L) (hl : LenSrv L) (h1 : CopySrv B L s w) (h2 : CopySrv C L t w) :
    Calls Tryz.prog 14 #[peerVal s x y, peerVal t x y] w fun e w' => e = .returned (.bool true) ∧ Below w.heap.size w w' := by
  have hq := fun (w' : World) (hb : Below w.heap.size w w') => eqServer1 L s t B C w' hs hl (h1.below hb) (h2.below hb)
  unfold srvVal at hq
  unfold peerVal
  clear h1 h2 hs hl
  have C0 : Hid (CBk ((w.alloc (.cells #[.slice (some ⟨s.g, 0, none⟩) s.n s.bc, .slice (some ⟨s.tg, 0, none⟩) s.tn s.tc, .slice (some ⟨s.cg, 0, none⟩) s.cn s.cc, .int .i64 x, .int .i64 y] 41)).alloc (.cells #[.slice (some ⟨t.g, 0, none⟩) t.n t.bc, .slice (some ⟨t.tg, 0, none⟩) t.tn t.tc, .slice (some ⟨t.cg, 0, none⟩) t.cn t.cc, .int .i64 x, .int .i64 y] 41)) w.heap.size 41 #[.slice (some ⟨s.g, 0, none⟩) s.n s.bc, .slice (some ⟨s.tg, 0, none⟩) s.tn s.tc, .slice (some ⟨s.cg, 0, none⟩) s.cn s.cc, .int .i64 x, .int .i64 y]) := (CBk.new w _ _).alloc _
  have D0 : Hid (CBk ((w.alloc (.cells #[.slice (some ⟨s.g, 0, none⟩) s.n s.bc, .slice (some ⟨s.tg, 0, none⟩) s.tn s.tc, .slice (some ⟨s.cg, 0, none⟩) s.cn s.cc, .int .i64 x, .int .i64 y] 41)).alloc (.cells #[.slice (some ⟨t.g, 0, none⟩) t.n t.bc, .slice (some ⟨t.tg, 0, none⟩) t.tn t.tc, .slice (some ⟨t.cg, 0, none⟩) t.cn t.cc, .int .i64 x, .int .i64 y] 41)) (w.heap.size + 1) 41 #[.slice (some ⟨t.g, 0, none⟩) t.n t.bc, .slice (some ⟨t.tg, 0, none⟩) t.tn t.tc, .slice (some ⟨t.cg, 0, none⟩) t.cn t.cc, .int .i64 x, .int .i64 y]) := by
    have := CBk.new (w.alloc (.cells #[.slice (some ⟨s.g, 0, none⟩) s.n s.bc, .slice (some ⟨s.tg, 0, none⟩) s.tn s.tc, .slice (some ⟨s.cg, 0, none⟩) s.cn s.cc, .int .i64 x, .int .i64 y] 41)) 41 #[.slice (some ⟨t.g, 0, none⟩) t.n t.bc, .slice (some ⟨t.tg, 0, none⟩) t.tn t.tc, .slice (some ⟨t.cg, 0, none⟩) t.cn t.cc, .int .i64 x, .int .i64 y]
    rwa [show (w.alloc (.cells #[.slice (some ⟨s.g, 0, none⟩) s.n s.bc, .slice (some ⟨s.tg, 0, none⟩) s.tn s.tc, .slice (some ⟨s.cg, 0, none⟩) s.cn s.cc, .int .i64 x, .int .i64 y] 41)).heap.size = w.heap.size + 1 from by simp] at this
  have L0 : Hid (Below w.heap.size w ((w.alloc (.cells #[.slice (some ⟨s.g, 0, none⟩) s.n s.bc, .slice (some ⟨s.tg, 0, none⟩) s.tn s.tc, .slice (some ⟨s.cg, 0, none⟩) s.cn s.cc, .int .i64 x, .int .i64 y] 41)).alloc (.cells #[.slice (some ⟨t.g, 0, none⟩) t.n t.bc, .slice (some ⟨t.tg, 0, none⟩) t.tn t.tc, .slice (some ⟨t.cg, 0, none⟩) t.cn t.cc, .int .i64 x, .int .i64 y] 41))) := ((Below.refl _ w).alloc (Nat.le_refl _) _).alloc (by simp) _
  go_enter Tryz.func14, Tryz.ntmps14
  go_wp2_with fail
  refine (hq _ L0.out).mono ?_
  rintro e w1 ⟨rfl, b1⟩
  have C1 : Hid (CBk w1 w.heap.size 41 #[.slice (some ⟨s.g, 0, none⟩) s.n s.bc, .slice (some ⟨s.tg, 0, none⟩) s.tn s.tc, .slice (some ⟨s.cg, 0, none⟩) s.cn s.cc, .int .i64 x, .int .i64 y]) := C0.out.call b1
  have D1 : Hid (CBk w1 (w.heap.size + 1) 41 #[.slice (some ⟨t.g, 0, none⟩) t.n t.bc, .slice (some ⟨t.tg, 0, none⟩) t.tn t.tc, .slice (some ⟨t.cg, 0, none⟩) t.cn t.cc, .int .i64 x, .int .i64 y]) := D0.out.call b1
  have L1 : Hid (Below w.heap.size w w1) := L0.out.trans (b1.mono L0.out.size)
  obtain ⟨c0, c1, c2, c3, c4, _⟩ := C1.out.five
  obtain ⟨d0, d1, d2, d3, d4, _⟩ := D1.out.five
  clear C0 D0 L0 b1 hq
  go_wp2_with fail
  go_ret
  exact ⟨rfl, L1.out⟩

def peerR (s : SrvV) (x y : Int) : Bool := srvR s && (inB x 0 6 && inB y 0 19)
theorem peer_no {s : SrvV} {x y : Int} (h : inB x 0 6 = false ∨ inB y 0 19 = false) : peerR s x y = false := by
  rcases h with h | h <;> simp [peerR, h]

set_option maxHeartbeats 4000000 in
set_option maxRecDepth 100000 in
theorem implPeerOk (s : SrvV) (x y : Int) (w : World) (h : SrvAt s w) (hK : RowG w shaK) (hP : TabP w) (hE : ErrT w) :
    Calls Tryz.prog 13 #[peerVal s x y] w fun e w' => e = .returned (.bool (peerR s x y)) ∧ Below w.heap.size w w' := by
  have L0 : Hid (Below w.heap.size w (w.alloc (.cells #[.slice (some ⟨s.g, 0, none⟩) s.n s.bc, .slice (some ⟨s.tg, 0, none⟩) s.tn s.tc, .slice (some ⟨s.cg, 0, none⟩) s.cn s.cc, .int .i64 x, .int .i64 y] 41))) := (Below.refl _ w).alloc (Nat.le_refl _) _
  have hso := implServerOk s _ (h.below L0.out) (hK.below L0.out hK.lt) (TabP.below hP L0.out (Nat.le_refl _)) (hE.below L0.out hE.lt)
  have HNO : Hid (¬ (0 ≤ x ∧ x ≤ 6 ∧ 0 ≤ y ∧ y ≤ 19) → peerR s x y = false) := fun hf => peer_no (by
    by_cases hx : 0 ≤ x ∧ x ≤ 6
    · exact .inr (inB_no (by omega))
    · exact .inl (inB_no (by omega)))
  have HYES : Hid (0 ≤ x ∧ x ≤ 6 ∧ 0 ≤ y ∧ y ≤ 19 → peerR s x y = srvR s) := fun hf => by rw [peerR, inB_yes ⟨hf.1, hf.2.1⟩, inB_yes ⟨hf.2.2.1, hf.2.2.2⟩]; cases srvR s <;> rfl
  generalize peerR s x y = R at HNO HYES ⊢
  clear h hK hP hE
  unfold srvVal at hso
  unfold peerVal
  by_cases h1 : 0 ≤ x
  · by_cases h2 : x ≤ 6
    · by_cases h3 : 0 ≤ y
      · by_cases h4 : y ≤ 19
        · have HV : Hid (R = srvR s) := HYES.out ⟨h1, h2, h3, h4⟩
          have h4' : y < 20 := by omega
          generalize srvR s = q at hso HV
          clear HNO HYES
          go_enter Tryz.func13, Tryz.ntmps13
          go_wp2_with fail
          refine hso.mono ?_
          rintro e w1 ⟨rfl, b1⟩
          go_wp2_with fail
          go_ret
          exact ⟨by rw [HV.out]; rfl, L0.out.trans (b1.mono L0.out.size)⟩
        · have HV : Hid (R = false) := HNO.out (by omega)
          have h4' : ¬ y < 20 := by omega
          clear HNO HYES hso
          go_enter Tryz.func13, Tryz.ntmps13
          go_wp2_with fail
          go_ret
          exact ⟨by rw [HV.out]; rfl, L0.out⟩
      · have HV : Hid (R = false) := HNO.out (by omega)
        clear HNO HYES hso
        go_enter Tryz.func13, Tryz.ntmps13
        go_wp2_with fail
        go_ret
        exact ⟨by rw [HV.out]; rfl, L0.out⟩
    · have HV : Hid (R = false) := HNO.out (by omega)
      clear HNO HYES hso
      go_enter Tryz.func13, Tryz.ntmps13
      go_wp2_with fail
      go_ret
      exact ⟨by rw [HV.out]; rfl, L0.out⟩
  · have HV : Hid (R = false) := HNO.out (by omega)
    clear HNO HYES hso
    go_enter Tryz.func13, Tryz.ntmps13
    go_wp2_with fail
    go_ret
    exact ⟨by rw [HV.out]; rfl, L0.out⟩

set_option maxHeartbeats 4000000 in
set_option maxRecDepth 100000 in
theorem specL8PeerOk (s : SrvV) (x y : Int) (w : World) (h : SrvAt s w) (hB : BlksS s.g s.n s.bc s.bs w) :
    Calls Tryz.prog 28 #[peerVal s x y] w fun e w' => e = .returned (.bool (peerR s x y)) ∧ Below w.heap.size w w' := by
  have L0 : Hid (Below w.heap.size w (w.alloc (.cells #[.slice (some ⟨s.g, 0, none⟩) s.n s.bc, .slice (some ⟨s.tg, 0, none⟩) s.tn s.tc, .slice (some ⟨s.cg, 0, none⟩) s.cn s.cc, .int .i64 x, .int .i64 y] 41))) := (Below.refl _ w).alloc (Nat.le_refl _) _
  have C0 : Hid (CBk (w.alloc (.cells #[.slice (some ⟨s.g, 0, none⟩) s.n s.bc, .slice (some ⟨s.tg, 0, none⟩) s.tn s.tc, .slice (some ⟨s.cg, 0, none⟩) s.cn s.cc, .int .i64 x, .int .i64 y] 41)) w.heap.size 41 #[.slice (some ⟨s.g, 0, none⟩) s.n s.bc, .slice (some ⟨s.tg, 0, none⟩) s.tn s.tc, .slice (some ⟨s.cg, 0, none⟩) s.cn s.cc, .int .i64 x, .int .i64 y]) := CBk.new w _ _
  have hso := specL7Ok s _ (h.below L0.out) (hB.below L0.out)
  show Calls _ _ _ _ fun e w' => e = .returned (.bool (srvR s && (inB x 0 6 && inB y 0 19))) ∧ _
  have hx := fun w' => specIn x 0 6 w'
  have hy := fun w' => specIn y 0 19 w'
  generalize srvR s = q at hso ⊢
  generalize inB x 0 6 = bx at hx ⊢
  generalize inB y 0 19 = bz at hy ⊢
  clear h hB
  unfold srvVal at hso
  unfold peerVal
  go_enter Tryz.func28, Tryz.ntmps28
  go_wp2_with fail
  refine hso.mono ?_
  rintro e w1 ⟨rfl, b1⟩
  have C1 : Hid (CBk w1 w.heap.size 41 #[.slice (some ⟨s.g, 0, none⟩) s.n s.bc, .slice (some ⟨s.tg, 0, none⟩) s.tn s.tc, .slice (some ⟨s.cg, 0, none⟩) s.cn s.cc, .int .i64 x, .int .i64 y]) := C0.out.call b1
  have L1 : Hid (Below w.heap.size w w1) := L0.out.trans (b1.mono L0.out.size)
  obtain ⟨c0, c1, c2, c3, c4, _⟩ := C1.out.five
  clear C0 L0 b1 hso
  cases q with
  | false =>
    go_wp2_with fail
    go_ret
    exact ⟨rfl, L1.out⟩
  | true =>
    cases bx with
    | false =>
      go_wp2_with fail
      refine (hx _).mono ?_
      rintro e w2 ⟨rfl, rfl⟩
      go_wp2_with fail
      go_ret
      exact ⟨rfl, L1.out⟩
    | true =>
      go_wp2_with fail
      refine (hx _).mono ?_
      rintro e w2 ⟨rfl, rfl⟩
      go_wp2_with fail
      refine (hy _).mono ?_
      rintro e w3 ⟨rfl, rfl⟩
      go_wp2_with fail
      go_ret
      exact ⟨by cases bz <;> rfl, L1.out⟩

set_option maxHeartbeats 1000000 in
set_option maxRecDepth 100000 in
theorem specPeerOk (s : SrvV) (x y : Int) (w : World) (h : SrvAt s w) (hB : BlksS s.g s.n s.bc s.bs w) :
    Calls Tryz.prog 11 #[peerVal s x y] w fun e w' => e = .returned (.bool (peerR s x y)) ∧ Below w.heap.size w w' := by
  have L0 : Hid (Below w.heap.size w (w.alloc (.cells #[.slice (some ⟨s.g, 0, none⟩) s.n s.bc, .slice (some ⟨s.tg, 0, none⟩) s.tn s.tc, .slice (some ⟨s.cg, 0, none⟩) s.cn s.cc, .int .i64 x, .int .i64 y] 41))) := (Below.refl _ w).alloc (Nat.le_refl _) _
  have hk := specL8PeerOk s x y _ (h.below L0.out) (hB.below L0.out)
  generalize peerR s x y = R at hk ⊢
  clear h hB
  unfold peerVal at hk ⊢
  go_enter Tryz.func11, Tryz.ntmps11
  go_wp2_with fail
  refine hk.mono ?_
  rintro e w1 ⟨rfl, b1⟩
  go_wp2_with fail
  go_ret
  exact ⟨rfl, L0.out.trans (b1.mono L0.out.size)⟩

theorem CopySrv.pval {B : Nat} {L : LSrv} {s : SrvV} {w : World} (h : CopySrv B L s w) (x y : Int) : peerR s x y = (lsrvR L && (inB x 0 6 && inB y 0 19)) := by
  rw [peerR, h.val]

set_option maxHeartbeats 4000000 in
set_option maxRecDepth 100000 in
theorem walk_FnExactPeerOk (L : LSrv) (x y : Int) (w : World) (h0 : IsSrv w L) (hK : RowG w shaK) (hP : TabP w) (hE : ErrT w) :
    Calls Tryz.prog 4 #[lpeerVal L x y] w fun e w' => e = .returned (.bool true) ∧ Below w.heap.size w w' := by
  have HK : Hid (RowG w shaK) := hK
  have HP : Hid (TabP w) := hP
  have HE : Hid (ErrT w) := hE
  have HLN : Hid (LenSrv L) := h0.lens
  have HSZ : Hid (∀ w1, Below w.heap.size w w1 → Calls Tryz.prog 10 #[lpeerVal L x y, .int .i64 1048576] w1 fun e w' => Below w1.heap.size w1 w' ∧ (e = .returned (.int .i64 (-1)) ∨ ∃ r : Nat, e = .returned (.int .i64 (r : Int)) ∧ r ≤ 1048576 ∧ SmallSrv L)) := fun w1 hb => szPeer1 L x y w1 (h0.below hb)
  have HTO : Hid (SmallSrv L → ∀ w1, Below w.heap.size w w1 → Calls Tryz.prog 12 #[lpeerVal L x y] w1 fun e w' => ∃ s, e = .returned (peerVal s x y) ∧ CopySrv w1.heap.size L s w' ∧ Below w1.heap.size w1 w') := fun hs w1 hb => toPeer1 L x y w1 w h0 hb hs
  have HSP : Hid (SmallSrv L → ∀ (s : SrvV) (B : Nat) w1, CopySrv B L s w1 → Calls Tryz.prog 11 #[peerVal s x y] w1 fun e w' => e = .returned (.bool (lsrvR L && (inB x 0 6 && inB y 0 19))) ∧ Below w1.heap.size w1 w') := fun hs s B w1 hc => by
    have := specPeerOk s x y w1 (hc.at hs HLN.out) (hc.blksS hs HLN.out)
    rw [hc.pval] at this
    exact this
  have HIM : Hid (SmallSrv L → ∀ (s : SrvV) (B : Nat) w1, CopySrv B L s w1 → Below w.heap.size w w1 → Calls Tryz.prog 13 #[peerVal s x y] w1 fun e w' => e = .returned (.bool (lsrvR L && (inB x 0 6 && inB y 0 19))) ∧ Below w1.heap.size w1 w') := fun hs s B w1 hc hb => by
    have := implPeerOk s x y w1 (hc.at hs HLN.out) (HK.out.below hb HK.out.lt) (TabP.below HP.out hb (Nat.le_refl _)) (HE.out.below hb HE.out.lt)
    rw [hc.pval] at this
    exact this
  have HEQ : Hid (SmallSrv L → ∀ (s t : SrvV) (B C : Nat) w1, CopySrv B L s w1 → CopySrv C L t w1 → Calls Tryz.prog 14 #[peerVal s x y, peerVal t x y] w1 fun e w' => e = .returned (.bool true) ∧ Below w1.heap.size w1 w') := fun hs s t B C w1 h1 h2 => eqPeer1 L x y s t B C w1 hs HLN.out h1 h2
  clear h0 hK hP hE HLN
  generalize (lsrvR L && (inB x 0 6 && inB y 0 19)) = R at HSP HIM
  unfold lpeerVal at HSZ HTO ⊢
  unfold peerVal at HTO HSP HIM HEQ
  have C0 : Hid (CBk (w.alloc (.cells #[.slice L.ba L.bn L.bc, .slice L.ta L.tn L.tc, .slice L.ca L.cn L.cc, .int .i64 x, .int .i64 y] 37)) w.heap.size 37 #[.slice L.ba L.bn L.bc, .slice L.ta L.tn L.tc, .slice L.ca L.cn L.cc, .int .i64 x, .int .i64 y]) := CBk.new w _ _
  have L0 : Hid (Below w.heap.size w (w.alloc (.cells #[.slice L.ba L.bn L.bc, .slice L.ta L.tn L.tc, .slice L.ca L.cn L.cc, .int .i64 x, .int .i64 y] 37))) := (Below.refl _ w).alloc (Nat.le_refl _) _
  go_enter Tryz.func4, Tryz.ntmps4
  go_wp2_with fail
  refine (HSZ.out _ L0.out).mono ?_
  rintro e w1 ⟨b1, rfl | ⟨r, rfl, hr, hsm⟩⟩
  · have L1 : Hid (Below w.heap.size w w1) := L0.out.trans (b1.mono L0.out.size)
    clear HTO HSP HIM HEQ
    go_wp2_with fail
    go_ret
    exact ⟨rfl, L1.out⟩
  have HTO : Hid _ := HTO.out hsm
  have HSP : Hid _ := HSP.out hsm
  have HIM : Hid _ := HIM.out hsm
  have HEQ : Hid _ := HEQ.out hsm
  have L1 : Hid (Below w.heap.size w w1) := L0.out.trans (b1.mono L0.out.size)
  have C1 : Hid (CBk w1 w.heap.size 37 #[.slice L.ba L.bn L.bc, .slice L.ta L.tn L.tc, .slice L.ca L.cn L.cc, .int .i64 x, .int .i64 y]) := C0.out.call b1
  clear C0 L0 b1 HSZ hsm
  have hr0 : ¬ (r : Int) < 0 := by omega
  obtain ⟨c0, c1, c2, c3, c4, _⟩ := C1.out.five
  go_wp2_with fail
  refine (HTO.out _ L1.out).mono ?_
  rintro e w2 ⟨s2, rfl, c2', b2⟩
  have L2 : Hid (Below w.heap.size w w2) := L1.out.trans (b2.mono L1.out.size)
  have C2 : Hid (CBk w2 w.heap.size 37 #[.slice L.ba L.bn L.bc, .slice L.ta L.tn L.tc, .slice L.ca L.cn L.cc, .int .i64 x, .int .i64 y]) := C1.out.call b2
  have hsp := HSP.out s2 _ w2 c2'
  clear c0 c1 c2 c3 c4 C1 b2 c2' L1 hr0
  go_wp2_with fail
  refine hsp.mono ?_
  rintro e w3 ⟨rfl, b3⟩
  have L3 : Hid (Below w.heap.size w w3) := L2.out.trans (b3.mono L2.out.size)
  have C3 : Hid (CBk w3 w.heap.size 37 #[.slice L.ba L.bn L.bc, .slice L.ta L.tn L.tc, .slice L.ca L.cn L.cc, .int .i64 x, .int .i64 y]) := C2.out.call b3
  obtain ⟨c0, c1, c2, c3, c4, _⟩ := C3.out.five
  clear hsp b3 C2 L2
  go_wp2_with fail
  refine (HTO.out _ L3.out).mono ?_
  rintro e w4 ⟨s4, rfl, r4, b4⟩
  have L4 : Hid (Below w.heap.size w w4) := L3.out.trans (b4.mono L3.out.size)
  have C4 : Hid (CBk w4 w.heap.size 37 #[.slice L.ba L.bn L.bc, .slice L.ta L.tn L.tc, .slice L.ca L.cn L.cc, .int .i64 x, .int .i64 y]) := C3.out.call b4
  have R4 : Hid (CopySrv w3.heap.size L s4 w4) := r4
  clear c0 c1 c2 c3 c4 C3 b4 r4 L3
  have X4 : Hid (CBk (w4.alloc (.cells #[.slice (some ⟨s4.g, 0, none⟩) s4.n s4.bc, .slice (some ⟨s4.tg, 0, none⟩) s4.tn s4.tc, .slice (some ⟨s4.cg, 0, none⟩) s4.cn s4.cc, .int .i64 x, .int .i64 y] 41)) w4.heap.size 41 #[.slice (some ⟨s4.g, 0, none⟩) s4.n s4.bc, .slice (some ⟨s4.tg, 0, none⟩) s4.tn s4.tc, .slice (some ⟨s4.cg, 0, none⟩) s4.cn s4.cc, .int .i64 x, .int .i64 y]) := CBk.new w4 _ _
  have L5 : Hid (Below w.heap.size w (w4.alloc (.cells #[.slice (some ⟨s4.g, 0, none⟩) s4.n s4.bc, .slice (some ⟨s4.tg, 0, none⟩) s4.tn s4.tc, .slice (some ⟨s4.cg, 0, none⟩) s4.cn s4.cc, .int .i64 x, .int .i64 y] 41))) := L4.out.alloc L4.out.size _
  have C5 : Hid (CBk (w4.alloc (.cells #[.slice (some ⟨s4.g, 0, none⟩) s4.n s4.bc, .slice (some ⟨s4.tg, 0, none⟩) s4.tn s4.tc, .slice (some ⟨s4.cg, 0, none⟩) s4.cn s4.cc, .int .i64 x, .int .i64 y] 41)) w.heap.size 37 #[.slice L.ba L.bn L.bc, .slice L.ta L.tn L.tc, .slice L.ca L.cn L.cc, .int .i64 x, .int .i64 y]) := C4.out.alloc _
  have R5 : Hid (CopySrv w3.heap.size L s4 (w4.alloc (.cells #[.slice (some ⟨s4.g, 0, none⟩) s4.n s4.bc, .slice (some ⟨s4.tg, 0, none⟩) s4.tn s4.tc, .slice (some ⟨s4.cg, 0, none⟩) s4.cn s4.cc, .int .i64 x, .int .i64 y] 41))) := R4.out.below ((Below.refl _ w4).alloc (Nat.le_refl _) _)
  have him := HIM.out s4 _ _ R5.out L5.out
  clear HIM HSP C4 L4 R4
  go_wp2_with fail
  refine him.mono ?_
  rintro e w6 ⟨rfl, b6⟩
  have X6 : Hid (CBk w6 w4.heap.size 41 #[.slice (some ⟨s4.g, 0, none⟩) s4.n s4.bc, .slice (some ⟨s4.tg, 0, none⟩) s4.tn s4.tc, .slice (some ⟨s4.cg, 0, none⟩) s4.cn s4.cc, .int .i64 x, .int .i64 y]) := X4.out.call b6
  have L6 : Hid (Below w.heap.size w w6) := L5.out.trans (b6.mono L5.out.size)
  have C6 : Hid (CBk w6 w.heap.size 37 #[.slice L.ba L.bn L.bc, .slice L.ta L.tn L.tc, .slice L.ca L.cn L.cc, .int .i64 x, .int .i64 y]) := C5.out.call b6
  have R6 : Hid (CopySrv w3.heap.size L s4 w6) := R5.out.below b6
  clear X4 L5 C5 R5 b6 him
  obtain ⟨c0, c1, c2, c3, c4, _⟩ := C6.out.five
  obtain ⟨d0, d1, d2, d3, d4, _⟩ := X6.out.five
  cases R <;>
  · go_wp2_with fail
    go_region_held3 (fun w' => (w'.cell? ⟨w4.heap.size, 0, none⟩ = some (.slice (some ⟨s4.g, 0, none⟩) s4.n s4.bc) ∧ w'.cell? ⟨w4.heap.size, 1, none⟩ = some (.slice (some ⟨s4.tg, 0, none⟩) s4.tn s4.tc) ∧ w'.cell? ⟨w4.heap.size, 2, none⟩ = some (.slice (some ⟨s4.cg, 0, none⟩) s4.cn s4.cc) ∧ w'.cell? ⟨w4.heap.size, 3, none⟩ = some (.int .i64 x) ∧ w'.cell? ⟨w4.heap.size, 4, none⟩ = some (.int .i64 y)) ∧ (w'.cell? ⟨w.heap.size, 0, none⟩ = some (.slice L.ba L.bn L.bc) ∧ w'.cell? ⟨w.heap.size, 1, none⟩ = some (.slice L.ta L.tn L.tc) ∧ w'.cell? ⟨w.heap.size, 2, none⟩ = some (.slice L.ca L.cn L.cc) ∧ w'.cell? ⟨w.heap.size, 3, none⟩ = some (.int .i64 x) ∧ w'.cell? ⟨w.heap.size, 4, none⟩ = some (.int .i64 y)))
      (first | exact ⟨X6.out.drew.out5, C6.out.drew.out5⟩ | exact ⟨X7.out.out5, C7.out.out5⟩ | exact ⟨X8.out.out5, C8.out.out5⟩)
      (first
        | (go_at_call 12; refine (HTO.out _ L6.out.drew).mono ?_; rintro e w7 ⟨s7, rfl, r7, b7⟩; have L7 : Hid (Below w.heap.size w w7) := L6.out.drew.trans (b7.mono L6.out.size); have X7 : Hid (CBk w7 w4.heap.size 41 #[.slice (some ⟨s4.g, 0, none⟩) s4.n s4.bc, .slice (some ⟨s4.tg, 0, none⟩) s4.tn s4.tc, .slice (some ⟨s4.cg, 0, none⟩) s4.cn s4.cc, .int .i64 x, .int .i64 y]) := X6.out.drew.call b7; have C7 : Hid (CBk w7 w.heap.size 37 #[.slice L.ba L.bn L.bc, .slice L.ta L.tn L.tc, .slice L.ca L.cn L.cc, .int .i64 x, .int .i64 y]) := C6.out.drew.call b7; have R7 : Hid (CopySrv w3.heap.size L s4 w7) := (R6.out.below (Below.refl _ _).drew).below b7; have Q7 : Hid (CopySrv w6.drew.heap.size L s7 w7) := r7)
        | (go_at_call 14; refine (HEQ.out s4 s7 _ _ _ R7.out Q7.out).mono ?_; rintro e w8 ⟨rfl, b8⟩; have L8 : Hid (Below w.heap.size w w8) := L7.out.trans (b8.mono L7.out.size); have X8 : Hid (CBk w8 w4.heap.size 41 #[.slice (some ⟨s4.g, 0, none⟩) s4.n s4.bc, .slice (some ⟨s4.tg, 0, none⟩) s4.tn s4.tc, .slice (some ⟨s4.cg, 0, none⟩) s4.cn s4.cc, .int .i64 x, .int .i64 y]) := X7.out.call b8; have C8 : Hid (CBk w8 w.heap.size 37 #[.slice L.ba L.bn L.bc, .slice L.ta L.tn L.tc, .slice L.ca L.cn L.cc, .int .i64 x, .int .i64 y]) := C7.out.call b8))
    go_wp2_with fail
    go_ret
    exact ⟨rfl, L8.out⟩

end Go.Proofs.YtphgjhakghblgaaGreatDoor

