/-
  Texts that the last part needs, joined.
-/
import Derived.Test.YtjeldedjhlicmaaGreatDoorPart1
import Derived.Test.YtjeldedjhlicmaaGreatDoorPart2
import Derived.Test.YtjeldedjhlicmaaGreatDoorPart3
import Derived.Test.YtjeldedjhlicmaaGreatDoorPart4
import Derived.Test.YtjeldedjhlicmaaGreatDoorPart5
import Derived.Test.YtjeldedjhlicmaaGreatDoorPart6
import Derived.Test.YtjeldedjhlicmaaGreatDoorPart7
import Derived.Deep.RegionWith
set_option linter.unusedVariables false
namespace Go.Proofs.YtjeldedjhlicmaaGreatDoor
open Go.RowKit Go.Deep

def PlacePost (ps : List PeakV) (a : Int) (e : Ending) : Prop := (∃ k, placeP ps a = some k ∧ e = .returned (.tuple #[.int .i64 (k : Int), .int .i64 (cntTo ps k)])) ∨ (placeP ps a = none ∧ ∃ x, e = .returned (.tuple #[.int .i64 (-1), .int .i64 x]))
set_option maxHeartbeats 2000000 in
set_option maxRecDepth 100000 in
theorem specL5Peak (g n cap : Nat) (ps : List PeakV) (a : Int) (w : World) (h : AtP w g ps) (hn : n = ps.length) (hm : n ≤ 1048576) (hr : rangeOkB ps = true) :
    Calls Tryz.prog 45 #[.slice (some ⟨g, 0, none⟩) n cap, .int .i64 a] w fun e w' => PlacePost ps a e ∧ w = w' := by
  have HA : Hid (AtP w g ps) := h
  have HN : Hid (n = ps.length) := hn
  have HR : Hid (rangeOkB ps = true) := hr
  have hl20 := range_len hr
  have HY : Hid (∀ k e, placeP ps a = some k → e = .returned (.tuple #[.int .i64 (k : Int), .int .i64 (cntTo ps k)]) → PlacePost ps a e) := fun k e h1 h2 => .inl ⟨k, h1, h2⟩
  have HX : Hid (∀ x e, placeP ps a = none → e = .returned (.tuple #[.int .i64 (-1), .int .i64 x]) → PlacePost ps a e) := fun x e h1 h2 => .inr ⟨h1, x, h2⟩
  generalize PlacePost ps a = Q at HY HX ⊢
  clear h hn hr
  go_enter Tryz.func45, Tryz.ntmps45
  go_wp2_with fail
  go_loopw [6, 7] (fun f i wr => ∃ k : Nat, k ≤ n ∧ i = .int .i64 (k : Int) ∧ f = .int .i64 (cntTo ps k) ∧ Hid (w = wr) ∧ Hid (∀ j, j < k → ¬ a < cntTo ps (j + 1))) (fun _ i _ => n - (intOf i).toNat)
  case atStart => exact ⟨0, by omega, rfl, rfl, rfl, fun j hj => by omega⟩
  case round =>
    obtain ⟨k, hk, rfl, rfl, HW, HQ⟩ := hrel
    by_cases hlt : k < n
    · have hkl : k < ps.length := by rw [← HN.out]; exact hlt
      have HAr : Hid (AtP wr g ps) := by rw [← HW.out]; exact HA.out
      have q2 := AtP.c2 HAr.out k hkl
      have lk : (k : Int) < (n : Int) := by omega
      have lk0 : (0 : Int) ≤ (k : Int) := by omega
      have wk : IntKind.i64.wrap ((k : Int) + 1) = (k : Int) + 1 := by rw [IntKind.wrap_i64]; omega
      have HK1 : Hid (k + 1 ≤ n) := hlt
      have hri := rangeOk_at HR.out k hkl
      have hci := cnt_in HR.out k (by omega)
      have hw1 : IntKind.i64.wrap (cntTo ps k + (ps.getD k default).count) = cntTo ps k + (ps.getD k default).count := by rw [IntKind.wrap_i64]; omega
      have HC1 : Hid (cntTo ps (k + 1) = cntTo ps k + (ps.getD k default).count) := rfl
      have HYk : Hid (∀ e, a < cntTo ps (k + 1) → e = .returned (.tuple #[.int .i64 (k : Int), .int .i64 (cntTo ps k)]) → Q e) := fun e h1 h2 => HY.out k e (place_at hkl h1 HQ.out) h2
      have HQ2 : Hid (¬ a < cntTo ps (k + 1) → ∀ j, j < k + 1 → ¬ a < cntTo ps (j + 1)) := by
        intro hh j hj
        rcases Nat.lt_or_ge j k with h' | h'
        · exact HQ.out j h'
        · obtain rfl : j = k := by omega
          exact hh
      clear HQ hkl HAr hri hci
      generalize (ps.getD k default).count = c at q2 hw1 HC1
      generalize cntTo ps k = ck at hw1 HC1 HYk ⊢
      by_cases hin : a < ck + c
      · have HV : Hid (∀ e, e = .returned (.tuple #[.int .i64 (k : Int), .int .i64 ck]) → Q e) := fun e he => HYk.out e (by rw [HC1.out]; exact hin) he
        clear HY HX HYk HQ2 HC1
        go_wp2_with fail
        go_ret2
        exact ⟨HV.out _ rfl, HW.out⟩
      · have HQ3 : Hid (∀ j, j < k + 1 → ¬ a < cntTo ps (j + 1)) := HQ2.out (by rw [HC1.out]; exact hin)
        clear HYk HQ2
        go_wp2_with fail
        go_roundw
        case rel => exact ⟨k + 1, HK1.out, by go_num, by rw [HC1.out], HW, HQ3⟩
        case measure => have := HK1.out; simp [intOf]; omega
    · obtain rfl : k = n := by omega
      have HV : Hid (∀ x e, e = .returned (.tuple #[.int .i64 (-1), .int .i64 x]) → Q e) := fun x e he => HX.out x e (place_no (fun j hj => HQ.out j (by rw [HN.out]; exact hj))) he
      generalize cntTo ps k = ck at ⊢
      clear HY HX HQ
      go_wp2_with fail
      go_ret2
      exact ⟨HV.out _ _ rfl, HW.out⟩

theorem results_cell_tmp2 {fn : Func} {p u v : Tmp} {ty : TypeId} (h : fn.results = #[.cell p ty, .tmp u, .tmp v]) (tmps : Array Value) (P : Program) (w : World) :
    (results fn tmps).run P w =
      ((asAddr (tmps.getD p undef)).run P w).andThen fun a w₁ => ((loadVar ty a).run P w₁).andThen fun x w₂ => .ok (.tuple #[x, tmps.getD u undef, tmps.getD v undef]) w₂ := by
  simp only [results, h]
  simp [Sem.run_bind, Result.andThen]
theorem results_row_tmp2 {P : Program} {fn : Func} {p u v : Tmp} {ty : TypeId} (h : fn.results = #[.cell p ty, .tmp u, .tmp v]) (tmps : Array Value) (w : World) (g : Nat) (t : TypeId) (cs : Array Value) (fr : Nat × Nat) (d : TypeDesc)
    (hp : tmps.getD p undef = .pointer (some ⟨g, 0, none⟩)) (hg : w.heap[g]? = some (.cells cs t fr))
    (hu : P.underlying ty = some d) (hd : (match d with | .struct _ | .array _ _ => true | _ => false) = true) (hi : (P.info? ty).map (·.size) = some cs.size) :
    (results fn tmps).run P w = .ok (.tuple #[.agg cs, tmps.getD u undef, tmps.getD v undef]) w := by
  rw [results_cell_tmp2 h, hp]
  simp [asAddr, run_loadVar_row w g t ty cs fr d hg hu hd hi, Result.andThen]

/-- What stands while a leaf is led up: the peak so far, the place of the answer. -/
structure WalkW (w wr : World) (g3 : Nat) (q : PeakV) : Prop where
  p : CBk wr g3 80 #[.string q.sum, .int .i64 q.work, .int .i64 q.count]
  r : CBk wr (g3 + 1) 80 #[.string ⟨#[]⟩, .int .i64 0, .int .i64 0]
  lo : w.heap.size ≤ g3
  b : Below w.heap.size w wr
theorem WalkW.call {w wr w' : World} {g3 : Nat} {q : PeakV} (h : WalkW w wr g3 q) (hb : Below wr.heap.size wr w') : WalkW w w' g3 q :=
  ⟨h.p.call hb, h.r.call hb, h.lo, h.b.trans (hb.mono h.b.size)⟩
theorem WalkW.store {w wr : World} {g3 : Nat} {q : PeakV} (h : WalkW w wr g3 q) (x : PeakV) : WalkW w (((wr.setCell ⟨g3, 0, none⟩ (.string x.sum)).setCell ⟨g3, 1, none⟩ (.int .i64 x.work)).setCell ⟨g3, 2, none⟩ (.int .i64 x.count)) g3 x := by
  have h2 := h.lo
  exact ⟨h.p.set3, ((h.r.other (by omega) _).other (by omega) _).other (by omega) _, h2, ((h.b.setCell (p := ⟨g3, 0, none⟩) (by show w.heap.size ≤ g3; omega) _).setCell (p := ⟨g3, 1, none⟩) (by show w.heap.size ≤ g3; omega) _).setCell (p := ⟨g3, 2, none⟩) (by show w.heap.size ≤ g3; omega) _⟩
theorem WalkW.back {w wr : World} {g3 : Nat} {q : PeakV} (h : WalkW w wr g3 q) (x : PeakV) : Below w.heap.size w (((wr.setCell ⟨g3 + 1, 0, none⟩ (.string x.sum)).setCell ⟨g3 + 1, 1, none⟩ (.int .i64 x.work)).setCell ⟨g3 + 1, 2, none⟩ (.int .i64 x.count)) := by
  have h2 := h.lo
  exact ((h.b.setCell (p := ⟨g3 + 1, 0, none⟩) (by show w.heap.size ≤ g3 + 1; omega) _).setCell (p := ⟨g3 + 1, 1, none⟩) (by show w.heap.size ≤ g3 + 1; omega) _).setCell (p := ⟨g3 + 1, 2, none⟩) (by show w.heap.size ≤ g3 + 1; omega) _
/-- What the walk of a leaf answers. -/
def WalkPost (lf : PeakV) (a : Nat) (ss : List PeakV) (n : Nat) (e : Ending) : Prop := (∃ q l, walkTo lf a ss n = some (q, l) ∧ e = .returned (.tuple #[peakVal q, .int .i64 l, .bool true])) ∨ (walkTo lf a ss n = none ∧ ∃ q, e = .returned (.tuple #[peakVal q, .int .i64 0, .bool false]))

set_option linter.unusedSimpArgs false in
set_option maxHeartbeats 8000000 in
set_option maxRecDepth 100000 in
theorem specL5Walk (h : HeadV) (a : Nat) (g n cap : Nat) (ss : List PeakV) (w : World) (hok : headOkB h = true) (ha : a ≤ 20) (hA : AtP w g ss) (hn : n = ss.length) (hm : n ≤ 8) (hz : ∀ i, i < n → (ss.getD i default).sum.size ≤ maxLen) :
    Calls Tryz.prog 47 #[peakVal (leafP h), .int .i64 (a : Int), .slice (some ⟨g, 0, none⟩) n cap] w fun e w' => WalkPost (leafP h) a ss n e ∧ Below w.heap.size w w' := by
  have HA : Hid (AtP w g ss) := hA
  have HN : Hid (n = ss.length) := hn
  have HZ : Hid (∀ i, i < n → (ss.getD i default).sum.size ≤ maxLen) := hz
  have HF0 : Hid (Fine (leafP h) 0 0) := fine_leaf hok
  have HW0 : Hid (walkTo (leafP h) a ss 0 = some (leafP h, 0)) := rfl
  have HS : Hid (∀ i q l, walkTo (leafP h) a ss i = some (q, l) → (peakOkB (ss.getD i default) && decide ((ss.getD i default).count = q.count)) = false → i < n → walkTo (leafP h) a ss n = none) := fun i q l h1 h2 h3 => by
    rw [HN.out]
    exact walk_bad h1 h2 (by rw [← HN.out]; exact h3)
  have HL : Hid (∀ i q l, walkTo (leafP h) a ss i = some (q, l) → (peakOkB (ss.getD i default) && decide ((ss.getD i default).count = q.count)) = true → a / 2 ^ i % 2 = 1 → walkTo (leafP h) a ss (i + 1) = some (bothP (ss.getD i default) q, l + (ss.getD i default).work)) := fun i q l h1 h2 h3 => walk_left h1 h2 h3
  have HR : Hid (∀ i q l, walkTo (leafP h) a ss i = some (q, l) → (peakOkB (ss.getD i default) && decide ((ss.getD i default).count = q.count)) = true → ¬ a / 2 ^ i % 2 = 1 → walkTo (leafP h) a ss (i + 1) = some (bothP q (ss.getD i default), l)) := fun i q l h1 h2 h3 => walk_right h1 h2 h3
  clear hok hA hn hz
  generalize leafP h = lf at HF0 HW0 HS HL HR ⊢
  have CW0 : Hid (WalkW w ((w.alloc (.cells #[.string lf.sum, .int .i64 lf.work, .int .i64 lf.count] 80)).alloc (.cells #[.string ⟨#[]⟩, .int .i64 0, .int .i64 0] 80)) w.heap.size lf) := by
    refine ⟨(CBk.new w _ _).alloc _, ?_, Nat.le_refl _, ((Below.refl _ w).alloc (Nat.le_refl _) _).alloc (by simp) _⟩
    have := CBk.new (w.alloc (.cells #[.string lf.sum, .int .i64 lf.work, .int .i64 lf.count] 80)) 80 #[.string ⟨#[]⟩, .int .i64 0, .int .i64 0]
    rwa [show (w.alloc (.cells #[.string lf.sum, .int .i64 lf.work, .int .i64 lf.count] 80)).heap.size = w.heap.size + 1 from by simp] at this
  have HPQ : Hid (∀ e, ((∃ q l, walkTo lf a ss n = some (q, l) ∧ e = .returned (.tuple #[.agg #[.string q.sum, .int .i64 q.work, .int .i64 q.count], .int .i64 l, .bool true])) ∨ (walkTo lf a ss n = none ∧ ∃ q : PeakV, e = .returned (.tuple #[.agg #[.string q.sum, .int .i64 q.work, .int .i64 q.count], .int .i64 0, .bool false]))) → WalkPost lf a ss n e) := fun e he => he
  show Calls _ _ _ _ fun e w' => ((∃ q l, walkTo lf a ss n = some (q, l) ∧ e = .returned (.tuple #[.agg #[.string q.sum, .int .i64 q.work, .int .i64 q.count], .int .i64 l, .bool true])) ∨ (walkTo lf a ss n = none ∧ ∃ q : PeakV, e = .returned (.tuple #[.agg #[.string q.sum, .int .i64 q.work, .int .i64 q.count], .int .i64 0, .bool false]))) ∧ Below w.heap.size w w'
  clear HPQ
  unfold peakVal
  go_enter Tryz.func47, Tryz.ntmps47
  go_wp2_with fail
  generalize (w.alloc (.cells #[.string lf.sum, .int .i64 lf.work, .int .i64 lf.count] 80)).alloc (.cells #[.string ⟨#[]⟩, .int .i64 0, .int .i64 0] 80) = W0 at CW0 ⊢
  obtain ⟨g3, hg3⟩ : ∃ g3, g3 = w.heap.size := ⟨_, rfl⟩
  rw [← hg3] at CW0 ⊢
  clear hg3
  go_loopw [1, 9, 10] (fun av l i wr => ∃ (k : Nat) (q : PeakV) (lv : Int), k ≤ n ∧ i = .int .i64 (k : Int) ∧ av = .int .i64 ((a / 2 ^ k : Nat) : Int) ∧ l = .int .i64 lv ∧ Hid (WalkW w wr g3 q) ∧ Hid (walkTo lf a ss k = some (q, lv)) ∧ Hid (Fine q lv k)) (fun _ _ i _ => n - (intOf i).toNat)
  case atStart => exact ⟨0, lf, 0, by omega, rfl, by rw [Nat.pow_zero, Nat.div_one], rfl, CW0, HW0, HF0⟩
  case round =>
    clear CW0 HF0 HW0
    obtain ⟨k, q, lv, hk, rfl, rfl, rfl, CR, HWk, HFk⟩ := hrel
    by_cases hlt : k < n
    · have hkl : k < ss.length := by rw [← HN.out]; exact hlt
      have HAr : Hid (AtP wr g ss) := HA.out.below CR.out.b HA.out.1
      have q0 := AtP.c0 HAr.out k hkl
      have q1 := AtP.c1 HAr.out k hkl
      have q2 := AtP.c2 HAr.out k hkl
      have hgl : g < wr.heap.size := HAr.out.1
      have lk : (k : Int) < (n : Int) := by omega
      have lk0 : (0 : Int) ≤ (k : Int) := by omega
      have wk : IntKind.i64.wrap ((k : Int) + 1) = (k : Int) + 1 := by rw [IntKind.wrap_i64]; omega
      have HK1 : Hid (k + 1 ≤ n) := hlt
      have hbd : Below wr.heap.size wr wr.drew := (Below.refl _ _).drew
      have HX1 : Hid ((peakOkB (ss.getD k default) && decide ((ss.getD k default).count = q.count)) = false → walkTo lf a ss n = none) := fun hf => HS.out k q lv HWk.out hf hlt
      have HX2 : Hid _ := HL.out k q lv HWk.out
      have HX3 : Hid _ := HR.out k q lv HWk.out
      have hzk := HZ.out k hlt
      have HDV : Hid (a / 2 ^ (k + 1) = a / 2 ^ k / 2) := by show _ = _; rw [Nat.pow_succ, Nat.div_div_eq_div_mul]
      clear HWk hkl HAr
      generalize ss.getD k default = s at q0 q1 q2 HX1 HX2 HX3 hzk
      have hpo := fun w' => specPeakOk s w' hzk
      generalize hav : a / 2 ^ k = av at HX2 HX3 HDV ⊢
      have hava : av ≤ 20 := by rw [← hav]; exact Nat.le_trans (Nat.div_le_self _ _) ha
      clear hav
      have hheld : ∀ w' : World, Below wr.heap.size wr w' → (fun w' => (w'.cell? ⟨g, k * 3, none⟩ = some (.string s.sum) ∧ w'.cell? ⟨g, k * 3 + 1, none⟩ = some (.int .i64 s.work) ∧ w'.cell? ⟨g, k * 3 + 2, none⟩ = some (.int .i64 s.count)) ∧ (w'.cell? ⟨g3, 0, none⟩ = some (.string q.sum) ∧ w'.cell? ⟨g3, 1, none⟩ = some (.int .i64 q.work) ∧ w'.cell? ⟨g3, 2, none⟩ = some (.int .i64 q.count))) w' := fun w' hb => ⟨⟨(hb.cell hgl).trans q0, (hb.cell hgl).trans q1, (hb.cell hgl).trans q2⟩, ((CR.out.p.call hb).cells3)⟩
      cases hso : peakOkB s with
      | false =>
        have HV : Hid (walkTo lf a ss n = none) := HX1.out (by rw [hso]; rfl)
        rw [hso] at hpo
        clear HX1 HX2 HX3 HS HL HR hso
        go_wp2_with fail
        refine wp_region_noPanic ?_
        refine wp_region_held_drew (S := fun w' => (w'.cell? ⟨g, k * 3, none⟩ = some (.string s.sum) ∧ w'.cell? ⟨g, k * 3 + 1, none⟩ = some (.int .i64 s.work) ∧ w'.cell? ⟨g, k * 3 + 2, none⟩ = some (.int .i64 s.count)) ∧ (w'.cell? ⟨g3, 0, none⟩ = some (.string q.sum) ∧ w'.cell? ⟨g3, 1, none⟩ = some (.int .i64 q.work) ∧ w'.cell? ⟨g3, 2, none⟩ = some (.int .i64 q.count))) (by kernel_rfl) (hheld _ hbd) (fun hHeld => ?_)
        refine takeL 0 (v := ?_) rfl (by kernel_rfl) (by kernel_rfl) (by kernel_rfl) (fun _ _ _ h => h) (by kernel_rfl) ?_ (by assumption) ?_
        rotate_left
        · intro w hSw; (try dsimp only at hSw); first | (go_simp; done) | (go_simp; with_reducible rfl)
        try simp only [Act.put, List.setIfInBounds_toArray, List.set_cons_zero, List.set_cons_succ]
        refine takeL 1 (v := ?_) rfl (by kernel_rfl) (by kernel_rfl) (by kernel_rfl) (fun _ _ _ h => h) (by kernel_rfl) ?_ (by assumption) ?_
        rotate_left
        · intro w hSw; (try dsimp only at hSw); first | (go_simp; done) | (go_simp; with_reducible rfl)
        try simp only [Act.put, List.setIfInBounds_toArray, List.set_cons_zero, List.set_cons_succ]
        refine takeL 2 (v := ?_) rfl (by kernel_rfl) (by kernel_rfl) (by kernel_rfl) (fun _ _ _ h => h) (by kernel_rfl) ?_ (by assumption) ?_
        rotate_left
        · intro w hSw; (try dsimp only at hSw); first | (go_simp; done) | (go_simp; with_reducible rfl)
        try simp only [Act.put, List.setIfInBounds_toArray, List.set_cons_zero, List.set_cons_succ]
        refine takeL 3 (v := ?_) rfl (by kernel_rfl) (by kernel_rfl) (by kernel_rfl) (fun _ _ _ h => h) (by kernel_rfl) ?_ (by assumption) ?_
        rotate_left
        · intro w hSw; (try dsimp only at hSw); first | (go_simp; done) | (go_simp; with_reducible rfl)
        try simp only [Act.put, List.setIfInBounds_toArray, List.set_cons_zero, List.set_cons_succ]
        refine callL 4 rfl (by kernel_rfl) (fun K hK => ?_)
        go_simp
        refine (hpo _).mono ?_
        rintro e w4 ⟨rfl, b4⟩
        have B4 : Hid (Below wr.heap.size wr w4) := hbd.trans b4
        have HH4 := hheld _ B4.out
        clear b4
        go_wp2_with fail
        refine hK.out _ _ ?_ (fun hHeld => ?_)
        · exact HH4
        clear hK K
        try simp only [Act.put, List.setIfInBounds_toArray, List.set_cons_zero, List.set_cons_succ]
        refine takeL 5 (v := ?_) rfl (by kernel_rfl) (by kernel_rfl) (by kernel_rfl) (fun _ _ _ h => h) (by kernel_rfl) ?_ (by assumption) ?_
        rotate_left
        · intro w hSw; (try dsimp only at hSw); first | (go_simp; done) | (go_simp; with_reducible rfl)
        try simp only [Act.put, List.setIfInBounds_toArray, List.set_cons_zero, List.set_cons_succ]
        refine takeL 6 (v := ?_) rfl (by kernel_rfl) (by kernel_rfl) (by kernel_rfl) (fun _ _ _ h => h) (by kernel_rfl) ?_ (by assumption) ?_
        rotate_left
        · intro w hSw; (try dsimp only at hSw); first | (go_simp; done) | (go_simp; with_reducible rfl)
        try simp only [Act.put, List.setIfInBounds_toArray, List.set_cons_zero, List.set_cons_succ]
        refine skipL 7 rfl (by kernel_rfl) (by kernel_rfl) (by kernel_rfl) (fun _ _ _ h => h) (by kernel_rfl) (by assumption) ?_
        try simp only [Act.put, List.setIfInBounds_toArray, List.set_cons_zero, List.set_cons_succ]
        refine skipL 8 rfl (by kernel_rfl) (by kernel_rfl) (by kernel_rfl) (fun _ _ _ h => h) (by kernel_rfl) (by assumption) ?_
        try simp only [Act.put, List.setIfInBounds_toArray, List.set_cons_zero, List.set_cons_succ]
        refine skipL 9 rfl (by kernel_rfl) (by kernel_rfl) (by kernel_rfl) (fun _ _ _ h => h) (by kernel_rfl) (by assumption) ?_
        try simp only [Act.put, List.setIfInBounds_toArray, List.set_cons_zero, List.set_cons_succ]
        refine skipL 10 rfl (by kernel_rfl) (by kernel_rfl) (by kernel_rfl) (fun _ _ _ h => h) (by kernel_rfl) (by assumption) ?_
        try simp only [Act.put, List.setIfInBounds_toArray, List.set_cons_zero, List.set_cons_succ]
        refine skipL 11 rfl (by kernel_rfl) (by kernel_rfl) (by kernel_rfl) (fun _ _ _ h => h) (by kernel_rfl) (by assumption) ?_
        try simp only [Act.put, List.setIfInBounds_toArray, List.set_cons_zero, List.set_cons_succ]
        refine skipL 12 rfl (by kernel_rfl) (by kernel_rfl) (by kernel_rfl) (fun _ _ _ h => h) (by kernel_rfl) (by assumption) ?_
        try simp only [Act.put, List.setIfInBounds_toArray, List.set_cons_zero, List.set_cons_succ]
        refine skipL 13 rfl (by kernel_rfl) (by kernel_rfl) (by kernel_rfl) (fun _ _ _ h => h) (by kernel_rfl) (by assumption) ?_
        try simp only [Act.put, List.setIfInBounds_toArray, List.set_cons_zero, List.set_cons_succ]
        refine skipL 14 rfl (by kernel_rfl) (by kernel_rfl) (by kernel_rfl) (fun _ _ _ h => h) (by kernel_rfl) (by assumption) ?_
        try simp only [Act.put, List.setIfInBounds_toArray, List.set_cons_zero, List.set_cons_succ]
        refine takeL 15 (v := ?_) rfl (by kernel_rfl) (by kernel_rfl) (by kernel_rfl) (fun _ _ _ h => h) (by kernel_rfl) ?_ (by assumption) ?_
        rotate_left
        · intro w hSw; (try dsimp only at hSw); first | (go_simp; done) | (go_simp; with_reducible rfl)
        try simp only [Act.put, List.setIfInBounds_toArray, List.set_cons_zero, List.set_cons_succ]
        refine wpAnyH_done (by kernel_rfl) ?_ _
        refine NoPanic.normal ?_
        have CR4 : Hid (WalkW w w4 g3 q) := CR.out.call B4.out
        clear hheld HH4 q0 q1 q2
        obtain ⟨d0, d1, d2⟩ := CR4.out.p.cells3
        obtain ⟨r0, r1, r2⟩ := CR4.out.r.cells3
        obtain ⟨f0, f1, f2⟩ := CR4.out.r.free3
        have T3 : Hid (CBk (((w4.setCell ⟨g3 + 1, 0, none⟩ (.string q.sum)).setCell ⟨g3 + 1, 1, none⟩ (.int .i64 q.work)).setCell ⟨g3 + 1, 2, none⟩ (.int .i64 q.count)) (g3 + 1) 80 #[.string q.sum, .int .i64 q.work, .int .i64 q.count]) := CR4.out.r.set3
        have LF := CR4.out.back q
        have LF : Hid _ := LF
        go_wp2_with fail
        exact bodyPost_ret (results_row_tmp2 (p := 6) (u := 7) (v := 8) rfl _ _ (g3 + 1) 80 #[.string q.sum, .int .i64 q.work, .int .i64 q.count] (0, 0) _ rfl T3.out Tryz.underlying80 rfl (by kernel_rfl)) rfl ⟨.inr ⟨HV.out, q, rfl⟩, LF.out⟩
      | true =>
        rw [hso] at hpo
        by_cases hcq : s.count = q.count
        · have hb1 : (peakOkB s && decide (s.count = q.count)) = true := by rw [hso, decide_eq_true hcq]; rfl
          have hfl := fine_lt HFk.out hb1
          have hfi := peakOk_in hfl.1
          have HX2 := HX2.out hb1
          have HX3 := HX3.out hb1
          have hcn : (s.count != q.count) = false := by simpa using hcq
          have hw3 : IntKind.i64.wrap (lv + s.work) = lv + s.work := by
            have h1 := HFk.out.l0
            have h2 := HFk.out.l1
            have h3 := peakOk_in hfl.2.2.1
            rw [IntKind.wrap_i64]; omega
          have HF1a : Hid (Fine (bothP s q) (lv + s.work) (k + 1)) := fine_left HFk.out hb1
          have HF2a : Hid (Fine (bothP q s) lv (k + 1)) := fine_right HFk.out hb1
          have HOKS : Hid (peakOkB s = true ∧ peakOkB q = true) := ⟨hfl.1, hfl.2.2.1⟩
          have HQ0 : Hid (s.count = q.count) := hcq
          clear HX1 hso hb1 hfl hfi HFk hcq
          by_cases hbv : av % 2 = 1
          · have HXW : Hid (walkTo lf a ss (k + 1) = some (bothP s q, lv + s.work)) := HX2 hbv
            have hbi : (((av : Nat) : Int) % 2 == 1) = true := by simp; omega
            have hbt : Int.tmod ((av : Nat) : Int) 2 = 1 := by show ((av % 2 : Nat) : Int) = 1; omega
            have hdt : Int.tdiv ((av : Nat) : Int) 2 = ((av / 2 : Nat) : Int) := rfl
            have hwd : IntKind.i64.wrap ((av / 2 : Nat) : Int) = ((av / 2 : Nat) : Int) := by rw [IntKind.wrap_i64]; omega
            clear HX2 HX3 HF2a
            go_wp2_with fail
            refine wp_region_noPanic ?_
            refine wp_region_held_drew (S := fun w' => (w'.cell? ⟨g, k * 3, none⟩ = some (.string s.sum) ∧ w'.cell? ⟨g, k * 3 + 1, none⟩ = some (.int .i64 s.work) ∧ w'.cell? ⟨g, k * 3 + 2, none⟩ = some (.int .i64 s.count)) ∧ (w'.cell? ⟨g3, 0, none⟩ = some (.string q.sum) ∧ w'.cell? ⟨g3, 1, none⟩ = some (.int .i64 q.work) ∧ w'.cell? ⟨g3, 2, none⟩ = some (.int .i64 q.count))) (by kernel_rfl) (hheld _ hbd) (fun hHeld => ?_)
            refine takeL 0 (v := ?_) rfl (by kernel_rfl) (by kernel_rfl) (by kernel_rfl) (fun _ _ _ h => h) (by kernel_rfl) ?_ (by assumption) ?_
            rotate_left
            · intro w hSw; (try dsimp only at hSw); first | (go_simp; done) | (go_simp; with_reducible rfl)
            try simp only [Act.put, List.setIfInBounds_toArray, List.set_cons_zero, List.set_cons_succ]
            refine takeL 1 (v := ?_) rfl (by kernel_rfl) (by kernel_rfl) (by kernel_rfl) (fun _ _ _ h => h) (by kernel_rfl) ?_ (by assumption) ?_
            rotate_left
            · intro w hSw; (try dsimp only at hSw); first | (go_simp; done) | (go_simp; with_reducible rfl)
            try simp only [Act.put, List.setIfInBounds_toArray, List.set_cons_zero, List.set_cons_succ]
            refine takeL 2 (v := ?_) rfl (by kernel_rfl) (by kernel_rfl) (by kernel_rfl) (fun _ _ _ h => h) (by kernel_rfl) ?_ (by assumption) ?_
            rotate_left
            · intro w hSw; (try dsimp only at hSw); first | (go_simp; done) | (go_simp; with_reducible rfl)
            try simp only [Act.put, List.setIfInBounds_toArray, List.set_cons_zero, List.set_cons_succ]
            refine takeL 3 (v := ?_) rfl (by kernel_rfl) (by kernel_rfl) (by kernel_rfl) (fun _ _ _ h => h) (by kernel_rfl) ?_ (by assumption) ?_
            rotate_left
            · intro w hSw; (try dsimp only at hSw); first | (go_simp; done) | (go_simp; with_reducible rfl)
            try simp only [Act.put, List.setIfInBounds_toArray, List.set_cons_zero, List.set_cons_succ]
            refine callL 4 rfl (by kernel_rfl) (fun K hK => ?_)
            go_simp
            refine (hpo _).mono ?_
            rintro e w4 ⟨rfl, b4⟩
            have B4 : Hid (Below wr.heap.size wr w4) := hbd.trans b4
            have HH4 := hheld _ B4.out
            clear b4
            go_wp2_with fail
            refine hK.out _ _ ?_ (fun hHeld => ?_)
            · exact HH4
            clear hK K
            try simp only [Act.put, List.setIfInBounds_toArray, List.set_cons_zero, List.set_cons_succ]
            refine takeL 5 (v := ?_) rfl (by kernel_rfl) (by kernel_rfl) (by kernel_rfl) (fun _ _ _ h => h) (by kernel_rfl) ?_ (by assumption) ?_
            rotate_left
            · intro w hSw; (try dsimp only at hSw); first | (go_simp; done) | (go_simp; with_reducible rfl)
            try simp only [Act.put, List.setIfInBounds_toArray, List.set_cons_zero, List.set_cons_succ]
            refine takeL 6 (v := ?_) rfl (by kernel_rfl) (by kernel_rfl) (by kernel_rfl) (fun _ _ _ h => h) (by kernel_rfl) ?_ (by assumption) ?_
            rotate_left
            · intro w hSw; (try dsimp only at hSw); first | (go_simp; done) | (go_simp; with_reducible rfl)
            try simp only [Act.put, List.setIfInBounds_toArray, List.set_cons_zero, List.set_cons_succ]
            refine takeL 7 (v := ?_) rfl (by kernel_rfl) (by kernel_rfl) (by kernel_rfl) (fun _ _ _ h => h) (by kernel_rfl) ?_ (by assumption) ?_
            rotate_left
            · intro w hSw; (try dsimp only at hSw); first | (go_simp; done) | (go_simp; with_reducible rfl)
            try simp only [Act.put, List.setIfInBounds_toArray, List.set_cons_zero, List.set_cons_succ]
            refine takeL 8 (v := ?_) rfl (by kernel_rfl) (by kernel_rfl) (by kernel_rfl) (fun _ _ _ h => h) (by kernel_rfl) ?_ (by assumption) ?_
            rotate_left
            · intro w hSw; (try dsimp only at hSw); first | (go_simp; done) | (go_simp; with_reducible rfl)
            try simp only [Act.put, List.setIfInBounds_toArray, List.set_cons_zero, List.set_cons_succ]
            refine takeL 9 (v := ?_) rfl (by kernel_rfl) (by kernel_rfl) (by kernel_rfl) (fun _ _ _ h => h) (by kernel_rfl) ?_ (by assumption) ?_
            rotate_left
            · intro w hSw; (try dsimp only at hSw); first | (go_simp; done) | (go_simp; with_reducible rfl)
            try simp only [Act.put, List.setIfInBounds_toArray, List.set_cons_zero, List.set_cons_succ]
            refine takeL 10 (v := ?_) rfl (by kernel_rfl) (by kernel_rfl) (by kernel_rfl) (fun _ _ _ h => h) (by kernel_rfl) ?_ (by assumption) ?_
            rotate_left
            · intro w hSw; (try dsimp only at hSw); first | (go_simp; done) | (go_simp; with_reducible rfl)
            try simp only [Act.put, List.setIfInBounds_toArray, List.set_cons_zero, List.set_cons_succ]
            refine takeL 11 (v := ?_) rfl (by kernel_rfl) (by kernel_rfl) (by kernel_rfl) (fun _ _ _ h => h) (by kernel_rfl) ?_ (by assumption) ?_
            rotate_left
            · intro w hSw; (try dsimp only at hSw); first | (go_simp; done) | (go_simp; with_reducible rfl)
            try simp only [Act.put, List.setIfInBounds_toArray, List.set_cons_zero, List.set_cons_succ]
            refine takeL 12 (v := ?_) rfl (by kernel_rfl) (by kernel_rfl) (by kernel_rfl) (fun _ _ _ h => h) (by kernel_rfl) ?_ (by assumption) ?_
            rotate_left
            · intro w hSw; (try dsimp only at hSw); first | (go_simp; done) | (go_simp; with_reducible rfl)
            try simp only [Act.put, List.setIfInBounds_toArray, List.set_cons_zero, List.set_cons_succ]
            refine takeL 13 (v := ?_) rfl (by kernel_rfl) (by kernel_rfl) (by kernel_rfl) (fun _ _ _ h => h) (by kernel_rfl) ?_ (by assumption) ?_
            rotate_left
            · intro w hSw; (try dsimp only at hSw); first | (go_simp; done) | (go_simp; with_reducible rfl)
            try simp only [Act.put, List.setIfInBounds_toArray, List.set_cons_zero, List.set_cons_succ]
            refine takeL 14 (v := ?_) rfl (by kernel_rfl) (by kernel_rfl) (by kernel_rfl) (fun _ _ _ h => h) (by kernel_rfl) ?_ (by assumption) ?_
            rotate_left
            · intro w hSw; (try dsimp only at hSw); first | (go_simp; done) | (go_simp; with_reducible rfl)
            try simp only [Act.put, List.setIfInBounds_toArray, List.set_cons_zero, List.set_cons_succ]
            refine takeL 15 (v := ?_) rfl (by kernel_rfl) (by kernel_rfl) (by kernel_rfl) (fun _ _ _ h => h) (by kernel_rfl) ?_ (by assumption) ?_
            rotate_left
            · intro w hSw; (try dsimp only at hSw); first | (go_simp; done) | (go_simp; with_reducible rfl)
            try simp only [Act.put, List.setIfInBounds_toArray, List.set_cons_zero, List.set_cons_succ]
            refine wpAnyH_done (by kernel_rfl) ?_ _
            refine NoPanic.normal ?_
            go_wp2_with fail
            have CR4 : Hid (WalkW w w4 g3 q) := CR.out.call B4.out
            obtain ⟨q0, q1, q2⟩ := HH4.1
            obtain ⟨d0, d1, d2⟩ := HH4.2
            have CR5 : Hid (WalkW w w4.drew g3 q) := CR4.out.call (Below.refl _ _).drew
            have hp1 := fun (w' : World) => specL5Both s q w' HOKS.out.1 HOKS.out.2
            unfold peakVal at hp1
            clear HH4 hheld
            go_region_with (go_at_call 63; refine (hp1 _).mono ?_; rintro e w5 ⟨rfl, b5⟩; have CR6 : Hid (WalkW w w5 g3 q) := CR5.out.call b5; obtain ⟨m0, m1, m2⟩ := CR6.out.p.cells3; obtain ⟨f0, f1, f2⟩ := CR6.out.p.free3)
            all_goals
              have CR7 : Hid _ := CR6.out.store (bothP s q)
              have HF1 := HF1a
              generalize bothP s q = nq at CR7 HF1 HXW
              clear CR6 CR5 CR4 b5 m0 m1 m2 f0 f1 f2
              go_wp2_with fail
              go_roundw
              case rel => exact ⟨k + 1, nq, lv + s.work, HK1.out, by go_num, by rw [HDV.out]; exact congrArg (Value.int .i64) (by omega), rfl, CR7, HXW, HF1⟩
              case measure => have := HK1.out; simp [intOf]; omega
          · have HXW : Hid (walkTo lf a ss (k + 1) = some (bothP q s, lv)) := HX3 hbv
            have hbi : (((av : Nat) : Int) % 2 == 1) = false := by simp; omega
            have hbt : ¬ Int.tmod ((av : Nat) : Int) 2 = 1 := by show ¬ ((av % 2 : Nat) : Int) = 1; omega
            have hdt : Int.tdiv ((av : Nat) : Int) 2 = ((av / 2 : Nat) : Int) := rfl
            have hwd : IntKind.i64.wrap ((av / 2 : Nat) : Int) = ((av / 2 : Nat) : Int) := by rw [IntKind.wrap_i64]; omega
            clear HX2 HX3 HF1a hw3
            go_wp2_with fail
            refine wp_region_noPanic ?_
            refine wp_region_held_drew (S := fun w' => (w'.cell? ⟨g, k * 3, none⟩ = some (.string s.sum) ∧ w'.cell? ⟨g, k * 3 + 1, none⟩ = some (.int .i64 s.work) ∧ w'.cell? ⟨g, k * 3 + 2, none⟩ = some (.int .i64 s.count)) ∧ (w'.cell? ⟨g3, 0, none⟩ = some (.string q.sum) ∧ w'.cell? ⟨g3, 1, none⟩ = some (.int .i64 q.work) ∧ w'.cell? ⟨g3, 2, none⟩ = some (.int .i64 q.count))) (by kernel_rfl) (hheld _ hbd) (fun hHeld => ?_)
            refine takeL 0 (v := ?_) rfl (by kernel_rfl) (by kernel_rfl) (by kernel_rfl) (fun _ _ _ h => h) (by kernel_rfl) ?_ (by assumption) ?_
            rotate_left
            · intro w hSw; (try dsimp only at hSw); first | (go_simp; done) | (go_simp; with_reducible rfl)
            try simp only [Act.put, List.setIfInBounds_toArray, List.set_cons_zero, List.set_cons_succ]
            refine takeL 1 (v := ?_) rfl (by kernel_rfl) (by kernel_rfl) (by kernel_rfl) (fun _ _ _ h => h) (by kernel_rfl) ?_ (by assumption) ?_
            rotate_left
            · intro w hSw; (try dsimp only at hSw); first | (go_simp; done) | (go_simp; with_reducible rfl)
            try simp only [Act.put, List.setIfInBounds_toArray, List.set_cons_zero, List.set_cons_succ]
            refine takeL 2 (v := ?_) rfl (by kernel_rfl) (by kernel_rfl) (by kernel_rfl) (fun _ _ _ h => h) (by kernel_rfl) ?_ (by assumption) ?_
            rotate_left
            · intro w hSw; (try dsimp only at hSw); first | (go_simp; done) | (go_simp; with_reducible rfl)
            try simp only [Act.put, List.setIfInBounds_toArray, List.set_cons_zero, List.set_cons_succ]
            refine takeL 3 (v := ?_) rfl (by kernel_rfl) (by kernel_rfl) (by kernel_rfl) (fun _ _ _ h => h) (by kernel_rfl) ?_ (by assumption) ?_
            rotate_left
            · intro w hSw; (try dsimp only at hSw); first | (go_simp; done) | (go_simp; with_reducible rfl)
            try simp only [Act.put, List.setIfInBounds_toArray, List.set_cons_zero, List.set_cons_succ]
            refine callL 4 rfl (by kernel_rfl) (fun K hK => ?_)
            go_simp
            refine (hpo _).mono ?_
            rintro e w4 ⟨rfl, b4⟩
            have B4 : Hid (Below wr.heap.size wr w4) := hbd.trans b4
            have HH4 := hheld _ B4.out
            clear b4
            go_wp2_with fail
            refine hK.out _ _ ?_ (fun hHeld => ?_)
            · exact HH4
            clear hK K
            try simp only [Act.put, List.setIfInBounds_toArray, List.set_cons_zero, List.set_cons_succ]
            refine takeL 5 (v := ?_) rfl (by kernel_rfl) (by kernel_rfl) (by kernel_rfl) (fun _ _ _ h => h) (by kernel_rfl) ?_ (by assumption) ?_
            rotate_left
            · intro w hSw; (try dsimp only at hSw); first | (go_simp; done) | (go_simp; with_reducible rfl)
            try simp only [Act.put, List.setIfInBounds_toArray, List.set_cons_zero, List.set_cons_succ]
            refine takeL 6 (v := ?_) rfl (by kernel_rfl) (by kernel_rfl) (by kernel_rfl) (fun _ _ _ h => h) (by kernel_rfl) ?_ (by assumption) ?_
            rotate_left
            · intro w hSw; (try dsimp only at hSw); first | (go_simp; done) | (go_simp; with_reducible rfl)
            try simp only [Act.put, List.setIfInBounds_toArray, List.set_cons_zero, List.set_cons_succ]
            refine takeL 7 (v := ?_) rfl (by kernel_rfl) (by kernel_rfl) (by kernel_rfl) (fun _ _ _ h => h) (by kernel_rfl) ?_ (by assumption) ?_
            rotate_left
            · intro w hSw; (try dsimp only at hSw); first | (go_simp; done) | (go_simp; with_reducible rfl)
            try simp only [Act.put, List.setIfInBounds_toArray, List.set_cons_zero, List.set_cons_succ]
            refine takeL 8 (v := ?_) rfl (by kernel_rfl) (by kernel_rfl) (by kernel_rfl) (fun _ _ _ h => h) (by kernel_rfl) ?_ (by assumption) ?_
            rotate_left
            · intro w hSw; (try dsimp only at hSw); first | (go_simp; done) | (go_simp; with_reducible rfl)
            try simp only [Act.put, List.setIfInBounds_toArray, List.set_cons_zero, List.set_cons_succ]
            refine takeL 9 (v := ?_) rfl (by kernel_rfl) (by kernel_rfl) (by kernel_rfl) (fun _ _ _ h => h) (by kernel_rfl) ?_ (by assumption) ?_
            rotate_left
            · intro w hSw; (try dsimp only at hSw); first | (go_simp; done) | (go_simp; with_reducible rfl)
            try simp only [Act.put, List.setIfInBounds_toArray, List.set_cons_zero, List.set_cons_succ]
            refine takeL 10 (v := ?_) rfl (by kernel_rfl) (by kernel_rfl) (by kernel_rfl) (fun _ _ _ h => h) (by kernel_rfl) ?_ (by assumption) ?_
            rotate_left
            · intro w hSw; (try dsimp only at hSw); first | (go_simp; done) | (go_simp; with_reducible rfl)
            try simp only [Act.put, List.setIfInBounds_toArray, List.set_cons_zero, List.set_cons_succ]
            refine takeL 11 (v := ?_) rfl (by kernel_rfl) (by kernel_rfl) (by kernel_rfl) (fun _ _ _ h => h) (by kernel_rfl) ?_ (by assumption) ?_
            rotate_left
            · intro w hSw; (try dsimp only at hSw); first | (go_simp; done) | (go_simp; with_reducible rfl)
            try simp only [Act.put, List.setIfInBounds_toArray, List.set_cons_zero, List.set_cons_succ]
            refine takeL 12 (v := ?_) rfl (by kernel_rfl) (by kernel_rfl) (by kernel_rfl) (fun _ _ _ h => h) (by kernel_rfl) ?_ (by assumption) ?_
            rotate_left
            · intro w hSw; (try dsimp only at hSw); first | (go_simp; done) | (go_simp; with_reducible rfl)
            try simp only [Act.put, List.setIfInBounds_toArray, List.set_cons_zero, List.set_cons_succ]
            refine takeL 13 (v := ?_) rfl (by kernel_rfl) (by kernel_rfl) (by kernel_rfl) (fun _ _ _ h => h) (by kernel_rfl) ?_ (by assumption) ?_
            rotate_left
            · intro w hSw; (try dsimp only at hSw); first | (go_simp; done) | (go_simp; with_reducible rfl)
            try simp only [Act.put, List.setIfInBounds_toArray, List.set_cons_zero, List.set_cons_succ]
            refine takeL 14 (v := ?_) rfl (by kernel_rfl) (by kernel_rfl) (by kernel_rfl) (fun _ _ _ h => h) (by kernel_rfl) ?_ (by assumption) ?_
            rotate_left
            · intro w hSw; (try dsimp only at hSw); first | (go_simp; done) | (go_simp; with_reducible rfl)
            try simp only [Act.put, List.setIfInBounds_toArray, List.set_cons_zero, List.set_cons_succ]
            refine takeL 15 (v := ?_) rfl (by kernel_rfl) (by kernel_rfl) (by kernel_rfl) (fun _ _ _ h => h) (by kernel_rfl) ?_ (by assumption) ?_
            rotate_left
            · intro w hSw; (try dsimp only at hSw); first | (go_simp; done) | (go_simp; with_reducible rfl)
            try simp only [Act.put, List.setIfInBounds_toArray, List.set_cons_zero, List.set_cons_succ]
            refine wpAnyH_done (by kernel_rfl) ?_ _
            refine NoPanic.normal ?_
            go_wp2_with fail
            have CR4 : Hid (WalkW w w4 g3 q) := CR.out.call B4.out
            obtain ⟨q0, q1, q2⟩ := HH4.1
            obtain ⟨d0, d1, d2⟩ := HH4.2
            have CR5 : Hid (WalkW w w4.drew g3 q) := CR4.out.call (Below.refl _ _).drew
            have hp1 := fun (w' : World) => specL5Both q s w' HOKS.out.2 HOKS.out.1
            unfold peakVal at hp1
            clear HH4 hheld
            go_region_with (go_at_call 63; refine (hp1 _).mono ?_; rintro e w5 ⟨rfl, b5⟩; have CR6 : Hid (WalkW w w5 g3 q) := CR5.out.call b5; obtain ⟨m0, m1, m2⟩ := CR6.out.p.cells3; obtain ⟨f0, f1, f2⟩ := CR6.out.p.free3)
            all_goals
              have CR7 : Hid _ := CR6.out.store (bothP q s)
              have HF1 := HF2a
              generalize bothP q s = nq at CR7 HF1 HXW
              clear CR6 CR5 CR4 b5 m0 m1 m2 f0 f1 f2
              go_wp2_with fail
              go_roundw
              case rel => exact ⟨k + 1, nq, lv, HK1.out, by go_num, by rw [HDV.out]; exact congrArg (Value.int .i64) (by omega), rfl, CR7, HXW, HF1⟩
              case measure => have := HK1.out; simp [intOf]; omega
        · have HV : Hid (walkTo lf a ss n = none) := HX1.out (by rw [hso, decide_eq_false hcq]; rfl)
          have hcn : (s.count != q.count) = true := by simpa using hcq
          clear HX1 HX2 HX3 HS HL HR hso
          go_wp2_with fail
          refine wp_region_noPanic ?_
          refine wp_region_held_drew (S := fun w' => (w'.cell? ⟨g, k * 3, none⟩ = some (.string s.sum) ∧ w'.cell? ⟨g, k * 3 + 1, none⟩ = some (.int .i64 s.work) ∧ w'.cell? ⟨g, k * 3 + 2, none⟩ = some (.int .i64 s.count)) ∧ (w'.cell? ⟨g3, 0, none⟩ = some (.string q.sum) ∧ w'.cell? ⟨g3, 1, none⟩ = some (.int .i64 q.work) ∧ w'.cell? ⟨g3, 2, none⟩ = some (.int .i64 q.count))) (by kernel_rfl) (hheld _ hbd) (fun hHeld => ?_)
          refine takeL 0 (v := ?_) rfl (by kernel_rfl) (by kernel_rfl) (by kernel_rfl) (fun _ _ _ h => h) (by kernel_rfl) ?_ (by assumption) ?_
          rotate_left
          · intro w hSw; (try dsimp only at hSw); first | (go_simp; done) | (go_simp; with_reducible rfl)
          try simp only [Act.put, List.setIfInBounds_toArray, List.set_cons_zero, List.set_cons_succ]
          refine takeL 1 (v := ?_) rfl (by kernel_rfl) (by kernel_rfl) (by kernel_rfl) (fun _ _ _ h => h) (by kernel_rfl) ?_ (by assumption) ?_
          rotate_left
          · intro w hSw; (try dsimp only at hSw); first | (go_simp; done) | (go_simp; with_reducible rfl)
          try simp only [Act.put, List.setIfInBounds_toArray, List.set_cons_zero, List.set_cons_succ]
          refine takeL 2 (v := ?_) rfl (by kernel_rfl) (by kernel_rfl) (by kernel_rfl) (fun _ _ _ h => h) (by kernel_rfl) ?_ (by assumption) ?_
          rotate_left
          · intro w hSw; (try dsimp only at hSw); first | (go_simp; done) | (go_simp; with_reducible rfl)
          try simp only [Act.put, List.setIfInBounds_toArray, List.set_cons_zero, List.set_cons_succ]
          refine takeL 3 (v := ?_) rfl (by kernel_rfl) (by kernel_rfl) (by kernel_rfl) (fun _ _ _ h => h) (by kernel_rfl) ?_ (by assumption) ?_
          rotate_left
          · intro w hSw; (try dsimp only at hSw); first | (go_simp; done) | (go_simp; with_reducible rfl)
          try simp only [Act.put, List.setIfInBounds_toArray, List.set_cons_zero, List.set_cons_succ]
          refine callL 4 rfl (by kernel_rfl) (fun K hK => ?_)
          go_simp
          refine (hpo _).mono ?_
          rintro e w4 ⟨rfl, b4⟩
          have B4 : Hid (Below wr.heap.size wr w4) := hbd.trans b4
          have HH4 := hheld _ B4.out
          clear b4
          go_wp2_with fail
          refine hK.out _ _ ?_ (fun hHeld => ?_)
          · exact HH4
          clear hK K
          try simp only [Act.put, List.setIfInBounds_toArray, List.set_cons_zero, List.set_cons_succ]
          refine takeL 5 (v := ?_) rfl (by kernel_rfl) (by kernel_rfl) (by kernel_rfl) (fun _ _ _ h => h) (by kernel_rfl) ?_ (by assumption) ?_
          rotate_left
          · intro w hSw; (try dsimp only at hSw); first | (go_simp; done) | (go_simp; with_reducible rfl)
          try simp only [Act.put, List.setIfInBounds_toArray, List.set_cons_zero, List.set_cons_succ]
          refine takeL 6 (v := ?_) rfl (by kernel_rfl) (by kernel_rfl) (by kernel_rfl) (fun _ _ _ h => h) (by kernel_rfl) ?_ (by assumption) ?_
          rotate_left
          · intro w hSw; (try dsimp only at hSw); first | (go_simp; done) | (go_simp; with_reducible rfl)
          try simp only [Act.put, List.setIfInBounds_toArray, List.set_cons_zero, List.set_cons_succ]
          refine takeL 7 (v := ?_) rfl (by kernel_rfl) (by kernel_rfl) (by kernel_rfl) (fun _ _ _ h => h) (by kernel_rfl) ?_ (by assumption) ?_
          rotate_left
          · intro w hSw; (try dsimp only at hSw); first | (go_simp; done) | (go_simp; with_reducible rfl)
          try simp only [Act.put, List.setIfInBounds_toArray, List.set_cons_zero, List.set_cons_succ]
          refine takeL 8 (v := ?_) rfl (by kernel_rfl) (by kernel_rfl) (by kernel_rfl) (fun _ _ _ h => h) (by kernel_rfl) ?_ (by assumption) ?_
          rotate_left
          · intro w hSw; (try dsimp only at hSw); first | (go_simp; done) | (go_simp; with_reducible rfl)
          try simp only [Act.put, List.setIfInBounds_toArray, List.set_cons_zero, List.set_cons_succ]
          refine takeL 9 (v := ?_) rfl (by kernel_rfl) (by kernel_rfl) (by kernel_rfl) (fun _ _ _ h => h) (by kernel_rfl) ?_ (by assumption) ?_
          rotate_left
          · intro w hSw; (try dsimp only at hSw); first | (go_simp; done) | (go_simp; with_reducible rfl)
          try simp only [Act.put, List.setIfInBounds_toArray, List.set_cons_zero, List.set_cons_succ]
          refine takeL 10 (v := ?_) rfl (by kernel_rfl) (by kernel_rfl) (by kernel_rfl) (fun _ _ _ h => h) (by kernel_rfl) ?_ (by assumption) ?_
          rotate_left
          · intro w hSw; (try dsimp only at hSw); first | (go_simp; done) | (go_simp; with_reducible rfl)
          try simp only [Act.put, List.setIfInBounds_toArray, List.set_cons_zero, List.set_cons_succ]
          refine takeL 11 (v := ?_) rfl (by kernel_rfl) (by kernel_rfl) (by kernel_rfl) (fun _ _ _ h => h) (by kernel_rfl) ?_ (by assumption) ?_
          rotate_left
          · intro w hSw; (try dsimp only at hSw); first | (go_simp; done) | (go_simp; with_reducible rfl)
          try simp only [Act.put, List.setIfInBounds_toArray, List.set_cons_zero, List.set_cons_succ]
          refine takeL 12 (v := ?_) rfl (by kernel_rfl) (by kernel_rfl) (by kernel_rfl) (fun _ _ _ h => h) (by kernel_rfl) ?_ (by assumption) ?_
          rotate_left
          · intro w hSw; (try dsimp only at hSw); first | (go_simp; done) | (go_simp; with_reducible rfl)
          try simp only [Act.put, List.setIfInBounds_toArray, List.set_cons_zero, List.set_cons_succ]
          refine takeL 13 (v := ?_) rfl (by kernel_rfl) (by kernel_rfl) (by kernel_rfl) (fun _ _ _ h => h) (by kernel_rfl) ?_ (by assumption) ?_
          rotate_left
          · intro w hSw; (try dsimp only at hSw); first | (go_simp; done) | (go_simp; with_reducible rfl)
          try simp only [Act.put, List.setIfInBounds_toArray, List.set_cons_zero, List.set_cons_succ]
          refine takeL 14 (v := ?_) rfl (by kernel_rfl) (by kernel_rfl) (by kernel_rfl) (fun _ _ _ h => h) (by kernel_rfl) ?_ (by assumption) ?_
          rotate_left
          · intro w hSw; (try dsimp only at hSw); first | (go_simp; done) | (go_simp; with_reducible rfl)
          try simp only [Act.put, List.setIfInBounds_toArray, List.set_cons_zero, List.set_cons_succ]
          refine takeL 15 (v := ?_) rfl (by kernel_rfl) (by kernel_rfl) (by kernel_rfl) (fun _ _ _ h => h) (by kernel_rfl) ?_ (by assumption) ?_
          rotate_left
          · intro w hSw; (try dsimp only at hSw); first | (go_simp; done) | (go_simp; with_reducible rfl)
          try simp only [Act.put, List.setIfInBounds_toArray, List.set_cons_zero, List.set_cons_succ]
          refine wpAnyH_done (by kernel_rfl) ?_ _
          refine NoPanic.normal ?_
          have CR4 : Hid (WalkW w w4 g3 q) := CR.out.call B4.out
          clear hheld HH4 q0 q1 q2
          obtain ⟨d0, d1, d2⟩ := CR4.out.p.cells3
          obtain ⟨r0, r1, r2⟩ := CR4.out.r.cells3
          obtain ⟨f0, f1, f2⟩ := CR4.out.r.free3
          have T3 : Hid (CBk (((w4.setCell ⟨g3 + 1, 0, none⟩ (.string q.sum)).setCell ⟨g3 + 1, 1, none⟩ (.int .i64 q.work)).setCell ⟨g3 + 1, 2, none⟩ (.int .i64 q.count)) (g3 + 1) 80 #[.string q.sum, .int .i64 q.work, .int .i64 q.count]) := CR4.out.r.set3
          have LF := CR4.out.back q
          have LF : Hid _ := LF
          go_wp2_with fail
          exact bodyPost_ret (results_row_tmp2 (p := 6) (u := 7) (v := 8) rfl _ _ (g3 + 1) 80 #[.string q.sum, .int .i64 q.work, .int .i64 q.count] (0, 0) _ rfl T3.out Tryz.underlying80 rfl (by kernel_rfl)) rfl ⟨.inr ⟨HV.out, q, rfl⟩, LF.out⟩
    · obtain rfl : k = n := by omega
      obtain ⟨d0, d1, d2⟩ := CR.out.p.cells3
      obtain ⟨r0, r1, r2⟩ := CR.out.r.cells3
      obtain ⟨f0, f1, f2⟩ := CR.out.r.free3
      have T3 : Hid (CBk (((wr.setCell ⟨g3 + 1, 0, none⟩ (.string q.sum)).setCell ⟨g3 + 1, 1, none⟩ (.int .i64 q.work)).setCell ⟨g3 + 1, 2, none⟩ (.int .i64 q.count)) (g3 + 1) 80 #[.string q.sum, .int .i64 q.work, .int .i64 q.count]) := CR.out.r.set3
      have LF : Hid _ := CR.out.back q
      clear HS HL HR HFk
      go_wp2_with fail
      exact bodyPost_ret (results_row_tmp2 (p := 6) (u := 7) (v := 8) rfl _ _ (g3 + 1) 80 #[.string q.sum, .int .i64 q.work, .int .i64 q.count] (0, 0) _ rfl T3.out Tryz.underlying80 rfl (by kernel_rfl)) rfl ⟨.inl ⟨q, lv, HWk.out, rfl⟩, LF.out⟩

end Go.Proofs.YtjeldedjhlicmaaGreatDoor

set_option linter.unusedVariables false
namespace Go.Proofs.YtjeldedjhlicmaaGreatDoor
open Go.RowKit Go.Deep

/-- What stands while a proof is looked at: the head, the proof. -/
structure ChkW (w wr : World) (g0 : Nat) (h : HeadV) (s : PrfV) : Prop where
  a : CBk wr g0 32 #[.string h.prev, .string h.root, .int .i64 h.time, .int .i64 h.diff, .int .i64 h.nonce]
  b : CBk wr (g0 + 1) 35 #[.slice (some ⟨s.g, 0, none⟩) s.n s.c, .slice (some ⟨s.sg, 0, none⟩) s.sn s.sc]
  l : Below w.heap.size w wr
  z : g0 + 2 ≤ wr.heap.size
  lo : w.heap.size ≤ g0
theorem ChkW.call {w wr w' : World} {g0 : Nat} {h : HeadV} {s : PrfV} (c : ChkW w wr g0 h s) (hb : Below wr.heap.size wr w') : ChkW w w' g0 h s :=
  ⟨c.a.call hb, c.b.call hb, c.l.trans (hb.mono c.l.size), Nat.le_trans c.z hb.size, c.lo⟩
theorem ChkW.new (w : World) (h : HeadV) (s : PrfV) : ChkW w ((w.alloc (.cells #[.string h.prev, .string h.root, .int .i64 h.time, .int .i64 h.diff, .int .i64 h.nonce] 32)).alloc (.cells #[.slice (some ⟨s.g, 0, none⟩) s.n s.c, .slice (some ⟨s.sg, 0, none⟩) s.sn s.sc] 35)) w.heap.size h s := by
  refine ⟨(CBk.new w _ _).alloc _, ?_, ((Below.refl _ w).alloc (Nat.le_refl _) _).alloc (by simp) _, by simp, Nat.le_refl _⟩
  have := CBk.new (w.alloc (.cells #[.string h.prev, .string h.root, .int .i64 h.time, .int .i64 h.diff, .int .i64 h.nonce] 32)) 35 #[.slice (some ⟨s.g, 0, none⟩) s.n s.c, .slice (some ⟨s.sg, 0, none⟩) s.sn s.sc]
  rwa [show (w.alloc (.cells #[.string h.prev, .string h.root, .int .i64 h.time, .int .i64 h.diff, .int .i64 h.nonce] 32)).heap.size = w.heap.size + 1 from by simp] at this

theorem check_way {root : ByteArray} {h : HeadV} {a : Int} {ps ss : List PeakV} {k : Nat} (hy : headOkB h = true ∧ 0 ≤ a ∧ ss.length ≤ 8 ∧ rangeOkB ps = true ∧ (⟨(rangeRoot ps).toArray⟩ : ByteArray) = root) (hp : placeP ps a = some k) :
    (walkTo (leafP h) (a - cntTo ps k).toNat ss ss.length = none → checkV root h a ps ss = -1) ∧ ∀ q l, walkTo (leafP h) (a - cntTo ps k).toNat ss ss.length = some (q, l) → checkV root h a ps ss = if samePB q (ps.getD k default) = true then wrkTo ps k + l else -1 := by
  rw [check_some hy hp]
  constructor
  · intro hw
    rw [climb_none hw]
    rfl
  · intro q l hw
    have hf := walk_fine hy.1 _ q l hw
    have hl := hf.l0
    rw [climb_some hw]
    cases samePB q (ps.getD k default) with
    | true => rw [if_pos rfl, if_neg (by omega), if_pos rfl]
    | false => rfl
theorem place_some {ps : List PeakV} {a : Int} {k : Nat} (h : placeP ps a = some k) : k < ps.length ∧ a < cntTo ps (k + 1) ∧ ∀ j, j < k → ¬ a < cntTo ps (j + 1) := by
  rw [placeP, List.find?_range_eq_some] at h
  obtain ⟨h1, h2, h3⟩ := h
  exact ⟨List.mem_range.1 h2, by simpa using h1, fun j hj => by simpa using h3 j hj⟩
theorem place_ge {ps : List PeakV} {a : Int} {k : Nat} (ha : 0 ≤ a) (h : placeP ps a = some k) : cntTo ps k ≤ a := by
  obtain ⟨_, _, h3⟩ := place_some h
  cases k with
  | zero => exact ha
  | succ k => have := h3 k (by omega); omega

end Go.Proofs.YtjeldedjhlicmaaGreatDoor

