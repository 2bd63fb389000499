/-
  The program's reading of numbers.
-/
import Derived.Test.YtcaejndpmagfaaaDoorRiceGI4
import Derived.Test.YtcaejndpmagfaaaDoorRiceGN
import Derived.Test.YtcaejndpmagfaaaDoorRiceGS3
import Derived.Test.YtcaejndpmagfaaaDoorOutRowM
import Derived.Test.YtcaejndpmagfaaaDoorShaM
import Derived.Maps.AppendAt
set_option linter.unusedVariables false
namespace Go.Proofs.YtcaejndpmagfaaaDoor
open Go.RowKit Go.Shelf
attribute [local go_sem] Oper.semAt_some

theorem ownFrom_cells {β : Type} (B b : Nat) (f : β → Array Value) (t : TypeId) : OwnFrom B (fun s W => W.heap[b]? = some (.cells (f s) t (0, 0))) := by
  intro s X Y row hs hg hr
  refine (hg.block b (Array.getElem?_eq_some_iff.1 hs).1 (fun e => ?_)).trans hs
  obtain ⟨_, o, ho, hc⟩ := hr b e.symm
  rw [hs] at ho
  cases ho
  cases hc
/-- Another block than the row and the box lies as it lay, behind the append and the store. -/
theorem append_other {W w1 : World} {n₀ B b : Nat} {t e : TypeId} {c : Array Value} {fz : Nat × Nat} {v v' : Value} {k : Nat} {xs : List Value} {tmp : Obj}
    (h : W.heap[b]? = some (.cells c t fz)) (hte : t ≠ e) (hrow : W.ownsRow n₀ e 1 v k xs) (hgrow : (W.alloc tmp).grownBy w1 v.ownBlock) (hB : b ≠ B) : (w1.setCell ⟨B, 0, none⟩ v').heap[b]? = W.heap[b]? := by
  have hlt : b < W.heap.size := (Array.getElem?_eq_some_iff.1 h).1
  rw [Below.heap_setCell _ _ _ b (fun e => hB (by rw [e]))]
  rw [hgrow.block b (by simp; omega) ?_]
  · exact Below.heap_alloc _ _ _ hlt
  · rcases hrow.2 with ⟨rfl, _⟩ | ⟨g, cap, cur, rfl, _, hgb, _⟩
    · simp [Value.ownBlock]
    · intro e'
      obtain rfl : b = g := by simpa [Value.ownBlock] using e'
      rw [h] at hgb
      simp at hgb
      exact hte hgb.2.1
theorem Only.keepsOthers {b : Nat} {w w' : World} {c : Array Value} {t : TypeId} {fz : Nat × Nat} (h : Only b w w') (hb : w.heap[b]? = some (.cells c t fz)) : KeepsOthers w w' :=
  ⟨by rw [h.size]; exact Nat.le_refl _, fun k o hk ho => by
    rw [h.block k (fun e => ?_)]
    · exact hk
    · subst e
      rw [hb] at hk
      cases hk
      cases ho⟩

/-- Between two rounds: the list in its box, how many are wanted, the reader; in blocks from h on. -/
def NumL (h kn mn : Nat) (pre : List Bit) (W : World) : Prop := ∃ v, Boxed W (h + 1 + 1) 31 v ∧ W.ownsRow (h + 1) 3 1 v (runT kn pre).2.length (intCells (runT kn pre).2) ∧ (∃ g cap, v = .slice (some ⟨g, 0, none⟩) (runT kn pre).2.length cap)
def NumM (h kn mn : Nat) (pre : List Bit) (W : World) : Prop := Boxed W h 3 (.int .i64 (mn : Int)) ∧ RR (h + 1 + 1 + 1) kn (runT kn pre).1 W
theorem numL_own (h kn mn B : Nat) : OwnFrom B (NumL h kn mn) := Own.from (holdsRow_own (h + 1) (h + 1 + 1) 31 3 1 (fun pre => (runT kn pre).2.length) (fun pre => intCells (runT kn pre).2) (fun pre v => ∃ g cap, v = .slice (some ⟨g, 0, none⟩) (runT kn pre).2.length cap)) B
theorem numM_own (h kn mn B : Nat) : OwnFrom B (NumM h kn mn) := OwnFrom.and (Own.from (boxed_own h 3 (fun _ => .int .i64 (mn : Int))) B) (ownFrom_cells B (h + 1 + 1 + 1) (fun pre => #[.int .i64 (kn : Int), .int .i64 ((runT kn pre).1.1 : Int), .bool (runT kn pre).1.2.1, .int .i64 ((runT kn pre).1.2.2 : Int)]) 84)

theorem Only.row {b : Nat} {w w' : World} {c : Array Value} {t e : TypeId} {fz : Nat × Nat} {n k : Nat} {v : Value} {xs : List Value} (h : Only b w w') (hb : w.heap[b]? = some (.cells c t fz)) (hte : t ≠ e) (hr : w.ownsRow n e 1 v k xs) : w'.ownsRow n e 1 v k xs := by
  refine ownsRow_keep hr (fun g hg => h.block g (fun e' => ?_))
  subst e'
  obtain ⟨cur, hc, _⟩ := ownsRow_type hr g hg
  rw [hb] at hc
  simp at hc
  exact hte hc.2.1

def numW (s : ByteArray) (mn kn : Nat) (w : World) : World :=
  ((((w.alloc (.cells #[.int .i64 (mn : Int)] 3)).alloc (.cells (madeCells #[.int .i64 0] mn) 3)).alloc (.cells #[.slice (some ⟨w.heap.size + 1, 0, none⟩) 0 mn] 31)).alloc
    (.cells #[.int .i64 (kn : Int), .int .i64 0, .bool false, .int .i64 0] 84)).alloc (.cells #[.string s] 9)
theorem numW_size (s : ByteArray) (mn kn : Nat) (w : World) : (numW s mn kn w).heap.size = w.heap.size + 5 := by simp [numW]
theorem madeCells_size0 (n : Nat) : (madeCells #[.int .i64 0] n).size = n := by rw [madeCells_zero]; simp [zerosN]
theorem alloc_new {w : World} {n : Nat} (o : Obj) (h : w.heap.size = n) : (w.alloc o).heap[n]? = some o := by subst h; exact World.alloc_heap_new w o
theorem numW_h1 (s : ByteArray) (mn kn : Nat) (w : World) : (numW s mn kn w).heap[w.heap.size + 1]? = some (.cells (madeCells #[.int .i64 0] mn) 3 (0, 0)) := by
  unfold numW
  rw [Below.heap_alloc _ _ _ (by simp), Below.heap_alloc _ _ _ (by simp), Below.heap_alloc _ _ _ (by simp)]
  exact alloc_new _ (by simp)
theorem numW_h4 (s : ByteArray) (mn kn : Nat) (w : World) : (numW s mn kn w).heap[w.heap.size + 1 + 1 + 1 + 1]? = some (.cells #[.string s] 9 (0, 0)) := by
  unfold numW
  exact alloc_new _ (by simp)
theorem numW_L (s : ByteArray) (mn kn : Nat) (w : World) (hm : mn ≤ 40) : NumL w.heap.size kn mn [] (numW s mn kn w) := by
  refine ⟨.slice (some ⟨w.heap.size + 1, 0, none⟩) 0 mn, ?_, ⟨rfl, .inr ⟨_, _, _, rfl, Nat.le_refl _, numW_h1 s mn kn w, Nat.zero_le _, by unfold maxLen; omega, by rw [madeCells_size0]; omega, rfl⟩⟩, ⟨_, _, rfl⟩⟩
  unfold numW Boxed
  rw [Below.heap_alloc _ _ _ (by simp), Below.heap_alloc _ _ _ (by simp)]
  exact alloc_new _ (by simp)
theorem numW_M (s : ByteArray) (mn kn : Nat) (w : World) : NumM w.heap.size kn mn [] (numW s mn kn w) := by
  refine ⟨?_, ?_⟩
  · unfold numW
    exact (((((Boxed.new w 3 (.int .i64 (mn : Int))).alloc _).alloc _).alloc _).alloc _)
  · unfold numW RR
    rw [Below.heap_alloc _ _ _ (by simp)]
    exact alloc_new _ (by simp)
theorem numW_below (s : ByteArray) (mn kn : Nat) (w : World) : Below w.heap.size w (numW s mn kn w) :=
  ((((((Below.refl _ w).alloc (Nat.le_refl _) _).alloc (by simp) _).alloc (by simp; omega) _).alloc (by simp; omega) _).alloc (by simp; omega) _)

set_option maxHeartbeats 4000000 in
set_option maxRecDepth 100000 in
theorem implNumbers (s : ByteArray) (mn kn : Nat) (w : World) (hs : s.size ≤ 600) (hm : mn ≤ 40) (hk : kn ≤ 8) :
    Calls Tryd.prog 49 #[.string s, .int .i64 (mn : Int), .int .i64 (kn : Int)] w fun e w' => ∃ v, e = .returned v ∧ OutRow w.heap.size v (readT kn mn (unpack s.data.toList) (0, false, 0) []) w' ∧ Below w.heap.size w w' := by
  refine (callsIn_wide (n := 8)).1 ?_
  obtain ⟨i0, hi, hz0, hz1, hz2⟩ := info_parts infoIntG
  refine callsIn_of_wp_marks Tryd.func49 rfl trivial ?_ rfl
  simp only [Tryd.ntmps49, List.size_toArray, List.length_cons, List.length_nil, Nat.reduceAdd, Nat.reduceSub, Array.replicate_succ, Array.replicate_zero, List.push_toArray, List.append_toArray, List.nil_append, List.cons_append]
  have hmk := makeCap mn (by omega)
  gi_wp2_with (refine ⟨trivial, ?_⟩; gi_at_call 64; refine (bitsMake Fence.wide (8 - 1) trivial rfl _ _).mono ?_; rintro e w' ⟨rfl, rfl⟩)
  clear hmk
  have hL0 := numW_L s mn kn w hm
  have hM0 := numW_M s mn kn w
  have hB0 := numW_below s mn kn w
  have hZ0 := numW_size s mn kn w
  have hT0 := numW_h4 s mn kn w
  show Code.wpIn Fence.wide 8 Tryd.prog _ _ _ (numW s mn kn w)
  generalize numW s mn kn w = W0 at hL0 hM0 hB0 hZ0 hT0 ⊢
  refine wpIn_rangeFunc_ownF rfl (by omega) (gf := 86) (lb := #[.pointer (some ⟨w.heap.size + 1 + 1 + 1 + 1, 0, none⟩)]) rfl trivial (enters_of Tryd.func86 (by kernel_rfl) rfl)
    (bits_stops Fence.wide (8 - 1) trivial rfl (by omega) (w.heap.size + 1 + 1 + 1 + 1) s hs W0 (by omega) (by rw [Lib.cell_of_heap hT0]; rfl)) (fun h k => KeepsAt.t h k) (KeepsAt.b (by omega)) (Below.refl _ _) (fun _ => rfl)
    (fun pre W => (NumL w.heap.size kn mn pre W ∧ NumM w.heap.size kn mn pre W) ∧ (OpenT kn mn pre ∧ W.heap[w.heap.size + 1 + 1 + 1 + 1]? = some (.cells #[.string s] 9 (0, 0))) ∧ Below w.heap.size w W)
    (fun c pre W => NumL w.heap.size kn mn pre.dropLast W ∧ (c = .exit 0 ∧ OpenT kn mn pre.dropLast ∧ (runT kn pre.dropLast).2.length = mn) ∧ Below w.heap.size w W)
    (OwnFrom.and (OwnFrom.and (numL_own w.heap.size kn mn _) (numM_own w.heap.size kn mn _)) (OwnFrom.and (OwnFrom.and (ownFrom_pure _ _) (ownFrom_cells _ _ (fun _ => #[.string s]) _)) (ownFrom_below (by omega) (by omega))))
    (fun c => OwnFrom.and (fun pre X Y row hs hg hr => numL_own w.heap.size kn mn W0.heap.size pre.dropLast X Y row hs hg hr) (OwnFrom.and (ownFrom_pure _ _) (ownFrom_below (by omega) (by omega))))
    ⟨⟨hL0, hM0⟩, ⟨openT_nil kn mn, hT0⟩, hB0⟩
    (fun x => { tmps := #[.string s, .int .i64 (mn : Int), .int .i64 (kn : Int), undef, .pointer (some ⟨w.heap.size, 0, none⟩), undef, .slice none 0 0, .pointer (some ⟨w.heap.size + 1 + 1, 0, none⟩), .pointer (some ⟨w.heap.size + 1 + 1 + 1, 0, none⟩), .int .i64 ((x.1 : Nat) : Int), undef, undef, .int .i64 (mn : Int), .slice (some ⟨w.heap.size + 1, 0, none⟩) 0 mn, .int .i64 (kn : Int), .agg #[.int .i64 (kn : Int), .int .i64 0, .bool false, .int .i64 0], .string s, .func (.func 86) #[] #[.pointer (some ⟨w.heap.size + 1 + 1 + 1 + 1, 0, none⟩)], .int .i64 ((x.1 : Nat) : Int), undef, undef, undef, undef, undef, undef, undef, undef, undef, undef, undef, undef, undef, undef, undef], defers := [] }) ?assign ?body ?done ?stop
  case assign =>
    intro l x W K hK
    gi_wp2
    exact hK
  case body =>
    rintro l pre x W ⟨⟨⟨v, bL, rL, g, cap, rfl⟩, bM, hR⟩, ⟨hO, hT⟩, hB⟩ hlt
    have hst0 : runT kn (pre ++ [x]) = stepT kn (runT kn pre) x.1 := runT_snoc kn pre x
    obtain ⟨nn, rr, ll, out, hst⟩ : ∃ nn rr ll out, runT kn pre = ((nn, rr, ll), out) := ⟨_, _, _, _, rfl⟩
    have HK : Hid (OpenT kn mn pre ∧ W.heap[w.heap.size + 1 + 1 + 1 + 1]? = some (.cells #[.string s] 9 (0, 0)) ∧ Below w.heap.size w W) := ⟨hO, hT, hB⟩
    have hsm := okT_small hO.2.2 hk (by omega)
    have hle := hO.2.1
    rw [hst] at rL bL hR hst0 hsm hle
    have HR : Hid (RR (w.heap.size + 1 + 1 + 1) kn (nn, rr, ll) W) := hR
    have HL : Hid (Boxed W (w.heap.size + 1 + 1) 31 (.slice (some ⟨g, 0, none⟩) out.length cap) ∧ W.ownsRow (w.heap.size + 1) 3 1 (.slice (some ⟨g, 0, none⟩) out.length cap) out.length (intCells out)) := ⟨bL, rL⟩
    have HM : Hid (Boxed W w.heap.size 3 (.int .i64 (mn : Int))) := bM
    have cL := bL.cell
    have cM := bM.cell
    dsimp only at cL
    have HS : Hid (runT kn pre = ((nn, rr, ll), out)) := hst
    have HS0 : Hid (runT kn (pre ++ [x]) = stepT kn ((nn, rr, ll), out) x.1) := hst0
    have HSM : Hid (nn < 1000000000000 ∧ ll ≤ 8 ∧ (rr = true → 1 ≤ ll)) := hsm
    have HLE : Hid (out.length ≤ mn) := hle
    clear hO hR hT hB bL rL bM hst hst0 hsm hle
    by_cases hfull : out.length = mn
    · have hq : (((out.length : Nat) : Int) == ((mn : Nat) : Int)) = true := by simp [hfull]
      gi_wp2
      refine ⟨KeepsOthers.refl _, ?_⟩
      dsimp only
      rw [List.dropLast_concat]
      refine ⟨⟨_, HL.out.1, by rw [HS.out]; exact HL.out.2, ⟨g, cap, by rw [HS.out]⟩⟩, ⟨rfl, HK.out.1, by rw [HS.out]; exact hfull⟩, HK.out.2.2⟩
    · have hq : (((out.length : Nat) : Int) == ((mn : Nat) : Int)) = false := by simp; omega
      have HN : Hid (OpenT kn mn (pre ++ [x])) := openT_snoc HK.out.1 (by rw [HS.out]; exact hfull) x
      have HF : Hid (¬ out.length = mn) := hfull
      clear hfull
      obtain ⟨st', o, htk⟩ : ∃ st' o, takeM kn (nn, rr, ll) x.1 = (st', o) := ⟨_, _, rfl⟩
      have htake := takeI (w.heap.size + 1 + 1 + 1) kn nn ll x.1 rr W HR.out x.2 HSM.out.1 hk HSM.out.2.1 HSM.out.2.2
      rw [htk] at htake
      have HTK : Hid (takeM kn (nn, rr, ll) x.1 = (st', o)) := htk
      clear htk
      cases o with
      | none =>
        dsimp only [Option.getD, Option.isSome] at htake
        gi_wp2_with (refine ⟨trivial, ?_⟩; gi_at_call 65; refine (CallsIn.inRound l (callsIn_wide.2 htake)).mono ?_; rintro e w1 ⟨rfl, hR1, hO1⟩)
        have hst : runT kn (pre ++ [x]) = (st', out) := by rw [HS0.out]; simp [stepT, HTK.out]
        have hb1 : w1.heap[w.heap.size + 1 + 1 + 1 + 1]? = W.heap[w.heap.size + 1 + 1 + 1 + 1]? := hO1.block _ (by omega)
        refine ⟨hO1.keepsOthers HR.out, World.cell?_of_block hb1, ⟨⟨.slice (some ⟨g, 0, none⟩) out.length cap, ?_, ?_, ⟨g, cap, ?_⟩⟩, ?_, ?_⟩, ⟨HN.out, hb1.trans HK.out.2.1⟩, HK.out.2.2.trans (hO1.below (by omega))⟩
        · exact (hO1.block _ (by omega)).trans HL.out.1
        · rw [hst]
          exact hO1.row HR.out (by decide) HL.out.2
        · rw [hst]
        · exact (hO1.block _ (by omega)).trans HM.out
        · rw [hst]
          exact hR1
      | some n =>
        dsimp only [Option.getD, Option.isSome] at htake
        gi_wp2_with first
          | (refine ⟨trivial, ?_⟩; gi_at_call 65; refine (CallsIn.inRound l (callsIn_wide.2 htake)).mono ?_; rintro e w1 ⟨rfl, hR1, hO1⟩; have bL1 : Boxed w1 (w.heap.size + 1 + 1) 31 (.slice (some ⟨g, 0, none⟩) out.length cap) := (hO1.block _ (by omega)).trans HL.out.1; have rL1 := hO1.row HR.out (by decide) HL.out.2; have cL1 := bL1.cell; have hsz : w.heap.size + 1 ≤ w1.heap.size := by have := bL1.lt; omega)
          | (gi_at_builtin; refine wpListIn_append_own _ rfl _ _ 31 rfl (w.heap.size + 1) 3 i0 (.int .i64 0) 1 8 Tryd.underlying31 hi hz0 hz1 hz2 rfl (by decide) _ _ _ rfl (rL1.alloc _) ⟨w1.heap.size, 0, none⟩ 1 1 [.int .i64 (n : Int)] rfl rfl (cell_one_new _ _ _) (by simp [Value.oneCell']) (by have := HLE.out; unfold maxLen; omega) (by have := HLE.out; omega) (by simp; omega) ?_; intro v' w2 hown' hgrow _; obtain ⟨g', cap', rfl⟩ := ownsRow_succ hown'; obtain ⟨hv1, hv2, hr2, hk2, hb2⟩ := bL1.appended (by decide) rL1 hsz (by omega) hown' hgrow; have hc1 := hv1.cell; have hf1 := hv1.frozen)
        have hst : runT kn (pre ++ [x]) = (st', out ++ [n]) := by rw [HS0.out]; simp [stepT, HTK.out]
        have hb1 : w1.heap[w.heap.size + 1 + 1 + 1 + 1]? = W.heap[w.heap.size + 1 + 1 + 1 + 1]? := hO1.block _ (by omega)
        have hb3 := append_other (B := w.heap.size + 1 + 1) (v' := .slice (some ⟨g', 0, none⟩) (out.length + 1) cap') (hb1.trans HK.out.2.1) (by decide) rL1 hgrow (by omega)
        have hb4 := append_other (B := w.heap.size + 1 + 1) (v' := .slice (some ⟨g', 0, none⟩) (out.length + 1) cap') hR1 (by decide) rL1 hgrow (by omega)
        refine ⟨(hO1.keepsOthers HR.out).trans hk2, World.cell?_of_block (hb3.trans hb1), ⟨⟨_, hv2, ?_, ⟨g', cap', ?_⟩⟩, ?_, ?_⟩, ⟨HN.out, hb3.trans (hb1.trans HK.out.2.1)⟩, (HK.out.2.2.trans (hO1.below (by omega))).trans (hb2.mono (by omega))⟩
        · rw [hst]
          simpa [intCells] using hr2
        · rw [hst]
          simp
        · exact (hb2.block _ (by omega)).trans ((hO1.block _ (by omega)).trans HM.out)
        · rw [hst]
          exact hb4.trans hR1
  case done =>
    rintro D ys W hD rfl ⟨⟨⟨v, bL, rL, g, cap, rfl⟩, bM, hR⟩, ⟨hO, hT⟩, hB⟩ hK
    have cL := bL.cell
    gi_wp2
    refine ⟨by simp, .inl ⟨_, _, rfl, run_takeDeferred hK, ?_⟩⟩
    refine ⟨_, results_tmp rfl _ _ _, _, rfl, ?_, hB.trans (belowK_b (w := w) (Nat.le_refl _) W D _ _ (by omega) hK rfl rfl)⟩
    have e : readT kn mn (unpack s.data.toList) (0, false, 0) [] = (runT kn (bitsTo s (8 * s.size))).2 := by rw [unpack_bits]; exact openT_end hO
    rw [e]
    exact ⟨⟨g, cap, rfl⟩, ownsRow_putObj (ownsRow_mono rL (Nat.le_succ _)) _ hK rfl⟩
  case stop =>
    rintro D c pre W hD ⟨q, hq, rfl⟩ ⟨⟨v, bL, rL, g, cap, rfl⟩, ⟨rfl, hO, hfull⟩, hB⟩ hK
    have cL := bL.cell
    have HF : Hid ((runT kn (bitsTo s q).dropLast).2.length = mn) := hfull
    clear hfull
    gi_wp2
    refine ⟨by simp, .inl ⟨_, _, rfl, run_takeDeferred hK, ?_⟩⟩
    refine ⟨_, results_tmp rfl _ _ _, _, rfl, ?_, hB.trans (belowK_b (w := w) (Nat.le_refl _) W D _ _ (by omega) hK rfl rfl)⟩
    have e : readT kn mn (unpack s.data.toList) (0, false, 0) [] = (runT kn (bitsTo s q).dropLast).2 := by
      obtain ⟨rest, hr⟩ := bitsTo_split s (q - 1) (by omega)
      have hd : (bitsTo s q).dropLast = bitsTo s (q - 1) := by
        cases q with
        | zero => rfl
        | succ q => rw [bitsTo_succ, List.dropLast_concat]; rfl
      have hfull := HF.out
      rw [hd] at hO hfull ⊢
      rw [hr]
      exact openT_full hO hfull rest
    rw [e]
    exact ⟨⟨g, cap, rfl⟩, ownsRow_putObj (ownsRow_mono rL (Nat.le_succ _)) _ hK rfl⟩

end Go.Proofs.YtcaejndpmagfaaaDoor
