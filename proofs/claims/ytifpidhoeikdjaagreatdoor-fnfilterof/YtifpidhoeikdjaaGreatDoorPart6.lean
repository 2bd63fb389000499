/-
  At every code: the program's FilterOf of the drawn key and items is what the specification answers; where it is a filter FilterHas is true of each item, and the items turned round, each twice, have the same filter, if they are not too many; no condition.
-/
import Derived.Test.YtifpidhoeikdjaaGreatDoorPart1
import Derived.Test.YtifpidhoeikdjaaGreatDoorPart2
import Derived.Test.YtifpidhoeikdjaaGreatDoorPart3
import Derived.Test.YtifpidhoeikdjaaGreatDoorPart4
import Derived.Test.YtifpidhoeikdjaaGreatDoorPart5
import Derived.Maps.AppendAt
import Derived.BigQuiet
import Derived.Lib.Strings
import Derived.Test.YtifpidhoeikdjaaGreatDoorProg
import Derived.WalkSpells
import Derived.OwnWalk
import Derived.Deep.AppendLies
import Derived.Deep.RegionHeld3
import Derived.Test.YtifpidhoeikdjaaGreatDoorCards
import Derived.Test.YtifpidhoeikdjaaGreatDoorTie
import Derived.WalkKit
import Derived.ProofKit
import Derived.OpenShut
import Derived.ShutString
import Derived.ChangeOld
import Derived.ChangeVars
import Derived.Below
import Derived.Carry
import Derived.Deep.DeepHandedRow
import Derived.Lib.LaidTab
set_option linter.unusedVariables false
namespace Go.Proofs.YtifpidhoeikdjaaGreatDoor
open Go.RowKit Go.Shelf
attribute [local go_sem] Oper.semAt_some

theorem ownFrom_cells {β : Type} (B b : Nat) (f : β → Array Value) (t : TypeId) : OwnFrom B (fun s W => W.heap[b]? = some (.cells (f s) t (0, 0))) := by
  intro s X Y row hs hg hr
  refine (hg.block b (Array.getElem?_eq_some_iff.1 hs).1 (fun e => ?_)).trans hs
  obtain ⟨_, o, ho, hc⟩ := hr b e.symm
  rw [hs] at ho
  cases ho
  cases hc
/-- Another block than the row and the box lies as it lay, behind the append and the store. -/
theorem append_other {W w1 : World} {n₀ B b : Nat} {t e : TypeId} {c : Array Value} {fz : Nat × Nat} {v v' : Value} {k : Nat} {xs : List Value} {tmp : Obj}
    (h : W.heap[b]? = some (.cells c t fz)) (hte : t ≠ e) (hrow : W.ownsRow n₀ e 1 v k xs) (hgrow : (W.alloc tmp).grownBy w1 v.ownBlock) (hB : b ≠ B) : (w1.setCell ⟨B, 0, none⟩ v').heap[b]? = W.heap[b]? := by
  have hlt : b < W.heap.size := (Array.getElem?_eq_some_iff.1 h).1
  rw [Below.heap_setCell _ _ _ b (fun e => hB (by rw [e]))]
  rw [hgrow.block b (by simp; omega) ?_]
  · exact Below.heap_alloc _ _ _ hlt
  · rcases hrow.2 with ⟨rfl, _⟩ | ⟨g, cap, cur, rfl, _, hgb, _⟩
    · simp [Value.ownBlock]
    · intro e'
      obtain rfl : b = g := by simpa [Value.ownBlock] using e'
      rw [h] at hgb
      simp at hgb
      exact hte hgb.2.1
theorem Only.keepsOthers {b : Nat} {w w' : World} {c : Array Value} {t : TypeId} {fz : Nat × Nat} (h : Only b w w') (hb : w.heap[b]? = some (.cells c t fz)) : KeepsOthers w w' :=
  ⟨by rw [h.size]; exact Nat.le_refl _, fun k o hk ho => by
    rw [h.block k (fun e => ?_)]
    · exact hk
    · subst e
      rw [hb] at hk
      cases hk
      cases ho⟩

/-- Between two rounds: the list in its box, how many are wanted, the reader; in blocks from h on. -/
def NumL (h kn mn : Nat) (pre : List Bit) (W : World) : Prop := ∃ v, Boxed W (h + 1 + 1) 36 v ∧ W.ownsRow (h + 1) 3 1 v (runT kn pre).2.length (intCells (runT kn pre).2) ∧ (∃ g cap, v = .slice (some ⟨g, 0, none⟩) (runT kn pre).2.length cap)
def NumM (h kn mn : Nat) (pre : List Bit) (W : World) : Prop := Boxed W h 3 (.int .i64 (mn : Int)) ∧ RR (h + 1 + 1 + 1) kn (runT kn pre).1 W
theorem numL_own (h kn mn B : Nat) : OwnFrom B (NumL h kn mn) := Own.from (holdsRow_own (h + 1) (h + 1 + 1) 36 3 1 (fun pre => (runT kn pre).2.length) (fun pre => intCells (runT kn pre).2) (fun pre v => ∃ g cap, v = .slice (some ⟨g, 0, none⟩) (runT kn pre).2.length cap)) B
theorem numM_own (h kn mn B : Nat) : OwnFrom B (NumM h kn mn) := OwnFrom.and (Own.from (boxed_own h 3 (fun _ => .int .i64 (mn : Int))) B) (ownFrom_cells B (h + 1 + 1 + 1) (fun pre => #[.int .i64 (kn : Int), .int .i64 ((runT kn pre).1.1 : Int), .bool (runT kn pre).1.2.1, .int .i64 ((runT kn pre).1.2.2 : Int)]) 127)

theorem Only.row {b : Nat} {w w' : World} {c : Array Value} {t e : TypeId} {fz : Nat × Nat} {n k : Nat} {v : Value} {xs : List Value} (h : Only b w w') (hb : w.heap[b]? = some (.cells c t fz)) (hte : t ≠ e) (hr : w.ownsRow n e 1 v k xs) : w'.ownsRow n e 1 v k xs := by
  refine ownsRow_keep hr (fun g hg => h.block g (fun e' => ?_))
  subst e'
  obtain ⟨cur, hc, _⟩ := ownsRow_type hr g hg
  rw [hb] at hc
  simp at hc
  exact hte hc.2.1

def numW (s : ByteArray) (mn kn : Nat) (w : World) : World :=
  ((((w.alloc (.cells #[.int .i64 (mn : Int)] 3)).alloc (.cells (madeCells #[.int .i64 0] mn) 3)).alloc (.cells #[.slice (some ⟨w.heap.size + 1, 0, none⟩) 0 mn] 36)).alloc
    (.cells #[.int .i64 (kn : Int), .int .i64 0, .bool false, .int .i64 0] 127)).alloc (.cells #[.string s] 9)
theorem numW_size (s : ByteArray) (mn kn : Nat) (w : World) : (numW s mn kn w).heap.size = w.heap.size + 5 := by simp [numW]
theorem madeCells_size0 (n : Nat) : (madeCells #[.int .i64 0] n).size = n := by rw [madeCells_zero]; simp [zerosN]
theorem alloc_new {w : World} {n : Nat} (o : Obj) (h : w.heap.size = n) : (w.alloc o).heap[n]? = some o := by subst h; exact World.alloc_heap_new w o
theorem numW_h1 (s : ByteArray) (mn kn : Nat) (w : World) : (numW s mn kn w).heap[w.heap.size + 1]? = some (.cells (madeCells #[.int .i64 0] mn) 3 (0, 0)) := by
  unfold numW
  rw [Below.heap_alloc _ _ _ (by simp), Below.heap_alloc _ _ _ (by simp), Below.heap_alloc _ _ _ (by simp)]
  exact alloc_new _ (by simp)
theorem numW_h4 (s : ByteArray) (mn kn : Nat) (w : World) : (numW s mn kn w).heap[w.heap.size + 1 + 1 + 1 + 1]? = some (.cells #[.string s] 9 (0, 0)) := by
  unfold numW
  exact alloc_new _ (by simp)
theorem numW_L (s : ByteArray) (mn kn : Nat) (w : World) (hm : mn ≤ 40) : NumL w.heap.size kn mn [] (numW s mn kn w) := by
  refine ⟨.slice (some ⟨w.heap.size + 1, 0, none⟩) 0 mn, ?_, ⟨rfl, .inr ⟨_, _, _, rfl, Nat.le_refl _, numW_h1 s mn kn w, Nat.zero_le _, by unfold maxLen; omega, by rw [madeCells_size0]; omega, rfl⟩⟩, ⟨_, _, rfl⟩⟩
  unfold numW Boxed
  rw [Below.heap_alloc _ _ _ (by simp), Below.heap_alloc _ _ _ (by simp)]
  exact alloc_new _ (by simp)
theorem numW_M (s : ByteArray) (mn kn : Nat) (w : World) : NumM w.heap.size kn mn [] (numW s mn kn w) := by
  refine ⟨?_, ?_⟩
  · unfold numW
    exact (((((Boxed.new w 3 (.int .i64 (mn : Int))).alloc _).alloc _).alloc _).alloc _)
  · unfold numW RR
    rw [Below.heap_alloc _ _ _ (by simp)]
    exact alloc_new _ (by simp)
theorem numW_below (s : ByteArray) (mn kn : Nat) (w : World) : Below w.heap.size w (numW s mn kn w) :=
  ((((((Below.refl _ w).alloc (Nat.le_refl _) _).alloc (by simp) _).alloc (by simp; omega) _).alloc (by simp; omega) _).alloc (by simp; omega) _)

set_option maxHeartbeats 4000000 in
set_option maxRecDepth 100000 in
theorem implNumbers (s : ByteArray) (mn kn : Nat) (w : World) (hs : s.size ≤ 600) (hm : mn ≤ 40) (hk : kn ≤ 8) :
    Calls Tryz.prog 93 #[.string s, .int .i64 (mn : Int), .int .i64 (kn : Int)] w fun e w' => ∃ v, e = .returned v ∧ OutRow w.heap.size v (readT kn mn (unpack s.data.toList) (0, false, 0) []) w' ∧ Below w.heap.size w w' := by
  refine (callsIn_wide (n := 8)).1 ?_
  obtain ⟨i0, hi, hz0, hz1, hz2⟩ := info_parts infoIntG
  refine callsIn_of_wp_marks Tryz.func93 rfl trivial ?_ rfl
  simp only [Tryz.ntmps93, List.size_toArray, List.length_cons, List.length_nil, Nat.reduceAdd, Nat.reduceSub, Array.replicate_succ, Array.replicate_zero, List.push_toArray, List.append_toArray, List.nil_append, List.cons_append]
  have hmk := makeCap mn (by omega)
  gi_wp2_with (refine ⟨trivial, ?_⟩; gi_at_call 116; refine (bitsMake Fence.wide (8 - 1) trivial rfl _ _).mono ?_; rintro e w' ⟨rfl, rfl⟩)
  clear hmk
  have hL0 := numW_L s mn kn w hm
  have hM0 := numW_M s mn kn w
  have hB0 := numW_below s mn kn w
  have hZ0 := numW_size s mn kn w
  have hT0 := numW_h4 s mn kn w
  show Code.wpIn Fence.wide 8 Tryz.prog _ _ _ (numW s mn kn w)
  generalize numW s mn kn w = W0 at hL0 hM0 hB0 hZ0 hT0 ⊢
  refine wpIn_rangeFunc_ownF rfl (by omega) (gf := 122) (lb := #[.pointer (some ⟨w.heap.size + 1 + 1 + 1 + 1, 0, none⟩)]) rfl trivial (enters_of Tryz.func122 (by kernel_rfl) rfl)
    (bits_stops Fence.wide (8 - 1) trivial rfl (by omega) (w.heap.size + 1 + 1 + 1 + 1) s hs W0 (by omega) (by rw [Lib.cell_of_heap hT0]; rfl)) (fun h k => KeepsAt.t h k) (KeepsAt.b (by omega)) (Below.refl _ _) (fun _ => rfl)
    (fun pre W => (NumL w.heap.size kn mn pre W ∧ NumM w.heap.size kn mn pre W) ∧ (OpenT kn mn pre ∧ W.heap[w.heap.size + 1 + 1 + 1 + 1]? = some (.cells #[.string s] 9 (0, 0))) ∧ Below w.heap.size w W)
    (fun c pre W => NumL w.heap.size kn mn pre.dropLast W ∧ (c = .exit 0 ∧ OpenT kn mn pre.dropLast ∧ (runT kn pre.dropLast).2.length = mn) ∧ Below w.heap.size w W)
    (OwnFrom.and (OwnFrom.and (numL_own w.heap.size kn mn _) (numM_own w.heap.size kn mn _)) (OwnFrom.and (OwnFrom.and (ownFrom_pure _ _) (ownFrom_cells _ _ (fun _ => #[.string s]) _)) (ownFrom_below (by omega) (by omega))))
    (fun c => OwnFrom.and (fun pre X Y row hs hg hr => numL_own w.heap.size kn mn W0.heap.size pre.dropLast X Y row hs hg hr) (OwnFrom.and (ownFrom_pure _ _) (ownFrom_below (by omega) (by omega))))
    ⟨⟨hL0, hM0⟩, ⟨openT_nil kn mn, hT0⟩, hB0⟩
    (fun x => { tmps := #[.string s, .int .i64 (mn : Int), .int .i64 (kn : Int), undef, .pointer (some ⟨w.heap.size, 0, none⟩), undef, .slice none 0 0, .pointer (some ⟨w.heap.size + 1 + 1, 0, none⟩), .pointer (some ⟨w.heap.size + 1 + 1 + 1, 0, none⟩), .int .i64 ((x.1 : Nat) : Int), undef, undef, .int .i64 (mn : Int), .slice (some ⟨w.heap.size + 1, 0, none⟩) 0 mn, .int .i64 (kn : Int), .agg #[.int .i64 (kn : Int), .int .i64 0, .bool false, .int .i64 0], .string s, .func (.func 122) #[] #[.pointer (some ⟨w.heap.size + 1 + 1 + 1 + 1, 0, none⟩)], .int .i64 ((x.1 : Nat) : Int), undef, undef, undef, undef, undef, undef, undef, undef, undef, undef, undef, undef, undef, undef, undef], defers := [] }) ?assign ?body ?done ?stop
  case assign =>
    intro l x W K hK
    gi_wp2
    exact hK
  case body =>
    rintro l pre x W ⟨⟨⟨v, bL, rL, g, cap, rfl⟩, bM, hR⟩, ⟨hO, hT⟩, hB⟩ hlt
    have hst0 : runT kn (pre ++ [x]) = stepT kn (runT kn pre) x.1 := runT_snoc kn pre x
    obtain ⟨nn, rr, ll, out, hst⟩ : ∃ nn rr ll out, runT kn pre = ((nn, rr, ll), out) := ⟨_, _, _, _, rfl⟩
    have HK : Hid (OpenT kn mn pre ∧ W.heap[w.heap.size + 1 + 1 + 1 + 1]? = some (.cells #[.string s] 9 (0, 0)) ∧ Below w.heap.size w W) := ⟨hO, hT, hB⟩
    have hsm := okT_small hO.2.2 hk (by omega)
    have hle := hO.2.1
    rw [hst] at rL bL hR hst0 hsm hle
    have HR : Hid (RR (w.heap.size + 1 + 1 + 1) kn (nn, rr, ll) W) := hR
    have HL : Hid (Boxed W (w.heap.size + 1 + 1) 36 (.slice (some ⟨g, 0, none⟩) out.length cap) ∧ W.ownsRow (w.heap.size + 1) 3 1 (.slice (some ⟨g, 0, none⟩) out.length cap) out.length (intCells out)) := ⟨bL, rL⟩
    have HM : Hid (Boxed W w.heap.size 3 (.int .i64 (mn : Int))) := bM
    have cL := bL.cell
    have cM := bM.cell
    dsimp only at cL
    have HS : Hid (runT kn pre = ((nn, rr, ll), out)) := hst
    have HS0 : Hid (runT kn (pre ++ [x]) = stepT kn ((nn, rr, ll), out) x.1) := hst0
    have HSM : Hid (nn < 1000000000000 ∧ ll ≤ 8 ∧ (rr = true → 1 ≤ ll)) := hsm
    have HLE : Hid (out.length ≤ mn) := hle
    clear hO hR hT hB bL rL bM hst hst0 hsm hle
    by_cases hfull : out.length = mn
    · have hq : (((out.length : Nat) : Int) == ((mn : Nat) : Int)) = true := by simp [hfull]
      gi_wp2
      refine ⟨KeepsOthers.refl _, ?_⟩
      dsimp only
      rw [List.dropLast_concat]
      refine ⟨⟨_, HL.out.1, by rw [HS.out]; exact HL.out.2, ⟨g, cap, by rw [HS.out]⟩⟩, ⟨rfl, HK.out.1, by rw [HS.out]; exact hfull⟩, HK.out.2.2⟩
    · have hq : (((out.length : Nat) : Int) == ((mn : Nat) : Int)) = false := by simp; omega
      have HN : Hid (OpenT kn mn (pre ++ [x])) := openT_snoc HK.out.1 (by rw [HS.out]; exact hfull) x
      have HF : Hid (¬ out.length = mn) := hfull
      clear hfull
      obtain ⟨st', o, htk⟩ : ∃ st' o, takeM kn (nn, rr, ll) x.1 = (st', o) := ⟨_, _, rfl⟩
      have htake := takeI (w.heap.size + 1 + 1 + 1) kn nn ll x.1 rr W HR.out x.2 HSM.out.1 hk HSM.out.2.1 HSM.out.2.2
      rw [htk] at htake
      have HTK : Hid (takeM kn (nn, rr, ll) x.1 = (st', o)) := htk
      clear htk
      cases o with
      | none =>
        dsimp only [Option.getD, Option.isSome] at htake
        gi_wp2_with (refine ⟨trivial, ?_⟩; gi_at_call 117; refine (CallsIn.inRound l (callsIn_wide.2 htake)).mono ?_; rintro e w1 ⟨rfl, hR1, hO1⟩)
        have hst : runT kn (pre ++ [x]) = (st', out) := by rw [HS0.out]; simp [stepT, HTK.out]
        have hb1 : w1.heap[w.heap.size + 1 + 1 + 1 + 1]? = W.heap[w.heap.size + 1 + 1 + 1 + 1]? := hO1.block _ (by omega)
        refine ⟨hO1.keepsOthers HR.out, World.cell?_of_block hb1, ⟨⟨.slice (some ⟨g, 0, none⟩) out.length cap, ?_, ?_, ⟨g, cap, ?_⟩⟩, ?_, ?_⟩, ⟨HN.out, hb1.trans HK.out.2.1⟩, HK.out.2.2.trans (hO1.below (by omega))⟩
        · exact (hO1.block _ (by omega)).trans HL.out.1
        · rw [hst]
          exact hO1.row HR.out (by decide) HL.out.2
        · rw [hst]
        · exact (hO1.block _ (by omega)).trans HM.out
        · rw [hst]
          exact hR1
      | some n =>
        dsimp only [Option.getD, Option.isSome] at htake
        gi_wp2_with first
          | (refine ⟨trivial, ?_⟩; gi_at_call 117; refine (CallsIn.inRound l (callsIn_wide.2 htake)).mono ?_; rintro e w1 ⟨rfl, hR1, hO1⟩; have bL1 : Boxed w1 (w.heap.size + 1 + 1) 36 (.slice (some ⟨g, 0, none⟩) out.length cap) := (hO1.block _ (by omega)).trans HL.out.1; have rL1 := hO1.row HR.out (by decide) HL.out.2; have cL1 := bL1.cell; have hsz : w.heap.size + 1 ≤ w1.heap.size := by have := bL1.lt; omega)
          | (gi_at_builtin; refine wpListIn_append_own _ rfl _ _ 36 rfl (w.heap.size + 1) 3 i0 (.int .i64 0) 1 8 Tryz.underlying36 hi hz0 hz1 hz2 rfl (by decide) _ _ _ rfl (rL1.alloc _) ⟨w1.heap.size, 0, none⟩ 1 1 [.int .i64 (n : Int)] rfl rfl (cell_one_new _ _ _) (by simp [Value.oneCell']) (by have := HLE.out; unfold maxLen; omega) (by have := HLE.out; omega) (by simp; omega) ?_; intro v' w2 hown' hgrow _; obtain ⟨g', cap', rfl⟩ := ownsRow_succ hown'; obtain ⟨hv1, hv2, hr2, hk2, hb2⟩ := bL1.appended (by decide) rL1 hsz (by omega) hown' hgrow; have hc1 := hv1.cell; have hf1 := hv1.frozen)
        have hst : runT kn (pre ++ [x]) = (st', out ++ [n]) := by rw [HS0.out]; simp [stepT, HTK.out]
        have hb1 : w1.heap[w.heap.size + 1 + 1 + 1 + 1]? = W.heap[w.heap.size + 1 + 1 + 1 + 1]? := hO1.block _ (by omega)
        have hb3 := append_other (B := w.heap.size + 1 + 1) (v' := .slice (some ⟨g', 0, none⟩) (out.length + 1) cap') (hb1.trans HK.out.2.1) (by decide) rL1 hgrow (by omega)
        have hb4 := append_other (B := w.heap.size + 1 + 1) (v' := .slice (some ⟨g', 0, none⟩) (out.length + 1) cap') hR1 (by decide) rL1 hgrow (by omega)
        refine ⟨(hO1.keepsOthers HR.out).trans hk2, World.cell?_of_block (hb3.trans hb1), ⟨⟨_, hv2, ?_, ⟨g', cap', ?_⟩⟩, ?_, ?_⟩, ⟨HN.out, hb3.trans (hb1.trans HK.out.2.1)⟩, (HK.out.2.2.trans (hO1.below (by omega))).trans (hb2.mono (by omega))⟩
        · rw [hst]
          simpa [intCells] using hr2
        · rw [hst]
          simp
        · exact (hb2.block _ (by omega)).trans ((hO1.block _ (by omega)).trans HM.out)
        · rw [hst]
          exact hb4.trans hR1
  case done =>
    rintro D ys W hD rfl ⟨⟨⟨v, bL, rL, g, cap, rfl⟩, bM, hR⟩, ⟨hO, hT⟩, hB⟩ hK
    have cL := bL.cell
    gi_wp2
    refine ⟨by simp, .inl ⟨_, _, rfl, run_takeDeferred hK, ?_⟩⟩
    refine ⟨_, results_tmp rfl _ _ _, _, rfl, ?_, hB.trans (belowK_b (w := w) (Nat.le_refl _) W D _ _ (by omega) hK rfl rfl)⟩
    have e : readT kn mn (unpack s.data.toList) (0, false, 0) [] = (runT kn (bitsTo s (8 * s.size))).2 := by rw [unpack_bits]; exact openT_end hO
    rw [e]
    exact ⟨⟨g, cap, rfl⟩, ownsRow_putObj (ownsRow_mono rL (Nat.le_succ _)) _ hK rfl⟩
  case stop =>
    rintro D c pre W hD ⟨q, hq, rfl⟩ ⟨⟨v, bL, rL, g, cap, rfl⟩, ⟨rfl, hO, hfull⟩, hB⟩ hK
    have cL := bL.cell
    have HF : Hid ((runT kn (bitsTo s q).dropLast).2.length = mn) := hfull
    clear hfull
    gi_wp2
    refine ⟨by simp, .inl ⟨_, _, rfl, run_takeDeferred hK, ?_⟩⟩
    refine ⟨_, results_tmp rfl _ _ _, _, rfl, ?_, hB.trans (belowK_b (w := w) (Nat.le_refl _) W D _ _ (by omega) hK rfl rfl)⟩
    have e : readT kn mn (unpack s.data.toList) (0, false, 0) [] = (runT kn (bitsTo s q).dropLast).2 := by
      obtain ⟨rest, hr⟩ := bitsTo_split s (q - 1) (by omega)
      have hd : (bitsTo s q).dropLast = bitsTo s (q - 1) := by
        cases q with
        | zero => rfl
        | succ q => rw [bitsTo_succ, List.dropLast_concat]; rfl
      have hfull := HF.out
      rw [hd] at hO hfull ⊢
      rw [hr]
      exact openT_full hO hfull rest
    rw [e]
    exact ⟨⟨g, cap, rfl⟩, ownsRow_putObj (ownsRow_mono rL (Nat.le_succ _)) _ hK rfl⟩

end Go.Proofs.YtifpidhoeikdjaaGreatDoor

set_option linter.unusedVariables false
namespace Go.Proofs.YtifpidhoeikdjaaGreatDoor
open Go.Shelf Go.RowKit

theorem put_writes {kn mn : Nat} {o : List UInt8} {out : List Nat} (hk : kn ≤ 8) (hm : mn ≤ 40) (hl : out.length = mn) (hr : readT kn mn (unpack o) (0, false, 0) [] = out) :
    ricePut (out.map fun n : Nat => (n : Int)) (kn : Int) = o ↔ Writes kn mn o out := by
  constructor
  · intro h
    cases hk2 : riceOkB (out.map fun n : Nat => (n : Int)) (kn : Int) with
    | true =>
      rw [ricePut_yes hk2, toNat_map, Int.toNat_natCast] at h
      refine ⟨hl, ?_, h⟩
      intro x hx
      obtain ⟨i, hi, rfl⟩ := List.mem_iff_getElem.1 hx
      have := riceOk_at hk2 i (by simpa using hi)
      rw [List.getD_eq_getElem?_getD, List.getElem?_map, List.getElem?_eq_getElem hi] at this
      simp at this
      omega
    | false =>
      rw [ricePut_no hk2] at h
      subst h
      have e : out = [] := by rw [← hr]; rfl
      subst e
      rw [riceOk_yes (by simp) (by omega) (by simp)] at hk2
      cases hk2
  · rintro ⟨h1, h2, h3⟩
    rw [ricePut_yes (riceOk_yes (by simp; omega) (by omega) ?_), toNat_map, Int.toNat_natCast]
    · exact h3
    · intro i hi
      have hil : i < out.length := by simpa using hi
      have := h2 (out[i]) (List.getElem_mem hil)
      rw [List.getD_eq_getElem?_getD, List.getElem?_map, List.getElem?_eq_getElem hil]
      simp
      omega

set_option maxHeartbeats 1000000 in
set_option maxRecDepth 100000 in
theorem implRiceGet (s : ByteArray) (many k : Int) (w : World) :
    Calls Tryz.prog 56 #[.string s, .int .i64 many, .int .i64 k] w fun e w' => ∃ v, e = .returned (.tuple #[v, .bool (riceGet s.data.toList many k).isSome]) ∧ GotRow w.heap.size v w' (riceGet s.data.toList many k) ∧ Below w.heap.size w w' := by
  cases hok : getOk s.data.toList many k with
  | false =>
    have HG : Hid (riceGet s.data.toList many k = none) := riceGet_bad hok
    rw [HG.out]
    by_cases h1 : (600 : Int) < (s.size : Int)
    · clear hok
      go_enter Tryz.func56, Tryz.ntmps56
      go_wp2_with fail
      go_ret2
      exact ⟨_, rfl, rfl, Below.refl _ _⟩
    · by_cases h2 : many < 0
      · clear hok
        go_enter Tryz.func56, Tryz.ntmps56
        go_wp2_with fail
        go_ret2
        exact ⟨_, rfl, rfl, Below.refl _ _⟩
      · by_cases h3 : (40 : Int) < many
        · clear hok
          go_enter Tryz.func56, Tryz.ntmps56
          go_wp2_with fail
          go_ret2
          exact ⟨_, rfl, rfl, Below.refl _ _⟩
        · have h4 : bitsOk k = false := by
            cases hb : bitsOk k with
            | false => rfl
            | true =>
              have e1 : decide (0 ≤ many ∧ many ≤ 40) = true := decide_eq_true (by omega)
              have e2 : decide (0 ≤ k ∧ k ≤ 8) = true := hb
              have e3 : decide (s.data.toList.length ≤ 600) = true := decide_eq_true (by simp; omega)
              simp only [getOk, e1, e2, e3, Bool.and_self] at hok
              cases hok
          clear hok
          go_enter Tryz.func56, Tryz.ntmps56
          go_wp2_with (go_at_call 89; refine (bitsOkI _ _).mono ?_; rintro e w1 ⟨rfl, rfl⟩)
          go_ret2
          exact ⟨_, rfl, rfl, Below.refl _ _⟩
  | true =>
    have hok2 := hok
    simp only [getOk, Bool.and_eq_true, decide_eq_true_eq] at hok2
    obtain ⟨⟨⟨hm0, hm40⟩, hk0, hk8⟩, hs6⟩ := hok2
    have hb : bitsOk k = true := decide_eq_true ⟨hk0, hk8⟩
    have HOK : Hid (getOk s.data.toList many k = true) := hok
    have hs6' : s.size ≤ 600 := by simpa using hs6
    obtain ⟨mn, rfl⟩ := Int.eq_ofNat_of_zero_le hm0
    obtain ⟨kn, rfl⟩ := Int.eq_ofNat_of_zero_le hk0
    have hm2 : mn ≤ 40 := by omega
    have hk2 : kn ≤ 8 := by omega
    have h1 : ¬ (600 : Int) < (s.size : Int) := by omega
    have h2 : ¬ (mn : Int) < 0 := by omega
    have h3 : ¬ (40 : Int) < (mn : Int) := by omega
    clear hok hs6
    go_enter Tryz.func56, Tryz.ntmps56
    go_wp2_with first
      | (go_at_call 89; refine (bitsOkI _ _).mono ?_; rintro e w1 ⟨rfl, rfl⟩)
    refine (implNumbers s mn kn _ hs6' hm2 hk2).mono ?_
    rintro e w1 ⟨v, rfl, hrow, hb1⟩
    obtain ⟨out, hout⟩ : ∃ out, readT kn mn (unpack s.data.toList) (0, false, 0) [] = out := ⟨_, rfl⟩
    rw [hout] at hrow
    obtain ⟨g, cap, rfl⟩ := hrow.1
    have HR : Hid (OutRow w.heap.size (.slice (some ⟨g, 0, none⟩) out.length cap) out w1) := hrow
    have HB1 : Hid (Below w.heap.size w w1) := hb1
    have HO : Hid (readT kn mn (unpack s.data.toList) (0, false, 0) [] = out) := hout
    clear hrow hb1 hout
    by_cases hl : out.length = mn
    · have hq : ((out.length : Nat) : Int) = ((mn : Nat) : Int) := by omega
      have HL : Hid (out.length = mn) := hl
      have HAT : Hid (At w1 g (out.map fun n : Nat => (n : Int))) := outRow_at HR.out
      clear hl
      have HPW := put_writes hk2 hm2 HL.out HO.out
      obtain ⟨pt, hpt⟩ : ∃ pt, ricePut (out.map fun n : Nat => (n : Int)) (kn : Int) = pt := ⟨_, rfl⟩
      have hput := implRicePut g out.length cap (out.map fun n : Nat => (n : Int)) (kn : Int) w1 HAT.out (by simp)
      rw [hpt] at hput HPW
      have HW : Hid (pt = s.data.toList ↔ Writes kn mn s.data.toList out) := HPW
      clear HPW hpt
      by_cases he : pt = s.data.toList
      · have hee : (pt == s.toList) = true := by rw [ByteArray.toList_eq]; simpa using he
        have HG : Hid (riceGet s.data.toList (mn : Int) (kn : Int) = some out) := riceGet_yes HOK.out (HW.out.1 he)
        clear he
        go_wp2_with (go_at_call 23; refine hput.mono ?_; rintro e w2 ⟨rfl, hb2⟩)
        go_ret2
        rw [HG.out]
        refine ⟨_, rfl, ⟨HR.out.1, ownsRow_keep HR.out.2 (fun g' hg' => ?_)⟩, HB1.out.trans (hb2.mono HB1.out.size)⟩
        obtain ⟨cur, hc, hlt⟩ := ownsRow_type HR.out.2 g' hg'
        exact hb2.block g' hlt
      · have hee : (pt == s.toList) = false := by rw [ByteArray.toList_eq]; simpa using he
        have HG : Hid (riceGet s.data.toList (mn : Int) (kn : Int) = none) := riceGet_no (fun l hl' => by
          have hl2 : Writes kn mn s.data.toList l := hl'
          have h1 := writes_one hl2
          rw [HO.out] at h1
          subst h1
          exact he (HW.out.2 hl2))
        clear he
        go_wp2_with (go_at_call 23; refine hput.mono ?_; rintro e w2 ⟨rfl, hb2⟩)
        go_ret2
        rw [HG.out]
        exact ⟨_, rfl, rfl, HB1.out.trans (hb2.mono HB1.out.size)⟩
    · have hq : ¬ ((out.length : Nat) : Int) = ((mn : Nat) : Int) := by omega
      have HG : Hid (riceGet s.data.toList (mn : Int) (kn : Int) = none) := riceGet_no (fun l hl' => by
        have hl2 : Writes kn mn s.data.toList l := hl'
        have := writes_one hl2
        rw [HO.out] at this
        subst this
        exact hl hl2.1)
      clear hl
      go_wp2_with fail
      go_ret2
      rw [HG.out]
      exact ⟨_, rfl, rfl, HB1.out⟩

end Go.Proofs.YtifpidhoeikdjaaGreatDoor

set_option linter.unusedVariables false
namespace Go.Proofs.YtifpidhoeikdjaaGreatDoor
open Go.RowKit

set_option maxHeartbeats 2000000 in
set_option maxRecDepth 100000 in
theorem implVarGet (s : ByteArray) (w : World) (hs : s.size ≤ maxLen) :
    Calls Tryz.prog 55 #[.string s] w fun e w' => e = .returned (.tuple #[.int .i64 (varGet s.data.toList).1, .int .i64 (varGet s.data.toList).2]) ∧ Below w.heap.size w w' := by
  unfold maxLen at hs
  go_enter Tryz.func55, Tryz.ntmps55
  go_wp2
  go_loopw [4, 5] (fun n i wr => ∃ k : Nat, k ≤ s.size ∧ k ≤ 5 ∧ i = .int .i64 k ∧ n = .int .i64 (vNum (s.data.toList.take k)) ∧ vg (5 - k) (s.data.toList.take k) (s.data.toList.drop k) = varGet s.data.toList ∧ Below w.heap.size w wr) (fun _ i _ => s.size - (intOf i).toNat)
  case atStart => exact ⟨0, by omega, by omega, rfl, rfl, rfl, Below.refl _ _⟩
  case round =>
    obtain ⟨k, hk, hk5, rfl, rfl, heq, hbw⟩ := hrel
    by_cases hlt : k < s.size ∧ k < 5
    · obtain ⟨hlt, h5⟩ := hlt
      have hor : bits .or .i64 (vNum (s.data.toList.take k) : Int) (wrap64 ((s[k].toNat : Int) % 128 * 2 ^ (7 * k))) = (vNum (s.data.toList.take (k + 1)) : Int) := by
        rw [take_snoc s k hlt, vNum_snoc, take_len s k hk]
        have := or_step (vNum (s.data.toList.take k)) (s[k].toNat % 128) k (by have := vNum_lt (s.data.toList.take k); rwa [take_len s k hk] at this) (by omega) h5
        simpa using this
      by_cases hb : 128 ≤ s[k].toNat
      · have hb' : (128 : Int) ≤ (s[k].toNat : Int) := by omega
        have HE : Hid (vg (5 - (k + 1)) (s.data.toList.take (k + 1)) (s.data.toList.drop (k + 1)) = varGet s.data.toList) := by rw [← vg_on s k hlt h5 hb]; exact heq
        clear heq
        go_wp2
        go_roundw
        case rel => exact ⟨k + 1, by omega, by omega, by go_num, rfl, HE.out, hbw⟩
        case measure => simp [intOf]; omega
      · have hb' : ¬ (128 : Int) ≤ (s[k].toNat : Int) := by omega
        have hw1 : IntKind.i64.wrap ((k : Int) + 1) = (k : Int) + 1 := by rw [IntKind.wrap_i64]; omega
        have hbd : 0 ≤ (k : Int) + 1 ∧ (k : Int) + 1 ≤ (s.size : Int) := by omega
        have hex : (s.extract 0 (k + 1)).toList = s.data.toList.take (k + 1) := by rw [Lib.extract_toList]; simp
        by_cases hp : varPut (vNum (s.data.toList.take (k + 1))) = s.data.toList.take (k + 1)
        · have HE : Hid (varGet s.data.toList = (vNum (s.data.toList.take (k + 1)), k + 1)) := by rw [← heq]; exact vg_yes s k hlt h5 hb hp
          have hcmp : (varPut (vNum (s.data.toList.take (k + 1))) == (s.extract 0 (k + 1)).toList) = true := by rw [hex, hp]; simp
          clear heq hex hp
          go_wp2_with fail
          go_region_with (go_at_call 22; refine (implVarPut _ _).mono ?_; rintro e w1 ⟨rfl, b1⟩)
          all_goals
            go_wp2
            go_ret2
            rw [HE.out]
            exact ⟨by simp, hbw.trans ((Below.drew (Below.refl _ wr)).trans b1 |>.mono hbw.size)⟩
        · have HE : Hid (varGet s.data.toList = (0, 0)) := by rw [← heq]; exact vg_no s k hlt h5 hb hp
          have hcmp : (varPut (vNum (s.data.toList.take (k + 1))) == (s.extract 0 (k + 1)).toList) = false := by rw [hex]; simpa using hp
          clear heq hex hp
          go_wp2_with fail
          go_region_with (go_at_call 22; refine (implVarPut _ _).mono ?_; rintro e w1 ⟨rfl, b1⟩)
          all_goals
            go_wp2
            go_ret2
            rw [HE.out]
            exact ⟨by simp, hbw.trans ((Below.drew (Below.refl _ wr)).trans b1 |>.mono hbw.size)⟩
    · have HE : Hid (varGet s.data.toList = (0, 0)) := by rw [← heq]; exact vg_end s k hlt
      clear heq
      by_cases hl : k < s.size
      · have h5 : ¬ k < 5 := fun h => hlt ⟨hl, h⟩
        clear hlt
        go_wp2
        go_ret2
        rw [HE.out]
        exact ⟨rfl, hbw⟩
      · clear hlt
        go_wp2
        go_ret2
        rw [HE.out]
        exact ⟨rfl, hbw⟩

end Go.Proofs.YtifpidhoeikdjaaGreatDoor

namespace Go.Proofs.YtifpidhoeikdjaaGreatDoor
open Go.RowKit

theorem take_sums (l : List Nat) (i : Nat) (h : i < l.length) : sumsF 0 (l.take (i + 1)) = sumsF 0 (l.take i) ++ [total 0 (l.take i) + l.getD i 0] ∧ total 0 (l.take (i + 1)) = total 0 (l.take i) + l.getD i 0 := by
  have e : l.take (i + 1) = l.take i ++ [l.getD i 0] := by
    rw [List.take_add_one, List.getElem?_eq_getElem h, List.getD_eq_getElem?_getD, List.getElem?_eq_getElem h]
    rfl
  rw [e, sumsF_snoc, total_snoc]
  exact ⟨rfl, rfl⟩
theorem total_take_le (l : List Nat) (i : Nat) : total 0 (l.take i) ≤ total 0 l := by
  have e : total 0 l = total (total 0 (l.take i)) (l.drop i) := by
    rw [total, total, total, ← List.foldl_append, List.take_append_drop]
  rw [e]
  exact le_total _ _

end Go.Proofs.YtifpidhoeikdjaaGreatDoor

set_option linter.unusedVariables false
namespace Go.Proofs.YtifpidhoeikdjaaGreatDoor
open Go.Shelf Go.RowKit

set_option maxHeartbeats 1000000 in
set_option maxRecDepth 100000 in
theorem implFilterGet (s : ByteArray) (w : World) (hs : s.size ≤ maxLen) :
    Calls Tryz.prog 31 #[.string s] w fun e w' => ∃ v, e = .returned (.tuple #[v, .bool (filterGet s.data.toList).isSome]) ∧ GotRow w.heap.size v w' (filterGet s.data.toList) ∧ Below w.heap.size w w' := by
  obtain ⟨i0, hi, hz0, hz1, hz2⟩ := info_parts infoIntG
  have hvs := varGet_size s.data.toList
  obtain ⟨mn, sz, hvg⟩ : ∃ mn sz, varGet s.data.toList = (mn, sz) := ⟨_, _, rfl⟩
  have hget := implVarGet s w hs
  have hln : s.data.toList.length = s.size := by simp
  have HBAD : Hid ((sz = 0 ∨ 600 < s.size) → filterGet s.data.toList = none) := by
    intro h
    refine filterGet_bad ?_
    rw [hvg, hln]
    exact h
  have HNONE : Hid (riceGet (s.data.toList.drop sz) (mn : Int) 5 = none → filterGet s.data.toList = none) := by
    intro h
    refine filterGet_none ?_
    rw [hvg]
    exact h
  have HSOME : Hid (∀ gaps, ¬ (sz = 0 ∨ 600 < s.size) → riceGet (s.data.toList.drop sz) (mn : Int) 5 = some gaps → filterGet s.data.toList = placesOf mn gaps) := by
    intro gaps h0 h
    have := filterGet_some (o := s.data.toList) (gaps := gaps) (by rw [hvg, hln]; exact h0) (by rw [hvg]; exact h)
    rw [this, hvg]
  rw [hvg] at hvs hget
  rw [hln] at hvs
  dsimp only at hvs hget
  obtain ⟨hsz, hsz5, hmn⟩ := hvs
  clear hvg hln
  by_cases h0 : sz = 0
  · have HG : Hid (filterGet s.data.toList = none) := HBAD.out (.inl h0)
    rw [HG.out]
    subst h0
    go_enter Tryz.func31, Tryz.ntmps31
    go_wp2_with (go_at_call 55; refine hget.mono ?_; rintro e w1 ⟨rfl, b1⟩)
    go_ret2
    exact ⟨_, rfl, rfl, b1⟩
  · have hne : (((sz : Nat) : Int) == 0) = false := by simp; omega
    by_cases h6 : (600 : Int) < (s.size : Int)
    · have HG : Hid (filterGet s.data.toList = none) := HBAD.out (.inr (by omega))
      rw [HG.out]
      go_enter Tryz.func31, Tryz.ntmps31
      go_wp2_with (go_at_call 55; refine hget.mono ?_; rintro e w1 ⟨rfl, b1⟩)
      go_ret2
      exact ⟨_, rfl, rfl, b1⟩
    · have HOK : Hid (¬ (sz = 0 ∨ 600 < s.size)) := by show ¬ _; omega
      have hbd : 0 ≤ (sz : Int) ∧ (sz : Int) ≤ (s.size : Int) := by omega
      have hex : (s.extract sz s.size).data.toList = s.data.toList.drop sz := by
        simp
        exact List.take_of_length_le (by simp)
      have hrg := fun w => implRiceGet (s.extract sz s.size) (mn : Int) 5 w
      rw [hex] at hrg
      cases hr : riceGet (s.data.toList.drop sz) (mn : Int) 5 with
      | none =>
        have HG : Hid (filterGet s.data.toList = none) := HNONE.out hr
        rw [HG.out]
        rw [hr] at hrg
        dsimp only [Option.isSome] at hrg
        clear hr hex
        go_enter Tryz.func31, Tryz.ntmps31
        go_wp2_with first
          | (go_at_call 55; refine hget.mono ?_; rintro e w1 ⟨rfl, b1⟩)
          | (go_at_call 56; refine (hrg _).mono ?_; rintro e w2 ⟨v2, rfl, g2, b2⟩; obtain rfl : v2 = .slice none 0 0 := g2)
        go_ret2
        exact ⟨_, rfl, rfl, b1.trans (b2.mono b1.size)⟩
      | some gaps =>
        have HG : Hid (filterGet s.data.toList = placesOf mn gaps) := HSOME.out gaps HOK.out hr
        rw [HG.out]
        rw [hr] at hrg
        have hgs := riceGet_some hr
        have HGB : Hid (∀ i, gaps.getD i 0 ≤ 60000) := by
          intro i
          rcases Nat.lt_or_ge i gaps.length with h' | h'
          · rw [List.getD_eq_getElem?_getD, List.getElem?_eq_getElem h']
            exact hgs.2.2.1 _ (List.getElem_mem h')
          · rw [List.getD_eq_getElem?_getD, List.getElem?_eq_none h']
            exact Nat.zero_le _
        have hm40 : mn ≤ 40 ∧ gaps.length = mn := by
          have h1 := hgs.1
          simp only [getOk, Bool.and_eq_true, decide_eq_true_eq] at h1
          have h2 := hgs.2.1
          exact ⟨by omega, by simpa using h2⟩
        obtain ⟨hm40, hgl⟩ := hm40
        have HT : Hid (∀ i, total 0 (gaps.take i) ≤ 2400000) := by
          intro i
          refine Nat.le_trans (total_take_le gaps i) (Nat.le_trans (total_bound gaps hgs.2.2.1 0) ?_)
          omega
        have HGL : Hid (gaps.length = mn) := hgl
        dsimp only [Option.isSome] at hrg
        have hmk := makeCap mn (by omega)
        clear hr hex hgs hgl HNONE HSOME HBAD
        go_enter Tryz.func31, Tryz.ntmps31
        go_wp2_with first
          | (go_at_call 55; refine hget.mono ?_; rintro e w1 ⟨rfl, b1⟩)
          | (go_at_call 56; refine (hrg _).mono ?_; rintro e w2 ⟨v2, rfl, g2, b2⟩; obtain ⟨gg, c2, rfl⟩ := g2.1)
        have HG2 : Hid (OutRow w1.heap.size (.slice (some ⟨gg, 0, none⟩) gaps.length c2) gaps w2) := g2
        have HB2 : Hid (Below w.heap.size w w2) := b1.trans (b2.mono b1.size)
        have HL2 : Hid (gg < w2.heap.size) := g2.lt.2
        have HAT : Hid (At w2 gg (gaps.map fun n : Nat => (n : Int))) := outRow_at g2
        rw [HGL.out]
        have HW3 : Hid (OutRow w2.heap.size (.slice (some ⟨w2.heap.size, 0, none⟩) 0 mn) (sumsF 0 (gaps.take 0)) (w2.alloc (.cells (madeCells #[.int .i64 0] mn) 3))) :=
          ⟨⟨_, _, rfl⟩, rfl, .inr ⟨_, _, _, rfl, Nat.le_refl _, World.alloc_heap_new w2 _, Nat.zero_le _, by unfold maxLen; omega, by rw [madeCells_size0]; omega, rfl⟩⟩
        have HB3 : Hid (Below w2.heap.size w2 (w2.alloc (.cells (madeCells #[.int .i64 0] mn) 3))) := (Below.refl _ w2).alloc (Nat.le_refl _) _
        clear b1 b2 g2 hget hrg hmk
        go_loopw [8, 9, 38] (fun v p i wr => ∃ (k q : Nat), k ≤ mn ∧ q ≤ 2400000 ∧ i = .int .i64 (k : Int) ∧ p = .int .i64 (q : Int) ∧ Hid (q = total 0 (gaps.take k)) ∧ Hid (k = 0 ∨ q < mn * 37) ∧ Hid (OutRow w2.heap.size v (sumsF 0 (gaps.take k)) wr) ∧ Hid (Below w2.heap.size w2 wr)) (fun _ _ i _ => mn - (intOf i).toNat)
        case atStart => exact ⟨0, 0, by omega, by omega, rfl, rfl, rfl, .inl rfl, HW3, HB3⟩
        case round =>
          clear HW3 HB3
          obtain ⟨k, q, hk, hq, rfl, rfl, HQ, HLT, HR, HB⟩ := hrel
          obtain ⟨⟨g3, c3, rfl⟩, hrow⟩ := HR.out
          by_cases hlt : k < mn
          · obtain ⟨x, hx⟩ : ∃ x, x = gaps.getD k 0 := ⟨_, rfl⟩
            have hkg : k < gaps.length := by rw [HGL.out]; exact hlt
            have hst := take_sums gaps k hkg
            have hx6 : x ≤ 60000 := by rw [hx]; exact HGB.out k
            have hq2 : q + x ≤ 2400000 := by have := HT.out (k + 1); rw [hst.2, ← HQ.out, ← hx] at this; exact this
            have cx : wr.cell? ⟨gg, k, none⟩ = some (.int .i64 (x : Int)) := by
              rw [HB.out.cell (p := ⟨gg, k, none⟩) HL2.out, HAT.out.2 k (by simpa using hkg), hx, List.getD_eq_getElem?_getD, List.getElem?_map, List.getD_eq_getElem?_getD, List.getElem?_eq_getElem hkg]
              rfl
            have HS : Hid (sumsF 0 (gaps.take (k + 1)) = sumsF 0 (gaps.take k) ++ [q + x] ∧ q + x = total 0 (gaps.take (k + 1))) := by rw [hst.1, hst.2, ← HQ.out, ← hx]; exact ⟨rfl, rfl⟩
            have HKG : Hid (k < gaps.length) := hkg
            have lk : (k : Int) < (mn : Int) := by omega
            have hlen : (sumsF 0 (gaps.take k)).length = k := by rw [sumsF_length]; simp; omega
            rw [hlen] at hrow HR
            have HRW : Hid (wr.ownsRow w2.heap.size 3 1 (.slice (some ⟨g3, 0, none⟩) k c3) k (intCells (sumsF 0 (gaps.take k)))) := hrow
            have hszr := HB.out.size
            rw [hlen]
            clear hx hst hkg hrow hlen
            by_cases hge : mn * 37 ≤ q + x
            · have hge' : (mn : Int) * 37 ≤ (q : Int) + (x : Int) := by omega
              have HG3 : Hid (placesOf mn gaps = none) := by
                show _ = _
                unfold placesOf
                have h1 := total_take_le gaps (k + 1)
                rw [← HS.out.2] at h1
                have h2 : gaps ≠ [] := by intro e; have := HKG.out; rw [e] at this; cases this
                rw [if_neg]
                rintro (h | h)
                · omega
                · exact h2 h
              clear hge
              go_wp2_with fail
              go_ret2
              rw [HG3.out]
              exact ⟨_, rfl, rfl, HB2.out.trans (HB.out.mono HB2.out.size)⟩
            · have hge' : ¬ (mn : Int) * 37 ≤ (q : Int) + (x : Int) := by omega
              have HGE : Hid (q + x < mn * 37) := Nat.lt_of_not_le hge
              clear hge
              have HK : Hid (k + 1 ≤ mn) := hlt
              have hx1 : k + 1 ≤ maxLen := by unfold maxLen; omega
              have hx2 : (k + 1) * 8 ≤ 140737488355328 := by omega
              go_wp2_with (at_builtin; refine wp_app1 rfl _ _ 36 rfl w2.heap.size 3 i0 (.int .i64 0) 8 Tryz.underlying36 hi hz0 hz1 hz2 rfl _ _ _ rfl HRW.out (.int .i64 ((q + x : Nat) : Int)) rfl rfl hx1 hx2 hszr ?_; intro g4 c4 w4 hown4 hb4 _)
              go_roundw
              case rel =>
                refine ⟨k + 1, q + x, HK.out, hq2, by go_num, by go_num, HS.out.2, .inr HGE.out, ⟨⟨g4, c4, ?_⟩, ?_⟩, HB.out.trans hb4⟩
                · rw [sumsF_length, List.length_take, Nat.min_eq_left (by have := HKG.out; omega)]
                · rw [sumsF_length, List.length_take, Nat.min_eq_left (by have := HKG.out; omega), HS.out.1]
                  simpa [intCells] using hown4
              case measure => have := HK.out; simp [intOf]; omega
          · obtain rfl : k = mn := by omega
            have HP : Hid (placesOf k gaps = some (sumsF 0 gaps)) := by
              show _ = _
              unfold placesOf
              have e : gaps.take k = gaps := List.take_of_length_le (by rw [HGL.out]; exact Nat.le_refl _)
              have h1 := HQ.out
              rw [e] at h1
              rw [if_pos]
              rcases HLT.out with h | h
              · right
                exact List.length_eq_zero_iff.1 (by rw [HGL.out]; exact h)
              · left
                rw [← h1]
                exact h
            have HR2 : Hid (OutRow w2.heap.size (.slice (some ⟨g3, 0, none⟩) (sumsF 0 (gaps.take k)).length c3) (sumsF 0 gaps) wr) := by
              have := HR.out
              rw [List.take_of_length_le (by rw [HGL.out]; exact Nat.le_refl _)] at this ⊢
              exact this
            clear hrow
            go_wp2_with fail
            go_ret2
            rw [HP.out]
            exact ⟨_, rfl, ⟨HR2.out.1, ownsRow_mono HR2.out.2 HB2.out.size⟩, HB2.out.trans (HB.out.mono HB2.out.size)⟩

end Go.Proofs.YtifpidhoeikdjaaGreatDoor

set_option linter.unusedVariables false
namespace Go.Proofs.YtifpidhoeikdjaaGreatDoor
open Go.RowKit

end Go.Proofs.YtifpidhoeikdjaaGreatDoor

set_option linter.unusedVariables false
namespace Go.Proofs.YtifpidhoeikdjaaGreatDoor
open Go.Shelf Go.RowKit

/-- How many a filter tells, if it is one. -/
noncomputable def manyOf2 (o : List UInt8) : Nat := if (filterGet o).isSome then (varGet o).1 else 0

end Go.Proofs.YtifpidhoeikdjaaGreatDoor

set_option linter.unusedVariables false
namespace Go.Proofs.YtifpidhoeikdjaaGreatDoor
open Go.RowKit

noncomputable def filterHas (s k it : List UInt8) : Bool :=
  match filterGet s with
  | none => false
  | some l => decide (l ≠ []) && isSum k && isItem it && l.any fun p => decide ((p : Int) = filterTo k it ((l.length : Int) * 37))
theorem filterHas_none {s k it : List UInt8} (h : filterGet s = none) : filterHas s k it = false := by rw [filterHas, h]
theorem filterHas_nil {s k it : List UInt8} (h : filterGet s = some []) : filterHas s k it = false := by rw [filterHas, h]; simp
theorem filterHas_no1 {s k it : List UInt8} (h : isSum k = false) : filterHas s k it = false := by
  rw [filterHas]
  split
  · rfl
  · simp [h]
theorem filterHas_no2 {s k it : List UInt8} (h : isItem it = false) : filterHas s k it = false := by
  rw [filterHas]
  split
  · rfl
  · simp [h]
theorem filterHas_yes {s k it : List UInt8} {l : List Nat} (h : filterGet s = some l) (hl : l ≠ []) (h1 : isSum k = true) (h2 : isItem it = true) : filterHas s k it = l.any fun p => decide ((p : Int) = filterTo k it ((l.length : Int) * 37)) := by
  rw [filterHas, h]
  simp [h1, h2, hl]
theorem any_yes (l : List Nat) (z : Int) (k : Nat) (hk : k < l.length) (h : ((l.getD k 0 : Nat) : Int) = z) : (l.any fun p => decide ((p : Int) = z)) = true := by
  rw [List.any_eq_true]
  refine ⟨l.getD k 0, ?_, by simpa using h⟩
  simp [List.getElem?_eq_getElem hk]
theorem any_no (l : List Nat) (z : Int) (h : ∀ j, j < l.length → ((l.getD j 0 : Nat) : Int) ≠ z) : (l.any fun p => decide ((p : Int) = z)) = false := by
  rw [List.any_eq_false]
  intro x hx
  obtain ⟨i, hi, rfl⟩ := List.mem_iff_getElem.1 hx
  have := h i hi
  rw [List.getD_eq_getElem?_getD, List.getElem?_eq_getElem hi] at this
  simpa using this
theorem filterGet_len2 {o : List UInt8} {l : List Nat} (h : filterGet o = some l) : l.length ≤ 40 ∧ l.length = (varGet o).1 := by
  unfold filterGet at h
  split at h
  · cases h
  · split at h
    · cases h
    · rename_i gaps hr
      unfold placesOf at h
      split at h
      · have e : sumsF 0 gaps = l := by simpa using h
        rw [← e, sumsF_length]
        have := riceGet_some hr
        have h2 := this.1
        simp only [getOk, Bool.and_eq_true, decide_eq_true_eq] at h2
        have h3 := this.2.1
        omega
      · cases h
theorem manyOf2_some {o : List UInt8} {l : List Nat} (h : filterGet o = some l) : manyOf2 o = l.length := by
  rw [manyOf2, h, (filterGet_len2 h).2]
  rfl

set_option maxHeartbeats 1000000 in
set_option maxRecDepth 100000 in
theorem indexInts (g n cap : Nat) (l : List Nat) (z : Int) (w : World) (h : At w g (l.map fun n : Nat => (n : Int))) (hn : n = l.length) (hm : n ≤ 1000) :
    Calls Tryz.prog 57 #[.slice (some ⟨g, 0, none⟩) n cap, .int .i64 z] w fun e w' => ∃ r : Int, e = .returned (.int .i64 r) ∧ decide (0 ≤ r) = (l.any fun p => decide ((p : Int) = z)) ∧ w = w' := by
  have HA : Hid (At w g (l.map fun n : Nat => (n : Int))) := h
  have HN : Hid (n = l.length) := hn
  clear h hn
  go_enter Tryz.func57, Tryz.ntmps57
  go_wp2_with fail
  go_loop [8] (fun i => ∃ k : Nat, k ≤ n ∧ i = .int .i64 (k : Int) ∧ Hid (∀ j, j < k → ((l.getD j 0 : Nat) : Int) ≠ z)) (fun i => n - (intOf i).toNat)
  case atStart => exact ⟨0, by omega, rfl, fun j hj => by omega⟩
  case round =>
    obtain ⟨k, hk, rfl, HT⟩ := hrel
    by_cases hlt : k < n
    · have hkl : k < l.length := by rw [← HN.out]; exact hlt
      have hc := HA.out.2 k (by simpa using hkl)
      have ez : (l.map fun n : Nat => (n : Int)).getD k 0 = ((l.getD k 0 : Nat) : Int) := by
        rw [List.getD_eq_getElem?_getD, List.getElem?_map, List.getElem?_eq_getElem hkl, List.getD_eq_getElem?_getD, List.getElem?_eq_getElem hkl]
        rfl
      rw [ez] at hc
      have HK : Hid (k + 1 ≤ n) := hlt
      have lk : (k : Int) < (n : Int) := by omega
      have lk0 : (0 : Int) ≤ (k : Int) := by omega
      by_cases he : ((l.getD k 0 : Nat) : Int) = z
      · have HY : Hid ((l.any fun p => decide ((p : Int) = z)) = true) := any_yes l z k hkl he
        obtain ⟨x, hx⟩ : ∃ x : Int, x = ((l.getD k 0 : Nat) : Int) := ⟨_, rfl⟩
        rw [← hx] at hc he
        subst he
        clear hx ez hkl
        go_wp2_with fail
        go_ret
        rw [HY.out]
        exact ⟨_, rfl, by simp, rfl⟩
      · have HZ : Hid (((l.getD k 0 : Nat) : Int) ≠ z) := he
        have HT2 : Hid (∀ j, j < k + 1 → ((l.getD j 0 : Nat) : Int) ≠ z) := by
          intro j hj
          rcases Nat.lt_or_ge j k with h' | h'
          · exact HT.out j h'
          · obtain rfl : j = k := by omega
            exact he
        obtain ⟨x, hx⟩ : ∃ x : Int, x = ((l.getD k 0 : Nat) : Int) := ⟨_, rfl⟩
        rw [← hx] at hc he
        have hne : (z == x) = false := by simp; intro e; exact he e.symm
        clear hx he ez hkl
        go_wp2_with fail
        go_round
        case rel => exact ⟨k + 1, HK.out, by go_num, HT2⟩
        case measure => have := HK.out; simp [intOf]; omega
    · have HY : Hid ((l.any fun p => decide ((p : Int) = z)) = false) := any_no l z (fun j hj => HT.out j (by have := HN.out; omega))
      go_wp2_with fail
      go_ret
      rw [HY.out]
      exact ⟨-1, rfl, by decide, rfl⟩

set_option maxHeartbeats 1000000 in
set_option maxRecDepth 100000 in
theorem containsInts (g n cap : Nat) (l : List Nat) (z : Int) (w : World) (h : At w g (l.map fun n : Nat => (n : Int))) (hn : n = l.length) (hm : n ≤ 1000) :
    Calls Tryz.prog 33 #[.slice (some ⟨g, 0, none⟩) n cap, .int .i64 z] w fun e w' => e = .returned (.bool (l.any fun p => decide ((p : Int) = z))) ∧ w = w' := by
  have hix := indexInts g n cap l z w h hn hm
  generalize (l.any fun p => decide ((p : Int) = z)) = b at hix
  clear h hn
  go_enter Tryz.func33, Tryz.ntmps33
  go_wp2_with fail
  refine hix.mono ?_
  rintro e w1 ⟨r, rfl, hr, rfl⟩
  clear hix
  go_wp2_with fail
  go_ret
  exact ⟨by simp [← hr], rfl⟩

end Go.Proofs.YtifpidhoeikdjaaGreatDoor

namespace Go.Proofs.YtifpidhoeikdjaaGreatDoor
open Go.RowKit

theorem vg_run (l : List UInt8) : ∀ (f : Nat) (pre : List UInt8) (b : UInt8) (r : List UInt8), (∀ c ∈ l, 128 ≤ c.toNat) → b.toNat < 128 → l.length < f →
    vg f pre (l ++ b :: r) = if varPut (vNum (pre ++ l ++ [b])) = pre ++ l ++ [b] then (vNum (pre ++ l ++ [b]), (pre ++ l).length + 1) else (0, 0) := by
  induction l with
  | nil =>
    intro f pre b r _ hb hf
    obtain ⟨g, rfl⟩ : ∃ g, f = g + 1 := ⟨f - 1, by simp at hf; omega⟩
    simp only [List.nil_append, vg, List.append_nil]
    rw [if_neg (by omega)]
  | cons c t ih =>
    intro f pre b r hl hb hf
    obtain ⟨g, rfl⟩ : ∃ g, f = g + 1 := ⟨f - 1, by simp at hf; omega⟩
    simp only [List.cons_append, vg]
    rw [if_pos (hl c (by simp)), ih g (pre ++ [c]) b r (fun x hx => hl x (by simp [hx])) hb (by simp at hf; omega)]
    simp

theorem varB_shape (f : Nat) : ∀ n, n < 128 ^ (f + 1) → ∃ l b, varB f n = l ++ [b] ∧ vEnds l b ∧ vNum (l ++ [b]) = n ∧ l.length ≤ f := by
  induction f with
  | zero =>
    intro n hn
    have hn' : n < 128 := by simpa using hn
    refine ⟨[], UInt8.ofNat n, by simp [varB], ⟨by simp, by simp; omega⟩, ?_, by simp⟩
    simp [vNum]
    omega
  | succ f ih =>
    intro n hn
    by_cases h : n < 128
    · refine ⟨[], UInt8.ofNat n, by simp [varB, h], ⟨by simp, by simp; omega⟩, ?_, by simp⟩
      simp [vNum]
      omega
    · have hp : 128 ^ (f + 1 + 1) = 128 ^ (f + 1) * 128 := Nat.pow_succ ..
      obtain ⟨l, b, h1, h2, h3, h4⟩ := ih (n / 128) (by omega)
      refine ⟨UInt8.ofNat (128 + n % 128) :: l, b, by rw [varB_step f n h, h1]; simp, ⟨?_, h2.2⟩, ?_, by simp; omega⟩
      · intro c hc
        rcases List.mem_cons.1 hc with rfl | hc
        · simp
          omega
        · exact h2.1 c hc
      · simp only [List.cons_append, vNum, h3]
        simp
        omega

theorem varGet_put (n : Nat) (hn : n ≤ 2147483647) (r : List UInt8) : varGet (varPut n ++ r) = (n, (varPut n).length) ∧ 1 ≤ (varPut n).length ∧ (varPut n).length ≤ 5 := by
  have hv : varPut n = varB 4 n := by unfold varPut; rw [if_pos (by omega)]; simp
  obtain ⟨l, b, h1, h2, h3, h4⟩ := varB_shape 4 n (by omega)
  have hl := varB_length 4 n
  refine ⟨?_, by rw [hv]; exact hl.1, by rw [hv]; omega⟩
  rw [hv, h1, varGet]
  have := vg_run l 5 [] b r h2.1 h2.2 (by omega)
  simp only [List.append_assoc, List.cons_append, List.nil_append] at this ⊢
  rw [this, if_pos (by rw [h3, hv, h1]), h3]
  simp

/-- What is read as a number is written just so. -/
theorem vg_got : ∀ (f : Nat) (l s : List UInt8), (vg f l s).2 = 0 ∨ (varPut (vg f l s).1 = (l ++ s).take (vg f l s).2 ∧ (vg f l s).2 ≤ (l ++ s).length) := by
  intro f
  induction f with
  | zero => intro l s; left; rfl
  | succ f ih =>
    intro l s
    cases s with
    | nil => left; rfl
    | cons b r =>
      simp only [vg]
      by_cases hb : 128 ≤ b.toNat
      · rw [if_pos hb]
        have := ih (l ++ [b]) r
        simpa using this
      · rw [if_neg hb]
        by_cases hp : varPut (vNum (l ++ [b])) = l ++ [b]
        · rw [if_pos hp]
          right
          refine ⟨?_, by simp⟩
          show varPut (vNum (l ++ [b]) : Nat) = _
          rw [hp]
          simp [List.take_append, List.take_of_length_le]
        · rw [if_neg hp]
          left
          rfl

theorem varGet_got (s : List UInt8) : (varGet s).2 = 0 ∨ (varPut (varGet s).1 = s.take (varGet s).2 ∧ (varGet s).2 ≤ s.length) := by
  have := vg_got 5 [] s
  simpa [varGet] using this

end Go.Proofs.YtifpidhoeikdjaaGreatDoor

set_option linter.unusedVariables false
namespace Go.Proofs.YtifpidhoeikdjaaGreatDoor
open Go.RowKit

theorem setL_same {a b : List ByteArray} (h : ∀ x, x ∈ a ↔ x ∈ b) : setL a = setL b := by
  refine (List.map_inj_right (f := fun s : ByteArray => s.data.toList) (fun _ _ hh => data_inj hh)).1 ?_
  refine strict_eq (List.pairwise_map.2 (setL_pair a)) (List.pairwise_map.2 (setL_pair b)) fun x => ?_
  rw [List.mem_map, List.mem_map]
  constructor
  · rintro ⟨s, hs, e⟩; exact ⟨s, (setL_mem b s).2 ((h s).1 ((setL_mem a s).1 hs)), e⟩
  · rintro ⟨s, hs, e⟩; exact ⟨s, (setL_mem a s).2 ((h s).2 ((setL_mem b s).1 hs)), e⟩
theorem filterOf_same {k : List UInt8} {a b : List ByteArray} (h : ∀ x, x ∈ a ↔ x ∈ b) (ha : a.length ≤ 40) (hb : b.length ≤ 40) : filterOf k a = filterOf k b := by
  have h1 : itemsOkB a = itemsOkB b := by
    rw [itemsOkB, itemsOkB, decide_eq_true ha, decide_eq_true hb, Bool.true_and, Bool.true_and, Bool.eq_iff_iff, List.all_eq_true, List.all_eq_true]
    exact ⟨fun hh x hx => hh x ((h x).2 hx), fun hh x hx => hh x ((h x).1 hx)⟩
  have h2 : filterB k a = filterB k b := by rw [filterB, filterB, gapsL, gapsL, placesL, placesL, setL_same h]
  rw [filterOf, filterOf, h1, h2]
theorem sums_gaps : ∀ (l : List Int) (a : Int), 0 ≤ a → Asc a l → sumsF a.toNat ((gapsZ a l).map Int.toNat) = l.map Int.toNat ∧ total a.toNat ((gapsZ a l).map Int.toNat) = (lastZ a l).toNat
  | [], a, _, _ => ⟨rfl, rfl⟩
  | x :: r, a, ha, h => by
    have h1 := h.1
    have ih := sums_gaps r x (by omega) h.2
    have e : a.toNat + (x - a).toNat = x.toNat := by omega
    simp only [gapsZ, List.map_cons, sumsF, total_cons, lastZ, e]
    rw [ih.1, ih.2]
    exact ⟨rfl, rfl⟩
theorem lastZ_mem : ∀ (l : List Int) (a : Int), l ≠ [] → lastZ a l ∈ l
  | [], a, h => absurd rfl h
  | [x], a, _ => by simp [lastZ]
  | x :: y :: r, a, _ => List.mem_cons_of_mem _ (lastZ_mem (y :: r) x (by simp))
theorem bits_le : ∀ (l : List Nat) (a : Nat), (bitsOf 5 l).length + a / 32 ≤ total a l / 32 + 6 * l.length
  | [], a => by simp [bitsOf, total]
  | x :: r, a => by
    have ih := bits_le r (a + x)
    have e : (bitsOf 5 (x :: r)).length = (x / 32 + 1 + 5) + (bitsOf 5 r).length := by
      have : bitsOf 5 (x :: r) = numB 5 x ++ bitsOf 5 r := by simp [bitsOf]
      rw [this, List.length_append, numB_length]
    rw [e, total_cons, List.length_cons]
    have : x / 32 + a / 32 ≤ (a + x) / 32 := by omega
    omega
theorem rice_short (l : List Nat) : (riceB 5 l).length ≤ (bitsOf 5 l).length + 8 := by
  have h1 := runB_len ([], []) (bitsOf 5 l)
  unfold riceB fillB
  generalize runB ([], []) (bitsOf 5 l) = s at h1
  have h2 := runB_len s (List.replicate (if s.2 = [] then 0 else 8 - s.2.length) 0)
  rw [List.length_replicate] at h2
  have h3 : (if s.2 = [] then 0 else 8 - s.2.length) ≤ 8 := by split <;> omega
  simp only [List.length_nil] at h1
  omega
theorem places_lt {k : List UInt8} {ss : List ByteArray} (h1 : isSum k = true) (h2 : itemsOkB ss = true) : ∀ z ∈ placesL k ss, 0 ≤ z ∧ z < ((setL ss).length : Int) * 37 := by
  intro z hz
  obtain ⟨it, hit, rfl⟩ := List.mem_map.1 hz
  have hi := set_items h2 it hit
  have hn : 1 ≤ (setL ss).length := by
    cases hs : setL ss with
    | nil => rw [hs] at hit; cases hit
    | cons a r => simp
  have hn4 : (setL ss).length ≤ 40 := Nat.le_trans (setL_length ss) (itemsOk_len h2)
  have hb : 1 ≤ ((setL ss).length : Int) * 37 ∧ ((setL ss).length : Int) * 37 ≤ 60000 := by omega
  rw [filterTo_yes h1 hi hb]
  have := place_lt (headOf (k ++ 32 :: it.data.toList)) (((setL ss).length : Int) * 37) (headOf_lt _) hb
  omega
theorem filterGet_of {k : List UInt8} {ss : List ByteArray} (h1 : isSum k = true) (h2 : itemsOkB ss = true) : filterGet (filterB k ss) = some ((sortL (placesL k ss)).map Int.toNat) := by
  have hn4 : (setL ss).length ≤ 40 := Nat.le_trans (setL_length ss) (itemsOk_len h2)
  have hp := places_lt h1 h2
  have hasc := asc_sort (placesL k ss) (fun x hx => (hp x hx).1)
  have hsl : (sortL (placesL k ss)).length = (setL ss).length := by rw [sortL_length, placesL, List.length_map]
  have hso : ∀ z ∈ sortL (placesL k ss), 0 ≤ z ∧ z < ((setL ss).length : Int) * 37 := fun z hz => hp z ((sortL_mem _ z).1 hz)
  have hgo := gaps_ok h1 h2
  have hgl : filterB k ss = varB 4 (setL ss).length ++ riceB 5 ((gapsZ 0 (sortL (placesL k ss))).map Int.toNat) := rfl
  have hge : gapsL k ss = gapsZ 0 (sortL (placesL k ss)) := rfl
  rw [hge] at hgo
  rw [hgl]
  generalize sortL (placesL k ss) = so at hasc hsl hso hgo
  generalize (setL ss).length = n at hn4 hsl hso
  have hsg := sums_gaps so 0 (by omega) hasc
  have hgl2 : ((gapsZ 0 so).map Int.toNat).length = n := by rw [List.length_map, gapsZ_length, hsl]
  have hle : ∀ x ∈ (gapsZ 0 so).map Int.toNat, x ≤ 60000 := by
    intro x hx
    obtain ⟨z, hz, rfl⟩ := List.mem_map.1 hx
    obtain ⟨i, hi, rfl⟩ := List.mem_iff_getElem.1 hz
    have := hgo.2 i hi
    rw [List.getD_eq_getElem?_getD, List.getElem?_eq_getElem hi] at this
    simp at this
    omega
  have htot : total 0 ((gapsZ 0 so).map Int.toNat) < n * 37 ∨ (gapsZ 0 so).map Int.toNat = [] := by
    by_cases he : so = []
    · right; rw [he]; rfl
    · left
      have e := hsg.2
      simp only [Int.toNat_zero] at e
      rw [e]
      have := hso _ (lastZ_mem so 0 he)
      omega
  have htle : total 0 ((gapsZ 0 so).map Int.toNat) ≤ 1480 := by
    rcases htot with h | h
    · omega
    · rw [h]; simp [total]
  have hsum : sumsF 0 ((gapsZ 0 so).map Int.toNat) = so.map Int.toNat := by
    have e := hsg.1
    simpa using e
  generalize (gapsZ 0 so).map Int.toNat = gs at hgl2 hle htot htle hsum
  have hv : varB 4 n = varPut (n : Int) := by rw [varPut, if_pos (by omega)]; simp
  have hg := varGet_put n (by omega) (riceB 5 gs)
  have hb := bits_le gs 0
  have hr := rice_short gs
  rw [hv]
  have h0 : ¬ ((varGet (varPut (n : Int) ++ riceB 5 gs)).2 = 0 ∨ 600 < (varPut (n : Int) ++ riceB 5 gs).length) := by
    rw [hg.1, List.length_append]
    omega
  rw [filterGet_some (gaps := gs) h0 ?_, hg.1, placesOf, if_pos htot, hsum]
  rw [hg.1]
  dsimp only
  rw [List.drop_left]
  refine riceGet_yes ?_ ⟨by rw [hgl2]; simp, hle, rfl⟩
  have e1 : decide ((0 : Int) ≤ (n : Int) ∧ (n : Int) ≤ 40) = true := decide_eq_true (by omega)
  have e3 : decide ((riceB 5 gs).length ≤ 600) = true := decide_eq_true (by omega)
  simp only [getOk, e1, e3]
  decide
theorem filterHas_of {k : List UInt8} {ss : List ByteArray} (h1 : isSum k = true) (h2 : itemsOkB ss = true) (it : ByteArray) (hit : it ∈ ss) : filterHas (filterB k ss) k it.data.toList = true := by
  have hset := (setL_mem ss it).2 hit
  have hp := places_lt h1 h2
  have hmem : filterTo k it.data.toList (((setL ss).length : Int) * 37) ∈ sortL (placesL k ss) := (sortL_mem _ _).2 (List.mem_map.2 ⟨it, hset, rfl⟩)
  have hsl : (sortL (placesL k ss)).length = (setL ss).length := by rw [sortL_length, placesL, List.length_map]
  have h0 := hp _ ((sortL_mem _ _).1 hmem)
  rw [filterHas_yes (filterGet_of h1 h2) (fun e => by
    have e2 := List.map_eq_nil_iff.1 e
    rw [e2] at hmem
    cases hmem) h1 (set_items h2 it hset), List.length_map, hsl, List.any_eq_true]
  refine ⟨_, List.mem_map.2 ⟨_, hmem, rfl⟩, decide_eq_true ?_⟩
  omega

end Go.Proofs.YtifpidhoeikdjaaGreatDoor

set_option linter.unusedVariables false
namespace Go.Proofs.YtifpidhoeikdjaaGreatDoor
open Go.RowKit

set_option maxHeartbeats 1000000 in
set_option maxRecDepth 100000 in
theorem implFilterHas (s k it : ByteArray) (w : World) (hs : s.size ≤ maxLen) (hK : RowG w shaK) :
    Calls Tryz.prog 11 #[.string s, .string k, .string it] w fun e w' => e = .returned (.bool (filterHas s.data.toList k.data.toList it.data.toList)) ∧ Below w.heap.size w w' := by
  have hget := implFilterGet s w hs
  have HK : Hid (RowG w shaK) := hK
  clear hK
  cases hfg : filterGet s.data.toList with
  | none =>
    rw [filterHas_none hfg]
    rw [hfg] at hget
    dsimp only [Option.isSome] at hget
    clear hfg
    go_enter Tryz.func11, Tryz.ntmps11
    go_wp2_with (go_at_call 31; refine hget.mono ?_; rintro e w1 ⟨v, rfl, g1, b1⟩; obtain rfl : v = .slice none 0 0 := g1)
    go_ret
    exact ⟨rfl, b1⟩
  | some l =>
    rw [hfg] at hget
    dsimp only [Option.isSome] at hget
    have hlen := filterGet_len2 hfg
    have hl40 := hlen.1
    clear hlen
    have HFG : Hid (filterGet s.data.toList = some l) := hfg
    have hget2 : Calls Tryz.prog 31 #[.string s] w fun e w' => ∃ g c n, e = .returned (.tuple #[.slice (some ⟨g, 0, none⟩) n c, .bool true]) ∧ n = l.length ∧ At w' g (l.map fun n : Nat => (n : Int)) ∧ Below w.heap.size w w' := by
      refine hget.mono ?_
      rintro e w1 ⟨v, rfl, g1, b1⟩
      obtain ⟨g, c, rfl⟩ := g1.1
      exact ⟨g, c, l.length, rfl, rfl, outRow_at g1, b1⟩
    clear hget hfg
    by_cases hl0 : l = []
    · rw [filterHas_nil (by rw [HFG.out, hl0])]
      have HL0 : Hid (l.length = 0) := by rw [hl0]; rfl
      clear hl0
      go_enter Tryz.func11, Tryz.ntmps11
      go_wp2_with (go_at_call 31; refine hget2.mono ?_; rintro e w1 ⟨g, c, n, rfl, hn, hat, b1⟩; rw [HL0.out] at hn; subst hn)
      go_ret
      exact ⟨rfl, b1⟩
    · cases h1 : isSum k.data.toList with
      | false =>
        rw [filterHas_no1 h1]
        have HL0 : Hid (l.length ≠ 0) := fun e => hl0 (List.length_eq_zero_iff.1 e)
        clear hl0
        go_enter Tryz.func11, Tryz.ntmps11
        go_wp2_with first
          | (go_at_call 31; refine hget2.mono ?_; rintro e w1 ⟨g, c, n, rfl, hn, hat, b1⟩; have hne : ((n : Int) == 0) = false := (by have := HL0.out; simp; omega); clear hn)
          | (go_at_call 15; refine (implSumOk _ _).mono ?_; rintro e w2 ⟨rfl, rfl⟩)
        go_ret
        exact ⟨rfl, b1⟩
      | true =>
        cases h2 : isItem it.data.toList with
        | false =>
          rw [filterHas_no2 h2]
          have HL0 : Hid (l.length ≠ 0) := fun e => hl0 (List.length_eq_zero_iff.1 e)
          clear hl0
          go_enter Tryz.func11, Tryz.ntmps11
          go_wp2_with first
            | (go_at_call 31; refine hget2.mono ?_; rintro e w1 ⟨g, c, n, rfl, hn, hat, b1⟩; have hne : ((n : Int) == 0) = false := (by have := HL0.out; simp; omega); clear hn)
            | (go_at_call 15; refine (implSumOk _ _).mono ?_; rintro e w2 ⟨rfl, rfl⟩)
            | (go_at_call 32; refine (implItemOk _ _).mono ?_; rintro e w2 ⟨rfl, rfl⟩)
          go_ret
          exact ⟨rfl, b1⟩
        | true =>
          rw [filterHas_yes HFG.out hl0 h1 h2]
          have HL0 : Hid (l.length ≠ 0) := fun e => hl0 (List.length_eq_zero_iff.1 e)
          obtain ⟨ln, hln⟩ : ∃ ln, ln = l.length := ⟨_, rfl⟩
          rw [← hln] at hl40 HL0 ⊢
          have hto := fun w' h' => implFilterTo k it ((ln : Int) * 37) w' h'
          generalize filterTo k.data.toList it.data.toList ((ln : Int) * 37) = z at hto ⊢
          have hcon := fun g c n w' h' hn' => containsInts g n c l z w' h' hn'
          generalize (l.any fun p => decide ((p : Int) = z)) = b at hcon ⊢
          have HLN : Hid (ln = l.length) := hln
          have hne : ((ln : Int) == 0) = false := by have := HL0.out; simp; omega
          clear hl0 hln
          go_enter Tryz.func11, Tryz.ntmps11
          go_wp2_with first
            | (go_at_call 31; refine hget2.mono ?_; rintro e w1 ⟨g, c, n, rfl, hn, hat, b1⟩; rw [← HLN.out] at hn; subst hn)
            | (go_at_call 15; refine (implSumOk _ _).mono ?_; rintro e w2 ⟨rfl, rfl⟩)
            | (go_at_call 32; refine (implItemOk _ _).mono ?_; rintro e w2 ⟨rfl, rfl⟩)
          have HB1 : Hid (Below w.heap.size w w1) := b1
          have HAT : Hid (At w1 g (l.map fun n : Nat => (n : Int))) := hat
          clear b1 hat
          refine (hto _ (HK.out.below HB1.out HK.out.lt)).mono ?_
          rintro e w2 ⟨rfl, b2⟩
          have HB2 : Hid (Below w.heap.size w w2) := HB1.out.trans (b2.mono HB1.out.size)
          have HAT2 : Hid (At w2 g (l.map fun n : Nat => (n : Int))) := HAT.out.below b2 HAT.out.1
          clear b2 hto
          go_wp2_with fail
          refine (hcon g c n _ HAT2.out HLN.out (by omega)).mono ?_
          rintro e w3 ⟨rfl, rfl⟩
          clear hcon
          go_wp2_with fail
          go_ret
          exact ⟨rfl, HB2.out⟩

end Go.Proofs.YtifpidhoeikdjaaGreatDoor

set_option linter.unusedVariables false
namespace Go.Proofs.YtifpidhoeikdjaaGreatDoor
open Go.RowKit

/-- The items behind a place, the last first, each twice. -/
def bk (ss : List ByteArray) (m : Nat) : List ByteArray := (ss.drop m).reverse.flatMap fun x => [x, x]
theorem bk_step (ss : List ByteArray) (m : Nat) (h : m < ss.length) : bk ss m = bk ss (m + 1) ++ [ss.getD m ByteArray.empty, ss.getD m ByteArray.empty] := by
  have e : ss.drop m = ss.getD m ByteArray.empty :: ss.drop (m + 1) := by
    rw [List.drop_eq_getElem_cons h, List.getD_eq_getElem?_getD, List.getElem?_eq_getElem h]
    rfl
  rw [bk, e, List.reverse_cons, List.flatMap_append]
  rfl
theorem bk_all (ss : List ByteArray) : bk ss ss.length = [] := by simp [bk]
theorem bk_mem (ss : List ByteArray) (x : ByteArray) : x ∈ bk ss 0 ↔ x ∈ ss := by
  simp [bk]
theorem bk_length (ss : List ByteArray) (m : Nat) : (bk ss m).length = 2 * (ss.length - m) := by
  have : ∀ l : List ByteArray, (l.flatMap fun x => [x, x]).length = 2 * l.length := by
    intro l
    induction l with
    | nil => rfl
    | cons a r ih => simp only [List.flatMap_cons, List.length_append, ih, List.length_cons, List.length_nil]; omega
  rw [bk, this, List.length_reverse, List.length_drop]

set_option maxHeartbeats 2000000 in
set_option maxRecDepth 100000 in
theorem walk_FnFilterOf (a : Option Addr) (len cap : Nat) (zs : List Int) (w : World) (h : IsRow .u8 w a len cap zs) (hK : RowG w shaK) :
    Calls Tryz.prog 4 #[.slice a len cap] w fun e w' => e = .returned (.bool true) ∧ Below w.heap.size w w' := by
  have HK : Hid (RowG w shaK) := hK
  obtain ⟨i0, hi, hz0, hz1, hz2⟩ := info_parts infoStr
  clear hK
  by_cases hl : (1048576 : Int) < (len : Int)
  · go_enter Tryz.func4, Tryz.ntmps4
    go_wp2
    go_ret
    exact ⟨rfl, Below.refl _ _⟩
  go_enter Tryz.func4, Tryz.ntmps4
  go_wp2_with fail
  refine (drawFilterOf a len cap zs _ h).mono ?_
  rintro e w1 ⟨key, g, n, c, ss, rfl, hk16, hat, hn, hn21, hsz, b1⟩
  have HAT : Hid (AtS w1 g ss) := hat
  have HN : Hid (n = ss.length) := hn
  have HB1 : Hid (Below w.heap.size w w1) := b1
  have HSZ : Hid (∀ i, i < ss.length → (ss.getD i ByteArray.empty).size ≤ maxLen) := fun i hi => by have := hsz i hi; unfold maxLen; omega
  have HKS : Hid (key.size ≤ maxLen) := by unfold maxLen; show _ ≤ _; omega
  obtain ⟨t, ht⟩ : ∃ t, filterOf key.data.toList ss = t := ⟨_, rfl⟩
  have hI := implFilterOf g n c ss key w1 HAT.out HN.out (HK.out.below HB1.out HK.out.lt)
  have HS : Hid (∀ w', AtS w' g ss → Calls Tryz.prog 6 #[.string key, .slice (some ⟨g, 0, none⟩) n c] w' fun e w'' => e = .returned (.string ⟨t.toArray⟩) ∧ Below w'.heap.size w' w'') := by
    intro w' hw'
    have := specFilterOf g n c ss key w' hw' HN.out (by omega) HSZ.out HKS.out
    rw [ht] at this
    exact this
  rw [ht] at hI
  have HT : Hid (filterOf key.data.toList ss = t) := ht
  have HTL : Hid ((⟨t.toArray⟩ : ByteArray).size ≤ maxLen) := by
    have := filterOf_len key.data.toList ss
    rw [ht] at this
    show (⟨t.toArray⟩ : ByteArray).size ≤ _
    have e : (⟨t.toArray⟩ : ByteArray).size = t.length := by simp [ByteArray.size]
    rw [e]
    unfold maxLen
    omega
  clear ht hat hn b1 hsz h hl
  go_wp2_with fail
  refine hI.mono ?_
  rintro e w2 ⟨rfl, b2⟩
  have HAT2 : Hid (AtS w2 g ss) := HAT.out.below b2 HAT.out.1
  have HB2 : Hid (Below w.heap.size w w2) := HB1.out.trans (b2.mono HB1.out.size)
  clear b2 hI
  by_cases h0 : t = []
  · subst h0
    go_wp2_with (go_at_call 6; refine (HS.out _ HAT2.out).mono ?_; rintro e w3 ⟨rfl, b3⟩)
    have HAT3 : Hid (AtS w3 g ss) := HAT2.out.below b3 HAT2.out.1
    have HB3 : Hid (Below w.heap.size w w3) := HB2.out.trans (b3.mono HB2.out.size)
    clear b3
    refine (HS.out _ HAT3.out).mono ?_
    rintro e w4 ⟨rfl, b4⟩
    go_wp2_with fail
    go_ret
    exact ⟨rfl, HB3.out.trans (b4.mono HB3.out.size)⟩
  · have h0' : (t == []) = false := by simpa using h0
    have H1 : Hid (isSum key.data.toList = true) := by
      cases hh : isSum key.data.toList with
      | true => rfl
      | false => exact absurd ((HT.out).symm.trans (filterOf_no1 hh)) h0
    have H2 : Hid (itemsOkB ss = true) := by
      cases hh : itemsOkB ss with
      | true => rfl
      | false => exact absurd ((HT.out).symm.trans (filterOf_no2 hh)) h0
    have HTB : Hid (t = filterB key.data.toList ss) := (HT.out).symm.trans (filterOf_yes H1.out H2.out)
    clear h0
    go_wp2_with (go_at_call 6; refine (HS.out _ HAT2.out).mono ?_; rintro e w3 ⟨rfl, b3⟩)
    have HAT3 : Hid (AtS w3 g ss) := HAT2.out.below b3 HAT2.out.1
    have HB3 : Hid (Below w.heap.size w w3) := HB2.out.trans (b3.mono HB2.out.size)
    have HZ0 : Hid (SRow w3.heap.size (.slice (some ⟨w3.heap.size, 0, none⟩) 0 0) [] (w3.alloc (.cells #[] 9))) := srow_new w3
    have HB0 : Hid (Below w3.heap.size w3 (w3.alloc (.cells #[] 9))) := (Below.refl _ w3).alloc (Nat.le_refl _) _
    clear b3
    go_loopw [6, 7] (fun v i wr => ∃ (m k g5 c5 : Nat), m ≤ n ∧ k + 2 * m = 2 * n ∧ i = .int .i64 ((m : Int) - 1) ∧ v = .slice (some ⟨g5, 0, none⟩) k c5 ∧ Hid (SRow w3.heap.size v (bk ss m) wr) ∧ Hid (Below w3.heap.size w3 wr)) (fun _ i _ => (intOf i + 1).toNat)
    case atStart =>
      refine ⟨n, 0, w3.heap.size, 0, Nat.le_refl _, by omega, by go_num, rfl, ?_, HB0⟩
      have e : bk ss n = [] := by rw [HN.out]; exact bk_all ss
      rw [e]
      exact HZ0
    case round =>
      clear HZ0 HB0
      obtain ⟨m, k, g5, c5, hm, hkm, rfl, rfl, HZ, HB⟩ := hrel
      have hszr := HB.out.size
      by_cases hm0 : 0 < m
      · obtain ⟨p, rfl⟩ : ∃ p, m = p + 1 := ⟨m - 1, by omega⟩
        have hpl : p < ss.length := by rw [← HN.out]; omega
        have ei : (((p + 1 : Nat) : Int) - 1) = (p : Int) := by omega
        rw [ei]
        have HATr : Hid (AtS wr g ss) := HAT3.out.below HB.out HAT3.out.1
        have hc := HATr.out.2 p hpl
        have HST := bk_step ss p hpl
        have HMEM : Hid (ss.getD p ByteArray.empty ∈ ss) := by
          show _ ∈ _
          simp [List.getElem?_eq_getElem hpl]
        have hhas := fun w' h' => implFilterHas ⟨t.toArray⟩ key (ss.getD p ByteArray.empty) w' HTL.out h'
        have e1 : filterHas (⟨t.toArray⟩ : ByteArray).data.toList key.data.toList (ss.getD p ByteArray.empty).data.toList = true := by
          have := filterHas_of H1.out H2.out (ss.getD p ByteArray.empty) HMEM.out
          rw [← HTB.out] at this
          exact this
        simp only [e1] at hhas
        clear e1
        have HST2 : Hid (bk ss p = bk ss (p + 1) ++ [ss.getD p ByteArray.empty, ss.getD p ByteArray.empty]) := HST
        clear HST
        generalize ss.getD p ByteArray.empty = it at hc hhas HST2 HMEM
        have HOW : Hid (wr.ownsRow w3.heap.size 9 1 (.slice (some ⟨g5, 0, none⟩) k c5) k ((bk ss (p + 1)).map Value.string)) := by
          have h5 := HZ.out.2
          have h6 : (bk ss (p + 1)).length = k := by rw [bk_length, ← HN.out]; omega
          rw [h6] at h5
          exact h5
        have HP : Hid (p + 1 ≤ n) := hm
        have HKL : Hid ((bk ss (p + 1)).length = k) := by show _ = _; rw [bk_length, ← HN.out]; omega
        have lp : (p : Int) < (n : Int) := by omega
        have lp0 : (0 : Int) ≤ (p : Int) := by omega
        have hx1 : k + 2 ≤ maxLen := by unfold maxLen; omega
        have hx2 : (k + 2) * 16 ≤ 140737488355328 := by omega
        clear hpl ei hm0
        have hne : g ≠ g5 := by
          rcases HOW.out.2 with ⟨h2, _⟩ | ⟨g', cap', cur, hv, h2, _⟩
          · cases h2
          · simp only [Value.slice.injEq, Option.some.injEq, Addr.mk.injEq, and_true] at hv
            have := HAT3.out.1
            omega
        have hgw : g < wr.heap.size := HATr.out.1
        go_wp2_with fail
        go_region_held3 (fun w' => w'.cell? ⟨g, p, none⟩ = some (.string it)) (first | go_keep | (have hfar : w6.heap[g]? = wr.heap[g]? := (hgrow6.block g (by simp; omega) (by simpa [Value.ownBlock] using hne)).trans (Below.heap_alloc _ _ _ hgw); exact (World.cell?_of_block (a := ⟨g, p, none⟩) hfar).trans hc))
          ((refine step_append_lies _ (by rfl) _ _ 22 (by rfl) w3.heap.size 9 i0 (.string ⟨#[]⟩) 1 16 Tryz.underlying22 hi hz0 hz1 hz2 rfl (by decide) _ k _ (by rfl) (World.ownsRow.alloc HOW.out _) ⟨wr.heap.size, 0, none⟩ 2 2 [.string it, .string it] (by rfl) rfl (cells_new _ _ _) (by simp [Value.oneCell']) (by decide) hx1 hx2 (by simp; omega) _ rfl ?_; intro g6 c6 w6 hown6 hgrow6 hat6 hlt6))
        have hb6 : Below w3.heap.size wr w6 := (((Below.refl w3.heap.size wr).alloc hszr _).drew).grown hgrow6 (by simp; omega) (fun j hj => by
          rcases HOW.out.2 with ⟨h2, _⟩ | ⟨g', cap', cur, hv, h2, _⟩
          · cases h2
          · simp only [Value.slice.injEq, Option.some.injEq, Addr.mk.injEq, and_true] at hv
            have : g5 = j := by simpa [Value.ownBlock] using hj
            omega)
        have HZ6 : Hid (SRow w3.heap.size (.slice (some ⟨g6, 0, none⟩) (k + 2) c6) (bk ss p) w6) := by
          refine SRow.of ?_ (by rw [HST2.out, List.length_append, HKL.out]; rfl)
          rw [HST2.out, List.map_append]
          exact hown6
        have HB6 : Hid (Below w3.heap.size w3 w6) := HB.out.trans hb6
        clear hown6 hb6 hgrow6 hat6 hlt6
        have HAT6 : Hid (AtS w6 g ss) := HAT3.out.below HB6.out HAT3.out.1
        have HK6 : Hid (RowG w6 shaK) := (HK.out.below HB3.out HK.out.lt).below HB6.out (HK.out.below HB3.out HK.out.lt).lt
        have hc6 : w6.cell? ⟨g, p, none⟩ = some (.string it) := by
          rw [HB6.out.cell (p := ⟨g, p, none⟩) HAT3.out.1, ← HB.out.cell (p := ⟨g, p, none⟩) HAT3.out.1]
          exact hc
        clear hc
        go_wp2_with (go_at_call 11; refine (hhas _ HK6.out).mono ?_; rintro e w7 ⟨rfl, b7⟩)
        have HB7 : Hid (Below w3.heap.size w3 w7) := HB6.out.trans (b7.mono HB6.out.size)
        have HZ7 : Hid (SRow w3.heap.size (.slice (some ⟨g6, 0, none⟩) (k + 2) c6) (bk ss p) w7) := HZ6.out.keep (fun c hc hl => b7.block c hl)
        clear hhas b7
        go_roundw
        case rel => exact ⟨p, k + 2, g6, c6, by have := HP.out; omega, by omega, by go_num, rfl, HZ7, HB7⟩
        case measure => simp [intOf]
      · obtain rfl : m = 0 := by omega
        have HZB : Hid (SRow w3.heap.size (.slice (some ⟨g5, 0, none⟩) k c5) (bk ss 0) wr) := HZ.out
        have HAB : Hid (AtS wr g5 (bk ss 0) ∧ k = (bk ss 0).length) := ⟨HZ.out.at.1, HZ.out.at.2.1⟩
        have HBw : Hid (Below w.heap.size w wr) := HB3.out.trans (HB.out.mono HB3.out.size)
        clear hm0 HZ hszr
        by_cases hk40 : (40 : Int) < (k : Int)
        · go_wp2_with fail
          go_ret
          exact ⟨rfl, HBw.out⟩
        · have hb := implFilterOf g5 k c5 (bk ss 0) key wr HAB.out.1 HAB.out.2 (HK.out.below HBw.out HK.out.lt)
          have e : filterOf key.data.toList (bk ss 0) = t := by
            rw [← HT.out]
            refine filterOf_same (bk_mem ss) ?_ ?_
            · rw [← HAB.out.2]; omega
            · rw [← HN.out]; omega
          rw [e] at hb
          clear e
          go_wp2_with (go_at_call 8; refine hb.mono ?_; rintro e w7 ⟨rfl, b7⟩)
          go_ret
          exact ⟨rfl, HBw.out.trans (b7.mono HBw.out.size)⟩

end Go.Proofs.YtifpidhoeikdjaaGreatDoor

namespace Go.Proofs.YtifpidhoeikdjaaGreatDoor
open Go.ChangeShapes Go.WideShapes Go.ChangeAt Go.RowKit
open Go.ChangeMaps (open_string shut_string)
set_option linter.unusedVariables false

theorem own_fnFilterOf : ownKnob Tryz.prog.godebug = none := by kernel_rfl
theorem laid_fnFilterOf : laidOutB Tryz.prog = true := by kernel_rfl
theorem table_fnFilterOf {W : World} (h : laidMetH Tryz.prog Rows.fnFilterOfRow.laid W) : RowG W shaK := rowG_of_laid h

theorem met_fnFilterOf (os : Os) : laidMet Tryz.prog Rows.fnFilterOfRow.laid ((laidWorld os).forCall (fun _ _ => 0) ⟨#[], #[.slice none 0 0], []⟩).memory :=
  laidMet_of_run' 8 (by kernel_rfl) (by kernel_rfl)
theorem reads_fnFilterOf (os : Os) {H : Type} (enc : TypeId × Value → H) : ∃ places, DataW.whole enc Tryz.prog ((laidWorld os).forCall (fun _ _ => 0) ⟨#[], #[.slice none 0 0], []⟩).memory Tryz.f4.params.toList Rows.fnFilterOfSpec.vars false (#[.slice none 0 0] : Array Value).toList 8 = some ([.nil], [Rows.laid_loop_example_cordillera_impl_sumRounds], places) :=
  ⟨MemPlace.row ⟨0, 0, none⟩ 64, by kernel_rfl⟩

set_option maxRecDepth 100000 in
theorem lifted_fnFilterOf (os : Os) (started : os.Started) (H : Type) (enc : TypeId × Value → H) (F : Stop.Interp) :
    ReturnsInHanded {} Tryz.checked os 4 .any ((OpenSpec.ofChange Rows.fnFilterOfSpec).preRow enc Tryz.prog Tryz.f4 Rows.fnFilterOfRow.domain false Rows.fnFilterOfRow.laid) (((OpenSpec.ofChange Rows.fnFilterOfSpec).at F).post enc Tryz.prog Tryz.f4 false true false false) := by
  obtain ⟨places, hx⟩ := reads_fnFilterOf os enc
  refine returnsInHanded_of_row (C := Tryz.checked) (s := OpenSpec.ofChange Rows.fnFilterOfSpec) own_fnFilterOf started (by kernel_rfl) Tryz.func4
    (witness_row_at (enc := enc) (C := Tryz.checked) false (laidWorld os) #[.slice none 0 0] rfl (by kernel_rfl) (by kernel_rfl) (by kernel_rfl)
      (OpenSpec.preRow_of_cond 8 hx (by kernel_rfl) (fun k hk => by cases hk) (by kernel_rfl) (met_fnFilterOf os))) ?_
  intro W base args ds gs before hval0 hW _ _ _ hL _ _
  have hval : ∀ (j : Nat) t v, Tryz.f4.params[j]? = some t → args[j]? = some v → Value.okWide Tryz.prog W .any base t v := hval0
  have hW' := hW
  obtain ⟨p, q, hA0, hV, rfl, hfz, hnd⟩ := hW
  have hA : DataW.TrodAll enc Tryz.prog W 0 (fun _ => true) true Tryz.f4.params.toList args.toList ds p := hA0
  rw [Tryz.params4] at hA hval
  obtain ⟨v0, vs0, d0, ds0, p0, q0, hargs, rfl, rfl, h0, r0⟩ := trodAll_cons hA
  obtain ⟨rfl, rfl, rfl⟩ := trodAll_nil r0
  obtain rfl : args = #[v0] := by cases args; simp_all
  obtain ⟨gv, tv, cv, fv, dv, pv, rfl, hgv, htv, hvv, hdv, rfl⟩ := trodVars_one hV
  obtain ⟨a0, len0, cap0, rfl⟩ := okWide_slice Tryz.underlying28 (hval 0 28 v0 rfl rfl)
  have k0 := h0
  have lt0 : ∀ x ∈ p0, x.block < W.heap.size := by obtain ⟨m, hm⟩ := k0; exact DataW.trod_lt m _ _ _ hm
  obtain ⟨z0, w0⟩ : ∃ zs, IsRow .u8 W a0 len0 cap0 zs := by
    obtain ⟨fuel, hf⟩ := h0
    rcases open_ints Tryz.underlying28 Tryz.underlying5 (by kernel_rfl) hf with ⟨hcs, _⟩ | ⟨x, l, c, zs, hcs, _, hl, hm, hz, _, hcell, hwz⟩
    · simp [Value.cells] at hcs
      obtain ⟨rfl, rfl, rfl⟩ := hcs
      exact ⟨[], .inl ⟨rfl, rfl, rfl, rfl⟩⟩
    · simp [Value.cells] at hcs
      obtain ⟨rfl, rfl, rfl⟩ := hcs
      exact ⟨zs, .inr ⟨_, rfl, hl, hm, by simpa using hz, hcell, hwz⟩⟩
  clear hA0 hval0
  refine (walk_FnFilterOf a0 len0 cap0 z0 W w0 (table_fnFilterOf hL)).mono fun e W' ⟨he, bel⟩ => ?_
  subst he
  obtain ⟨pv', hpv⟩ := varsBack laid_fnFilterOf hgv htv hvv hdv bel
  exact ⟨_, rfl, _, _, _, [], _, pv', hW', trodAll_mk1 (shut_bool Tryz.underlying4 _), (trodAll_cons_mk (Below.trod laid_fnFilterOf (by kernel_rfl) (of_decide_eq_true (by kernel_rfl)) k0 bel lt0) trodAll_mk0), hpv, bel.frame _, fun h => by cases h⟩

theorem fnFilterOf_said : Rows.FnFilterOfSaid :=
  OpenClaim.holds_of_cond 4 Tryz.f4 rfl rfl rfl rfl rfl rfl rfl ⟨rfl, rfl, rfl, rfl, rfl⟩ rfl rfl rfl rfl rfl (by kernel_rfl) Tryz.func4 (by kernel_rfl)
    (of_decide_eq_true (by kernel_rfl)) (by unfold Func.isWrapper; first | (rw [if_pos (by decide +kernel)]; kernel_rfl) | (rw [if_neg (by decide +kernel)]; exact ⟨rfl, rfl⟩))
    (fun os started H enc _ F => by rw [OpenClaim.pre_eq_preRow]; exact lifted_fnFilterOf os started H enc F)
theorem plain_fnFilterOf (f : FuncId) (fn : Func) (hf : Tryz.pinned.checked.prog.funcNamed "loop.example/cordillera/laws.FnFilterOf" = some f) (hfn : Tryz.pinned.checked.prog.funcs[f]? = some fn) :
    false = Tryz.pinned.checked.prog.looks [] ∧ ∀ (j : Nat) t, fn.params[j]? = some t → Tryz.pinned.checked.prog.wantsStandIn t = false := by
  obtain rfl : f = 4 := Option.some.inj ((show Tryz.prog.funcNamed "loop.example/cordillera/laws.FnFilterOf" = some 4 by kernel_rfl).symm.trans hf) |>.symm
  obtain rfl : fn = Tryz.f4 := (Option.some.inj (Tryz.func4.symm.trans hfn)).symm
  refine ⟨by kernel_rfl, fun j t ht => ?_⟩
  rw [Tryz.params4] at ht
  have hall : ∀ t ∈ (#[28] : Array TypeId), Tryz.prog.wantsStandIn t = false := by
    intro t ht
    simp only [List.mem_toArray, List.mem_cons, List.not_mem_nil, or_false] at ht
    subst ht; kernel_rfl
  exact hall t (Array.mem_of_getElem? ht)
theorem fnFilterOf_holds : Rows.FnFilterOfCardSaid :=
  Claim7.holds_tied_plain_at .later [] _ _ _ _ fnFilterOf_said (fun _ h => by cases h) (by kernel_rfl) (fun _ h => by cases h) fnFilterOf_row_tie rfl ⟨rfl, rfl⟩ (by kernel_rfl) rfl plain_fnFilterOf (by kernel_rfl)
#print axioms fnFilterOf_holds
end Go.Proofs.YtifpidhoeikdjaaGreatDoor

