/-
  The laws' own functions on Side and lists of them: sizes, copies, comparisons; how a list is opened.
-/
import Derived.Test.YtjeldedjhlicmabOpenM
import Derived.Test.YtjeldedjhlicmabOpenM
import Derived.WalkKit
import Derived.Below
import Derived.ProofKit
import Derived.OpenShut
import Derived.ShutString
import Derived.ChangeOld
import Derived.ChangeArms
import Derived.WideShapes
import Derived.BigRegion
import Derived.Deep.RegionWith
import Derived.Deep.OwnRows
import Derived.Laws.Rows
set_option linter.unusedVariables false
namespace Go.Proofs.Ytjeldedjhlicmab
open Go.ChangeShapes Go.WideShapes Go.ChangeAt Go.RowKit Go.Deep

structure SideV where
  sum : ByteArray
  left : Bool
instance : Inhabited SideV := ⟨⟨⟨#[]⟩, false⟩⟩
def enSide (p : SideV) : List Value := [.string p.sum, .bool p.left]
theorem enSide_len (p : SideV) : (enSide p).length = 2 := rfl
/-- Its texts can be held. -/
def wfSide (p : SideV) : Prop := p.sum.size ≤ maxLen
/-- Its texts are small. -/
def smallSide (p : SideV) : Prop := p.sum.size ≤ 1048576
abbrev IsSides (w : World) (a : Option Addr) (len cap : Nat) (l : List SideV) : Prop := IsFlat enSide wfSide 2 w a len cap l
abbrev RowSide (w : World) (g : Nat) (l : List SideV) : Prop := RowF enSide 66 w g l
abbrev AtSide (w : World) (g : Nat) (l : List SideV) : Prop := AtF enSide 2 w g l
theorem AtSide.c0 {w : World} {g : Nat} {l : List SideV} (h : AtSide w g l) (i : Nat) (hi : i < l.length) : w.cell? ⟨g, i * 2, none⟩ = some (.string (l.getD i default).sum) := h.2 i 0 hi (by decide)
theorem AtSide.c1 {w : World} {g : Nat} {l : List SideV} (h : AtSide w g l) (i : Nat) (hi : i < l.length) : w.cell? ⟨g, i * 2 + 1, none⟩ = some (.bool (l.getD i default).left) := h.2 i 1 hi (by decide)
theorem cellsSide {w : World} {x : Addr} {p : SideV} (h : ∀ j, j < 2 → w.cell? (x.add j) = (enSide p)[j]?) : w.cell? x = some (.string p.sum) ∧ w.cell? ⟨x.block, x.off + 1, none⟩ = some (.bool p.left) := by
  exact ⟨h 0 (by decide), h 1 (by decide)⟩
theorem partsSide {cs : List Value} {a0 a1 : Value} (hl : cs.length = 2) (h0 : (cs.drop 0).take 1 = [a0]) (h1 : (cs.drop 1).take 1 = [a1]) : cs = [a0, a1] := by
  match cs, hl with
  | [x0, x1], _ =>
    simp at h0 h1
    subst h0 h1
    rfl
theorem oneSide_b : Try.prog.cellsOf 4 = 1 := by kernel_rfl
theorem oneSide_s : Try.prog.cellsOf 9 = 1 := by kernel_rfl
theorem sizeSide : Try.prog.cellsOf 63 = 2 := by kernel_rfl
set_option maxRecDepth 100000 in
theorem invSide {H : Type} {enc : TypeId × Value → H} {W : World} {base : Nat} {sp : Nat → Bool} {held : Bool} (n : Nat) (cs : List Value) (y : DataW H × List MemPlace) (h : DataW.trod enc Try.prog W base sp held n 63 cs = some y) (hl : cs.length = 2) : ∃ v : SideV, cs = enSide v ∧ wfSide v := by
  obtain ⟨xs, n, _, _, _, hlen, hx⟩ := DataW.trod_struct Try.underlying63 h
  match xs, hlen with
  | [y0, y1], _ =>
    have g0 := hx 0 _ rfl
    have g1 := hx 1 _ rfl
    obtain ⟨s0, e0, _, z0⟩ := DataW.trod_string Try.underlying9 g0
    replace e0 : (cs.drop 0).take (Try.prog.cellsOf 9) = [_] := e0
    rw [oneSide_s] at e0
    obtain ⟨s1, e1, _⟩ := DataW.trod_bool Try.underlying4 g1
    replace e1 : (cs.drop 1).take (Try.prog.cellsOf 4) = [_] := e1
    rw [oneSide_b] at e1
    exact ⟨⟨s0, s1⟩, partsSide hl e0 e1, z0⟩
theorem open_sides {H : Type} {enc : TypeId × Value → H} {W : World} {base : Nat} {sp : Nat → Bool} {held : Bool} {a : Option Addr} {len cap : Nat} {d : DataW H} {p : List MemPlace} (h : DataW.Trod enc Try.prog W base sp held 27 (.slice a len cap) d p) : ∃ l : List SideV, IsSides W a len cap l :=
  open_flat enSide wfSide Try.underlying27 sizeSide (fun n cs y h1 h2 => invSide n cs y h1 h2) h

set_option maxHeartbeats 1000000 in
set_option maxRecDepth 100000 in
theorem szSide1 (p : SideV) (r : Nat) (w : World) (hr : r ≤ 1048576) (hs : wfSide p) :
    Calls Try.prog 23 #[.agg #[.string p.sum, .bool p.left], .int .i64 (r : Int)] w fun e w' => Below w.heap.size w w' ∧ (e = .returned (.int .i64 (-1)) ∨ ∃ q : Nat, e = .returned (.int .i64 (q : Int)) ∧ q ≤ r ∧ smallSide p) := by
  unfold wfSide maxLen at hs
  have hb : ∀ o, Below w.heap.size w (w.alloc o) := fun o => (Below.refl _ w).alloc (Nat.le_refl _) o
  have hw_sum : IntKind.i64.wrap ((r : Int) - (p.sum.size : Int)) = (r : Int) - (p.sum.size : Int) := by rw [IntKind.wrap_i64]; omega
  by_cases hl_sum : (r : Int) - (p.sum.size : Int) < 0
  · go_enter Try.func23, Try.ntmps23
    go_wp2
    go_ret
    exact ⟨hb _, .inl rfl⟩
  have HS : Hid (smallSide p) := by show smallSide p; unfold smallSide; omega
  go_enter Try.func23, Try.ntmps23
  go_wp2
  go_ret
  refine ⟨hb _, .inr ⟨r - p.sum.size, ?_, by omega, HS.out⟩⟩
  show Ending.returned (Value.int IntKind.i64 ((r : Int) - (p.sum.size : Int))) = _
  congr 2
  omega
theorem alloc3_midS (w : World) (o1 o2 o3 : Obj) : (((w.alloc o1).alloc o2).alloc o3).heap[w.heap.size + 1]? = some o2 := by
  have e : w.heap.size + 1 = (w.alloc o1).heap.size := by simp
  rw [e, Below.heap_alloc _ _ _ (by simp)]
  exact heap_alloc_new _ _
set_option maxHeartbeats 1000000 in
set_option maxRecDepth 100000 in
theorem toSideA (p : SideV) (w : World) :
    Calls Try.prog 27 #[.agg #[.string p.sum, .bool p.left]] w fun e w' => e = .returned (.agg #[.string p.sum, .bool p.left]) ∧ Below w.heap.size w w' := by
  go_enter Try.func27, Try.ntmps27
  go_wp2
  exact bodyPost_ret (results_cell_row (p := 2) rfl _ _ (w.heap.size + 1) 66 #[.string p.sum, .bool p.left] (0, 0) _ rfl (alloc3_midS _ _ _ _) Try.underlying66 rfl (by kernel_rfl)) rfl ⟨rfl, (((Below.refl _ w).alloc (Nat.le_refl _) _).alloc (by simp) _).alloc (by simp; omega) _⟩
set_option maxHeartbeats 1000000 in
set_option maxRecDepth 100000 in
theorem eqSideA (p : SideV) (w : World) :
    Calls Try.prog 30 #[.agg #[.string p.sum, .bool p.left], .agg #[.string p.sum, .bool p.left]] w fun e w' => e = .returned (.bool true) ∧ Below w.heap.size w w' := by
  go_enter Try.func30, Try.ntmps30
  go_wp2
  go_ret
  exact ⟨rfl, ((Below.refl _ w).alloc (Nat.le_refl _) _).alloc (by simp) _⟩

set_option maxHeartbeats 1000000 in
set_option maxRecDepth 100000 in
theorem szSides (a : Option Addr) (len cap : Nat) (ps : List SideV) (w : World) (h : IsSides w a len cap ps) :
    Calls Try.prog 11 #[.slice a len cap, .int .i64 1048576] w fun e w' => Below w.heap.size w w' ∧ (e = .returned (.int .i64 (-1)) ∨ ∃ r : Nat, e = .returned (.int .i64 (r : Int)) ∧ r ≤ 1048576 ∧ len ≤ 1048576 ∧ ∀ i, i < len → smallSide (ps.getD i default)) := by
  have HP : Hid (IsSides w a len cap ps) := h
  have hlm : len ≤ maxLen := h.max
  unfold maxLen at hlm
  have hw : IntKind.i64.wrap (1048576 - (len : Int)) = 1048576 - (len : Int) := by rw [IntKind.wrap_i64]; omega
  clear h
  by_cases hl : 1048576 < len
  · have hl' : (1048576 : Int) - (len : Int) < 0 := by omega
    go_enter Try.func11, Try.ntmps11
    go_wp2_with fail
    go_ret
    exact ⟨Below.refl _ _, .inl rfl⟩
  · have hl' : ¬ (1048576 : Int) - (len : Int) < 0 := by omega
    go_enter Try.func11, Try.ntmps11
    go_wp2_with fail
    clear hw hl'
    go_loopw [1, 5] (fun l i wr => ∃ (r k : Nat), k ≤ len ∧ r ≤ 1048576 ∧ i = .int .i64 (k : Int) ∧ l = .int .i64 (r : Int) ∧ Hid (Below w.heap.size w wr) ∧ Hid (∀ i, i < k → smallSide (ps.getD i default))) (fun _ i _ => len - (intOf i).toNat)
    case atStart => exact ⟨1048576 - len, 0, by omega, by omega, rfl, by go_num, Below.refl _ _, fun i hi => by omega⟩
    case round =>
      obtain ⟨r, k, hk, hr, rfl, rfl, HB, HS⟩ := hrel
      by_cases hlt : k < len
      · obtain ⟨x, rfl, hp, hsz⟩ := HP.out.at enSide_len HB.out k hlt
        obtain ⟨c0, c1⟩ := cellsSide hp
        have lk : (k : Int) < (len : Int) := by omega
        have HK : Hid (k + 1 ≤ len) := hlt
        have HN : Hid (smallSide (ps.getD k default) → ∀ i, i < k + 1 → smallSide (ps.getD i default)) := by
          intro h1 i hi
          rcases Nat.lt_or_ge i k with h' | h'
          · exact HS.out i h'
          · obtain rfl : i = k := by omega
            exact h1
        clear hp
        generalize ps.getD k default = p at c0 c1 hsz HN
        go_wp2_with fail
        refine (szSide1 p r _ hr hsz).mono ?_
        rintro e w1 ⟨b1, rfl | ⟨q, rfl, hq, hps⟩⟩
        · go_wp2_with fail
          go_ret
          exact ⟨HB.out.trans (b1.mono HB.out.size), .inl rfl⟩
        · have HQ2 : Hid (∀ i, i < k + 1 → smallSide (ps.getD i default)) := HN.out hps
          clear HN hps
          have hq0 : ¬ (q : Int) < 0 := by omega
          go_wp2_with fail
          go_roundw
          case rel => exact ⟨q, k + 1, HK.out, by omega, by go_num, rfl, HB.out.trans (b1.mono HB.out.size), HQ2⟩
          case measure => have := HK.out; simp [intOf]; omega
      · go_wp2_with fail
        go_ret
        exact ⟨HB.out, .inr ⟨r, rfl, by omega, by omega, fun i hi => HS.out i (by omega)⟩⟩

theorem infoSide : (Try.prog.info? 66).map (fun i => (i.zero, i.size, i.bytes)) = some (some (.agg #[.string ⟨#[]⟩, .bool false]), 2, 24) := by kernel_rfl
def zeroSide : SideV := ⟨⟨#[]⟩, false⟩
theorem makeSide (n : Nat) (hn : n ≤ 1099511627776) (w : World) : (Instr.makeSlice 36 (.int .i64 (n : Int)) (.int .i64 (n : Int))).run Try.prog w = .ok (.slice (some ⟨w.heap.size, 0, none⟩) n n) (w.alloc (.cells ((List.replicate n zeroSide).flatMap enSide).toArray 66)) := by
  obtain ⟨i, hi, hz, hs, hb⟩ := info_parts infoSide
  have hb' : (i.bytes : Int) * (n : Int) ≤ 281474976710656 := by rw [hb]; omega
  have hr := run_make (P := Try.prog) w 36 66 i _ Try.underlying36 hi hz .i64 .i64 (n : Int) (n : Int) (by omega) (by omega) hb' (by omega)
  simp only [Int.toNat_natCast, hs, Value.cells] at hr
  rw [← made_flat 2 enSide enSide_len (by decide) zeroSide n]
  exact hr
theorem RowSide.put {w : World} {g : Nat} {l : List SideV} (h : RowSide w g l) (i : Nat) (hi : i < l.length) (p : SideV) :
    RowSide ((w.setCell ⟨g, i * 2, none⟩ (.string p.sum)).setCell ⟨g, i * 2 + 1, none⟩ (.bool p.left)) g (l.set i p) := by
  show _ = _
  rw [← flat_put 2 enSide enSide_len l i p hi]
  exact (rowSet (rowSet h _) _)

set_option maxHeartbeats 1000000 in
set_option maxRecDepth 100000 in
theorem toSides (a : Option Addr) (len cap : Nat) (ps : List SideV) (w w0 : World) (h0 : IsSides w0 a len cap ps) (hw : Below w0.heap.size w0 w) (hn : len ≤ 1048576) :
    Calls Try.prog 16 #[.slice a len cap] w fun e w' => e = .returned (.slice (some ⟨w.heap.size, 0, none⟩) len len) ∧ RowSide w' w.heap.size ps ∧ Below w.heap.size w w' := by
  have hmk := makeSide len (by omega)
  have HP : Hid (IsSides w0 a len cap ps) := h0
  have HW : Hid (Below w0.heap.size w0 w) := hw
  have HLn : Hid (ps.length = len) := h0.len
  clear h0 hw
  go_enter Try.func16, Try.ntmps16
  go_wp2_with fail
  clear hmk
  go_loopw [4] (fun i wr => ∃ k : Nat, k ≤ len ∧ i = .int .i64 (k : Int) ∧ Hid (RowSide wr w.heap.size (ps.take k ++ List.replicate (len - k) zeroSide)) ∧ Hid (Below w.heap.size w wr)) (fun i _ => len - (intOf i).toNat)
  case atStart => exact ⟨0, by omega, rfl, heap_alloc_new w _, (Below.refl _ w).alloc (Nat.le_refl _) _⟩
  case round =>
    obtain ⟨k, hk, rfl, HR, HB⟩ := hrel
    by_cases hlt : k < len
    · obtain ⟨x, rfl, hp, _⟩ := HP.out.at enSide_len (HW.out.trans (HB.out.mono HW.out.size)) k hlt
      obtain ⟨c0, c1⟩ := cellsSide hp
      have HK : Hid (k + 1 ≤ len) := hlt
      have HS : Hid ((ps.take k ++ List.replicate (len - k) zeroSide).set k (ps.getD k default) = ps.take (k + 1) ++ List.replicate (len - (k + 1)) zeroSide) := set_nextF zeroSide ps len k (by rw [HLn.out]; exact hlt) hlt
      have HKL : Hid (k < (ps.take k ++ List.replicate (len - k) zeroSide).length) := by show _ < _; simp [HLn.out]; omega
      have lk : (k : Int) < (len : Int) := by omega
      clear hp
      generalize ps.getD k default = p at c0 c1 HS
      go_wp2_with fail
      refine (toSideA p _).mono ?_
      rintro e w1 ⟨rfl, b1⟩
      have HR1 : Hid (RowSide w1 w.heap.size (ps.take k ++ List.replicate (len - k) zeroSide)) := HR.out.below b1 HR.out.lt
      have HB1 : Hid (Below w.heap.size w w1) := HB.out.trans (b1.mono HB.out.size)
      have f0 := HR1.out.frozen (k * 2)
      have f1 := HR1.out.frozen (k * 2 + 1)
      have d0 := AtSide.c0 (HR1.out.at 2 enSide_len) k HKL.out
      have d1 := AtSide.c1 (HR1.out.at 2 enSide_len) k HKL.out
      generalize (ps.take k ++ List.replicate (len - k) zeroSide).getD k default = o at d0 d1
      clear b1 c0 c1
      go_wp2_with fail
      go_roundw
      case rel =>
        refine ⟨k + 1, HK.out, by go_num, ?_, ((HB1.out.setCell (p := ⟨w.heap.size, k * 2, none⟩) (Nat.le_refl _) _).setCell (p := ⟨w.heap.size, k * 2 + 1, none⟩) (Nat.le_refl _) _)⟩
        have := RowSide.put HR1.out k HKL.out p
        rw [HS.out] at this
        exact this
      case measure => have := HK.out; simp [intOf]; omega
    · have HE : Hid (ps.take k ++ List.replicate (len - k) zeroSide = ps) := by
        show _ = _
        rw [List.take_of_length_le (by rw [HLn.out]; omega), show len - k = 0 from by omega]
        simp
      go_wp2_with fail
      go_ret
      refine ⟨rfl, ?_, HB.out⟩
      rw [← HE.out]
      exact HR.out

set_option maxHeartbeats 1000000 in
set_option maxRecDepth 100000 in
theorem eqSides (g1 g2 n c1 c2 : Nat) (ps : List SideV) (w : World) (h1 : AtSide w g1 ps) (h2 : AtSide w g2 ps) (hn : n = ps.length) (hm : n ≤ 1073741824) :
    Calls Try.prog 21 #[.slice (some ⟨g1, 0, none⟩) n c1, .slice (some ⟨g2, 0, none⟩) n c2] w fun e w' => e = .returned (.bool true) ∧ Below w.heap.size w w' := by
  have HA : Hid (AtSide w g1 ps ∧ AtSide w g2 ps ∧ Below w.heap.size w w) := ⟨h1, h2, Below.refl _ w⟩
  have HN : Hid (n = ps.length) := hn
  clear h1 h2 hn
  go_enter Try.func21, Try.ntmps21
  go_wp2_with fail
  go_loopw [5] (fun i wr => ∃ k : Nat, k ≤ n ∧ i = .int .i64 (k : Int) ∧ Hid (AtSide wr g1 ps ∧ AtSide wr g2 ps ∧ Below w.heap.size w wr)) (fun i _ => n - (intOf i).toNat)
  case atStart => exact ⟨0, by omega, rfl, HA⟩
  case round =>
    clear HA
    obtain ⟨k, hk, rfl, HA⟩ := hrel
    by_cases hlt : k < n
    · have hkz : k < ps.length := by rw [← HN.out]; exact hlt
      have d0 := AtSide.c0 HA.out.1 k hkz
      have e0 := AtSide.c0 HA.out.2.1 k hkz
      have d1 := AtSide.c1 HA.out.1 k hkz
      have e1 := AtSide.c1 HA.out.2.1 k hkz
      have HK : Hid (k + 1 ≤ n) := hlt
      generalize ps.getD k default = p at d0 e0 d1 e1
      have lk : (k : Int) < (n : Int) := by omega
      clear hkz
      go_wp2_with fail
      go_region_with (go_at_call 30; refine (eqSideA p _).mono ?_; rintro e w1 ⟨rfl, b1⟩)
      all_goals
        have HA1 : Hid (AtSide w1 g1 ps ∧ AtSide w1 g2 ps ∧ Below w.heap.size w w1) := ⟨HA.out.1.drew.below b1 HA.out.1.1, HA.out.2.1.drew.below b1 HA.out.2.1.1, HA.out.2.2.drew.trans (b1.mono HA.out.2.2.size)⟩
        clear b1
        go_wp2_with fail
        go_roundw
        case rel => exact ⟨k + 1, HK.out, by go_num, HA1⟩
        case measure => have := HK.out; simp [intOf]; omega
    · go_wp2_with fail
      go_ret
      exact ⟨rfl, HA.out.2.2⟩

end Go.Proofs.Ytjeldedjhlicmab
