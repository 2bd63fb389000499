/-
  Texts that the last part needs, joined.
-/
import Derived.Test.YtoojimfimlpplaaDoorPart1
import Derived.Test.YtoojimfimlpplaaDoorPart2
import Derived.Test.YtoojimfimlpplaaDoorPart3
import Derived.Test.YtoojimfimlpplaaDoorPart4
import Derived.Test.YtoojimfimlpplaaDoorPart5
import Derived.Test.YtoojimfimlpplaaDoorProg
import Derived.WalkKit
import Derived.WalkSpells
import Derived.BigQuiet
import Derived.Deep.QuietTactic
import Derived.Below
import Derived.Lib.Builder
import Derived.OpenShut
import Derived.Laws.BitsLemmas
import Derived.Lib.SmallJoins
import Derived.Lib.FrozenHead2
import Derived.Deep.AppendLies
import Derived.WalkSmall
import Derived.BigRegion
import Derived.Deep.RegionWith
import Derived.Deep.RegionHeld3
import Derived.Deep.RegionLaw
set_option linter.unusedVariables false
namespace Go.Proofs.YtoojimfimlpplaaDoor
open Go.RowKit Go.Deep

theorem fieldsPk : (Tryd.prog.fieldsOf 50).toList.map (fun f => (f.name != "_", f.type, f.offset)) = [(true, 9, 0), (true, 3, 1), (true, 3, 2)] := by kernel_rfl
theorem eqPkT : Tryd.prog.underlying 50 = some (.struct (Tryd.prog.fieldsOf 50)) := by kernel_rfl
theorem eqPkS : Tryd.prog.stoodInHeld 50 = false := by kernel_rfl
theorem eqPkG : Tryd.prog.eqGuardType Tryd.prog.depth 50 = false := by kernel_rfl
theorem runSamePk (p q : PeakV) (w : World) : (Op.equalIn 10000 50 (.agg #[.string p.sum, .int .i64 p.work, .int .i64 p.count]) (.agg #[.string q.sum, .int .i64 q.work, .int .i64 q.count])).run Tryd.prog w = .ok (samePB p q) w := by
  rw [run_equalIn_struct w 9999 _ _ _ eqPkT eqPkS]
  have hf := fieldsPk
  generalize (Tryd.prog.fieldsOf 50).toList = fs at hf
  rcases fs with _ | ⟨f0, _ | ⟨f1, _ | ⟨f2, _ | ⟨f3, fs⟩⟩⟩⟩
  all_goals try (simp at hf; done)
  simp only [List.map_cons, List.map_nil, List.cons.injEq, Prod.mk.injEq, and_true] at hf
  obtain ⟨⟨n0, t0, o0⟩, ⟨n1, t1, o1⟩, n2, t2, o2⟩ := hf
  refine eqStep n0 t0 o0 (by kernel_rfl) (by kernel_rfl) (run_equalIn_string w 9998 _ _ _ Tryd.underlying9) ?_
  refine eqStep n1 t1 o1 (by kernel_rfl) (by kernel_rfl) (run_equalIn_int w 9998 _ .i64 _ _ _ Tryd.underlying3) ?_
  have h4 := eqStep (d := 9999) (xs := #[.string p.sum, .int .i64 p.work, .int .i64 p.count]) (ys := #[.string q.sum, .int .i64 q.work, .int .i64 q.count]) (fs := []) (w := w) (P := Tryd.prog) (r2 := true) n2 t2 o2 (by kernel_rfl) (by kernel_rfl) (run_equalIn_int w 9998 _ .i64 _ p.count q.count Tryd.underlying3) (by simp [Op.eqFields])
  rw [Bool.and_true] at h4
  exact h4

set_option maxHeartbeats 1000000 in
set_option maxRecDepth 100000 in
theorem implPeakAlike (a b : PeakV) (w : World) :
    Calls Tryd.prog 54 #[peakVal a, peakVal b] w fun e w' => e = .returned (.bool (a.count == b.count)) ∧ Below w.heap.size w w' := by
  unfold peakVal
  have L0 : Hid (Below w.heap.size w ((w.alloc (.cells #[.string a.sum, .int .i64 a.work, .int .i64 a.count] 50)).alloc (.cells #[.string b.sum, .int .i64 b.work, .int .i64 b.count] 50))) := ((Below.refl _ w).alloc (Nat.le_refl _) _).alloc (by simp) _
  go_enter Tryd.func54, Tryd.ntmps54
  go_wp2
  go_ret
  exact ⟨rfl, L0.out⟩

/-- What stands while a head climbs: the peak that is looked for, the head, the peak so far. -/
structure ClimbW (w wr : World) (g0 g9 : Nat) (top q : PeakV) : Prop where
  t : CBk wr g0 50 #[.string top.sum, .int .i64 top.work, .int .i64 top.count]
  p : CBk wr g9 50 #[.string q.sum, .int .i64 q.work, .int .i64 q.count]
  ne : g0 < g9
  lo : w.heap.size ≤ g0
  b : Below w.heap.size w wr
theorem ClimbW.call {w wr w' : World} {g0 g9 : Nat} {top q : PeakV} (h : ClimbW w wr g0 g9 top q) (hb : Below wr.heap.size wr w') : ClimbW w w' g0 g9 top q :=
  ⟨h.t.call hb, h.p.call hb, h.ne, h.lo, h.b.trans (hb.mono h.b.size)⟩
theorem ClimbW.store {w wr : World} {g0 g9 : Nat} {top q : PeakV} (h : ClimbW w wr g0 g9 top q) (r : PeakV) : ClimbW w (((wr.setCell ⟨g9, 0, none⟩ (.string r.sum)).setCell ⟨g9, 1, none⟩ (.int .i64 r.work)).setCell ⟨g9, 2, none⟩ (.int .i64 r.count)) g0 g9 top r := by
  have h1 := h.ne
  have h2 := h.lo
  exact ⟨((h.t.other (by omega) _).other (by omega) _).other (by omega) _, h.p.set3, h1, h2, ((h.b.setCell (p := ⟨g9, 0, none⟩) (by show w.heap.size ≤ g9; omega) _).setCell (p := ⟨g9, 1, none⟩) (by show w.heap.size ≤ g9; omega) _).setCell (p := ⟨g9, 2, none⟩) (by show w.heap.size ≤ g9; omega) _⟩

end Go.Proofs.YtoojimfimlpplaaDoor

set_option linter.unusedVariables false
namespace Go.Proofs.YtoojimfimlpplaaDoor
open Go.RowKit

/-- A slice of integers that came in: it is nil; or it leads to a row of cells, the numbers zs. -/
def IsRow (k : IntKind) (w : World) (a : Option Addr) (len cap : Nat) (zs : List Int) : Prop :=
  (a = none ∧ len = 0 ∧ cap = 0 ∧ zs = []) ∨
  ∃ x, a = some x ∧ len ≤ cap ∧ cap ≤ maxLen ∧ zs.length = cap ∧ (∀ i, i < zs.length → w.cell? (x.add i) = some (.int k (zs.getD i 0))) ∧ ∀ n ∈ zs, (Lit.int k n).wf = true

theorem xor_nat (X Y : Int) (hX : 0 ≤ X) (hX' : X < 4611686018427387904) (hY : 0 ≤ Y) (hY' : Y < 4611686018427387904) : ∃ u : Nat, bits .xor .i64 X Y = (u : Int) := by
  obtain ⟨a, rfl⟩ := Int.eq_ofNat_of_zero_le hX
  obtain ⟨b, rfl⟩ := Int.eq_ofNat_of_zero_le hY
  refine ⟨a ^^^ b, ?_⟩
  have hx : a ^^^ b < 2 ^ 62 := Nat.xor_lt_two_pow (by omega) (by omega)
  have h1 : (BitVec.ofInt 64 (a : Int)).toNat = a := by
    rw [BitVec.ofInt_natCast, BitVec.toNat_ofNat]; exact Nat.mod_eq_of_lt (by omega)
  have h2 : (BitVec.ofInt 64 (b : Int)).toNat = b := by
    rw [BitVec.ofInt_natCast, BitVec.toNat_ofNat]; exact Nat.mod_eq_of_lt (by omega)
  show IntKind.i64.wrap ((BitVec.ofInt 64 (a : Int) ^^^ BitVec.ofInt 64 (b : Int)).toNat : Int) = _
  rw [BitVec.toNat_xor, h1, h2, IntKind.wrap_i64]
  omega

/-- Block b alone has turned. -/
structure Only (b : Nat) (w w' : World) : Prop where
  os : w'.os = w.os
  tape : w'.tape = w.tape
  output : w'.output = w.output
  size : w'.heap.size = w.heap.size
  block : ∀ c, c ≠ b → w'.heap[c]? = w.heap[c]?
theorem Only.below {B b : Nat} {w w' : World} (h : Only b w w') (hb : B ≤ b) : Below B w w' :=
  ⟨h.os, h.tape, h.output, by rw [h.size]; exact Nat.le_refl _, fun k hk => h.block k (by omega)⟩
theorem Only.refl (b : Nat) (w : World) : Only b w w := ⟨rfl, rfl, rfl, rfl, fun _ _ => rfl⟩
theorem Only.trans {b : Nat} {u v w : World} (h : Only b u v) (k : Only b v w) : Only b u w :=
  ⟨k.os.trans h.os, k.tape.trans h.tape, k.output.trans h.output, k.size.trans h.size, fun c hc => (k.block c hc).trans (h.block c hc)⟩
theorem Only.setCell (b o : Nat) (v : Value) (w : World) : Only b w (w.setCell ⟨b, o, none⟩ v) :=
  ⟨rfl, rfl, rfl, by simp [World.setCell], fun c hc => Below.heap_setCell _ _ _ _ hc⟩
theorem Only.drew {b : Nat} {w w' : World} (h : Only b w w') : Only b w w'.drew := ⟨h.os, h.tape, h.output, h.size, h.block⟩
theorem Only.drewN {b : Nat} {w w' : World} (h : Only b w w') (n : Nat) : Only b w (w'.drewN n) := ⟨h.os, h.tape, h.output, h.size, h.block⟩

/-- The cells of a list of numbers, of texts, that lies whole in a block. -/
theorem cells_ints {w : World} {g : Nat} {zs : List Int} {cs : Array Value} {T : TypeId} {fr : Nat × Nat} (h : w.heap[g]? = some (.cells cs T fr)) (he : cs = (zs.map (Value.int .i64)).toArray) (n : Nat) (hn : n ≤ zs.length) :
    ∀ i, i < n → w.cell? ⟨g, i, none⟩ = some (.int .i64 (zs.getD i 0)) := by
  intro i hi
  rw [Lib.cell_of_heap h, he]
  have : i < zs.length := by omega
  simp [List.getElem?_eq_getElem this]
theorem cells_texts {w : World} {g : Nat} {ss : List ByteArray} {cs : Array Value} {T : TypeId} {fr : Nat × Nat} (h : w.heap[g]? = some (.cells cs T fr)) (he : cs = (ss.map Value.string).toArray) (n : Nat) (hn : n ≤ ss.length) :
    ∀ i, i < n → w.cell? ⟨g, i, none⟩ = some (.string (ss.getD i ByteArray.empty)) := by
  intro i hi
  rw [Lib.cell_of_heap h, he]
  have : i < ss.length := by omega
  simp [List.getElem?_eq_getElem this]

end Go.Proofs.YtoojimfimlpplaaDoor

set_option linter.unusedVariables false
namespace Go.Proofs.YtoojimfimlpplaaDoor
open Go.RowKit Go.Deep

set_option maxHeartbeats 1000000 in
set_option maxRecDepth 100000 in
theorem implSteps1 (p : PeakV) (w : World) :
    Calls Tryd.prog 52 #[.agg #[.string p.sum, .int .i64 p.work, .int .i64 p.count]] w fun e w' => e = .returned (.bool (!peakOkB p)) ∧ Below w.heap.size w w' := by
  have hpo := fun w' => implPeakOk p w'
  have L0 : Hid (Below w.heap.size w (w.alloc (.cells #[.string p.sum, .int .i64 p.work, .int .i64 p.count] 50))) := (Below.refl _ w).alloc (Nat.le_refl _) _
  generalize peakOkB p = R at hpo ⊢
  go_enter Tryd.func52, Tryd.ntmps52
  go_wp2_with fail
  refine (hpo _).mono ?_
  rintro e w1 ⟨rfl, b1⟩
  go_wp2_with fail
  go_ret
  exact ⟨rfl, L0.out.trans (b1.mono L0.out.size)⟩

set_option maxHeartbeats 1000000 in
set_option maxRecDepth 100000 in
theorem implIndexSteps (g n cap : Nat) (ss : List PeakV) (w : World) (h : AtP w g ss) (hn : n = ss.length) (hm : n ≤ 8) :
    Calls Tryd.prog 70 #[.slice (some ⟨g, 0, none⟩) n cap, .func (.func 52) #[] #[]] w fun e w' => (∃ x : Int, e = .returned (.int .i64 x) ∧ decide (0 ≤ x) = !stepsB ss) ∧ Below w.heap.size w w' := by
  have HA : Hid (AtP w g ss) := h
  have HN : Hid (n = ss.length) := hn
  have HBAD : Hid (∀ k, k < n → peakOkB (ss.getD k default) = false → stepsB ss = false) := fun k hk he => steps_bad (by omega) he
  have HGOO : Hid ((∀ k, k < n → peakOkB (ss.getD k default) = true) → stepsB ss = true) := fun hf => steps_good (by omega) (fun i hi => hf i (by omega))
  generalize stepsB ss = R at HBAD HGOO ⊢
  clear h hn
  go_enter Tryd.func70, Tryd.ntmps70
  go_wp2_with fail
  go_loopw [5, 8] (fun _ i wr => ∃ k : Nat, k ≤ n ∧ i = .int .i64 (k : Int) ∧ Hid (Below w.heap.size w wr) ∧ Hid (∀ j, j < k → peakOkB (ss.getD j default) = true)) (fun _ i _ => n - (intOf i).toNat)
  case atStart => exact ⟨0, by omega, rfl, Below.refl _ _, fun j hj => by omega⟩
  case round =>
    obtain ⟨k, hk, rfl, HB, HQ⟩ := hrel
    by_cases hlt : k < n
    · have hkl : k < ss.length := by rw [← HN.out]; exact hlt
      have HAr : Hid (AtP wr g ss) := HA.out.below HB.out HA.out.1
      have q0 := AtP.c0 HAr.out k hkl
      have q1 := AtP.c1 HAr.out k hkl
      have q2 := AtP.c2 HAr.out k hkl
      have lk : (k : Int) < (n : Int) := by omega
      have lk0 : (0 : Int) ≤ (k : Int) := by omega
      have wk : IntKind.i64.wrap ((k : Int) + 1) = (k : Int) + 1 := by rw [IntKind.wrap_i64]; omega
      have HK1 : Hid (k + 1 ≤ n) := hlt
      have HH : Hid (peakOkB (ss.getD k default) = false → R = false) := HBAD.out k hlt
      have HQ2 : Hid (peakOkB (ss.getD k default) = true → ∀ j, j < k + 1 → peakOkB (ss.getD j default) = true) := by
        intro h j hj
        rcases Nat.lt_or_ge j k with h' | h'
        · exact HQ.out j h'
        · obtain rfl : j = k := by omega
          exact h
      have hcl := implSteps1 (ss.getD k default) wr
      clear HQ HBAD HGOO hkl
      generalize peakOkB (ss.getD k default) = ok at hcl HH HQ2
      generalize ss.getD k default = c at q0 q1 q2 hcl
      cases ok with
      | false =>
        have HV : Hid (R = false) := HH.out rfl
        clear HH HQ2
        go_wp2_with fail
        refine hcl.mono ?_
        rintro e w1 ⟨rfl, b1⟩
        have HB1 : Hid (Below w.heap.size w w1) := HB.out.trans (b1.mono HB.out.size)
        clear b1
        go_wp2_with fail
        go_ret
        exact ⟨⟨_, rfl, by rw [HV.out]; exact decide_eq_true lk0⟩, HB1.out⟩
      | true =>
        have HQ3 : Hid (∀ j, j < k + 1 → peakOkB (ss.getD j default) = true) := HQ2.out rfl
        clear HH HQ2
        go_wp2_with fail
        refine hcl.mono ?_
        rintro e w1 ⟨rfl, b1⟩
        have HB1 : Hid (Below w.heap.size w w1) := HB.out.trans (b1.mono HB.out.size)
        clear b1
        go_wp2_with fail
        go_roundw
        case rel => exact ⟨k + 1, HK1.out, by go_num, HB1, HQ3⟩
        case measure => have := HK1.out; simp [intOf]; omega
    · obtain rfl : k = n := by omega
      have HV : Hid (R = true) := HGOO.out HQ.out
      clear HBAD HGOO HQ
      go_wp2_with fail
      go_ret
      exact ⟨⟨-1, rfl, by rw [HV.out]; rfl⟩, HB.out⟩

set_option maxHeartbeats 1000000 in
set_option maxRecDepth 100000 in
theorem implStepsOk (g n cap : Nat) (ss : List PeakV) (w : World) (h : AtP w g ss) (hn : n = ss.length) (hm : n ≤ 1048576) :
    Calls Tryd.prog 36 #[.slice (some ⟨g, 0, none⟩) n cap] w fun e w' => e = .returned (.bool (stepsB ss)) ∧ Below w.heap.size w w' := by
  by_cases h8 : n ≤ 8
  · have hix := implIndexSteps g n cap ss w h hn h8
    have hcf : Calls Tryd.prog 51 #[.slice (some ⟨g, 0, none⟩) n cap, .func (.func 52) #[] #[]] w fun e w' => e = .returned (.bool (!stepsB ss)) ∧ Below w.heap.size w w' := by
      generalize stepsB ss = R at hix ⊢
      clear h hn
      go_enter Tryd.func51, Tryd.ntmps51
      go_wp2_with fail
      refine hix.mono ?_
      rintro e w1 ⟨⟨x, rfl, hx⟩, b1⟩
      go_wp2_with fail
      go_ret
      exact ⟨by rw [← hx]; rfl, b1⟩
    clear hix
    generalize stepsB ss = R at hcf ⊢
    have h9 : ¬ (8 : Int) < (n : Int) := by omega
    have h7 : (n : Int) ≤ 8 := by omega
    clear h hn
    cases R with
    | true =>
      go_enter Tryd.func36, Tryd.ntmps36
      go_wp2_with fail
      refine hcf.mono ?_
      rintro e w1 ⟨rfl, b1⟩
      go_wp2_with fail
      go_ret
      exact ⟨rfl, b1⟩
    | false =>
      go_enter Tryd.func36, Tryd.ntmps36
      go_wp2_with fail
      refine hcf.mono ?_
      rintro e w1 ⟨rfl, b1⟩
      go_wp2_with fail
      go_ret
      exact ⟨rfl, b1⟩
  · have HV : Hid (stepsB ss = false) := steps_long (by omega)
    generalize stepsB ss = R at HV ⊢
    have h9 : (8 : Int) < (n : Int) := by omega
    have h7 : ¬ (n : Int) ≤ 8 := by omega
    clear h hn
    go_enter Tryd.func36, Tryd.ntmps36
    go_wp2_with fail
    go_ret
    exact ⟨by rw [HV.out]; rfl, Below.refl _ _⟩

end Go.Proofs.YtoojimfimlpplaaDoor

set_option linter.unusedVariables false
namespace Go.Proofs.YtoojimfimlpplaaDoor
open Go.ChangeShapes Go.WideShapes Go.ChangeAt Go.RowKit Go.Deep Go.Joins

set_option maxHeartbeats 1000000 in
set_option maxRecDepth 100000 in
theorem szPeaksR (r0 : Nat) (hr0 : r0 ≤ 1048576) (a : Option Addr) (len cap : Nat) (ps : List PeakV) (w : World) (h : IsPeaks w a len cap ps) :
    Calls Tryd.prog 14 #[.slice a len cap, .int .i64 (r0 : Int)] w fun e w' => Below w.heap.size w w' ∧ (e = .returned (.int .i64 (-1)) ∨ ∃ r : Nat, e = .returned (.int .i64 (r : Int)) ∧ r ≤ 1048576 ∧ len ≤ 1048576 ∧ ∀ i, i < len → (ps.getD i default).sum.size ≤ 1048576) := by
  have HP : Hid (IsPeaks w a len cap ps) := h
  have hlm : len ≤ maxLen := by
    rcases h with ⟨_, h1, _⟩ | ⟨x, _, h1, h2, _⟩ <;> omega
  unfold maxLen at hlm
  have hw : IntKind.i64.wrap ((r0 : Int) - (len : Int)) = (r0 : Int) - (len : Int) := by rw [IntKind.wrap_i64]; omega
  clear h
  by_cases hl : r0 < len
  · have hl' : (r0 : Int) - (len : Int) < 0 := by omega
    go_enter Tryd.func14, Tryd.ntmps14
    go_wp2_with fail
    go_ret
    exact ⟨Below.refl _ _, .inl rfl⟩
  · have hl' : ¬ (r0 : Int) - (len : Int) < 0 := by omega
    go_enter Tryd.func14, Tryd.ntmps14
    go_wp2_with fail
    clear hw hl'
    go_loopw [1, 5] (fun l i wr => ∃ (r k : Nat), k ≤ len ∧ r ≤ 1048576 ∧ i = .int .i64 (k : Int) ∧ l = .int .i64 (r : Int) ∧ Hid (Below w.heap.size w wr) ∧ Hid (∀ i, i < k → (ps.getD i default).sum.size ≤ 1048576)) (fun _ i _ => len - (intOf i).toNat)
    case atStart => exact ⟨r0 - len, 0, by omega, by omega, rfl, by show Value.int .i64 _ = Value.int .i64 _; congr 1; omega, Below.refl _ _, fun i hi => by omega⟩
    case round =>
      obtain ⟨r, k, hk, hr, rfl, rfl, HB, HS⟩ := hrel
      by_cases hlt : k < len
      · obtain ⟨x, rfl, hp⟩ := HP.out.at HB.out k hlt
        obtain ⟨c0, c1, c2⟩ := hp
        have lk : (k : Int) < (len : Int) := by omega
        have HK : Hid (k + 1 ≤ len) := hlt
        have hsz : (ps.getD k default).sum.size ≤ maxLen := HP.out.size k hlt
        have HN : Hid ((ps.getD k default).sum.size ≤ 1048576 → ∀ i, i < k + 1 → (ps.getD i default).sum.size ≤ 1048576) := by
          intro h1 i hi
          rcases Nat.lt_or_ge i k with h' | h'
          · exact HS.out i h'
          · obtain rfl : i = k := by omega
            exact h1
        generalize ps.getD k default = p at c0 c1 c2 hsz HN
        go_wp2_with fail
        refine (szPeak1 p r _ hr hsz).mono ?_
        rintro e w1 ⟨b1, rfl | ⟨q, rfl, hq, hps⟩⟩
        · go_wp2_with fail
          go_ret
          exact ⟨HB.out.trans (b1.mono HB.out.size), .inl rfl⟩
        · have HQ := HN.out hps
          have HQ2 : Hid (∀ i, i < k + 1 → (ps.getD i default).sum.size ≤ 1048576) := HQ
          clear HQ HN
          have hq0 : ¬ (q : Int) < 0 := by omega
          go_wp2_with fail
          go_roundw
          case rel => exact ⟨q, k + 1, HK.out, by omega, by go_num, rfl, HB.out.trans (b1.mono HB.out.size), HQ2⟩
          case measure => have := HK.out; simp [intOf]; omega
      · go_wp2_with fail
        go_ret
        exact ⟨HB.out, .inr ⟨r, rfl, by omega, by omega, fun i hi => HS.out i (by omega)⟩⟩

theorem CBk.two {w : World} {g : Nat} {T : TypeId} {a b : Value} (h : CBk w g T #[a, b]) : w.cell? ⟨g, 0, none⟩ = some a ∧ w.cell? ⟨g, 1, none⟩ = some b ∧ w.frozen? ⟨g, 0, none⟩ = false ∧ w.frozen? ⟨g, 1, none⟩ = false :=
  ⟨h.cell 0, h.cell 1, h.frozen 0, h.frozen 1⟩
theorem CBk.out2 {w : World} {g : Nat} {T : TypeId} {a b : Value} (h : CBk w g T #[a, b]) : w.cell? ⟨g, 0, none⟩ = some a ∧ w.cell? ⟨g, 1, none⟩ = some b := ⟨h.cell 0, h.cell 1⟩
/-- A proof of the laws. -/
structure LPrf where
  pa : Option Addr
  pn : Nat
  pc : Nat
  pl : List PeakV
  sa : Option Addr
  sn : Nat
  sc : Nat
  sl : List PeakV
def lprfVal (L : LPrf) : Value := .agg #[.slice L.pa L.pn L.pc, .slice L.sa L.sn L.sc]
structure IsPrf (w : World) (L : LPrf) : Prop where
  p : IsPeaks w L.pa L.pn L.pc L.pl
  s : IsPeaks w L.sa L.sn L.sc L.sl
theorem peaks_below {w w' : World} {a : Option Addr} {len cap : Nat} {ps : List PeakV} (h : IsPeaks w a len cap ps) (hb : Below w.heap.size w w') : IsPeaks w' a len cap ps := by
  have hat := fun i hi => h.at hb i hi
  rcases h with h1 | ⟨x, hx, h1, h2, h3, h4, h5⟩
  · exact .inl h1
  · refine .inr ⟨x, hx, h1, h2, h3, fun i hi => ?_, h5⟩
    obtain ⟨y, hy, hc⟩ := hat i hi
    rw [hx] at hy
    obtain rfl := Option.some.inj hy
    exact hc
theorem IsPrf.below {w w' : World} {L : LPrf} (h : IsPrf w L) (hb : Below w.heap.size w w') : IsPrf w' L := ⟨peaks_below h.p hb, peaks_below h.s hb⟩
theorem shape_slice2 {P : Program} {H : Type} {enc : TypeId × Value → H} {W : World} {base : Nat} {sp : Nat → Bool} {held : Bool} {n : Nat} {t e : TypeId} {v : Value} {y : DataW H × List MemPlace} (ht : P.underlying t = some (.slice e)) (h : DataW.trod enc P W base sp held n t [v] = some y) : ∃ a len cap, v = .slice a len cap := by
  rcases open_slice ht h with ⟨hcs, _⟩ | ⟨x, l, c, m, n, D, Pl, hcs, _⟩
  · simp at hcs
    exact ⟨_, _, _, hcs⟩
  · simp at hcs
    exact ⟨_, _, _, hcs⟩
structure SmallPrf (L : LPrf) : Prop where
  pn : L.pn ≤ 1048576
  ps : ∀ i, i < L.pn → (L.pl.getD i default).sum.size ≤ 1048576
  sn : L.sn ≤ 1048576
  ss : ∀ i, i < L.sn → (L.sl.getD i default).sum.size ≤ 1048576
/-- A proof in memory of its own. -/
structure PrfV where
  g : Nat
  n : Nat
  c : Nat
  ps : List PeakV
  sg : Nat
  sn : Nat
  sc : Nat
  ss : List PeakV
def prfVal (s : PrfV) : Value := .agg #[.slice (some ⟨s.g, 0, none⟩) s.n s.c, .slice (some ⟨s.sg, 0, none⟩) s.sn s.sc]
structure CopyPrf (B : Nat) (L : LPrf) (v : PrfV) (w : World) : Prop where
  p : RowP w v.g L.pl
  ps : v.ps = L.pl
  pn : v.n = L.pn
  pc : v.c = v.n
  st : RowP w v.sg L.sl
  ss : v.ss = L.sl
  sn : v.sn = L.sn
  sc : v.sc = v.sn
  lo : B ≤ v.g
  up : v.g < v.sg
theorem CopyPrf.below {B : Nat} {L : LPrf} {s : PrfV} {w w' : World} (h : CopyPrf B L s w) (hb : Below w.heap.size w w') : CopyPrf B L s w' :=
  ⟨h.p.below hb h.p.lt, h.ps, h.pn, h.pc, h.st.below hb h.st.lt, h.ss, h.sn, h.sc, h.lo, h.up⟩
theorem rowP_other {w : World} {g g' : Nat} {l : List PeakV} (h : RowP w g l) (hg : g' ≠ g) (j : Nat) (v : Value) : RowP (w.setCell ⟨g', j, none⟩ v) g l := by
  unfold RowP RowF at h ⊢; simp [World.setCell, Array.getElem?_modify, h, hg]

end Go.Proofs.YtoojimfimlpplaaDoor

set_option linter.unusedVariables false
namespace Go.Proofs.YtoojimfimlpplaaDoor
open Go.RowKit Go.Deep

theorem sameR (a b : ByteArray) : (a.toList == b.toList) = decide (a = b) := by
  rw [Bool.eq_iff_iff, beq_iff_eq, decide_eq_true_eq, ByteArray.toList_eq, ByteArray.toList_eq]
  constructor
  · intro h
    exact ByteArray.ext (by simpa using h)
  · intro h
    rw [h]
theorem walk_fine {h : HeadV} (hok : headOkB h = true) {a : Nat} {ss : List PeakV} : ∀ (i : Nat) (q : PeakV) (l : Int), walkTo (leafP h) a ss i = some (q, l) → Fine q l i
  | 0, q, l, hw => by
    simp only [walkTo, Option.some.injEq, Prod.mk.injEq] at hw
    obtain ⟨rfl, rfl⟩ := hw
    exact fine_leaf hok
  | i + 1, q, l, hw => by
    rw [walkTo] at hw
    cases hx : walkTo (leafP h) a ss i with
    | none => rw [hx] at hw; cases hw
    | some y =>
      obtain ⟨q0, l0⟩ := y
      have ih := walk_fine hok i q0 l0 hx
      rw [hx] at hw
      dsimp only at hw
      cases hb : (peakOkB (ss.getD i default) && decide ((ss.getD i default).count = q0.count)) with
      | false => rw [hb] at hw; cases hw
      | true =>
        rw [hb] at hw
        simp only [if_true] at hw
        split at hw
        · simp only [Option.some.injEq, Prod.mk.injEq] at hw
          obtain ⟨rfl, rfl⟩ := hw
          exact fine_left ih hb
        · simp only [Option.some.injEq, Prod.mk.injEq] at hw
          obtain ⟨rfl, rfl⟩ := hw
          exact fine_right ih hb
theorem fine_le {q : PeakV} {l : Int} {i : Nat} (h : Fine q l i) : l ≤ 256 := by
  have h1 := h.l1
  have h2 := h.wk
  have h3 := h.cnt
  have h4 := h.hi
  have h5 : (2 ^ i : Nat) ≤ 32 := by
    have : i = 0 ∨ i = 1 ∨ i = 2 ∨ i = 3 ∨ i = 4 ∨ i = 5 := by omega
    rcases this with rfl | rfl | rfl | rfl | rfl | rfl <;> decide
  omega
theorem climb_le {top : PeakV} {h : HeadV} (hok : headOkB h = true) (a : Nat) (ss : List PeakV) : -1 ≤ climbV top h a ss ∧ climbV top h a ss ≤ 256 := by
  unfold climbV
  cases hx : walkTo (leafP h) a ss ss.length with
  | none => dsimp only; omega
  | some y =>
    obtain ⟨q, l⟩ := y
    have hf := walk_fine hok _ q l hx
    have := fine_le hf
    have := hf.l0
    dsimp only
    split <;> omega
theorem wrk_in {ps : List PeakV} (h : rangeOkB ps = true) : ∀ k, k ≤ ps.length → 0 ≤ wrkTo ps k ∧ wrkTo ps k ≤ 160 * (k : Int)
  | 0, _ => by simp [wrkTo]
  | k + 1, hk => by
    have ih := wrk_in h k (by omega)
    have := rangeOk_at h k (by omega)
    rw [wrkTo]
    push_cast
    omega
theorem cnt_in {ps : List PeakV} (h : rangeOkB ps = true) : ∀ k, k ≤ ps.length → 0 ≤ cntTo ps k ∧ cntTo ps k ≤ 20 * (k : Int)
  | 0, _ => by simp [cntTo]
  | k + 1, hk => by
    have ih := cnt_in h k (by omega)
    have := rangeOk_at h k (by omega)
    rw [cntTo]
    push_cast
    omega
/-- A proof in memory. -/
structure PrfAt (s : PrfV) (w : World) : Prop where
  p : AtP w s.g s.ps
  pl : s.n = s.ps.length
  pm : s.n ≤ 1048576
  pc : s.n ≤ s.c
  t : AtP w s.sg s.ss
  tl : s.sn = s.ss.length
  tm : s.sn ≤ 1048576
theorem PrfAt.below {s : PrfV} {w w' : World} (h : PrfAt s w) (hb : Below w.heap.size w w') : PrfAt s w' :=
  ⟨h.p.below hb h.p.1, h.pl, h.pm, h.pc, h.t.below hb h.t.1, h.tl, h.tm⟩
theorem check_root {root : ByteArray} {h : HeadV} {a : Int} {ps ss : List PeakV} (hn : (⟨(rangeRoot ps).toArray⟩ : ByteArray) ≠ root) : checkV root h a ps ss = -1 := check_no (fun hh => hn hh.2.2.2.2)

end Go.Proofs.YtoojimfimlpplaaDoor

set_option linter.unusedVariables false
namespace Go.Proofs.YtoojimfimlpplaaDoor
open Go.RowKit

theorem cells_new (w : World) (e : TypeId) (news : List Value) : ∀ j u, news[j]? = some u → (w.alloc (.cells news.toArray e)).cell? ((⟨w.heap.size, 0, none⟩ : Addr).add j) = some u := by
  intro j u hj
  have e1 : (⟨w.heap.size, 0, none⟩ : Addr).add j = ⟨w.heap.size, j, none⟩ := by unfold Addr.add; split <;> simp_all
  rw [e1, Lib.cell_of_heap (heap_alloc_new w _)]
  simpa using hj
theorem wp_appN {P : Program} {w : World} {ops : Array Oper} {rest : List Oper} {o : Oper} {a : Act} {Q : Exit → Act → World → Prop} (hgd : o.guard = none) (s x : Operand) (t : TypeId)
    (ho : o.op = .call { callee := .builtin .append, args := #[s, x], argTypes := #[t, t] })
    (base : Nat) (e : TypeId) (i : TypeInfo) (z : Value) (size bytes m : Nat) (ht : P.underlying t = some (.slice e)) (hi : P.info? e = some i) (hz : i.zero = some z)
    (hsize : i.size = size) (hby : i.bytes = bytes) (hzs : z.cells.size = size) (hs0 : 0 < size) (hm0 : 0 < m)
    (v : Value) (n : Nat) (xs : List Value) (hs : a.eval s = v) (hown : w.ownsRow base e size v n xs)
    (news : List Value) (hx : a.eval x = .slice (some ⟨w.heap.size, 0, none⟩) m m) (hl : news.length = m * size) (hu : ∀ u ∈ news, u.oneCell' = true)
    (h63 : n + m ≤ maxLen) (hbytes : (n + m) * bytes ≤ 140737488355328) (hbase : base ≤ w.heap.size)
    (h : ∀ g cap w', w'.ownsRow base e size (.slice (some ⟨g, 0, none⟩) (n + m) cap) (n + m) (xs ++ news) → Below base w w' → (∀ b, b < w.heap.size → v.ownBlock ≠ some b → w'.heap[b]? = w.heap[b]?) →
      wpList P ops Q rest (a.put o.dst (.slice (some ⟨g, 0, none⟩) (n + m) cap)) w') :
    wpList P ops Q (o :: rest) a (w.alloc (.cells news.toArray e)) := by
  refine wpList_append_own _ hgd s x t ho base e i z size bytes ht hi hz hsize hby hzs hs0 v n xs hs (hown.alloc _) ⟨w.heap.size, 0, none⟩ m m news hx hl ?_ hu h63 hbytes (by simp; omega) ?_
  · intro j u hj
    have e1 : (⟨w.heap.size, 0, none⟩ : Addr).add j = ⟨w.heap.size, j, none⟩ := by unfold Addr.add; split <;> simp_all
    rw [e1, Lib.cell_of_heap (heap_alloc_new w _)]
    simpa using hj
  · intro v' w' hown' hg _
    obtain ⟨g, cap, rfl⟩ : ∃ g cap, v' = .slice (some ⟨g, 0, none⟩) (n + m) cap := by
      rcases hown'.2 with ⟨_, h0⟩ | ⟨g, cap, cur, hv, _⟩
      · omega
      · exact ⟨g, cap, hv⟩
    refine h g cap w' hown' (((Below.refl base w).alloc hbase _).grown hg (by simp; omega) (fun k hk => (hown.lt k hk).1)) ?_
    intro b hb hne
    rw [hg.block b (by simp; omega) (fun e => hne e.symm)]
    exact Below.heap_alloc _ _ _ hb

end Go.Proofs.YtoojimfimlpplaaDoor

set_option linter.unusedVariables false
namespace Go.Proofs.YtoojimfimlpplaaDoor
open Go.RowKit

section frow
variable {α : Type}
def FRow (enc : α → List Value) (T : TypeId) (k B : Nat) (v : Value) (l : List α) (w : World) : Prop := (∃ g cap, v = .slice (some ⟨g, 0, none⟩) l.length cap) ∧ w.ownsRow B T k v l.length (l.flatMap enc)
theorem frow_new (enc : α → List Value) (T : TypeId) (k : Nat) (w : World) : FRow enc T k w.heap.size (.slice (some ⟨w.heap.size, 0, none⟩) 0 0) [] (w.alloc (.cells #[] T)) :=
  ⟨⟨_, _, rfl⟩, by simp, .inr ⟨w.heap.size, 0, #[], rfl, Nat.le_refl _, heap_alloc_new w _, Nat.le_refl _, Nat.zero_le _, by simp, by simp⟩⟩
theorem frow_cap (enc : α → List Value) (T : TypeId) (k n : Nat) (hk : ∀ a, (enc a).length = k) (a : α) (w : World) (hn : n ≤ maxLen) : FRow enc T k w.heap.size (.slice (some ⟨w.heap.size, 0, none⟩) 0 n) [] (w.alloc (.cells ((List.replicate n a).flatMap enc).toArray T)) :=
  ⟨⟨_, _, rfl⟩, by simp, .inr ⟨w.heap.size, n, _, rfl, Nat.le_refl _, heap_alloc_new w _, Nat.zero_le _, hn, by simp [flat_length k enc hk], by simp⟩⟩
theorem FRow.block {enc : α → List Value} {T : TypeId} {k B : Nat} {v : Value} {l : List α} {w : World} (h : FRow enc T k B v l w) : ∃ g cap cur, v = .slice (some ⟨g, 0, none⟩) l.length cap ∧ B ≤ g ∧ g < w.heap.size ∧ w.heap[g]? = some (.cells cur T (0, 0)) ∧ cur.toList.take (l.length * k) = l.flatMap enc ∧ l.length ≤ cap := by
  obtain ⟨⟨g, cap, rfl⟩, _, h2⟩ := h
  rcases h2 with ⟨h3, _⟩ | ⟨g', cap', cur, hv, hB, hg, hc, _, _, ht⟩
  · cases h3
  · simp only [Value.slice.injEq, Option.some.injEq, Addr.mk.injEq, and_true] at hv
    obtain ⟨rfl, _, rfl⟩ := hv
    refine ⟨g, cap, cur, rfl, hB, ?_, hg, ht, hc⟩
    rcases Nat.lt_or_ge g w.heap.size with h' | h'
    · exact h'
    · simp [Array.getElem?_eq_none h'] at hg
theorem FRow.at [Inhabited α] {enc : α → List Value} {T : TypeId} {k B g n cap : Nat} {l : List α} {w : World} (hk : ∀ a, (enc a).length = k) (h : FRow enc T k B (.slice (some ⟨g, 0, none⟩) n cap) l w) : AtF enc k w g l ∧ n = l.length ∧ B ≤ g ∧ n ≤ cap := by
  obtain ⟨g', cap', cur, hv, hB, hlt, hg, ht, hc⟩ := h.block
  simp only [Value.slice.injEq, Option.some.injEq, Addr.mk.injEq, and_true] at hv
  obtain ⟨rfl, rfl, rfl⟩ := hv
  refine ⟨⟨hlt, fun i j hi hj => ?_⟩, rfl, hB, hc⟩
  have hlt2 : i * k + j < l.length * k := by
    have : (i + 1) * k ≤ l.length * k := Nat.mul_le_mul_right k hi
    rw [Nat.add_mul] at this
    omega
  rw [Lib.cell_of_heap hg, ← flat_at k enc hk l i j hi hj, ← ht, List.getElem?_take_of_lt hlt2]
  simp
theorem FRow.keep {enc : α → List Value} {T : TypeId} {k B : Nat} {v : Value} {l : List α} {w w' : World} (h : FRow enc T k B v l w) (hk : ∀ g, B ≤ g → g < w.heap.size → w'.heap[g]? = w.heap[g]?) : FRow enc T k B v l w' := by
  obtain ⟨⟨g, cap, rfl⟩, h1, h2⟩ := h
  refine ⟨⟨g, cap, rfl⟩, h1, ?_⟩
  rcases h2 with ⟨h3, _⟩ | ⟨g', cap', cur, hv, hB, hg, h4⟩
  · cases h3
  · have hlt : g' < w.heap.size := by
      rcases Nat.lt_or_ge g' w.heap.size with h' | h'
      · exact h'
      · simp [Array.getElem?_eq_none h'] at hg
    exact .inr ⟨g', cap', cur, hv, hB, by rw [hk g' hB hlt]; exact hg, h4⟩
theorem FRow.below {enc : α → List Value} {T : TypeId} {k B : Nat} {v : Value} {l : List α} {w w' : World} (h : FRow enc T k B v l w) (hb : Below w.heap.size w w') : FRow enc T k B v l w' := h.keep (fun g _ hg => hb.block g hg)
theorem FRow.drew {enc : α → List Value} {T : TypeId} {k B : Nat} {v : Value} {l : List α} {w : World} (h : FRow enc T k B v l w) : FRow enc T k B v l w.drew := h
theorem FRow.mono {enc : α → List Value} {T : TypeId} {k B C : Nat} {v : Value} {l : List α} {w : World} (h : FRow enc T k B v l w) (hC : C ≤ B) : FRow enc T k C v l w := by
  obtain ⟨h0, h1, h2⟩ := h
  refine ⟨h0, h1, ?_⟩
  rcases h2 with h3 | ⟨g', cap', cur, hv, hB, h4⟩
  · exact .inl h3
  · exact .inr ⟨g', cap', cur, hv, Nat.le_trans hC hB, h4⟩
theorem FRow.of {enc : α → List Value} {T : TypeId} {k B g n cap : Nat} {l : List α} {w : World} (h : w.ownsRow B T k (.slice (some ⟨g, 0, none⟩) n cap) n (l.flatMap enc)) (hn : n = l.length) : FRow enc T k B (.slice (some ⟨g, 0, none⟩) n cap) l w := by
  subst hn
  exact ⟨⟨g, cap, rfl⟩, h⟩
theorem info3 {P : Program} {t : TypeId} {z : Value} {n b : Nat} (h : (P.info? t).map (fun i => (i.zero, i.size, i.bytes)) = some (some z, n, b)) : ∃ i, P.info? t = some i ∧ i.zero = some z ∧ i.size = n ∧ i.bytes = b := by
  cases hi : P.info? t with
  | none => rw [hi] at h; cases h
  | some i =>
    rw [hi] at h
    simp only [Option.map_some, Option.some.injEq, Prod.mk.injEq] at h
    exact ⟨i, rfl, h.1, h.2.1, h.2.2⟩
end frow

end Go.Proofs.YtoojimfimlpplaaDoor

set_option linter.unusedVariables false
namespace Go.Proofs.YtoojimfimlpplaaDoor
open Go.RowKit

section
variable {P : Program} {w : World}
theorem run_append_any (t ty : TypeId) (base : Nat) (e : TypeId) (i : TypeInfo) (z : Value) (size bytes : Nat) (ht : P.underlying t = some (.slice e)) (hi : P.info? e = some i) (hz : i.zero = some z)
    (hsize : i.size = size) (hby : i.bytes = bytes) (hzs : z.cells.size = size) (hsz : 0 < size)
    (g0 c0 n : Nat) (xs : List Value) (hown : w.ownsRow base e size (.slice (some ⟨g0, 0, none⟩) n c0) n xs)
    (ad : Addr) (m c : Nat) (news : List Value) (hl : news.length = m * size) (hnews : ∀ j u, news[j]? = some u → w.cell? (ad.add j) = some u) (h1 : ∀ u ∈ news, u.oneCell' = true)
    (h63 : n + m ≤ maxLen) (hbytes : (n + m) * bytes ≤ 140737488355328) (hbase : base ≤ w.heap.size) :
    ∃ g cap w', (Builtin.append_ #[t, t] ty #[.slice (some ⟨g0, 0, none⟩) n c0, .slice (some ad) m c]).run P w = .ok (.slice (some ⟨g, 0, none⟩) (n + m) cap) w' ∧
      w'.ownsRow base e size (.slice (some ⟨g, 0, none⟩) (n + m) cap) (n + m) (xs ++ news) ∧ w.grownBy w' (some g0) ∧ (g0 = g ∨ g = w.heap.size) ∧ g < w'.heap.size := by
  obtain ⟨v', w', hr, h2, h3, _, h5⟩ := run_append_own_at (P := P) w base t ty e i z size bytes ht hi hz hsize hby hzs hsz (.slice (some ⟨g0, 0, none⟩) n c0) n xs hown ad m c news hl hnews h1 h63 hbytes hbase
  rcases h2.2 with ⟨h6, _⟩ | ⟨g, cap, cur, hv, hB, hg, _⟩
  · rw [h6] at h5
    rcases h5 with h5 | h5 <;> simp [Value.ownBlock] at h5
  · subst hv
    refine ⟨g, cap, w', hr, h2, h3, ?_, ?_⟩
    · rcases h5 with h5 | h5
      · left
        have : g = g0 := by simpa [Value.ownBlock] using h5
        exact this.symm
      · right
        simpa [Value.ownBlock] using h5
    · rcases Nat.lt_or_ge g w'.heap.size with h' | h'
      · exact h'
      · simp [Array.getElem?_eq_none h'] at hg
theorem step_append_any {ops : Array Oper} {o : Oper} {a : Act} {K : Act → World → Prop} {Q : Exit → Act → World → Prop} {E : Prop} (hgd : o.guard = none) (s x : Operand) (t : TypeId)
    (ho : o.op = .call { callee := .builtin .append, args := #[s, x], argTypes := #[t, t] })
    (base : Nat) (e : TypeId) (i : TypeInfo) (z : Value) (size bytes : Nat) (ht : P.underlying t = some (.slice e)) (hi : P.info? e = some i) (hz : i.zero = some z)
    (hsize : i.size = size) (hby : i.bytes = bytes) (hzs : z.cells.size = size) (hsz : 0 < size)
    (g0 c0 n : Nat) (xs : List Value) (hs : a.eval s = .slice (some ⟨g0, 0, none⟩) n c0) (hown : w.ownsRow base e size (.slice (some ⟨g0, 0, none⟩) n c0) n xs)
    (ad : Addr) (m c : Nat) (news : List Value) (hx : a.eval x = .slice (some ad) m c) (hl : news.length = m * size) (hnews : ∀ j u, news[j]? = some u → w.cell? (ad.add j) = some u) (h1 : ∀ u ∈ news, u.oneCell' = true)
    (h63 : n + m ≤ maxLen) (hbytes : (n + m) * bytes ≤ 140737488355328) (hbase : base ≤ w.heap.size)
    (h : ∀ g cap w', w'.ownsRow base e size (.slice (some ⟨g, 0, none⟩) (n + m) cap) (n + m) (xs ++ news) → w.grownBy w' (some g0) → Hid (g0 = g ∨ g = w.heap.size) → Hid (g < w'.heap.size) → K (a.put o.dst (.slice (some ⟨g, 0, none⟩) (n + m) cap)) w') :
    if Region.wanted o (yielded ops a.tmps) = true then Oper.wp P o a w K Q else E := by
  have hw : Region.wanted o (yielded ops a.tmps) = true := by simp [Region.wanted, hgd]
  rw [if_pos hw]
  obtain ⟨g, cap, w', hr, h2, h3, h4, h5⟩ := run_append_any (P := P) (w := w) t o.type base e i z size bytes ht hi hz hsize hby hzs hsz g0 c0 n xs hown ad m c news hl hnews h1 h63 hbytes hbase
  unfold Oper.wp execOp
  simp only [ho, resolve, invoke, builtin, Sem.run_bind, Sem.run_pure, Result.andThen_ok, List.map_toArray, List.map_cons, List.map_nil, hs, hx, hr]
  exact h g cap w' h2 h3 h4 h5
end

end Go.Proofs.YtoojimfimlpplaaDoor

set_option linter.unusedVariables false
namespace Go.Proofs.YtoojimfimlpplaaDoor
open Go.RowKit Go.Deep

/-- Peaks, the last first, with one more. -/
def addR : List PeakV → PeakV → List PeakV
  | [], p => [p]
  | q :: r, p => if q.count = p.count then addR r (bothP q p) else p :: q :: r
def addP (ps : List PeakV) (p : PeakV) : List PeakV := (addR ps.reverse p).reverse
theorem addP_nil (p : PeakV) : addP [] p = [p] := rfl
theorem addP_yes {ps : List PeakV} {q p : PeakV} (h : q.count = p.count) : addP (ps ++ [q]) p = addP ps (bothP q p) := by simp [addP, addR, h]
theorem addP_no {ps : List PeakV} {q p : PeakV} (h : ¬ q.count = p.count) : addP (ps ++ [q]) p = ps ++ [q] ++ [p] := by simp [addP, addR, h]
theorem take_one {ps : List PeakV} {m : Nat} (h : m < ps.length) : ps.take (m + 1) = ps.take m ++ [ps.getD m default] := by
  rw [List.take_add_one, List.getElem?_eq_getElem h]
  simp [List.getElem?_eq_getElem h]
/-- A peak that is ok, and not too many heads in it and ahead of it. -/
structure Room (ps : List PeakV) (m : Nat) (q : PeakV) : Prop where
  ok : peakOkB q = true
  few : q.count + cntTo ps m ≤ 21
theorem cnt_pos {ps : List PeakV} (h : ∀ i, i < ps.length → peakOkB (ps.getD i default) = true) : ∀ m, m ≤ ps.length → 0 ≤ cntTo ps m
  | 0, _ => Int.le_refl _
  | m + 1, hm => by
    have := cnt_pos h m (by omega)
    have := peakOk_in (h m (by omega))
    rw [cntTo]
    omega
theorem Room.step {ps : List PeakV} {m : Nat} {q : PeakV} (hk : ∀ i, i < ps.length → peakOkB (ps.getD i default) = true) (hm : m < ps.length) (h : Room ps (m + 1) q) (he : (ps.getD m default).count = q.count) : Room ps m (bothP (ps.getD m default) q) := by
  have h1 := peakOk_in (hk m hm)
  have h2 := peakOk_in h.ok
  have h3 := h.few
  have h4 := cnt_pos hk m (by omega)
  rw [cntTo] at h3
  refine ⟨?_, ?_⟩
  · have hs := isSum_both (ps.getD m default) q
    simp only [peakOkB, hs, Bool.true_and, Bool.and_eq_true, decide_eq_true_eq]
    show (1 ≤ (ps.getD m default).count + q.count ∧ (ps.getD m default).count + q.count ≤ 20) ∧ (ps.getD m default).count + q.count ≤ (ps.getD m default).work + q.work ∧ (ps.getD m default).work + q.work ≤ ((ps.getD m default).count + q.count) * 8
    omega
  · show (ps.getD m default).count + q.count + cntTo ps m ≤ 21
    omega
abbrev PRow (B : Nat) (v : Value) (l : List PeakV) (w : World) : Prop := FRow pEnc 50 3 B v l w
theorem pEnc_one (p : PeakV) : ∀ u ∈ pEnc p, u.oneCell' = true := by
  intro u hu
  simp only [pEnc, List.mem_cons, List.not_mem_nil, or_false] at hu
  rcases hu with rfl | rfl | rfl <;> rfl
theorem pEncs_one (l : List PeakV) : ∀ u ∈ l.flatMap pEnc, u.oneCell' = true := by
  intro u hu
  obtain ⟨p, _, hp⟩ := List.mem_flatMap.1 hu
  exact pEnc_one p u hp
section
variable {P : Program} {w : World}
theorem wpList_append_any {ops : Array Oper} {rest : List Oper} {o : Oper} {a : Act} {Q : Exit → Act → World → Prop} (hgd : o.guard = none) (s x : Operand) (t : TypeId)
    (ho : o.op = .call { callee := .builtin .append, args := #[s, x], argTypes := #[t, t] })
    (base : Nat) (e : TypeId) (i : TypeInfo) (z : Value) (size bytes : Nat) (ht : P.underlying t = some (.slice e)) (hi : P.info? e = some i) (hz : i.zero = some z)
    (hsize : i.size = size) (hby : i.bytes = bytes) (hzs : z.cells.size = size) (hsz : 0 < size)
    (g0 c0 n : Nat) (xs : List Value) (hs : a.eval s = .slice (some ⟨g0, 0, none⟩) n c0) (hown : w.ownsRow base e size (.slice (some ⟨g0, 0, none⟩) n c0) n xs)
    (ad : Addr) (m c : Nat) (news : List Value) (hx : a.eval x = .slice (some ad) m c) (hl : news.length = m * size) (hnews : ∀ j u, news[j]? = some u → w.cell? (ad.add j) = some u) (h1 : ∀ u ∈ news, u.oneCell' = true)
    (h63 : n + m ≤ maxLen) (hbytes : (n + m) * bytes ≤ 140737488355328) (hbase : base ≤ w.heap.size)
    (h : ∀ g cap w', w'.ownsRow base e size (.slice (some ⟨g, 0, none⟩) (n + m) cap) (n + m) (xs ++ news) → w.grownBy w' (some g0) → Hid (g0 = g ∨ g = w.heap.size) → Hid (g < w'.heap.size) → wpList P ops Q rest (a.put o.dst (.slice (some ⟨g, 0, none⟩) (n + m) cap)) w') : wpList P ops Q (o :: rest) a w := by
  refine wpList_plain hgd fun _ hK => ?_
  obtain ⟨g, cap, w', hr, h2, h3, h4, h5⟩ := run_append_any (P := P) (w := w) t o.type base e i z size bytes ht hi hz hsize hby hzs hsz g0 c0 n xs hown ad m c news hl hnews h1 h63 hbytes hbase
  unfold Oper.wp execOp
  simp only [ho, resolve, invoke, builtin, Sem.run_bind, Sem.run_pure, Result.andThen_ok, List.map_toArray, List.map_cons, List.map_nil, hs, hx, hr]
  exact hK _ _ (h g cap w' h2 h3 h4 h5)
end

end Go.Proofs.YtoojimfimlpplaaDoor

set_option linter.unusedVariables false
namespace Go.Proofs.YtoojimfimlpplaaDoor
open Go.RowKit Go.Deep

theorem add0 (g j : Nat) : (⟨g, 0, none⟩ : Addr).add j = ⟨g, j, none⟩ := by unfold Addr.add; split <;> simp_all
theorem drewAlloc (w : World) (o : Obj) : (w.alloc o).drew = w.drew.alloc o := rfl
def sliceLen : Value → Nat
  | .slice _ n _ => n
  | _ => 0

set_option maxHeartbeats 8000000 in
set_option maxRecDepth 100000 in
theorem specL5Add (g n cap : Nat) (ps : List PeakV) (p : PeakV) (w : World) (h : AtP w g ps) (hn : n = ps.length) (hm : n ≤ 1048576) (hk : ∀ i, i < ps.length → peakOkB (ps.getD i default) = true) (hr : Room ps n p) :
    Calls Tryd.prog 46 #[.slice (some ⟨g, 0, none⟩) n cap, peakVal p] w fun e w' => ∃ v, e = .returned v ∧ PRow w.heap.size v (addP ps p) w' ∧ Below w.heap.size w w' := by
  obtain ⟨i0, hi, hz0, hz1, hz2⟩ := info3 infoPeak
  have HA : Hid (AtP w g ps) := h
  have HN : Hid (n = ps.length) := hn
  have HKP : Hid (∀ i, i < ps.length → peakOkB (ps.getD i default) = true) := hk
  have HR0 : Hid (Room ps n p) := hr
  have HAD : Hid (addP (ps.take n) p = addP ps p) := by show _ = _; rw [hn, List.take_length]
  generalize addP ps p = A at HAD ⊢
  unfold peakVal
  have C0 : Hid (CBk ((w.alloc (.cells #[.string p.sum, .int .i64 p.work, .int .i64 p.count] 50)).alloc (.cells #[] 50)) w.heap.size 50 #[.string p.sum, .int .i64 p.work, .int .i64 p.count]) := (CBk.new w _ _).alloc _
  have L0 : Hid (Below w.heap.size w ((w.alloc (.cells #[.string p.sum, .int .i64 p.work, .int .i64 p.count] 50)).alloc (.cells #[] 50))) := ((Below.refl _ w).alloc (Nat.le_refl _) _).alloc (by simp) _
  have R0 : Hid (((w.alloc (.cells #[.string p.sum, .int .i64 p.work, .int .i64 p.count] 50)).alloc (.cells #[] 50)).ownsRow (w.heap.size + 1) 50 3 (.slice (some ⟨w.heap.size + 1, 0, none⟩) 0 0) 0 []) := by
    have := (frow_new pEnc 50 3 (w.alloc (.cells #[.string p.sum, .int .i64 p.work, .int .i64 p.count] 50))).2
    rwa [show (w.alloc (.cells #[.string p.sum, .int .i64 p.work, .int .i64 p.count] 50)).heap.size = w.heap.size + 1 from by simp] at this
  have HZ : Hid (((w.alloc (.cells #[.string p.sum, .int .i64 p.work, .int .i64 p.count] 50)).alloc (.cells #[] 50)).heap.size = w.heap.size + 2) := by show _ = _; simp
  have HU : Hid (∀ u ∈ ps.flatMap pEnc, u.oneCell' = true) := pEncs_one ps
  have HNW : Hid (∀ wx, Below w.heap.size w wx → ∀ j u, (ps.flatMap pEnc)[j]? = some u → wx.cell? ((⟨g, 0, none⟩ : Addr).add j) = some u) := by
    intro wx hb j u hj
    have hat := HA.out.below hb HA.out.1
    have hjl : j < (ps.flatMap pEnc).length := by
      rcases Nat.lt_or_ge j (ps.flatMap pEnc).length with h' | h'
      · exact h'
      · rw [List.getElem?_eq_none h'] at hj; cases hj
    rw [flat_length 3 pEnc pEnc_len] at hjl
    have hq : j = j / 3 * 3 + j % 3 := by omega
    have hi3 : j / 3 < ps.length := by omega
    have h3 := hat.2 (j / 3) (j % 3) hi3 (Nat.mod_lt _ (by decide))
    have hf := flat_at 3 pEnc pEnc_len ps (j / 3) (j % 3) hi3 (Nat.mod_lt _ (by decide))
    rw [← hq] at h3 hf
    rw [add0, h3, ← hf]
    exact hj
  have HPL : Hid ((ps.flatMap pEnc).length = n * 3) := by show _ = _; rw [flat_length 3 pEnc pEnc_len, hn]
  clear h hn hk hr
  have hy1 : 0 + n ≤ maxLen := by unfold maxLen; omega
  have hy2 : (0 + n) * 32 ≤ 140737488355328 := by omega
  go_enter Tryd.func46, Tryd.ntmps46
  have hzz : w.heap.size + 1 ≤ ((w.alloc (.cells #[.string p.sum, .int .i64 p.work, .int .i64 p.count] 50)).alloc (.cells #[] 50)).heap.size := by have := HZ.out; omega
  obtain ⟨g3, hg3⟩ : ∃ g3, g3 = w.heap.size := ⟨_, rfl⟩
  have HG3 : Hid (g3 = w.heap.size) := hg3
  go_wp2_with (at_builtin; refine wpList_append_any rfl _ _ 24 rfl (w.heap.size + 1) 50 i0 (.agg #[.string ⟨#[]⟩, .int .i64 0, .int .i64 0]) 3 32 Tryd.underlying24 hi hz0 hz1 hz2 rfl (by decide) (w.heap.size + 1) 0 0 [] (by rfl) R0.out ⟨g, 0, none⟩ n cap (ps.flatMap pEnc) (by rfl) HPL.out (HNW.out _ L0.out) HU.out hy1 hy2 hzz ?_; intro g5 c5 w1 hown1 hgrow1 hat1 hlt1)
  have C1 : Hid (CBk w1 g3 50 #[.string p.sum, .int .i64 p.work, .int .i64 p.count]) := by
    have := C0.out
    rw [← hg3] at this
    unfold CBk at this ⊢
    rw [hgrow1.block g3 (by have := HZ.out; omega) (by simp; omega)]
    exact this
  have B1 : Hid (Below w.heap.size w w1) := L0.out.grown hgrow1 (by have := HZ.out; omega) (fun j hj => by cases hj; omega)
  have RW1 : Hid (w1.ownsRow (w.heap.size + 1) 50 3 (.slice (some ⟨g5, 0, none⟩) n c5) n ((ps.take n).flatMap pEnc)) := by
    have e : ps.take n = ps := by rw [HN.out, List.take_length]
    rw [Nat.zero_add, List.nil_append] at hown1
    show World.ownsRow _ _ _ _ _ _ _
    rw [e]
    exact hown1
  rw [← hg3]
  clear hown1 hgrow1 hat1 hlt1 C0 L0 R0 HZ hzz hy1 hy2 HNW HU HPL
  clear hg3
  go_wp2_with fail
  go_loopw [5] (fun out wr => ∃ (m g5 c5 : Nat) (q : PeakV), m ≤ n ∧ out = .slice (some ⟨g5, 0, none⟩) m c5 ∧ Hid (wr.ownsRow (w.heap.size + 1) 50 3 (.slice (some ⟨g5, 0, none⟩) m c5) m ((ps.take m).flatMap pEnc)) ∧ Hid (CBk wr g3 50 #[.string q.sum, .int .i64 q.work, .int .i64 q.count]) ∧ Hid (addP (ps.take m) q = A) ∧ Hid (Room ps m q) ∧ Hid (Below w.heap.size w wr)) (fun out _ => sliceLen out)
  case atStart => exact ⟨n, g5, c5, p, Nat.le_refl _, rfl, RW1, C1, HAD, HR0, B1⟩
  case round =>
    clear RW1 C1 HAD HR0 B1
    obtain ⟨m, g5, c5, q, hmn, rfl, RW, CR, HAD, HRM, HB⟩ := hrel
    obtain ⟨d0, d1, d2⟩ := CR.out.cells3
    cases m with
    | zero =>
      have hd0 : decide ((0 : Int) < ((0 : Nat) : Int)) = false := by decide
      have hd1 : ((0 : Nat) : Int) = 0 := rfl
      have HRV : Hid (A = ps.take 0 ++ [q]) := by show _ = _; rw [← HAD.out, List.take_zero, addP_nil]; rfl
      go_wp2_with fail
      go_big_region
      obtain ⟨d0, d1, d2⟩ := CR.out.cells3
      have hx1 : 0 + 1 ≤ maxLen := by unfold maxLen; omega
      have hx2 : (0 + 1) * 32 ≤ 140737488355328 := by omega
      have hu := pEnc_one q
      have hsz : w.heap.size + 1 ≤ wr.heap.size := by have := CR.out.lt; have := HG3.out; omega
      have HRW : Hid (wr.drew.ownsRow (w.heap.size + 1) 50 3 (.slice (some ⟨g5, 0, none⟩) (0) c5) (0) ((ps.take (0)).flatMap pEnc)) := RW.out
      go_wp2_with (at_builtin; rw [drewAlloc]; refine wp_appN rfl _ _ 24 rfl (w.heap.size + 1) 50 i0 (.agg #[.string ⟨#[]⟩, .int .i64 0, .int .i64 0]) 3 32 1 Tryd.underlying24 hi hz0 hz1 hz2 rfl (by decide) (by decide) (.slice (some ⟨g5, 0, none⟩) (0) c5) (0) _ rfl HRW.out (pEnc q) (by first | rfl | simp [Act.eval]) rfl hu hx1 hx2 hsz ?_; intro g6 c6 w6 hown6 hb6 hkeep6)
      have R6 : Hid (PRow w.heap.size (.slice (some ⟨g6, 0, none⟩) (0 + 1) c6) A w6) := by
        have hv : A = ps.take (0) ++ [q] := HRV.out
        have hl : (ps.take (0)).length = 0 := by rw [List.length_take]; have := HN.out; omega
        have : PRow (w.heap.size + 1) (.slice (some ⟨g6, 0, none⟩) (0 + 1) c6) (ps.take (0) ++ [q]) w6 := FRow.of (by rw [List.flatMap_append]; simpa using hown6) (by rw [List.length_append, hl]; rfl)
        rw [hv]
        exact this.mono (Nat.le_succ _)
      have B6 : Hid (Below w.heap.size w w6) := HB.out.drew.trans (hb6.mono (Nat.le_succ _))
      clear hown6 hb6 hkeep6
      go_wp2_with fail
      go_ret
      exact ⟨_, rfl, R6.out, B6.out⟩
    | succ m =>
      have hml : m < ps.length := by rw [← HN.out]; omega
      have HRO : Hid (PRow (w.heap.size + 1) (.slice (some ⟨g5, 0, none⟩) (m + 1) c5) (ps.take (m + 1)) wr) := FRow.of RW.out (by rw [List.length_take]; omega)
      have hat := (FRow.at pEnc_len HRO.out).1
      have hlen : m < (ps.take (m + 1)).length := by rw [List.length_take]; omega
      have q0 := AtP.c0 hat m hlen
      have q1 := AtP.c1 hat m hlen
      have q2 := AtP.c2 hat m hlen
      have hgt : (ps.take (m + 1)).getD m default = ps.getD m default := by simp
      rw [hgt] at q0 q1 q2
      have HGE : Hid (w.heap.size + 1 ≤ g5 ∧ g5 < wr.heap.size) := ⟨(FRow.at pEnc_len HRO.out).2.2.1, hat.1⟩
      have HCC : Hid (m + 1 ≤ c5) := (FRow.at pEnc_len HRO.out).2.2.2
      have HKM : Hid (peakOkB (ps.getD m default) = true) := HKP.out m hml
      have HS : Hid ((ps.getD m default).count = q.count → Room ps m (bothP (ps.getD m default) q)) := fun he => HRM.out.step HKP.out hml he
      have HYES : Hid ((ps.getD m default).count = q.count → addP (ps.take m) (bothP (ps.getD m default) q) = A) := fun he => by
        rw [← HAD.out, take_one hml, addP_yes he]
      have HNO : Hid (¬ (ps.getD m default).count = q.count → A = ps.take (m + 1) ++ [q]) := fun he => by
        rw [← HAD.out, take_one hml, addP_no he]
      have hd0 : decide ((0 : Int) < ((m + 1 : Nat) : Int)) = true := decide_eq_true (by omega)
      have hd2 : (0 : Int) < ((m + 1 : Nat) : Int) := by omega
      have hw1 : IntKind.i64.wrap (((m + 1 : Nat) : Int) - 1) = (m : Int) := by rw [IntKind.wrap_i64]; omega
      have lm0 : (0 : Int) ≤ (m : Int) := by omega
      have lm1 : (m : Int) < ((m + 1 : Nat) : Int) := by omega
      obtain ⟨M, hM⟩ : ∃ M, M = m + 1 := ⟨_, rfl⟩
      have HM : Hid (M = m + 1) := hM
      rw [← hM] at hd0 hd2 hw1 lm1 ⊢
      rw [← hM] at HRO RW HNO HCC hmn
      have HTK : Hid (ps.take M = ps.take m ++ [ps.getD m default]) := by show _ = _; rw [hM, take_one hml]
      have hdN : decide (0 < M) = true := decide_eq_true (by omega)
      have hdN2 : 0 < M := by omega
      clear hM hat hlen hgt hml HAD
      generalize ps.getD m default = t at q0 q1 q2 HKM HS HYES HNO HTK
      by_cases he : t.count = q.count
      · have heb : (t.count == q.count) = true := by simpa using he
        have HRM2 : Hid (Room ps m (bothP t q)) := HS.out he
        have HAD2 : Hid (addP (ps.take m) (bothP t q) = A) := HYES.out he
        have hp1 := fun w' => specL5Both t q w' HKM.out HRM.out.ok
        unfold peakVal at hp1
        have lmc : (m : Int) ≤ (c5 : Int) := by have := HCC.out; have := HM.out; omega
        have hc0 : ¬ c5 = 0 := by have := HCC.out; have := HM.out; omega
        clear HS HYES HNO he
        go_wp2_with fail
        go_big_region
        go_wp2_with fail
        go_region_with (go_at_call 64; refine (hp1 _).mono ?_; rintro e w5 ⟨rfl, b5⟩; have C5 : Hid (CBk w5 g3 50 #[.string q.sum, .int .i64 q.work, .int .i64 q.count]) := CBk.call (w := wr.drew.drew) CR.out b5; obtain ⟨m0, m1, m2⟩ := C5.out.cells3; obtain ⟨f0, f1, f2⟩ := C5.out.free3)
        all_goals
          have C6 : Hid (CBk (((w5.setCell ⟨g3, 0, none⟩ (.string (bothP t q).sum)).setCell ⟨g3, 1, none⟩ (.int .i64 (bothP t q).work)).setCell ⟨g3, 2, none⟩ (.int .i64 (bothP t q).count)) g3 50 #[.string (bothP t q).sum, .int .i64 (bothP t q).work, .int .i64 (bothP t q).count]) := C5.out.set3
          have B6 : Hid (Below w.heap.size w (((w5.setCell ⟨g3, 0, none⟩ (.string (bothP t q).sum)).setCell ⟨g3, 1, none⟩ (.int .i64 (bothP t q).work)).setCell ⟨g3, 2, none⟩ (.int .i64 (bothP t q).count))) := by
            have e4 := HG3.out
            exact (((HB.out.drew.drew.trans (Below.mono (w := wr.drew.drew) b5 HB.out.size)).setCell (p := ⟨g3, 0, none⟩) (by show w.heap.size ≤ g3; omega) _).setCell (p := ⟨g3, 1, none⟩) (by show w.heap.size ≤ g3; omega) _).setCell (p := ⟨g3, 2, none⟩) (by show w.heap.size ≤ g3; omega) _
          have R6 : Hid ((((w5.setCell ⟨g3, 0, none⟩ (.string (bothP t q).sum)).setCell ⟨g3, 1, none⟩ (.int .i64 (bothP t q).work)).setCell ⟨g3, 2, none⟩ (.int .i64 (bothP t q).count)).ownsRow (w.heap.size + 1) 50 3 (.slice (some ⟨g5, 0, none⟩) m c5) m ((ps.take m).flatMap pEnc)) := by
            have hl : ((ps.take m).flatMap pEnc).length = m * 3 := by
              rw [flat_length 3 pEnc pEnc_len, List.length_take]
              have := HN.out
              have := HM.out
              omega
            have h5 : w5.ownsRow (w.heap.size + 1) 50 3 (.slice (some ⟨g5, 0, none⟩) (m + 1) c5) (m + 1) ((ps.take m).flatMap pEnc ++ pEnc t) := by
              have := (FRow.below (w := wr.drew.drew) HRO.out (w' := w5) b5).2
              rw [HTK.out, List.flatMap_append] at this
              have hmin : min m ps.length = m := by have := HN.out; have := HM.out; omega
              simpa [HM.out, List.length_take, hmin] using this
            have h6 := ownsRow_pop hl h5
            have hgg : ∀ (i : Nat) (v : Value) (wx : World), wx.ownsRow (w.heap.size + 1) 50 3 (.slice (some ⟨g5, 0, none⟩) m c5) m ((ps.take m).flatMap pEnc) → (wx.setCell ⟨g3, i, none⟩ v).ownsRow (w.heap.size + 1) 50 3 (.slice (some ⟨g5, 0, none⟩) m c5) m ((ps.take m).flatMap pEnc) := by
              intro i v wx hx
              obtain ⟨h1, h2⟩ := hx
              refine ⟨h1, ?_⟩
              rcases h2 with h3 | ⟨g', cap', cur, hv, hB, hg, h4⟩
              · exact .inl h3
              · refine .inr ⟨g', cap', cur, hv, hB, ?_, h4⟩
                have : g3 ≠ g' := by have := HG3.out; omega
                simp [World.setCell, Array.getElem?_modify, hg, this]
            exact hgg _ _ _ (hgg _ _ _ (hgg _ _ _ h6))
          generalize bothP t q = nq at C6 B6 R6 HRM2 HAD2
          clear C5 b5 m0 m1 m2 f0 f1 f2
          go_wp2_with fail
          go_roundw
          case rel => exact ⟨m, g5, c5, nq, by have := HM.out; omega, rfl, R6, C6, HAD2, HRM2, B6⟩
          case measure => have := HM.out; simp [sliceLen]; omega
      · have heb : (t.count == q.count) = false := by simpa using he
        have HRV : Hid (A = ps.take M ++ [q]) := HNO.out he
        have hMm : M ≤ 1048576 := by omega
        clear HS HYES HNO
        go_wp2_with fail
        go_big_region
        obtain ⟨d0, d1, d2⟩ := CR.out.cells3
        have hx1 : M + 1 ≤ maxLen := by unfold maxLen; omega
        have hx2 : (M + 1) * 32 ≤ 140737488355328 := by omega
        have hu := pEnc_one q
        have hsz : w.heap.size + 1 ≤ wr.heap.size := by have := CR.out.lt; have := HG3.out; omega
        have HRW : Hid (wr.drew.ownsRow (w.heap.size + 1) 50 3 (.slice (some ⟨g5, 0, none⟩) (M) c5) (M) ((ps.take (M)).flatMap pEnc)) := RW.out
        go_wp2_with (at_builtin; rw [drewAlloc]; refine wp_appN rfl _ _ 24 rfl (w.heap.size + 1) 50 i0 (.agg #[.string ⟨#[]⟩, .int .i64 0, .int .i64 0]) 3 32 1 Tryd.underlying24 hi hz0 hz1 hz2 rfl (by decide) (by decide) (.slice (some ⟨g5, 0, none⟩) (M) c5) (M) _ rfl HRW.out (pEnc q) (by first | rfl | simp [Act.eval]) rfl hu hx1 hx2 hsz ?_; intro g6 c6 w6 hown6 hb6 hkeep6)
        have R6 : Hid (PRow w.heap.size (.slice (some ⟨g6, 0, none⟩) (M + 1) c6) A w6) := by
          have hv : A = ps.take (M) ++ [q] := HRV.out
          have hl : (ps.take (M)).length = M := by rw [List.length_take]; have := HN.out; omega
          have : PRow (w.heap.size + 1) (.slice (some ⟨g6, 0, none⟩) (M + 1) c6) (ps.take (M) ++ [q]) w6 := FRow.of (by rw [List.flatMap_append]; simpa using hown6) (by rw [List.length_append, hl]; rfl)
          rw [hv]
          exact this.mono (Nat.le_succ _)
        have B6 : Hid (Below w.heap.size w w6) := HB.out.drew.trans (hb6.mono (Nat.le_succ _))
        clear hown6 hb6 hkeep6
        go_wp2_with fail
        go_ret
        exact ⟨_, rfl, R6.out, B6.out⟩

end Go.Proofs.YtoojimfimlpplaaDoor

set_option linter.unusedVariables false
namespace Go.Proofs.YtoojimfimlpplaaDoor
open Go.RowKit Go.Deep

theorem addR_all {C : PeakV → Prop} (hb : ∀ a b, C (bothP a b)) : ∀ (r : List PeakV) (p : PeakV), (∀ q ∈ r, C q) → C p → ∀ q ∈ addR r p, C q
  | [], p, _, hp, q, hq => by rw [List.mem_singleton.1 hq]; exact hp
  | x :: r, p, hr, hp, q, hq => by
    unfold addR at hq
    split at hq
    · exact addR_all hb r _ (fun y hy => hr y (List.mem_cons_of_mem _ hy)) (hb _ _) q hq
    · rcases List.mem_cons.1 hq with rfl | h2
      · exact hp
      · exact hr q h2
theorem addP_all {C : PeakV → Prop} (hb : ∀ a b, C (bothP a b)) {ps : List PeakV} {p : PeakV} (hr : ∀ q ∈ ps, C q) (hp : C p) : ∀ q ∈ addP ps p, C q := by
  intro q hq
  exact addR_all hb ps.reverse p (fun y hy => hr y (List.mem_reverse.1 hy)) hp q (List.mem_reverse.1 hq)
theorem addR_len : ∀ (r : List PeakV) (p : PeakV), (addR r p).length ≤ r.length + 1
  | [], p => by simp [addR]
  | x :: r, p => by
    unfold addR
    split
    · have := addR_len r (bothP x p)
      simp
      omega
    · simp
theorem addP_len (ps : List PeakV) (p : PeakV) : (addP ps p).length ≤ ps.length + 1 := by
  have := addR_len ps.reverse p
  simpa [addP] using this
theorem getD_all {C : PeakV → Prop} {l : List PeakV} (h : ∀ q ∈ l, C q) (i : Nat) (hi : i < l.length) : C (l.getD i default) := by
  rw [List.getD_eq_getElem?_getD, List.getElem?_eq_getElem hi]
  exact h _ (List.getElem_mem hi)

theorem peaks_ok {ps : List PeakV} (h : rangeOkB ps = true) (i : Nat) (hi : i < ps.length) : peakOkB (ps.getD i default) = true := by
  rw [rangeOkB, Bool.and_eq_true, List.all_eq_true] at h
  have := h.1 i (List.mem_range.2 hi)
  simp only [stepOk, Bool.and_eq_true] at this
  exact this.1
theorem range_cnt {ps : List PeakV} (h : rangeOkB ps = true) : cntTo ps ps.length ≤ 20 := by
  rw [rangeOkB, Bool.and_eq_true, decide_eq_true_eq] at h
  exact h.2

theorem newsPeaks {w wx : World} {g : Nat} {ps : List PeakV} (hA : AtP w g ps) (hb : Below w.heap.size w wx) : ∀ j u, (ps.flatMap pEnc)[j]? = some u → wx.cell? ((⟨g, 0, none⟩ : Addr).add j) = some u := by
  intro j u hj
  have hat := hA.below hb hA.1
  have hjl : j < (ps.flatMap pEnc).length := by
    rcases Nat.lt_or_ge j (ps.flatMap pEnc).length with h' | h'
    · exact h'
    · rw [List.getElem?_eq_none h'] at hj; cases hj
  rw [flat_length 3 pEnc pEnc_len] at hjl
  have hq : j = j / 3 * 3 + j % 3 := by omega
  have hi3 : j / 3 < ps.length := by omega
  have h3 := hat.2 (j / 3) (j % 3) hi3 (Nat.mod_lt _ (by decide))
  have hf := flat_at 3 pEnc pEnc_len ps (j / 3) (j % 3) hi3 (Nat.mod_lt _ (by decide))
  rw [← hq] at h3 hf
  rw [add0, h3, ← hf]
  exact hj

def AddPost (B : Nat) (ps : List PeakV) (h : HeadV) (e : Ending) (w' : World) : Prop :=
  ((rangeOkB ps && headOkB h) = false ∧ e = .returned (.tuple #[.slice none 0 0, .bool false])) ∨
  ((rangeOkB ps && headOkB h) = true ∧ ∃ v, e = .returned (.tuple #[v, .bool (rangeOkB (addP ps (leafP h)))]) ∧ PRow B v (if rangeOkB (addP ps (leafP h)) then addP ps (leafP h) else ps) w')

end Go.Proofs.YtoojimfimlpplaaDoor

set_option linter.unusedVariables false
namespace Go.Proofs.YtoojimfimlpplaaDoor
open Go.RowKit Go.Deep

def sumC : List PeakV → Int
  | [] => 0
  | p :: r => p.count + sumC r
theorem cnt_sum (ps : List PeakV) : ∀ k, k ≤ ps.length → cntTo ps k = sumC (ps.take k).reverse
  | 0, _ => by simp [cntTo, sumC]
  | k + 1, hk => by
    rw [cntTo, cnt_sum ps k (by omega), take_one (by omega), List.reverse_append]
    simp [sumC, Int.add_comm]
theorem cnt_all (ps : List PeakV) : cntTo ps ps.length = sumC ps.reverse := by
  rw [cnt_sum ps ps.length (Nat.le_refl _), List.take_length]
theorem addR_sum : ∀ (r : List PeakV) (p : PeakV), sumC (addR r p) = sumC r + p.count
  | [], p => by simp [addR, sumC]
  | x :: r, p => by
    unfold addR
    split
    · rw [addR_sum r (bothP x p)]
      simp only [sumC, bothP]
      omega
    · simp only [sumC]
      omega
theorem addP_cnt (ps : List PeakV) (p : PeakV) : cntTo (addP ps p) (addP ps p).length = cntTo ps ps.length + p.count := by
  rw [cnt_all, cnt_all, addP, List.reverse_reverse, addR_sum]
theorem sumC_pos : ∀ (r : List PeakV), (∀ q ∈ r, peakOkB q = true) → 0 ≤ sumC r
  | [], _ => Int.le_refl _
  | x :: r, h => by
    have h1 := peakOk_in (h x (List.mem_cons_self ..))
    have h2 := sumC_pos r (fun q hq => h q (List.mem_cons_of_mem _ hq))
    simp only [sumC]
    omega
theorem bothP_ok {a b : PeakV} (ha : peakOkB a = true) (hb : peakOkB b = true) (h : a.count + b.count ≤ 20) : peakOkB (bothP a b) = true := by
  have h1 := peakOk_in ha
  have h2 := peakOk_in hb
  have hs := isSum_both a b
  simp only [peakOkB, hs, Bool.true_and, Bool.and_eq_true, decide_eq_true_eq]
  show (1 ≤ a.count + b.count ∧ a.count + b.count ≤ 20) ∧ a.count + b.count ≤ a.work + b.work ∧ a.work + b.work ≤ (a.count + b.count) * 8
  omega
theorem addR_ok : ∀ (r : List PeakV) (p : PeakV), (∀ q ∈ r, peakOkB q = true) → peakOkB p = true → sumC r + p.count ≤ 20 → ∀ q ∈ addR r p, peakOkB q = true
  | [], p, _, hp, _, q, hq => by rw [List.mem_singleton.1 hq]; exact hp
  | x :: r, p, hr, hp, hs, q, hq => by
    have h1 := hr x (List.mem_cons_self ..)
    have h2 := fun y hy => hr y (List.mem_cons_of_mem _ hy)
    have h3 := sumC_pos r h2
    simp only [sumC] at hs
    unfold addR at hq
    split at hq
    · exact addR_ok r (bothP x p) h2 (bothP_ok h1 hp (by omega)) (by simp only [bothP]; omega) q hq
    · rcases List.mem_cons.1 hq with rfl | h4
      · exact hp
      · exact hr q h4
theorem addP_ok {ps : List PeakV} {p : PeakV} (hr : ∀ q ∈ ps, peakOkB q = true) (hp : peakOkB p = true) (h : cntTo ps ps.length + p.count ≤ 20) : ∀ q ∈ addP ps p, peakOkB q = true := by
  intro q hq
  rw [cnt_all] at h
  exact addR_ok ps.reverse p (fun y hy => hr y (List.mem_reverse.1 hy)) hp h q (List.mem_reverse.1 hq)

/-- The peaks of the first heads. -/
def ofP (l : List HeadV) : Nat → List PeakV
  | 0 => []
  | k + 1 => addP (ofP l k) (leafP (l.getD k default))
theorem ofP_ok {l : List HeadV} (h : ∀ i, i < l.length → headOkB (l.getD i default) = true) (hl : l.length ≤ 20) : ∀ k, k ≤ l.length → (∀ q ∈ ofP l k, peakOkB q = true) ∧ cntTo (ofP l k) (ofP l k).length = (k : Int) ∧ (ofP l k).length ≤ k
  | 0, _ => ⟨fun q hq => by simp [ofP] at hq, rfl, Nat.le_refl _⟩
  | k + 1, hk => by
    obtain ⟨h1, h2, h3⟩ := ofP_ok h hl k (by omega)
    have hp : peakOkB (leafP (l.getD k default)) = true := fine_ok (fine_leaf (h k (by omega))) (by show (1 : Int) ≤ 20; decide)
    have hc : (leafP (l.getD k default)).count = 1 := rfl
    refine ⟨addP_ok h1 hp (by rw [h2, hc]; omega), ?_, ?_⟩
    · show cntTo (addP _ _) (addP _ _).length = _
      rw [addP_cnt, h2, hc]
      omega
    · have := addP_len (ofP l k) (leafP (l.getD k default))
      show (addP _ _).length ≤ _
      omega

end Go.Proofs.YtoojimfimlpplaaDoor

set_option linter.unusedVariables false
namespace Go.Proofs.YtoojimfimlpplaaDoor
open Go.RowKit Go.Deep

theorem sizeAlloc (w : World) (o : Obj) : w.heap.size ≤ (w.alloc o).heap.size := by simp
theorem grownOff {w w' : World} {o : Obj} {g : Nat} (h : (w.alloc o).grownBy w' (some g)) : ∀ c, c < w.heap.size → c ≠ g → w'.heap[c]? = w.heap[c]? := fun c hc hne =>
  (h.block c (Nat.lt_of_lt_of_le hc (sizeAlloc w o)) (by simpa using hne)).trans (Below.heap_alloc _ _ _ hc)
/-- A stack in memory: its block, its row of peaks. -/
structure StkW (w0 wr : World) (g r c M : Nat) (l : List PeakV) : Prop where
  s : CBk wr g 65 #[.slice (some ⟨r, 0, none⟩) M c, .func (.func 54) #[] #[], .func (.func 55) #[] #[]]
  row : wr.ownsRow w0.heap.size 50 3 (.slice (some ⟨r, 0, none⟩) M c) M (l.flatMap pEnc)
  len : l.length = M
  b : Below w0.heap.size w0 wr
  rg : r ≠ g
  lo : w0.heap.size ≤ g
def Stk (w0 wr : World) (g : Nat) (l : List PeakV) : Prop := ∃ r c M, StkW w0 wr g r c M l
theorem StkW.frow {w0 wr : World} {g r c M : Nat} {l : List PeakV} (h : StkW w0 wr g r c M l) : PRow w0.heap.size (.slice (some ⟨r, 0, none⟩) M c) l wr := FRow.of h.row h.len.symm
theorem StkW.at {w0 wr : World} {g r c M : Nat} {l : List PeakV} (h : StkW w0 wr g r c M l) : AtP wr r l ∧ M = l.length ∧ w0.heap.size ≤ r ∧ M ≤ c := FRow.at pEnc_len h.frow
theorem StkW.call {w0 wr w' : World} {g r c M : Nat} {l : List PeakV} (h : StkW w0 wr g r c M l) (hb : Below wr.heap.size wr w') : StkW w0 w' g r c M l :=
  ⟨h.s.call hb, (FRow.below h.frow hb).2 |> (fun x => by rw [h.len] at x; exact x), h.len, h.b.trans (hb.mono h.b.size), h.rg, h.lo⟩
theorem StkW.drew {w0 wr : World} {g r c M : Nat} {l : List PeakV} (h : StkW w0 wr g r c M l) : StkW w0 wr.drew g r c M l := h.call (Below.refl _ _).drew
theorem StkW.outs {w0 wr : World} {g r c M : Nat} {l : List PeakV} (h : StkW w0 wr g r c M l) : wr.cell? ⟨g, 0, none⟩ = some (.slice (some ⟨r, 0, none⟩) M c) ∧ wr.cell? ⟨g, 1, none⟩ = some (.func (.func 54) #[] #[]) ∧ wr.cell? ⟨g, 2, none⟩ = some (.func (.func 55) #[] #[]) := ⟨h.s.cell 0, h.s.cell 1, h.s.cell 2⟩
theorem rowKeep {B r c M g3 i : Nat} {xs : List Value} {wx : World} {v : Value} (hx : wx.ownsRow B 50 3 (.slice (some ⟨r, 0, none⟩) M c) M xs) (hne : r ≠ g3) : (wx.setCell ⟨g3, i, none⟩ v).ownsRow B 50 3 (.slice (some ⟨r, 0, none⟩) M c) M xs := by
  obtain ⟨h1, h2⟩ := hx
  refine ⟨h1, ?_⟩
  rcases h2 with h3 | ⟨g', cap', cur, hv, hB, hg, h4⟩
  · exact .inl h3
  · refine .inr ⟨g', cap', cur, hv, hB, ?_, h4⟩
    simp only [Value.slice.injEq, Option.some.injEq, Addr.mk.injEq, and_true] at hv
    have : g3 ≠ g' := by have := hv.1; omega
    simp [World.setCell, Array.getElem?_modify, hg, this]
theorem PushK {w0 wr w6 : World} {o : Obj} {g r c M : Nat} {l : List PeakV} (h : StkW w0 wr g r c M l) (hg : (wr.drew.alloc o).grownBy w6 (some r)) : CBk w6 g 65 #[.slice (some ⟨r, 0, none⟩) M c, .func (.func 54) #[] #[], .func (.func 55) #[] #[]] :=
  (grownOff hg g h.s.lt h.rg.symm).trans h.s
/-- Behind a store into a block of no other's. -/
theorem StkW.store {w0 wr : World} {g r c M : Nat} {l : List PeakV} (h : StkW w0 wr g r c M l) {g3 i : Nat} (v : Value) (h1 : g3 ≠ g) (h2 : r ≠ g3) (h3 : w0.heap.size ≤ g3) : StkW w0 (wr.setCell ⟨g3, i, none⟩ v) g r c M l :=
  ⟨h.s.other h1 v, rowKeep h.row h2, h.len, h.b.setCell (p := ⟨g3, i, none⟩) h3 v, h.rg, h.lo⟩
/-- The stack while one is pushed: the one's block beside it. -/
structure PushW (w0 wr : World) (g g3 r c M : Nat) (l : List PeakV) (q : PeakV) : Prop where
  k : StkW w0 wr g r c M l
  o : CBk wr g3 50 #[.string q.sum, .int .i64 q.work, .int .i64 q.count]
  n1 : g < g3
  n2 : r < g3
theorem PushW.call {w0 wr w' : World} {g g3 r c M : Nat} {l : List PeakV} {q : PeakV} (h : PushW w0 wr g g3 r c M l q) (hb : Below wr.heap.size wr w') : PushW w0 w' g g3 r c M l q := ⟨h.k.call hb, h.o.call hb, h.n1, h.n2⟩
theorem PushW.drew {w0 wr : World} {g g3 r c M : Nat} {l : List PeakV} {q : PeakV} (h : PushW w0 wr g g3 r c M l q) : PushW w0 wr.drew g g3 r c M l q := h.call (Below.refl _ _).drew
theorem PushW.two {w0 wr : World} {g g3 r c M : Nat} {l : List PeakV} {q : PeakV} (h : PushW w0 wr g g3 r c M l q) : (wr.cell? ⟨g, 0, none⟩ = some (.slice (some ⟨r, 0, none⟩) M c) ∧ wr.cell? ⟨g, 1, none⟩ = some (.func (.func 54) #[] #[]) ∧ wr.cell? ⟨g, 2, none⟩ = some (.func (.func 55) #[] #[])) ∧ (wr.cell? ⟨g3, 0, none⟩ = some (.string q.sum) ∧ wr.cell? ⟨g3, 1, none⟩ = some (.int .i64 q.work) ∧ wr.cell? ⟨g3, 2, none⟩ = some (.int .i64 q.count)) := ⟨h.k.outs, h.o.cell 0, h.o.cell 1, h.o.cell 2⟩
theorem PushW.all {w0 wr : World} {g g3 r c M m : Nat} {l : List PeakV} {q t : PeakV} (h : PushW w0 wr g g3 r c M l q) (hm : m < l.length) (ht : l.getD m default = t) : (wr.cell? ⟨g, 0, none⟩ = some (.slice (some ⟨r, 0, none⟩) M c) ∧ wr.cell? ⟨g, 1, none⟩ = some (.func (.func 54) #[] #[]) ∧ wr.cell? ⟨g, 2, none⟩ = some (.func (.func 55) #[] #[])) ∧ (wr.cell? ⟨r, m * 3, none⟩ = some (.string t.sum) ∧ wr.cell? ⟨r, m * 3 + 1, none⟩ = some (.int .i64 t.work) ∧ wr.cell? ⟨r, m * 3 + 2, none⟩ = some (.int .i64 t.count)) ∧ (wr.cell? ⟨g3, 0, none⟩ = some (.string q.sum) ∧ wr.cell? ⟨g3, 1, none⟩ = some (.int .i64 q.work) ∧ wr.cell? ⟨g3, 2, none⟩ = some (.int .i64 q.count)) := by
  have h1 := h.k.at.1
  refine ⟨h.k.outs, ?_, h.o.cell 0, h.o.cell 1, h.o.cell 2⟩
  rw [← ht]
  exact ⟨AtP.c0 h1 m hm, AtP.c1 h1 m hm, AtP.c2 h1 m hm⟩
theorem PushW.grown {w0 wr w6 : World} {o : Obj} {g g3 r c M : Nat} {l : List PeakV} {q : PeakV} (h : PushW w0 wr g g3 r c M l q) (hg : (wr.drew.alloc o).grownBy w6 (some r)) : CBk w6 g 65 #[.slice (some ⟨r, 0, none⟩) M c, .func (.func 54) #[] #[], .func (.func 55) #[] #[]] := PushK h.k hg
theorem PushW.grownTwo {w0 wr w6 : World} {o : Obj} {g g3 r c M : Nat} {l : List PeakV} {q : PeakV} (h : PushW w0 wr g g3 r c M l q) (hg : (wr.drew.alloc o).grownBy w6 (some r)) : (w6.cell? ⟨g, 0, none⟩ = some (.slice (some ⟨r, 0, none⟩) M c) ∧ w6.cell? ⟨g, 1, none⟩ = some (.func (.func 54) #[] #[]) ∧ w6.cell? ⟨g, 2, none⟩ = some (.func (.func 55) #[] #[])) ∧ (w6.cell? ⟨g3, 0, none⟩ = some (.string q.sum) ∧ w6.cell? ⟨g3, 1, none⟩ = some (.int .i64 q.work) ∧ w6.cell? ⟨g3, 2, none⟩ = some (.int .i64 q.count)) := by
  have h1 : CBk w6 g 65 #[.slice (some ⟨r, 0, none⟩) M c, .func (.func 54) #[] #[], .func (.func 55) #[] #[]] := PushK h.k hg
  have h2 : CBk w6 g3 50 #[.string q.sum, .int .i64 q.work, .int .i64 q.count] := (grownOff hg g3 h.o.lt (by have := h.n2; omega)).trans h.o
  exact ⟨⟨h1.cell 0, h1.cell 1, h1.cell 2⟩, h2.cell 0, h2.cell 1, h2.cell 2⟩
/-- Behind the store of another one. -/
theorem PushW.put {w0 wr : World} {g g3 r c M : Nat} {l : List PeakV} {q : PeakV} (h : PushW w0 wr g g3 r c M l q) (x : PeakV) : PushW w0 (((wr.setCell ⟨g3, 0, none⟩ (.string (x).sum)).setCell ⟨g3, 1, none⟩ (.int .i64 (x).work)).setCell ⟨g3, 2, none⟩ (.int .i64 (x).count)) g g3 r c M l x := by
  have h1 := h.n1
  have h2 := h.n2
  have h3 := h.k.lo
  exact ⟨((h.k.store _ (by omega) (by omega) (by omega)).store _ (by omega) (by omega) (by omega)).store _ (by omega) (by omega) (by omega), h.o.set3, h1, h2⟩
/-- Behind the store of a shorter row. -/
theorem PushW.pop {w0 wr : World} {g g3 r c m : Nat} {l : List PeakV} {q : PeakV} (h : PushW w0 wr g g3 r c (m + 1) l q) : PushW w0 (wr.setCell ⟨g, 0, none⟩ (.slice (some ⟨r, 0, none⟩) m c)) g g3 r c m (l.take m) q := by
  have h1 := h.n1
  have h2 := h.n2
  have h3 := h.k.lo
  have h4 := h.k.len
  have hml : m < l.length := by omega
  have e1 : l = l.take m ++ [l.getD m default] := by
    rw [← take_one hml, ← h4, List.take_length]
  have hl : ((l.take m).flatMap pEnc).length = m * 3 := by
    rw [flat_length 3 pEnc pEnc_len, List.length_take]
    omega
  have h5 : wr.ownsRow w0.heap.size 50 3 (.slice (some ⟨r, 0, none⟩) (m + 1) c) (m + 1) ((l.take m).flatMap pEnc ++ pEnc (l.getD m default)) := by
    have := h.k.row
    rw [e1, List.flatMap_append] at this
    have hmin : min m l.length = m := by omega
    simpa [List.take_append_of_le_length, List.length_take, hmin] using this
  have h6 := ownsRow_pop hl h5
  refine ⟨⟨h.k.s.set 0 _, rowKeep h6 h.k.rg, by rw [List.length_take]; omega, h.k.b.setCell (p := ⟨g, 0, none⟩) h3 _, h.k.rg, h3⟩, h.o.other (by omega) _, h1, h2⟩

def PushRes (w0 : World) (g : Nat) (l : List PeakV) (e : Ending) (w' : World) : Prop := e = .returned (.tuple #[]) ∧ Stk w0 w' g l
theorem push_res {w0 w' : World} {g r c M : Nat} {l : List PeakV} (h : StkW w0 w' g r c M l) : PushRes w0 g l (.returned (.tuple #[])) w' := ⟨rfl, r, c, M, h⟩
set_option maxHeartbeats 8000000 in
set_option maxRecDepth 100000 in
theorem implPush (w0 : World) (g : Nat) (ps : List PeakV) (p : PeakV) (w : World) (hs : Stk w0 w g ps) (hm : ps.length ≤ 1048576) (hk : ∀ i, i < ps.length → peakOkB (ps.getD i default) = true) (hr : Room ps ps.length p) (hK : RowG w0 shaK) (hP : TabP w0) :
    Calls Tryd.prog 38 #[.pointer (some ⟨g, 0, none⟩), peakVal p] w fun e w' => PushRes w0 g (addP ps p) e w' := by
  obtain ⟨r, c, n, h0⟩ := hs
  obtain ⟨i0, hi, hz0, hz1, hz2⟩ := info3 infoPeak
  have HN : Hid (n = ps.length) := h0.len.symm
  have HM0 : Hid (n ≤ 1048576) := by show _ ≤ _; have := h0.len; omega
  have HK : Hid (RowG w0 shaK) := hK
  have HP : Hid (TabP w0) := hP
  have HKP : Hid (∀ i, i < ps.length → peakOkB (ps.getD i default) = true) := hk
  have HR0 : Hid (Room ps n p) := by show Room _ _ _; rw [HN.out]; exact hr
  have HAD : Hid (addP (ps.take n) p = addP ps p) := by show _ = _; rw [HN.out, List.take_length]
  generalize addP ps p = A at HAD ⊢
  unfold peakVal
  have PZ : Hid (PushW w0 (w.alloc (.cells #[.string p.sum, .int .i64 p.work, .int .i64 p.count] 50)) g w.heap.size r c n ps p) := by
    have hb : Below w.heap.size w (w.alloc (.cells #[.string p.sum, .int .i64 p.work, .int .i64 p.count] 50)) := (Below.refl _ w).alloc (Nat.le_refl _) _
    exact ⟨h0.call hb, CBk.new w _ _, h0.s.lt, h0.at.1.1⟩
  have P0 : Hid (PushW w0 (w.alloc (.cells #[.string p.sum, .int .i64 p.work, .int .i64 p.count] 50)) g w.heap.size r c n (ps.take n) p) := by
    have e : ps.take n = ps := by rw [HN.out, List.take_length]
    rw [e]
    exact PZ.out
  clear hm hk hr hK hP h0 PZ
  obtain ⟨⟨a0, a1, a2⟩, x0⟩ := P0.out.two
  have hw0 : IntKind.i64.wrap ((n : Int) - 1) = (n : Int) - 1 := by have := HM0.out; rw [IntKind.wrap_i64]; omega
  go_enter Tryd.func38, Tryd.ntmps38
  go_wp2_with fail
  clear a0 a1 a2 x0 hw0
  generalize w.alloc (.cells #[.string p.sum, .int .i64 p.work, .int .i64 p.count] 50) = W0 at P0 ⊢
  obtain ⟨g3, hg3⟩ : ∃ g3, g3 = w.heap.size := ⟨_, rfl⟩
  rw [← hg3] at P0 ⊢
  clear hg3
  clear w
  go_loopw [4] (fun last wr => ∃ (m : Nat) (q : PeakV), m ≤ n ∧ last = .int .i64 ((m : Int) - 1) ∧ Hid (PushW w0 wr g g3 r c m (ps.take m) q) ∧ Hid (addP (ps.take m) q = A) ∧ Hid (Room ps m q)) (fun last _ => (intOf last + 1).toNat)
  case atStart => exact ⟨n, p, Nat.le_refl _, rfl, P0, HAD, HR0⟩
  case round =>
    clear P0 HAD HR0
    obtain ⟨m, q, hmn, rfl, PW, HAD, HRM⟩ := hrel
    cases m with
    | zero =>
      have e0 : ((0 : Nat) : Int) - 1 = -1 := rfl
      rw [e0]
      have hd0 : decide ((0 : Int) ≤ -1) = false := by decide
      have HRV : Hid (A = ps.take 0 ++ [q]) := by show _ = _; rw [← HAD.out, List.take_zero, addP_nil]; rfl
      obtain ⟨M, hM⟩ : ∃ M, M = 0 := ⟨_, rfl⟩
      have HM : Hid (M = 0) := hM
      rw [← hM] at PW HRV
      clear hM hmn HAD HRM
      obtain ⟨⟨a0, a1, a2⟩, d0, d1, d2⟩ := PW.out.two
      go_wp2_with fail
      go_big_region
      have PW1 : Hid (PushW w0 wr.drew g g3 r c M (ps.take M) q) := PW.out.drew
      have HLA : Hid ((ps.take M).length = M) := PW1.out.k.len
      have hx1 : M + 1 ≤ maxLen := by have h1 := HLA.out; rw [List.length_take] at h1; have h2 := HM0.out; have h3 := HN.out; unfold maxLen; omega
      have hx2 : (M + 1) * 32 ≤ 140737488355328 := by have h1 := HLA.out; rw [List.length_take] at h1; have h2 := HM0.out; have h3 := HN.out; omega
      have HRD : Hid (wr.drew.ownsRow w0.heap.size 50 3 (.slice (some ⟨r, 0, none⟩) M c) M ((ps.take M).flatMap pEnc)) := PW1.out.k.row
      have HZ : Hid (w0.heap.size ≤ wr.drew.heap.size ∧ g3 < wr.drew.heap.size ∧ g < g3 ∧ r < g3 ∧ r ≠ g ∧ w0.heap.size ≤ g ∧ w0.heap.size ≤ r) := ⟨PW1.out.k.b.size, PW1.out.o.lt, PW1.out.n1, PW1.out.n2, PW1.out.k.rg, PW1.out.k.lo, PW1.out.k.at.2.2.1⟩
      have PX : Hid (PushW w0 wr.drew.drew g g3 r c M (ps.take M) q) := PW1.out.drew
      have PA : Hid (PushW w0 (wr.drew.drew.alloc (.cells (pEnc q).toArray 50)) g g3 r c M (ps.take M) q) := PX.out.call ((Below.refl _ _).alloc (Nat.le_refl _) _)
      have hu := pEnc_one q
      have HCN : Hid (∀ j u, (pEnc q)[j]? = some u → (wr.drew.drew.alloc (.cells (pEnc q).toArray 50)).cell? ((⟨wr.drew.heap.size, 0, none⟩ : Addr).add j) = some u) := cells_new wr.drew.drew 50 (pEnc q)
      have HFd : Hid ((wr.drew.drew.alloc (.cells (pEnc q).toArray 50)).ownsRow w0.heap.size 50 3 (.slice (some ⟨r, 0, none⟩) M c) M ((ps.take M).flatMap pEnc)) := PA.out.k.row
      have HBZ : Hid (w0.heap.size ≤ (wr.drew.drew.alloc (.cells (pEnc q).toArray 50)).heap.size) := PA.out.k.b.size
      have HGT6 : Hid (∀ w6, (wr.drew.drew.alloc (.cells (pEnc q).toArray 50)).grownBy w6 (some r) → CBk w6 g 65 #[.slice (some ⟨r, 0, none⟩) M c, .func (.func 54) #[] #[], .func (.func 55) #[] #[]]) := fun w6 h => PW1.out.grown h
      have ba0 : (wr.alloc (.cells #[.string q.sum, .int .i64 q.work, .int .i64 q.count] 50)).cell? ⟨g, 0, none⟩ = some (.slice (some ⟨r, 0, none⟩) M c) := (Below.cell ((Below.refl _ wr).alloc (Nat.le_refl _) _) (p := ⟨g, 0, none⟩) PW.out.k.s.lt).trans PW.out.k.outs.1
      clear a0 a1 a2 d0 d1 d2
      obtain ⟨⟨a0, a1, a2⟩, d0, d1, d2⟩ := PX.out.two
      go_wp2_with fail
      go_region_law (refine step_append_any rfl (.tmp 56) (.tmp 58) 24 rfl w0.heap.size 50 i0 (.agg #[.string ⟨#[]⟩, .int .i64 0, .int .i64 0]) 3 32 Tryd.underlying24 hi hz0 hz1 hz2 rfl (by decide) r c M ((ps.take M).flatMap pEnc) (by simp [Act.eval]) HFd.out ⟨wr.drew.heap.size, 0, none⟩ 1 1 (pEnc q) (by simp [Act.eval]) rfl HCN.out hu hx1 hx2 HBZ.out ?_; intro g6 c6 w6 hown6 hgrow6 hat6 hlt6; have C6 : Hid (CBk w6 g 65 #[.slice (some ⟨r, 0, none⟩) M c, .func (.func 54) #[] #[], .func (.func 55) #[] #[]]) := HGT6.out w6 hgrow6; have q6 : w6.cell? ⟨g, 0, none⟩ = some (.slice (some ⟨r, 0, none⟩) M c) := C6.out.cell 0; have z6 : w6.frozen? ⟨g, 0, none⟩ = false := C6.out.frozen 0)
      all_goals
        have K6 : Hid (StkW w0 (w6.setCell ⟨g, 0, none⟩ (.slice (some ⟨g6, 0, none⟩) (M + 1) c6)) g g6 c6 (M + 1) A) := by
          have hz := HZ.out
          have hne : g6 ≠ g := by
            have h1 : r = g6 ∨ g6 = wr.drew.heap.size ∨ wr.drew.heap.size ≤ g6 := by
              rcases hat6.out with h1 | h1
              · exact .inl h1
              · right; right; rw [h1]; simp
            omega
          refine ⟨C6.out.set 0 _, rowKeep ?_ hne, ?_, ?_, hne, hz.2.2.2.2.2.1⟩
          · rw [HRV.out, List.flatMap_append]
            simpa using hown6
          · rw [HRV.out, List.length_append, HLA.out]
            rfl
          · exact (PA.out.k.b.grown hgrow6 PA.out.k.b.size (fun j hj => by cases hj; exact hz.2.2.2.2.2.2)).setCell (p := ⟨g, 0, none⟩) hz.2.2.2.2.2.1 _
        clear PX PA C6 HRD hown6 hgrow6 hat6 hlt6
        go_wp2_with fail
        exact bodyPost_ret (results_none rfl _ _ _) rfl (push_res K6.out)
    | succ m =>
      have e0 : ((m + 1 : Nat) : Int) - 1 = (m : Int) := by omega
      rw [e0]
      have hml : m < ps.length := by rw [← HN.out]; omega
      have hgt : (ps.take (m + 1)).getD m default = ps.getD m default := by simp
      have hlen : m < (ps.take (m + 1)).length := by rw [List.length_take]; omega
      have HKM : Hid (peakOkB (ps.getD m default) = true) := HKP.out m hml
      have HS : Hid ((ps.getD m default).count = q.count → Room ps m (bothP (ps.getD m default) q)) := fun he => HRM.out.step HKP.out hml he
      have HYES : Hid ((ps.getD m default).count = q.count → addP (ps.take m) (bothP (ps.getD m default) q) = A) := fun he => by
        rw [← HAD.out, take_one hml, addP_yes he]
      have HNO : Hid (¬ (ps.getD m default).count = q.count → A = ps.take (m + 1) ++ [q]) := fun he => by
        rw [← HAD.out, take_one hml, addP_no he]
      have HTT : Hid ((ps.take (m + 1)).take m = ps.take m) := by show _ = _; rw [List.take_take]; congr 1; omega
      have HLL : Hid (m < (ps.take (m + 1)).length) := hlen
      have HGT : Hid ((ps.take (m + 1)).getD m default = ps.getD m default) := hgt
      have hd0 : decide ((0 : Int) ≤ (m : Int)) = true := decide_eq_true (by omega)
      have hd1 : (0 : Int) ≤ (m : Int) := by omega
      have lm1 : (m : Int) < ((m + 1 : Nat) : Int) := by omega
      obtain ⟨M, hM⟩ : ∃ M, M = m + 1 := ⟨_, rfl⟩
      have HM : Hid (M = m + 1) := hM
      rw [← hM] at lm1
      rw [← hM] at PW HNO HLL HGT hmn
      have HTT : Hid ((ps.take M).take m = ps.take m) := by rw [hM]; exact HTT.out
      have HMN : Hid (M ≤ n) := hmn
      have hdn : decide (0 ≤ m) = true := decide_eq_true (by omega)
      have ltm : m < M := by omega
      clear hM hlen hgt hml HAD hmn
      generalize ps.getD m default = t at HKM HS HYES HNO HGT
      obtain ⟨⟨a0, a1, a2⟩, ⟨q0, q1, q2⟩, d0, d1, d2⟩ := PW.out.all HLL.out HGT.out
      have hal := fun w' => implPeakAlike t q w'
      unfold peakVal at hal
      have PD : Hid (PushW w0 wr.drew g g3 r c M (ps.take M) q) := PW.out.drew
      by_cases he : t.count = q.count
      · have heb : (t.count == q.count) = true := by simpa using he
        rw [heb] at hal
        have HRM2 : Hid (Room ps m (bothP t q)) := HS.out he
        have HAD2 : Hid (addP (ps.take m) (bothP t q) = A) := HYES.out he
        have HBO : Hid (∀ w', Below w0.heap.size w0 w' → Calls Tryd.prog 55 #[.agg #[.string t.sum, .int .i64 t.work, .int .i64 t.count], .agg #[.string q.sum, .int .i64 q.work, .int .i64 q.count]] w' fun e w'' => e = .returned (.agg #[.string (bothP t q).sum, .int .i64 (bothP t q).work, .int .i64 (bothP t q).count]) ∧ Below w'.heap.size w' w'') := fun w' hb => implPeakBoth t q w' HKM.out HRM.out.ok (HK.out.below hb HK.out.lt) (TabP.below HP.out hb (Nat.le_refl _))
        clear HS HYES HNO he heb HRM HKM
        go_wp2_with fail
        go_region_held3 (fun w' => (w'.cell? ⟨g, 0, none⟩ = some (.slice (some ⟨r, 0, none⟩) M c) ∧ w'.cell? ⟨g, 1, none⟩ = some (.func (.func 54) #[] #[]) ∧ w'.cell? ⟨g, 2, none⟩ = some (.func (.func 55) #[] #[])) ∧ (w'.cell? ⟨r, m * 3, none⟩ = some (.string t.sum) ∧ w'.cell? ⟨r, m * 3 + 1, none⟩ = some (.int .i64 t.work) ∧ w'.cell? ⟨r, m * 3 + 2, none⟩ = some (.int .i64 t.count)) ∧ (w'.cell? ⟨g3, 0, none⟩ = some (.string q.sum) ∧ w'.cell? ⟨g3, 1, none⟩ = some (.int .i64 q.work) ∧ w'.cell? ⟨g3, 2, none⟩ = some (.int .i64 q.count)))
          (first | exact PW.out.all HLL.out HGT.out | exact PD.out.all HLL.out HGT.out | exact P5.out.all HLL.out HGT.out)
          (first | (go_at_call 54; refine (hal _).mono ?_; rintro e w5 ⟨rfl, b5⟩; have P5 : Hid (PushW w0 w5 g g3 r c M (ps.take M) q) := PD.out.call b5))
        clear a0 a1 a2 q0 q1 q2 d0 d1 d2 PW PD b5
        obtain ⟨⟨a0, a1, a2⟩, ⟨q0, q1, q2⟩, d0, d1, d2⟩ := P5.out.all HLL.out HGT.out
        have hlt4 : (m : Int) < (M : Int) := lm1
        go_wp2_with fail
        go_region_with (go_at_call 55; refine (HBO.out _ (P5.out.drew.k.b)).mono ?_; rintro e w6 ⟨rfl, b6⟩; have P6 : Hid (PushW w0 w6 g g3 r c M (ps.take M) q) := P5.out.drew.call b6; obtain ⟨m0, m1, m2⟩ := P6.out.o.cells3; obtain ⟨f0, f1, f2⟩ := P6.out.o.free3)
        all_goals
          have P7 : Hid _ := P6.out.put (bothP t q)
          generalize bothP t q = nq at P7 HRM2 HAD2
          clear a0 a1 a2 q0 q1 q2 d0 d1 d2 m0 m1 m2 f0 f1 f2 b6 P6 P5 HBO
          generalize (((w6.setCell ⟨g3, 0, none⟩ (.string (nq).sum)).setCell ⟨g3, 1, none⟩ (.int .i64 (nq).work)).setCell ⟨g3, 2, none⟩ (.int .i64 (nq).count)) = w7 at P7 ⊢
          clear w6
          obtain ⟨⟨a0, a1, a2⟩, d0, d1, d2⟩ := P7.out.two
          have z0 := P7.out.k.s.frozen 0
          have lmc : (m : Int) ≤ (c : Int) := by have := P7.out.k.at.2.2.2; omega
          have hc0 : ¬ c = 0 := by have := P7.out.k.at.2.2.2; omega
          have P8 : Hid (PushW w0 (w7.setCell ⟨g, 0, none⟩ (.slice (some ⟨r, 0, none⟩) m c)) g g3 r c m (ps.take m) nq) := by
            have h1 := P7.out
            rw [HM.out] at h1
            have h2 := h1.pop
            rwa [show (ps.take (m + 1)).take m = ps.take m from by rw [← HM.out]; exact HTT.out] at h2
          have hw2 : IntKind.i64.wrap ((m : Int) - 1) = (m : Int) - 1 := by have := HMN.out; have := HM0.out; rw [IntKind.wrap_i64]; omega
          clear P7
          go_wp2_with fail
          go_roundw
          case rel => exact ⟨m, nq, by have := HM.out; have := HMN.out; omega, rfl, P8, HAD2, HRM2⟩
          case measure => have := HM.out; simp [intOf] <;> omega
      · have heb : (t.count == q.count) = false := by simpa using he
        rw [heb] at hal
        have HRV : Hid (A = ps.take M ++ [q]) := HNO.out he
        clear HS HYES HNO he heb HRM HKM HTT
        go_wp2_with fail
        go_region_held3 (fun w' => (w'.cell? ⟨g, 0, none⟩ = some (.slice (some ⟨r, 0, none⟩) M c) ∧ w'.cell? ⟨g, 1, none⟩ = some (.func (.func 54) #[] #[]) ∧ w'.cell? ⟨g, 2, none⟩ = some (.func (.func 55) #[] #[])) ∧ (w'.cell? ⟨r, m * 3, none⟩ = some (.string t.sum) ∧ w'.cell? ⟨r, m * 3 + 1, none⟩ = some (.int .i64 t.work) ∧ w'.cell? ⟨r, m * 3 + 2, none⟩ = some (.int .i64 t.count)) ∧ (w'.cell? ⟨g3, 0, none⟩ = some (.string q.sum) ∧ w'.cell? ⟨g3, 1, none⟩ = some (.int .i64 q.work) ∧ w'.cell? ⟨g3, 2, none⟩ = some (.int .i64 q.count)))
          (first | exact PW.out.all HLL.out HGT.out | exact PD.out.all HLL.out HGT.out | exact P5.out.all HLL.out HGT.out)
          (first | (go_at_call 54; refine (hal _).mono ?_; rintro e w5 ⟨rfl, b5⟩; have P5 : Hid (PushW w0 w5 g g3 r c M (ps.take M) q) := PD.out.call b5))
        clear a0 a1 a2 q0 q1 q2 d0 d1 d2 PW PD b5
        have HLA : Hid ((ps.take M).length = M) := P5.out.k.len
        have hx1 : M + 1 ≤ maxLen := by have h1 := HLA.out; rw [List.length_take] at h1; have h2 := HM0.out; have h3 := HN.out; unfold maxLen; omega
        have hx2 : (M + 1) * 32 ≤ 140737488355328 := by have h1 := HLA.out; rw [List.length_take] at h1; have h2 := HM0.out; have h3 := HN.out; omega
        have HRD : Hid (w5.ownsRow w0.heap.size 50 3 (.slice (some ⟨r, 0, none⟩) M c) M ((ps.take M).flatMap pEnc)) := P5.out.k.row
        have HZ : Hid (w0.heap.size ≤ w5.heap.size ∧ g3 < w5.heap.size ∧ g < g3 ∧ r < g3 ∧ r ≠ g ∧ w0.heap.size ≤ g ∧ w0.heap.size ≤ r) := ⟨P5.out.k.b.size, P5.out.o.lt, P5.out.n1, P5.out.n2, P5.out.k.rg, P5.out.k.lo, P5.out.k.at.2.2.1⟩
        have PX : Hid (PushW w0 w5.drew g g3 r c M (ps.take M) q) := P5.out.drew
        have PA : Hid (PushW w0 (w5.drew.alloc (.cells (pEnc q).toArray 50)) g g3 r c M (ps.take M) q) := PX.out.call ((Below.refl _ _).alloc (Nat.le_refl _) _)
        have hu := pEnc_one q
        have HCN : Hid (∀ j u, (pEnc q)[j]? = some u → (w5.drew.alloc (.cells (pEnc q).toArray 50)).cell? ((⟨w5.heap.size, 0, none⟩ : Addr).add j) = some u) := cells_new w5.drew 50 (pEnc q)
        have HFd : Hid ((w5.drew.alloc (.cells (pEnc q).toArray 50)).ownsRow w0.heap.size 50 3 (.slice (some ⟨r, 0, none⟩) M c) M ((ps.take M).flatMap pEnc)) := PA.out.k.row
        have HBZ : Hid (w0.heap.size ≤ (w5.drew.alloc (.cells (pEnc q).toArray 50)).heap.size) := PA.out.k.b.size
        have HGT6 : Hid (∀ w6, (w5.drew.alloc (.cells (pEnc q).toArray 50)).grownBy w6 (some r) → CBk w6 g 65 #[.slice (some ⟨r, 0, none⟩) M c, .func (.func 54) #[] #[], .func (.func 55) #[] #[]]) := fun w6 h => P5.out.grown h
        have ba0 : (w5.alloc (.cells #[.string q.sum, .int .i64 q.work, .int .i64 q.count] 50)).cell? ⟨g, 0, none⟩ = some (.slice (some ⟨r, 0, none⟩) M c) := (Below.cell ((Below.refl _ w5).alloc (Nat.le_refl _) _) (p := ⟨g, 0, none⟩) P5.out.k.s.lt).trans P5.out.k.outs.1
        obtain ⟨⟨a0, a1, a2⟩, d0, d1, d2⟩ := PX.out.two
        go_wp2_with fail
        go_region_law (refine step_append_any rfl (.tmp 56) (.tmp 58) 24 rfl w0.heap.size 50 i0 (.agg #[.string ⟨#[]⟩, .int .i64 0, .int .i64 0]) 3 32 Tryd.underlying24 hi hz0 hz1 hz2 rfl (by decide) r c M ((ps.take M).flatMap pEnc) (by simp [Act.eval]) HFd.out ⟨w5.heap.size, 0, none⟩ 1 1 (pEnc q) (by simp [Act.eval]) rfl HCN.out hu hx1 hx2 HBZ.out ?_; intro g6 c6 w6 hown6 hgrow6 hat6 hlt6; have C6 : Hid (CBk w6 g 65 #[.slice (some ⟨r, 0, none⟩) M c, .func (.func 54) #[] #[], .func (.func 55) #[] #[]]) := HGT6.out w6 hgrow6; have q6 : w6.cell? ⟨g, 0, none⟩ = some (.slice (some ⟨r, 0, none⟩) M c) := C6.out.cell 0; have z6 : w6.frozen? ⟨g, 0, none⟩ = false := C6.out.frozen 0)
        all_goals
          have K6 : Hid (StkW w0 (w6.setCell ⟨g, 0, none⟩ (.slice (some ⟨g6, 0, none⟩) (M + 1) c6)) g g6 c6 (M + 1) A) := by
            have hz := HZ.out
            have hne : g6 ≠ g := by
              have h1 : r = g6 ∨ g6 = w5.heap.size ∨ w5.heap.size ≤ g6 := by
                rcases hat6.out with h1 | h1
                · exact .inl h1
                · right; right; rw [h1]; simp
              omega
            refine ⟨C6.out.set 0 _, rowKeep ?_ hne, ?_, ?_, hne, hz.2.2.2.2.2.1⟩
            · rw [HRV.out, List.flatMap_append]
              simpa using hown6
            · rw [HRV.out, List.length_append, HLA.out]
              rfl
            · exact (PA.out.k.b.grown hgrow6 PA.out.k.b.size (fun j hj => by cases hj; exact hz.2.2.2.2.2.2)).setCell (p := ⟨g, 0, none⟩) hz.2.2.2.2.2.1 _
          clear PX PA C6 HRD hown6 hgrow6 hat6 hlt6
          go_wp2_with fail
          exact bodyPost_ret (results_none rfl _ _ _) rfl (push_res K6.out)

end Go.Proofs.YtoojimfimlpplaaDoor



set_option linter.unusedVariables false
namespace Go.Proofs.YtoojimfimlpplaaDoor
open Go.RowKit Go.Deep

set_option maxHeartbeats 1000000 in
set_option maxRecDepth 100000 in
theorem implCloneP (s : ByteArray) (w : World) (hs : s.size ≤ 281474976710656) :
    Calls Tryd.prog 53 #[.string s] w fun e w' => e = .returned (.string s) ∧ Below w.heap.size w w' := by
  go_enter Tryd.func53, Tryd.ntmps53
  go_wp2_with fail
  refine (Tryd.stringslite_Clone s w hs).mono ?_
  rintro e w1 ⟨rfl, b1⟩
  go_wp2_with fail
  go_ret
  exact ⟨rfl, b1⟩
theorem makeP0 (n : Nat) (hn : n ≤ 1048577) (w : World) : (Instr.makeSlice 24 (.int .i64 0) (.int .i64 (n : Int))).run Tryd.prog w = .ok (.slice (some ⟨w.heap.size, 0, none⟩) 0 n) (w.alloc (.cells (madeCells #[.string ⟨#[]⟩, .int .i64 0, .int .i64 0] (n * 3)) 50)) := by
  obtain ⟨i, hi, hz, hs, hb⟩ := info3 infoPeak
  have hb' : (i.bytes : Int) * (n : Int) ≤ 281474976710656 := by rw [hb]; omega
  have hr := run_make (P := Tryd.prog) w 24 50 i _ Tryd.underlying24 hi hz .i64 .i64 0 (n : Int) (by omega) (by omega) hb' (by omega)
  simp only [Int.toNat_natCast, hs, Value.cells] at hr
  exact hr
theorem StkW.lower {w0 w1 wr : World} {g r c M : Nat} {l : List PeakV} (h : StkW w1 wr g r c M l) (hb : Below w0.heap.size w0 w1) : StkW w0 wr g r c M l := by
  have h1 := (FRow.mono h.frow hb.size).2
  rw [h.len] at h1
  exact ⟨h.s, h1, h.len, hb.trans (h.b.mono hb.size), h.rg, Nat.le_trans hb.size h.lo⟩
theorem Stk.lower {w0 w1 wr : World} {g : Nat} {l : List PeakV} (h : Stk w1 wr g l) (hb : Below w0.heap.size w0 w1) : Stk w0 wr g l := by
  obtain ⟨r, c, M, h⟩ := h
  exact ⟨r, c, M, h.lower hb⟩
theorem Stk.call {w0 wr w' : World} {g : Nat} {l : List PeakV} (h : Stk w0 wr g l) (hb : Below wr.heap.size wr w') : Stk w0 w' g l := by
  obtain ⟨r, c, M, h⟩ := h
  exact ⟨r, c, M, h.call hb⟩
theorem Stk.b {w0 wr : World} {g : Nat} {l : List PeakV} (h : Stk w0 wr g l) : Below w0.heap.size w0 wr := by
  obtain ⟨r, c, M, h⟩ := h
  exact h.b
/-- The stack is new. -/
def StackRes (w : World) (l : List PeakV) (e : Ending) (w' : World) : Prop := ∃ g, e = .returned (.pointer (some ⟨g, 0, none⟩)) ∧ Stk w w' g l
theorem stack_new {w w1 : World} {v : Value} {l : List PeakV} (hR : PRow w.heap.size v l w1) (hb : Below w.heap.size w w1) : StackRes w l (.returned (.pointer (some ⟨w1.heap.size, 0, none⟩))) (w1.alloc (.cells #[v, .func (.func 54) #[] #[], .func (.func 55) #[] #[]] 65)) := by
  obtain ⟨g, c, cur, rfl, h1, h2, _⟩ := hR.block
  have h5 := (FRow.below hR ((Below.refl _ w1).alloc (Nat.le_refl _) (.cells #[.slice (some ⟨g, 0, none⟩) l.length c, .func (.func 54) #[] #[], .func (.func 55) #[] #[]] 65))).2
  exact ⟨_, rfl, g, c, l.length, CBk.new w1 _ _, h5, rfl, hb.alloc hb.size _, by omega, hb.size⟩

set_option maxHeartbeats 4000000 in
set_option maxRecDepth 100000 in
theorem implPeakStackNil (w : World) :
    Calls Tryd.prog 37 #[.slice none 0 0] w fun e w' => StackRes w [] e w' := by
  have hmk : (Instr.makeSlice 24 (.int .i64 0) (.int .i64 1)).run Tryd.prog w = _ := makeP0 1 (by omega) w
  have R0 : Hid (PRow w.heap.size (.slice (some ⟨w.heap.size, 0, none⟩) 0 1) [] (w.alloc (.cells (madeCells #[.string ⟨#[]⟩, .int .i64 0, .int .i64 0] (1 * 3)) 50))) :=
    ⟨⟨_, _, rfl⟩, by simp, .inr ⟨w.heap.size, 1, _, rfl, Nat.le_refl _, heap_alloc_new w _, Nat.zero_le _, by unfold maxLen; omega, by simp [madeCells], by simp⟩⟩
  have B0 : Hid (Below w.heap.size w (w.alloc (.cells (madeCells #[.string ⟨#[]⟩, .int .i64 0, .int .i64 0] (1 * 3)) 50))) := (Below.refl _ w).alloc (Nat.le_refl _) _
  generalize w.alloc (.cells (madeCells #[.string ⟨#[]⟩, .int .i64 0, .int .i64 0] (1 * 3)) 50) = wm at hmk R0 B0
  have HQ : Hid (∀ (w1 : World) (v : Value), PRow w.heap.size v [] w1 → Below w.heap.size w w1 → StackRes w [] (.returned (.pointer (some ⟨w1.heap.size, 0, none⟩))) (w1.alloc (.cells #[v, .func (.func 54) #[] #[], .func (.func 55) #[] #[]] 65))) := fun w1 v h1 h2 => stack_new h1 h2
  generalize StackRes w [] = Q at HQ ⊢
  go_enter Tryd.func37, Tryd.ntmps37
  go_wp2_with fail
  clear hmk
  go_loopw [3, 12] (fun v i wr => v = .slice (some ⟨w.heap.size, 0, none⟩) 0 1 ∧ i = .int .i64 0 ∧ Hid (wr = wm)) (fun _ _ _ => 0)
  case atStart => exact ⟨rfl, rfl, rfl⟩
  case round =>
    obtain ⟨rfl, rfl, HW⟩ := hrel
    go_wp2_with fail
    rw [HW.out]
    exact HQ.out _ _ R0.out B0.out

set_option maxHeartbeats 8000000 in
set_option maxRecDepth 100000 in
theorem implPeakStack (g n cap : Nat) (ps : List PeakV) (w : World) (h : AtP w g ps) (hn : n = ps.length) (hm : n ≤ 1048576) (hz : ∀ i, i < ps.length → (ps.getD i default).sum.size ≤ 281474976710656) :
    Calls Tryd.prog 37 #[.slice (some ⟨g, 0, none⟩) n cap] w fun e w' => StackRes w ps e w' := by
  obtain ⟨i0, hi, hz0, hz1, hz2⟩ := info3 infoPeak
  have hmk : (Instr.makeSlice 24 (.int .i64 0) (.int .i64 ((n : Int) + 1))).run Tryd.prog w = _ := makeP0 (n + 1) (by omega) w
  have HA : Hid (AtP w g ps) := h
  have HN : Hid (n = ps.length) := hn
  have HSZ : Hid (∀ i, i < ps.length → (ps.getD i default).sum.size ≤ 281474976710656) := hz
  have R0 : Hid (PRow w.heap.size (.slice (some ⟨w.heap.size, 0, none⟩) 0 (n + 1)) [] (w.alloc (.cells (madeCells #[.string ⟨#[]⟩, .int .i64 0, .int .i64 0] ((n + 1) * 3)) 50))) :=
    ⟨⟨_, _, rfl⟩, by simp, .inr ⟨w.heap.size, n + 1, _, rfl, Nat.le_refl _, heap_alloc_new w _, Nat.zero_le _, by unfold maxLen; omega, by simp [madeCells], by simp⟩⟩
  have B0 : Hid (Below w.heap.size w (w.alloc (.cells (madeCells #[.string ⟨#[]⟩, .int .i64 0, .int .i64 0] ((n + 1) * 3)) 50))) := (Below.refl _ w).alloc (Nat.le_refl _) _
  generalize (w.alloc (.cells (madeCells #[.string ⟨#[]⟩, .int .i64 0, .int .i64 0] ((n + 1) * 3)) 50)) = wm at hmk R0 B0
  have HQ : Hid (∀ (w1 : World) (v : Value), PRow w.heap.size v (ps.take n) w1 → Below w.heap.size w w1 → StackRes w ps (.returned (.pointer (some ⟨w1.heap.size, 0, none⟩))) (w1.alloc (.cells #[v, .func (.func 54) #[] #[], .func (.func 55) #[] #[]] 65))) := fun w1 v h1 h2 => by
    rw [hn, List.take_length] at h1
    exact stack_new h1 h2
  generalize StackRes w ps = Q at HQ ⊢
  clear h hn hz
  have hw1 : IntKind.i64.wrap ((n : Int) + 1) = (n : Int) + 1 := by rw [IntKind.wrap_i64]; omega
  go_enter Tryd.func37, Tryd.ntmps37
  go_wp2_with fail
  clear hmk hw1
  go_loopw [3, 12] (fun v i wr => ∃ (k g2 c2 : Nat), k ≤ n ∧ i = .int .i64 (k : Int) ∧ v = .slice (some ⟨g2, 0, none⟩) k c2 ∧ Hid (PRow w.heap.size (.slice (some ⟨g2, 0, none⟩) k c2) (ps.take k) wr) ∧ Hid (Below w.heap.size w wr)) (fun _ i _ => n - (intOf i).toNat)
  case atStart => exact ⟨0, w.heap.size, n + 1, by omega, rfl, rfl, R0, B0⟩
  case round =>
    clear R0 B0
    obtain ⟨k, g2, c2, hk, rfl, rfl, R, HB⟩ := hrel
    by_cases hlt : k < n
    · have hkl : k < ps.length := by rw [← HN.out]; exact hlt
      have HAr := HA.out.below HB.out HA.out.1
      have q0 := AtP.c0 HAr k hkl
      have q1 := AtP.c1 HAr k hkl
      have q2 := AtP.c2 HAr k hkl
      have lk : (k : Int) < (n : Int) := by omega
      have lk0 : (0 : Int) ≤ (k : Int) := by omega
      have wk : IntKind.i64.wrap ((k : Int) + 1) = (k : Int) + 1 := by rw [IntKind.wrap_i64]; omega
      have HK1 : Hid (k + 1 ≤ n) := hlt
      have HT : Hid (ps.take (k + 1) = ps.take k ++ [ps.getD k default]) := take_one hkl
      have hcl := fun w' => implCloneP (ps.getD k default).sum w' (HSZ.out k hkl)
      have HLT : Hid ((ps.take k).length = k) := by show _ = _; rw [List.length_take]; omega
      clear hkl HAr
      generalize ps.getD k default = t at q0 q1 q2 hcl HT
      have HG2 : Hid (g2 < wr.heap.size ∧ k ≤ c2) := ⟨(FRow.at pEnc_len R.out).1.1, (FRow.at pEnc_len R.out).2.2.2⟩
      have L0 : Hid (Below wr.heap.size wr (wr.alloc (.cells #[.string t.sum, .int .i64 t.work, .int .i64 t.count] 50))) := (Below.refl _ wr).alloc (Nat.le_refl _) _
      have T0 : Hid (CBk (wr.alloc (.cells #[.string t.sum, .int .i64 t.work, .int .i64 t.count] 50)) wr.heap.size 50 #[.string t.sum, .int .i64 t.work, .int .i64 t.count]) := CBk.new wr _ _
      go_wp2_with fail
      refine (hcl _).mono ?_
      rintro e w2 ⟨rfl, b2⟩
      obtain ⟨gs, hgs⟩ : ∃ gs, gs = wr.heap.size := ⟨_, rfl⟩
      have T2 : Hid (CBk w2 gs 50 #[.string t.sum, .int .i64 t.work, .int .i64 t.count]) := by rw [hgs]; exact T0.out.call b2
      have L2 : Hid (Below wr.heap.size wr w2) := L0.out.trans (b2.mono L0.out.size)
      have B2 : Hid (Below w.heap.size w w2) := HB.out.trans (L2.out.mono HB.out.size)
      have HG : Hid (gs = wr.heap.size) := hgs
      rw [← hgs]
      clear hgs L0 T0 b2 hcl q0 q1 q2
      obtain ⟨d0, d1, d2⟩ := T2.out.cells3
      obtain ⟨f0, f1, f2⟩ := T2.out.free3
      have B3 : Hid (Below w.heap.size w (w2.setCell ⟨gs, 0, none⟩ (.string t.sum))) := B2.out.setCell (p := ⟨gs, 0, none⟩) (by show w.heap.size ≤ gs; rw [HG.out]; exact HB.out.size) _
      have T3 : Hid (CBk (w2.setCell ⟨gs, 0, none⟩ (.string t.sum)) gs 50 #[.string t.sum, .int .i64 t.work, .int .i64 t.count]) := T2.out.set 0 _
      have HOW : Hid ((w2.setCell ⟨gs, 0, none⟩ (.string t.sum)).ownsRow w.heap.size 50 3 (.slice (some ⟨g2, 0, none⟩) k c2) k ((ps.take k).flatMap pEnc)) := by
        have h1 := (FRow.below R.out L2.out).2
        rw [HLT.out] at h1
        exact rowKeep h1 (by rw [HG.out]; have := HG2.out.1; omega)
      have hx1 : k + 1 ≤ maxLen := by unfold maxLen; omega
      have hx2 : (k + 1) * 32 ≤ 140737488355328 := by omega
      have hu := pEnc_one t
      have hsz := B3.out.size
      clear R L2 B2 HB
      clear T2
      go_wp2_with (at_builtin; refine wp_appN rfl _ _ 24 rfl w.heap.size 50 i0 (.agg #[.string ⟨#[]⟩, .int .i64 0, .int .i64 0]) 3 32 1 Tryd.underlying24 hi hz0 hz1 hz2 rfl (by decide) (by decide) _ _ _ rfl HOW.out (pEnc t) (by first | rfl | simp [Act.eval]) rfl hu hx1 hx2 hsz ?_; intro g4 c4 w4 hown4 hb4 hkeep4)
      have R4 : Hid (PRow w.heap.size (.slice (some ⟨g4, 0, none⟩) (k + 1) c4) (ps.take (k + 1)) w4) := by
        rw [HT.out]
        refine FRow.of ?_ ?_
        · rw [List.flatMap_append]
          simpa using hown4
        · rw [List.length_append, HLT.out]; rfl
      have B4 : Hid (Below w.heap.size w w4) := B3.out.trans hb4
      clear hown4 hb4 hkeep4 B3 T3 HOW d0 d1 d2 f0 f1 f2
      go_wp2_with fail
      go_roundw
      case rel => exact ⟨k + 1, g4, c4, HK1.out, by go_num, rfl, R4, B4⟩
      case measure => have := HK1.out; simp [intOf]; omega
    · obtain rfl : k = n := by omega
      go_wp2_with fail
      exact HQ.out _ _ R.out HB.out

end Go.Proofs.YtoojimfimlpplaaDoor

set_option linter.unusedVariables false
namespace Go.Proofs.YtoojimfimlpplaaDoor
open Go.RowKit Go.Deep

set_option maxHeartbeats 2000000 in
set_option maxRecDepth 100000 in
theorem specL5Of (g n cap : Nat) (l : List HeadV) (w : World) (hA : AtHead w g l) (hn : n = l.length) (hm : n ≤ 20) (hok : ∀ i, i < l.length → headOkB (l.getD i default) = true) :
    Calls Tryd.prog 41 #[.slice (some ⟨g, 0, none⟩) n cap] w fun e w' => ∃ v, e = .returned v ∧ PRow w.heap.size v (ofP l n) w' ∧ Below w.heap.size w w' := by
  have HA : Hid (AtHead w g l) := hA
  have HN : Hid (n = l.length) := hn
  have HM : Hid (n ≤ 20) := hm
  have HOK : Hid (∀ i, i < l.length → headOkB (l.getD i default) = true) := hok
  have R0 : Hid (PRow w.heap.size (.slice (some ⟨w.heap.size, 0, none⟩) 0 0) [] (w.alloc (.cells #[] 50))) := frow_new pEnc 50 3 w
  have B0 : Hid (Below w.heap.size w (w.alloc (.cells #[] 50))) := (Below.refl _ w).alloc (Nat.le_refl _) _
  clear hA hn hm hok
  go_enter Tryd.func41, Tryd.ntmps41
  go_wp2_with fail
  generalize w.alloc (.cells #[] 50) = W0 at R0 B0 ⊢
  go_loopw [3, 4] (fun out i wr => ∃ (k : Nat), k ≤ n ∧ i = .int .i64 (k : Int) ∧ Hid (PRow w.heap.size out (ofP l k) wr) ∧ Hid (Below w.heap.size w wr)) (fun _ i _ => n - (intOf i).toNat)
  case atStart => exact ⟨0, by omega, rfl, R0, B0⟩
  case round =>
    clear R0 B0
    obtain ⟨k, hk, rfl, R, HB⟩ := hrel
    by_cases hlt : k < n
    · have hkl : k < l.length := by rw [← HN.out]; exact hlt
      have HAr := HA.out.below HB.out HA.out.1
      have c0 := AtHead.c0 HAr k hkl
      have c1 := AtHead.c1 HAr k hkl
      have c2 := AtHead.c2 HAr k hkl
      have c3 := AtHead.c3 HAr k hkl
      have c4 := AtHead.c4 HAr k hkl
      have lk : (k : Int) < (n : Int) := by omega
      have lk0 : (0 : Int) ≤ (k : Int) := by omega
      have wk : IntKind.i64.wrap ((k : Int) + 1) = (k : Int) + 1 := by have := HM.out; rw [IntKind.wrap_i64]; omega
      have HK1 : Hid (k + 1 ≤ n) := hlt
      have hkk := HOK.out k hkl
      obtain ⟨ho1, ho2, ho3⟩ := ofP_ok HOK.out (by rw [← HN.out]; exact HM.out) k (by omega)
      have hlf := fun w' => specL5Leaf (l.getD k default) w' hkk
      have HLK : Hid (peakOkB (leafP (l.getD k default)) = true) := fine_ok (fine_leaf hkk) (by show (1 : Int) ≤ 20; decide)
      have HL1 : Hid ((leafP (l.getD k default)).count = 1) := rfl
      have HS : Hid (ofP l (k + 1) = addP (ofP l k) (leafP (l.getD k default))) := rfl
      obtain ⟨A2, hA2⟩ : ∃ A2, A2 = ofP l (k + 1) := ⟨_, rfl⟩
      have HE : Hid (A2 = ofP l (k + 1)) := hA2
      rw [← hA2] at HS
      clear hA2
      have HPK : Hid (∀ i, i < (ofP l k).length → peakOkB ((ofP l k).getD i default) = true) := fun i hi => getD_all (C := fun q => peakOkB q = true) ho1 i hi
      have HCN : Hid (cntTo (ofP l k) (ofP l k).length = (k : Int)) := ho2
      have HLL : Hid ((ofP l k).length ≤ k) := ho3
      generalize leafP (l.getD k default) = p at hlf HLK HL1 HS
      generalize ofP l k = A at R HPK HCN HLL HS
      generalize l.getD k default = h at c0 c1 c2 c3 c4 hlf hkk
      obtain ⟨⟨g4, cc, rfl⟩, -⟩ := id R.out
      unfold headVal at hlf
      clear HAr hkk ho1 ho2 ho3
      go_wp2_with fail
      refine (hlf _).mono ?_
      rintro e w3 ⟨rfl, b3⟩
      have B3 : Hid (Below w.heap.size w w3) := HB.out.trans (b3.mono HB.out.size)
      have R3 : Hid (PRow w.heap.size (.slice (some ⟨g4, 0, none⟩) A.length cc) A w3) := R.out.below b3
      have had := specL5Add g4 A.length cc A p w3 (FRow.at pEnc_len R3.out).1 rfl (by have := HLL.out; have := HM.out; omega) HPK.out ⟨HLK.out, by rw [HL1.out, HCN.out]; have := HM.out; omega⟩
      unfold peakVal at had
      unfold peakVal
      rw [← HS.out] at had
      clear hlf b3 R HB c0 c1 c2 c3 c4 HLK HL1 HPK HCN HS
      go_wp2_with fail
      refine had.mono ?_
      rintro e w4 ⟨v, rfl, R4, b4⟩
      have B4 : Hid (Below w.heap.size w w4) := B3.out.trans (b4.mono B3.out.size)
      have R5 : Hid (PRow w.heap.size v A2 w4) := R4.mono B3.out.size
      clear had b4 B3 R3 R4
      go_wp2_with fail
      go_roundw
      case rel => exact ⟨k + 1, HK1.out, by go_num, by rw [← HE.out]; exact R5, B4⟩
      case measure => have := HK1.out; simp [intOf]; omega
    · obtain rfl : k = n := by omega
      go_wp2_with fail
      go_ret
      exact ⟨_, rfl, R.out, HB.out⟩

end Go.Proofs.YtoojimfimlpplaaDoor

set_option linter.unusedVariables false
namespace Go.Proofs.YtoojimfimlpplaaDoor
open Go.RowKit Go.Deep

theorem room_leaf {ps : List PeakV} {h : HeadV} (hk : headOkB h = true) (hc : cntTo ps ps.length ≤ 20) : Room ps ps.length (leafP h) := by
  refine ⟨fine_ok (fine_leaf hk) (by show (1 : Int) ≤ 20; decide), ?_⟩
  show (1 : Int) + _ ≤ 21
  omega
end Go.Proofs.YtoojimfimlpplaaDoor

