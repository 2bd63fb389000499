/-
  Texts that the last part needs, joined.
-/
import Derived.Test.YtoojimfimlpplaaGreatDoorPart1
import Derived.Test.YtoojimfimlpplaaGreatDoorPart2
import Derived.Test.YtoojimfimlpplaaGreatDoorPart3
import Derived.Test.YtoojimfimlpplaaGreatDoorPart4
import Derived.Lib.SmallJoins
import Derived.Lib.FrozenHead2
import Derived.Deep.AppendLies
import Derived.WalkSmall
import Derived.BigRegion
import Derived.Deep.RegionWith
set_option linter.unusedVariables false
namespace Go.Proofs.YtoojimfimlpplaaGreatDoor
open Go.RowKit Go.Deep

set_option maxHeartbeats 1000000 in
set_option maxRecDepth 100000 in
theorem implSteps1 (p : PeakV) (w : World) :
    Calls Tryz.prog 41 #[.agg #[.string p.sum, .int .i64 p.work, .int .i64 p.count]] w fun e w' => e = .returned (.bool (!peakOkB p)) ∧ Below w.heap.size w w' := by
  have hpo := fun w' => implPeakOk p w'
  have L0 : Hid (Below w.heap.size w (w.alloc (.cells #[.string p.sum, .int .i64 p.work, .int .i64 p.count] 31))) := (Below.refl _ w).alloc (Nat.le_refl _) _
  generalize peakOkB p = R at hpo ⊢
  go_enter Tryz.func41, Tryz.ntmps41
  go_wp2_with fail
  refine (hpo _).mono ?_
  rintro e w1 ⟨rfl, b1⟩
  go_wp2_with fail
  go_ret
  exact ⟨rfl, L0.out.trans (b1.mono L0.out.size)⟩

set_option maxHeartbeats 1000000 in
set_option maxRecDepth 100000 in
theorem implIndexSteps (g n cap : Nat) (ss : List PeakV) (w : World) (h : AtP w g ss) (hn : n = ss.length) (hm : n ≤ 8) :
    Calls Tryz.prog 59 #[.slice (some ⟨g, 0, none⟩) n cap, .func (.func 41) #[] #[]] w fun e w' => (∃ x : Int, e = .returned (.int .i64 x) ∧ decide (0 ≤ x) = !stepsB ss) ∧ Below w.heap.size w w' := by
  have HA : Hid (AtP w g ss) := h
  have HN : Hid (n = ss.length) := hn
  have HBAD : Hid (∀ k, k < n → peakOkB (ss.getD k default) = false → stepsB ss = false) := fun k hk he => steps_bad (by omega) he
  have HGOO : Hid ((∀ k, k < n → peakOkB (ss.getD k default) = true) → stepsB ss = true) := fun hf => steps_good (by omega) (fun i hi => hf i (by omega))
  generalize stepsB ss = R at HBAD HGOO ⊢
  clear h hn
  go_enter Tryz.func59, Tryz.ntmps59
  go_wp2_with fail
  go_loopw [5, 8] (fun _ i wr => ∃ k : Nat, k ≤ n ∧ i = .int .i64 (k : Int) ∧ Hid (Below w.heap.size w wr) ∧ Hid (∀ j, j < k → peakOkB (ss.getD j default) = true)) (fun _ i _ => n - (intOf i).toNat)
  case atStart => exact ⟨0, by omega, rfl, Below.refl _ _, fun j hj => by omega⟩
  case round =>
    obtain ⟨k, hk, rfl, HB, HQ⟩ := hrel
    by_cases hlt : k < n
    · have hkl : k < ss.length := by rw [← HN.out]; exact hlt
      have HAr : Hid (AtP wr g ss) := HA.out.below HB.out HA.out.1
      have q0 := AtP.c0 HAr.out k hkl
      have q1 := AtP.c1 HAr.out k hkl
      have q2 := AtP.c2 HAr.out k hkl
      have lk : (k : Int) < (n : Int) := by omega
      have lk0 : (0 : Int) ≤ (k : Int) := by omega
      have wk : IntKind.i64.wrap ((k : Int) + 1) = (k : Int) + 1 := by rw [IntKind.wrap_i64]; omega
      have HK1 : Hid (k + 1 ≤ n) := hlt
      have HH : Hid (peakOkB (ss.getD k default) = false → R = false) := HBAD.out k hlt
      have HQ2 : Hid (peakOkB (ss.getD k default) = true → ∀ j, j < k + 1 → peakOkB (ss.getD j default) = true) := by
        intro h j hj
        rcases Nat.lt_or_ge j k with h' | h'
        · exact HQ.out j h'
        · obtain rfl : j = k := by omega
          exact h
      have hcl := implSteps1 (ss.getD k default) wr
      clear HQ HBAD HGOO hkl
      generalize peakOkB (ss.getD k default) = ok at hcl HH HQ2
      generalize ss.getD k default = c at q0 q1 q2 hcl
      cases ok with
      | false =>
        have HV : Hid (R = false) := HH.out rfl
        clear HH HQ2
        go_wp2_with fail
        refine hcl.mono ?_
        rintro e w1 ⟨rfl, b1⟩
        have HB1 : Hid (Below w.heap.size w w1) := HB.out.trans (b1.mono HB.out.size)
        clear b1
        go_wp2_with fail
        go_ret
        exact ⟨⟨_, rfl, by rw [HV.out]; exact decide_eq_true lk0⟩, HB1.out⟩
      | true =>
        have HQ3 : Hid (∀ j, j < k + 1 → peakOkB (ss.getD j default) = true) := HQ2.out rfl
        clear HH HQ2
        go_wp2_with fail
        refine hcl.mono ?_
        rintro e w1 ⟨rfl, b1⟩
        have HB1 : Hid (Below w.heap.size w w1) := HB.out.trans (b1.mono HB.out.size)
        clear b1
        go_wp2_with fail
        go_roundw
        case rel => exact ⟨k + 1, HK1.out, by go_num, HB1, HQ3⟩
        case measure => have := HK1.out; simp [intOf]; omega
    · obtain rfl : k = n := by omega
      have HV : Hid (R = true) := HGOO.out HQ.out
      clear HBAD HGOO HQ
      go_wp2_with fail
      go_ret
      exact ⟨⟨-1, rfl, by rw [HV.out]; rfl⟩, HB.out⟩

set_option maxHeartbeats 1000000 in
set_option maxRecDepth 100000 in
theorem implStepsOk (g n cap : Nat) (ss : List PeakV) (w : World) (h : AtP w g ss) (hn : n = ss.length) (hm : n ≤ 1048576) :
    Calls Tryz.prog 24 #[.slice (some ⟨g, 0, none⟩) n cap] w fun e w' => e = .returned (.bool (stepsB ss)) ∧ Below w.heap.size w w' := by
  by_cases h8 : n ≤ 8
  · have hix := implIndexSteps g n cap ss w h hn h8
    have hcf : Calls Tryz.prog 40 #[.slice (some ⟨g, 0, none⟩) n cap, .func (.func 41) #[] #[]] w fun e w' => e = .returned (.bool (!stepsB ss)) ∧ Below w.heap.size w w' := by
      generalize stepsB ss = R at hix ⊢
      clear h hn
      go_enter Tryz.func40, Tryz.ntmps40
      go_wp2_with fail
      refine hix.mono ?_
      rintro e w1 ⟨⟨x, rfl, hx⟩, b1⟩
      go_wp2_with fail
      go_ret
      exact ⟨by rw [← hx]; rfl, b1⟩
    clear hix
    generalize stepsB ss = R at hcf ⊢
    have h9 : ¬ (8 : Int) < (n : Int) := by omega
    have h7 : (n : Int) ≤ 8 := by omega
    clear h hn
    cases R with
    | true =>
      go_enter Tryz.func24, Tryz.ntmps24
      go_wp2_with fail
      refine hcf.mono ?_
      rintro e w1 ⟨rfl, b1⟩
      go_wp2_with fail
      go_ret
      exact ⟨rfl, b1⟩
    | false =>
      go_enter Tryz.func24, Tryz.ntmps24
      go_wp2_with fail
      refine hcf.mono ?_
      rintro e w1 ⟨rfl, b1⟩
      go_wp2_with fail
      go_ret
      exact ⟨rfl, b1⟩
  · have HV : Hid (stepsB ss = false) := steps_long (by omega)
    generalize stepsB ss = R at HV ⊢
    have h9 : (8 : Int) < (n : Int) := by omega
    have h7 : ¬ (n : Int) ≤ 8 := by omega
    clear h hn
    go_enter Tryz.func24, Tryz.ntmps24
    go_wp2_with fail
    go_ret
    exact ⟨by rw [HV.out]; rfl, Below.refl _ _⟩

end Go.Proofs.YtoojimfimlpplaaGreatDoor

set_option linter.unusedVariables false
namespace Go.Proofs.YtoojimfimlpplaaGreatDoor
open Go.ChangeShapes Go.WideShapes Go.ChangeAt Go.RowKit Go.Deep Go.Joins

theorem CBk.two {w : World} {g : Nat} {T : TypeId} {a b : Value} (h : CBk w g T #[a, b]) : w.cell? ⟨g, 0, none⟩ = some a ∧ w.cell? ⟨g, 1, none⟩ = some b ∧ w.frozen? ⟨g, 0, none⟩ = false ∧ w.frozen? ⟨g, 1, none⟩ = false :=
  ⟨h.cell 0, h.cell 1, h.frozen 0, h.frozen 1⟩
theorem CBk.out2 {w : World} {g : Nat} {T : TypeId} {a b : Value} (h : CBk w g T #[a, b]) : w.cell? ⟨g, 0, none⟩ = some a ∧ w.cell? ⟨g, 1, none⟩ = some b := ⟨h.cell 0, h.cell 1⟩
/-- A proof of the laws. -/
structure LPrf where
  pa : Option Addr
  pn : Nat
  pc : Nat
  pl : List PeakV
  sa : Option Addr
  sn : Nat
  sc : Nat
  sl : List PeakV
def lprfVal (L : LPrf) : Value := .agg #[.slice L.pa L.pn L.pc, .slice L.sa L.sn L.sc]
structure IsPrf (w : World) (L : LPrf) : Prop where
  p : IsPeaks w L.pa L.pn L.pc L.pl
  s : IsPeaks w L.sa L.sn L.sc L.sl
theorem peaks_below {w w' : World} {a : Option Addr} {len cap : Nat} {ps : List PeakV} (h : IsPeaks w a len cap ps) (hb : Below w.heap.size w w') : IsPeaks w' a len cap ps := by
  have hat := fun i hi => h.at hb i hi
  rcases h with h1 | ⟨x, hx, h1, h2, h3, h4, h5⟩
  · exact .inl h1
  · refine .inr ⟨x, hx, h1, h2, h3, fun i hi => ?_, h5⟩
    obtain ⟨y, hy, hc⟩ := hat i hi
    rw [hx] at hy
    obtain rfl := Option.some.inj hy
    exact hc
theorem IsPrf.below {w w' : World} {L : LPrf} (h : IsPrf w L) (hb : Below w.heap.size w w') : IsPrf w' L := ⟨peaks_below h.p hb, peaks_below h.s hb⟩
theorem shape_slice2 {P : Program} {H : Type} {enc : TypeId × Value → H} {W : World} {base : Nat} {sp : Nat → Bool} {held : Bool} {n : Nat} {t e : TypeId} {v : Value} {y : DataW H × List MemPlace} (ht : P.underlying t = some (.slice e)) (h : DataW.trod enc P W base sp held n t [v] = some y) : ∃ a len cap, v = .slice a len cap := by
  rcases open_slice ht h with ⟨hcs, _⟩ | ⟨x, l, c, m, n, D, Pl, hcs, _⟩
  · simp at hcs
    exact ⟨_, _, _, hcs⟩
  · simp at hcs
    exact ⟨_, _, _, hcs⟩
structure SmallPrf (L : LPrf) : Prop where
  pn : L.pn ≤ 1048576
  ps : ∀ i, i < L.pn → (L.pl.getD i default).sum.size ≤ 1048576
  sn : L.sn ≤ 1048576
  ss : ∀ i, i < L.sn → (L.sl.getD i default).sum.size ≤ 1048576
/-- A proof in memory of its own. -/
structure PrfV where
  g : Nat
  n : Nat
  c : Nat
  ps : List PeakV
  sg : Nat
  sn : Nat
  sc : Nat
  ss : List PeakV
def prfVal (s : PrfV) : Value := .agg #[.slice (some ⟨s.g, 0, none⟩) s.n s.c, .slice (some ⟨s.sg, 0, none⟩) s.sn s.sc]
structure CopyPrf (B : Nat) (L : LPrf) (v : PrfV) (w : World) : Prop where
  p : RowP w v.g L.pl
  ps : v.ps = L.pl
  pn : v.n = L.pn
  pc : v.c = v.n
  st : RowP w v.sg L.sl
  ss : v.ss = L.sl
  sn : v.sn = L.sn
  sc : v.sc = v.sn
  lo : B ≤ v.g
  up : v.g < v.sg
theorem CopyPrf.below {B : Nat} {L : LPrf} {s : PrfV} {w w' : World} (h : CopyPrf B L s w) (hb : Below w.heap.size w w') : CopyPrf B L s w' :=
  ⟨h.p.below hb h.p.lt, h.ps, h.pn, h.pc, h.st.below hb h.st.lt, h.ss, h.sn, h.sc, h.lo, h.up⟩
theorem rowP_other {w : World} {g g' : Nat} {l : List PeakV} (h : RowP w g l) (hg : g' ≠ g) (j : Nat) (v : Value) : RowP (w.setCell ⟨g', j, none⟩ v) g l := by
  unfold RowP RowF at h ⊢; simp [World.setCell, Array.getElem?_modify, h, hg]

end Go.Proofs.YtoojimfimlpplaaGreatDoor

set_option linter.unusedVariables false
namespace Go.Proofs.YtoojimfimlpplaaGreatDoor
open Go.RowKit Go.Deep

theorem sameR (a b : ByteArray) : (a.toList == b.toList) = decide (a = b) := by
  rw [Bool.eq_iff_iff, beq_iff_eq, decide_eq_true_eq, ByteArray.toList_eq, ByteArray.toList_eq]
  constructor
  · intro h
    exact ByteArray.ext (by simpa using h)
  · intro h
    rw [h]
theorem walk_fine {h : HeadV} (hok : headOkB h = true) {a : Nat} {ss : List PeakV} : ∀ (i : Nat) (q : PeakV) (l : Int), walkTo (leafP h) a ss i = some (q, l) → Fine q l i
  | 0, q, l, hw => by
    simp only [walkTo, Option.some.injEq, Prod.mk.injEq] at hw
    obtain ⟨rfl, rfl⟩ := hw
    exact fine_leaf hok
  | i + 1, q, l, hw => by
    rw [walkTo] at hw
    cases hx : walkTo (leafP h) a ss i with
    | none => rw [hx] at hw; cases hw
    | some y =>
      obtain ⟨q0, l0⟩ := y
      have ih := walk_fine hok i q0 l0 hx
      rw [hx] at hw
      dsimp only at hw
      cases hb : (peakOkB (ss.getD i default) && decide ((ss.getD i default).count = q0.count)) with
      | false => rw [hb] at hw; cases hw
      | true =>
        rw [hb] at hw
        simp only [if_true] at hw
        split at hw
        · simp only [Option.some.injEq, Prod.mk.injEq] at hw
          obtain ⟨rfl, rfl⟩ := hw
          exact fine_left ih hb
        · simp only [Option.some.injEq, Prod.mk.injEq] at hw
          obtain ⟨rfl, rfl⟩ := hw
          exact fine_right ih hb
theorem fine_le {q : PeakV} {l : Int} {i : Nat} (h : Fine q l i) : l ≤ 256 := by
  have h1 := h.l1
  have h2 := h.wk
  have h3 := h.cnt
  have h4 := h.hi
  have h5 : (2 ^ i : Nat) ≤ 32 := by
    have : i = 0 ∨ i = 1 ∨ i = 2 ∨ i = 3 ∨ i = 4 ∨ i = 5 := by omega
    rcases this with rfl | rfl | rfl | rfl | rfl | rfl <;> decide
  omega
theorem climb_le {top : PeakV} {h : HeadV} (hok : headOkB h = true) (a : Nat) (ss : List PeakV) : -1 ≤ climbV top h a ss ∧ climbV top h a ss ≤ 256 := by
  unfold climbV
  cases hx : walkTo (leafP h) a ss ss.length with
  | none => dsimp only; omega
  | some y =>
    obtain ⟨q, l⟩ := y
    have hf := walk_fine hok _ q l hx
    have := fine_le hf
    have := hf.l0
    dsimp only
    split <;> omega
theorem wrk_in {ps : List PeakV} (h : rangeOkB ps = true) : ∀ k, k ≤ ps.length → 0 ≤ wrkTo ps k ∧ wrkTo ps k ≤ 160 * (k : Int)
  | 0, _ => by simp [wrkTo]
  | k + 1, hk => by
    have ih := wrk_in h k (by omega)
    have := rangeOk_at h k (by omega)
    rw [wrkTo]
    push_cast
    omega
theorem cnt_in {ps : List PeakV} (h : rangeOkB ps = true) : ∀ k, k ≤ ps.length → 0 ≤ cntTo ps k ∧ cntTo ps k ≤ 20 * (k : Int)
  | 0, _ => by simp [cntTo]
  | k + 1, hk => by
    have ih := cnt_in h k (by omega)
    have := rangeOk_at h k (by omega)
    rw [cntTo]
    push_cast
    omega
/-- A proof in memory. -/
structure PrfAt (s : PrfV) (w : World) : Prop where
  p : AtP w s.g s.ps
  pl : s.n = s.ps.length
  pm : s.n ≤ 1048576
  pc : s.n ≤ s.c
  t : AtP w s.sg s.ss
  tl : s.sn = s.ss.length
  tm : s.sn ≤ 1048576
theorem PrfAt.below {s : PrfV} {w w' : World} (h : PrfAt s w) (hb : Below w.heap.size w w') : PrfAt s w' :=
  ⟨h.p.below hb h.p.1, h.pl, h.pm, h.pc, h.t.below hb h.t.1, h.tl, h.tm⟩
theorem check_root {root : ByteArray} {h : HeadV} {a : Int} {ps ss : List PeakV} (hn : (⟨(rangeRoot ps).toArray⟩ : ByteArray) ≠ root) : checkV root h a ps ss = -1 := check_no (fun hh => hn hh.2.2.2.2)

end Go.Proofs.YtoojimfimlpplaaGreatDoor

set_option linter.unusedVariables false
namespace Go.Proofs.YtoojimfimlpplaaGreatDoor
open Go.RowKit

theorem cells_new (w : World) (e : TypeId) (news : List Value) : ∀ j u, news[j]? = some u → (w.alloc (.cells news.toArray e)).cell? ((⟨w.heap.size, 0, none⟩ : Addr).add j) = some u := by
  intro j u hj
  have e1 : (⟨w.heap.size, 0, none⟩ : Addr).add j = ⟨w.heap.size, j, none⟩ := by unfold Addr.add; split <;> simp_all
  rw [e1, Lib.cell_of_heap (heap_alloc_new w _)]
  simpa using hj
theorem wp_appN {P : Program} {w : World} {ops : Array Oper} {rest : List Oper} {o : Oper} {a : Act} {Q : Exit → Act → World → Prop} (hgd : o.guard = none) (s x : Operand) (t : TypeId)
    (ho : o.op = .call { callee := .builtin .append, args := #[s, x], argTypes := #[t, t] })
    (base : Nat) (e : TypeId) (i : TypeInfo) (z : Value) (size bytes m : Nat) (ht : P.underlying t = some (.slice e)) (hi : P.info? e = some i) (hz : i.zero = some z)
    (hsize : i.size = size) (hby : i.bytes = bytes) (hzs : z.cells.size = size) (hs0 : 0 < size) (hm0 : 0 < m)
    (v : Value) (n : Nat) (xs : List Value) (hs : a.eval s = v) (hown : w.ownsRow base e size v n xs)
    (news : List Value) (hx : a.eval x = .slice (some ⟨w.heap.size, 0, none⟩) m m) (hl : news.length = m * size) (hu : ∀ u ∈ news, u.oneCell' = true)
    (h63 : n + m ≤ maxLen) (hbytes : (n + m) * bytes ≤ 140737488355328) (hbase : base ≤ w.heap.size)
    (h : ∀ g cap w', w'.ownsRow base e size (.slice (some ⟨g, 0, none⟩) (n + m) cap) (n + m) (xs ++ news) → Below base w w' → (∀ b, b < w.heap.size → v.ownBlock ≠ some b → w'.heap[b]? = w.heap[b]?) →
      wpList P ops Q rest (a.put o.dst (.slice (some ⟨g, 0, none⟩) (n + m) cap)) w') :
    wpList P ops Q (o :: rest) a (w.alloc (.cells news.toArray e)) := by
  refine wpList_append_own _ hgd s x t ho base e i z size bytes ht hi hz hsize hby hzs hs0 v n xs hs (hown.alloc _) ⟨w.heap.size, 0, none⟩ m m news hx hl ?_ hu h63 hbytes (by simp; omega) ?_
  · intro j u hj
    have e1 : (⟨w.heap.size, 0, none⟩ : Addr).add j = ⟨w.heap.size, j, none⟩ := by unfold Addr.add; split <;> simp_all
    rw [e1, Lib.cell_of_heap (heap_alloc_new w _)]
    simpa using hj
  · intro v' w' hown' hg _
    obtain ⟨g, cap, rfl⟩ : ∃ g cap, v' = .slice (some ⟨g, 0, none⟩) (n + m) cap := by
      rcases hown'.2 with ⟨_, h0⟩ | ⟨g, cap, cur, hv, _⟩
      · omega
      · exact ⟨g, cap, hv⟩
    refine h g cap w' hown' (((Below.refl base w).alloc hbase _).grown hg (by simp; omega) (fun k hk => (hown.lt k hk).1)) ?_
    intro b hb hne
    rw [hg.block b (by simp; omega) (fun e => hne e.symm)]
    exact Below.heap_alloc _ _ _ hb

end Go.Proofs.YtoojimfimlpplaaGreatDoor

set_option linter.unusedVariables false
namespace Go.Proofs.YtoojimfimlpplaaGreatDoor
open Go.RowKit

section frow
variable {α : Type}
def FRow (enc : α → List Value) (T : TypeId) (k B : Nat) (v : Value) (l : List α) (w : World) : Prop := (∃ g cap, v = .slice (some ⟨g, 0, none⟩) l.length cap) ∧ w.ownsRow B T k v l.length (l.flatMap enc)
theorem frow_new (enc : α → List Value) (T : TypeId) (k : Nat) (w : World) : FRow enc T k w.heap.size (.slice (some ⟨w.heap.size, 0, none⟩) 0 0) [] (w.alloc (.cells #[] T)) :=
  ⟨⟨_, _, rfl⟩, by simp, .inr ⟨w.heap.size, 0, #[], rfl, Nat.le_refl _, heap_alloc_new w _, Nat.le_refl _, Nat.zero_le _, by simp, by simp⟩⟩
theorem frow_cap (enc : α → List Value) (T : TypeId) (k n : Nat) (hk : ∀ a, (enc a).length = k) (a : α) (w : World) (hn : n ≤ maxLen) : FRow enc T k w.heap.size (.slice (some ⟨w.heap.size, 0, none⟩) 0 n) [] (w.alloc (.cells ((List.replicate n a).flatMap enc).toArray T)) :=
  ⟨⟨_, _, rfl⟩, by simp, .inr ⟨w.heap.size, n, _, rfl, Nat.le_refl _, heap_alloc_new w _, Nat.zero_le _, hn, by simp [flat_length k enc hk], by simp⟩⟩
theorem FRow.block {enc : α → List Value} {T : TypeId} {k B : Nat} {v : Value} {l : List α} {w : World} (h : FRow enc T k B v l w) : ∃ g cap cur, v = .slice (some ⟨g, 0, none⟩) l.length cap ∧ B ≤ g ∧ g < w.heap.size ∧ w.heap[g]? = some (.cells cur T (0, 0)) ∧ cur.toList.take (l.length * k) = l.flatMap enc ∧ l.length ≤ cap := by
  obtain ⟨⟨g, cap, rfl⟩, _, h2⟩ := h
  rcases h2 with ⟨h3, _⟩ | ⟨g', cap', cur, hv, hB, hg, hc, _, _, ht⟩
  · cases h3
  · simp only [Value.slice.injEq, Option.some.injEq, Addr.mk.injEq, and_true] at hv
    obtain ⟨rfl, _, rfl⟩ := hv
    refine ⟨g, cap, cur, rfl, hB, ?_, hg, ht, hc⟩
    rcases Nat.lt_or_ge g w.heap.size with h' | h'
    · exact h'
    · simp [Array.getElem?_eq_none h'] at hg
theorem FRow.at [Inhabited α] {enc : α → List Value} {T : TypeId} {k B g n cap : Nat} {l : List α} {w : World} (hk : ∀ a, (enc a).length = k) (h : FRow enc T k B (.slice (some ⟨g, 0, none⟩) n cap) l w) : AtF enc k w g l ∧ n = l.length ∧ B ≤ g ∧ n ≤ cap := by
  obtain ⟨g', cap', cur, hv, hB, hlt, hg, ht, hc⟩ := h.block
  simp only [Value.slice.injEq, Option.some.injEq, Addr.mk.injEq, and_true] at hv
  obtain ⟨rfl, rfl, rfl⟩ := hv
  refine ⟨⟨hlt, fun i j hi hj => ?_⟩, rfl, hB, hc⟩
  have hlt2 : i * k + j < l.length * k := by
    have : (i + 1) * k ≤ l.length * k := Nat.mul_le_mul_right k hi
    rw [Nat.add_mul] at this
    omega
  rw [Lib.cell_of_heap hg, ← flat_at k enc hk l i j hi hj, ← ht, List.getElem?_take_of_lt hlt2]
  simp
theorem FRow.keep {enc : α → List Value} {T : TypeId} {k B : Nat} {v : Value} {l : List α} {w w' : World} (h : FRow enc T k B v l w) (hk : ∀ g, B ≤ g → g < w.heap.size → w'.heap[g]? = w.heap[g]?) : FRow enc T k B v l w' := by
  obtain ⟨⟨g, cap, rfl⟩, h1, h2⟩ := h
  refine ⟨⟨g, cap, rfl⟩, h1, ?_⟩
  rcases h2 with ⟨h3, _⟩ | ⟨g', cap', cur, hv, hB, hg, h4⟩
  · cases h3
  · have hlt : g' < w.heap.size := by
      rcases Nat.lt_or_ge g' w.heap.size with h' | h'
      · exact h'
      · simp [Array.getElem?_eq_none h'] at hg
    exact .inr ⟨g', cap', cur, hv, hB, by rw [hk g' hB hlt]; exact hg, h4⟩
theorem FRow.below {enc : α → List Value} {T : TypeId} {k B : Nat} {v : Value} {l : List α} {w w' : World} (h : FRow enc T k B v l w) (hb : Below w.heap.size w w') : FRow enc T k B v l w' := h.keep (fun g _ hg => hb.block g hg)
theorem FRow.drew {enc : α → List Value} {T : TypeId} {k B : Nat} {v : Value} {l : List α} {w : World} (h : FRow enc T k B v l w) : FRow enc T k B v l w.drew := h
theorem FRow.mono {enc : α → List Value} {T : TypeId} {k B C : Nat} {v : Value} {l : List α} {w : World} (h : FRow enc T k B v l w) (hC : C ≤ B) : FRow enc T k C v l w := by
  obtain ⟨h0, h1, h2⟩ := h
  refine ⟨h0, h1, ?_⟩
  rcases h2 with h3 | ⟨g', cap', cur, hv, hB, h4⟩
  · exact .inl h3
  · exact .inr ⟨g', cap', cur, hv, Nat.le_trans hC hB, h4⟩
theorem FRow.of {enc : α → List Value} {T : TypeId} {k B g n cap : Nat} {l : List α} {w : World} (h : w.ownsRow B T k (.slice (some ⟨g, 0, none⟩) n cap) n (l.flatMap enc)) (hn : n = l.length) : FRow enc T k B (.slice (some ⟨g, 0, none⟩) n cap) l w := by
  subst hn
  exact ⟨⟨g, cap, rfl⟩, h⟩
theorem info3 {P : Program} {t : TypeId} {z : Value} {n b : Nat} (h : (P.info? t).map (fun i => (i.zero, i.size, i.bytes)) = some (some z, n, b)) : ∃ i, P.info? t = some i ∧ i.zero = some z ∧ i.size = n ∧ i.bytes = b := by
  cases hi : P.info? t with
  | none => rw [hi] at h; cases h
  | some i =>
    rw [hi] at h
    simp only [Option.map_some, Option.some.injEq, Prod.mk.injEq] at h
    exact ⟨i, rfl, h.1, h.2.1, h.2.2⟩
end frow

end Go.Proofs.YtoojimfimlpplaaGreatDoor

set_option linter.unusedVariables false
namespace Go.Proofs.YtoojimfimlpplaaGreatDoor
open Go.RowKit

section
variable {P : Program} {w : World}
theorem run_append_any (t ty : TypeId) (base : Nat) (e : TypeId) (i : TypeInfo) (z : Value) (size bytes : Nat) (ht : P.underlying t = some (.slice e)) (hi : P.info? e = some i) (hz : i.zero = some z)
    (hsize : i.size = size) (hby : i.bytes = bytes) (hzs : z.cells.size = size) (hsz : 0 < size)
    (g0 c0 n : Nat) (xs : List Value) (hown : w.ownsRow base e size (.slice (some ⟨g0, 0, none⟩) n c0) n xs)
    (ad : Addr) (m c : Nat) (news : List Value) (hl : news.length = m * size) (hnews : ∀ j u, news[j]? = some u → w.cell? (ad.add j) = some u) (h1 : ∀ u ∈ news, u.oneCell' = true)
    (h63 : n + m ≤ maxLen) (hbytes : (n + m) * bytes ≤ 140737488355328) (hbase : base ≤ w.heap.size) :
    ∃ g cap w', (Builtin.append_ #[t, t] ty #[.slice (some ⟨g0, 0, none⟩) n c0, .slice (some ad) m c]).run P w = .ok (.slice (some ⟨g, 0, none⟩) (n + m) cap) w' ∧
      w'.ownsRow base e size (.slice (some ⟨g, 0, none⟩) (n + m) cap) (n + m) (xs ++ news) ∧ w.grownBy w' (some g0) ∧ (g0 = g ∨ g = w.heap.size) ∧ g < w'.heap.size := by
  obtain ⟨v', w', hr, h2, h3, _, h5⟩ := run_append_own_at (P := P) w base t ty e i z size bytes ht hi hz hsize hby hzs hsz (.slice (some ⟨g0, 0, none⟩) n c0) n xs hown ad m c news hl hnews h1 h63 hbytes hbase
  rcases h2.2 with ⟨h6, _⟩ | ⟨g, cap, cur, hv, hB, hg, _⟩
  · rw [h6] at h5
    rcases h5 with h5 | h5 <;> simp [Value.ownBlock] at h5
  · subst hv
    refine ⟨g, cap, w', hr, h2, h3, ?_, ?_⟩
    · rcases h5 with h5 | h5
      · left
        have : g = g0 := by simpa [Value.ownBlock] using h5
        exact this.symm
      · right
        simpa [Value.ownBlock] using h5
    · rcases Nat.lt_or_ge g w'.heap.size with h' | h'
      · exact h'
      · simp [Array.getElem?_eq_none h'] at hg
theorem step_append_any {ops : Array Oper} {o : Oper} {a : Act} {K : Act → World → Prop} {Q : Exit → Act → World → Prop} {E : Prop} (hgd : o.guard = none) (s x : Operand) (t : TypeId)
    (ho : o.op = .call { callee := .builtin .append, args := #[s, x], argTypes := #[t, t] })
    (base : Nat) (e : TypeId) (i : TypeInfo) (z : Value) (size bytes : Nat) (ht : P.underlying t = some (.slice e)) (hi : P.info? e = some i) (hz : i.zero = some z)
    (hsize : i.size = size) (hby : i.bytes = bytes) (hzs : z.cells.size = size) (hsz : 0 < size)
    (g0 c0 n : Nat) (xs : List Value) (hs : a.eval s = .slice (some ⟨g0, 0, none⟩) n c0) (hown : w.ownsRow base e size (.slice (some ⟨g0, 0, none⟩) n c0) n xs)
    (ad : Addr) (m c : Nat) (news : List Value) (hx : a.eval x = .slice (some ad) m c) (hl : news.length = m * size) (hnews : ∀ j u, news[j]? = some u → w.cell? (ad.add j) = some u) (h1 : ∀ u ∈ news, u.oneCell' = true)
    (h63 : n + m ≤ maxLen) (hbytes : (n + m) * bytes ≤ 140737488355328) (hbase : base ≤ w.heap.size)
    (h : ∀ g cap w', w'.ownsRow base e size (.slice (some ⟨g, 0, none⟩) (n + m) cap) (n + m) (xs ++ news) → w.grownBy w' (some g0) → Hid (g0 = g ∨ g = w.heap.size) → Hid (g < w'.heap.size) → K (a.put o.dst (.slice (some ⟨g, 0, none⟩) (n + m) cap)) w') :
    if Region.wanted o (yielded ops a.tmps) = true then Oper.wp P o a w K Q else E := by
  have hw : Region.wanted o (yielded ops a.tmps) = true := by simp [Region.wanted, hgd]
  rw [if_pos hw]
  obtain ⟨g, cap, w', hr, h2, h3, h4, h5⟩ := run_append_any (P := P) (w := w) t o.type base e i z size bytes ht hi hz hsize hby hzs hsz g0 c0 n xs hown ad m c news hl hnews h1 h63 hbytes hbase
  unfold Oper.wp execOp
  simp only [ho, resolve, invoke, builtin, Sem.run_bind, Sem.run_pure, Result.andThen_ok, List.map_toArray, List.map_cons, List.map_nil, hs, hx, hr]
  exact h g cap w' h2 h3 h4 h5
end

end Go.Proofs.YtoojimfimlpplaaGreatDoor

set_option linter.unusedVariables false
namespace Go.Proofs.YtoojimfimlpplaaGreatDoor
open Go.RowKit Go.Deep

/-- Peaks, the last first, with one more. -/
def addR : List PeakV → PeakV → List PeakV
  | [], p => [p]
  | q :: r, p => if q.count = p.count then addR r (bothP q p) else p :: q :: r
def addP (ps : List PeakV) (p : PeakV) : List PeakV := (addR ps.reverse p).reverse
theorem addP_nil (p : PeakV) : addP [] p = [p] := rfl
theorem addP_yes {ps : List PeakV} {q p : PeakV} (h : q.count = p.count) : addP (ps ++ [q]) p = addP ps (bothP q p) := by simp [addP, addR, h]
theorem addP_no {ps : List PeakV} {q p : PeakV} (h : ¬ q.count = p.count) : addP (ps ++ [q]) p = ps ++ [q] ++ [p] := by simp [addP, addR, h]
theorem take_one {ps : List PeakV} {m : Nat} (h : m < ps.length) : ps.take (m + 1) = ps.take m ++ [ps.getD m default] := by
  rw [List.take_add_one, List.getElem?_eq_getElem h]
  simp [List.getElem?_eq_getElem h]
/-- A peak that is ok, and not too many heads in it and ahead of it. -/
structure Room (ps : List PeakV) (m : Nat) (q : PeakV) : Prop where
  ok : peakOkB q = true
  few : q.count + cntTo ps m ≤ 21
theorem cnt_pos {ps : List PeakV} (h : ∀ i, i < ps.length → peakOkB (ps.getD i default) = true) : ∀ m, m ≤ ps.length → 0 ≤ cntTo ps m
  | 0, _ => Int.le_refl _
  | m + 1, hm => by
    have := cnt_pos h m (by omega)
    have := peakOk_in (h m (by omega))
    rw [cntTo]
    omega
theorem Room.step {ps : List PeakV} {m : Nat} {q : PeakV} (hk : ∀ i, i < ps.length → peakOkB (ps.getD i default) = true) (hm : m < ps.length) (h : Room ps (m + 1) q) (he : (ps.getD m default).count = q.count) : Room ps m (bothP (ps.getD m default) q) := by
  have h1 := peakOk_in (hk m hm)
  have h2 := peakOk_in h.ok
  have h3 := h.few
  have h4 := cnt_pos hk m (by omega)
  rw [cntTo] at h3
  refine ⟨?_, ?_⟩
  · have hs := isSum_both (ps.getD m default) q
    simp only [peakOkB, hs, Bool.true_and, Bool.and_eq_true, decide_eq_true_eq]
    show (1 ≤ (ps.getD m default).count + q.count ∧ (ps.getD m default).count + q.count ≤ 20) ∧ (ps.getD m default).count + q.count ≤ (ps.getD m default).work + q.work ∧ (ps.getD m default).work + q.work ≤ ((ps.getD m default).count + q.count) * 8
    omega
  · show (ps.getD m default).count + q.count + cntTo ps m ≤ 21
    omega
abbrev PRow (B : Nat) (v : Value) (l : List PeakV) (w : World) : Prop := FRow pEnc 31 3 B v l w
theorem pEnc_one (p : PeakV) : ∀ u ∈ pEnc p, u.oneCell' = true := by
  intro u hu
  simp only [pEnc, List.mem_cons, List.not_mem_nil, or_false] at hu
  rcases hu with rfl | rfl | rfl <;> rfl
theorem pEncs_one (l : List PeakV) : ∀ u ∈ l.flatMap pEnc, u.oneCell' = true := by
  intro u hu
  obtain ⟨p, _, hp⟩ := List.mem_flatMap.1 hu
  exact pEnc_one p u hp
section
variable {P : Program} {w : World}
theorem wpList_append_any {ops : Array Oper} {rest : List Oper} {o : Oper} {a : Act} {Q : Exit → Act → World → Prop} (hgd : o.guard = none) (s x : Operand) (t : TypeId)
    (ho : o.op = .call { callee := .builtin .append, args := #[s, x], argTypes := #[t, t] })
    (base : Nat) (e : TypeId) (i : TypeInfo) (z : Value) (size bytes : Nat) (ht : P.underlying t = some (.slice e)) (hi : P.info? e = some i) (hz : i.zero = some z)
    (hsize : i.size = size) (hby : i.bytes = bytes) (hzs : z.cells.size = size) (hsz : 0 < size)
    (g0 c0 n : Nat) (xs : List Value) (hs : a.eval s = .slice (some ⟨g0, 0, none⟩) n c0) (hown : w.ownsRow base e size (.slice (some ⟨g0, 0, none⟩) n c0) n xs)
    (ad : Addr) (m c : Nat) (news : List Value) (hx : a.eval x = .slice (some ad) m c) (hl : news.length = m * size) (hnews : ∀ j u, news[j]? = some u → w.cell? (ad.add j) = some u) (h1 : ∀ u ∈ news, u.oneCell' = true)
    (h63 : n + m ≤ maxLen) (hbytes : (n + m) * bytes ≤ 140737488355328) (hbase : base ≤ w.heap.size)
    (h : ∀ g cap w', w'.ownsRow base e size (.slice (some ⟨g, 0, none⟩) (n + m) cap) (n + m) (xs ++ news) → w.grownBy w' (some g0) → Hid (g0 = g ∨ g = w.heap.size) → Hid (g < w'.heap.size) → wpList P ops Q rest (a.put o.dst (.slice (some ⟨g, 0, none⟩) (n + m) cap)) w') : wpList P ops Q (o :: rest) a w := by
  refine wpList_plain hgd fun _ hK => ?_
  obtain ⟨g, cap, w', hr, h2, h3, h4, h5⟩ := run_append_any (P := P) (w := w) t o.type base e i z size bytes ht hi hz hsize hby hzs hsz g0 c0 n xs hown ad m c news hl hnews h1 h63 hbytes hbase
  unfold Oper.wp execOp
  simp only [ho, resolve, invoke, builtin, Sem.run_bind, Sem.run_pure, Result.andThen_ok, List.map_toArray, List.map_cons, List.map_nil, hs, hx, hr]
  exact hK _ _ (h g cap w' h2 h3 h4 h5)
end

end Go.Proofs.YtoojimfimlpplaaGreatDoor

set_option linter.unusedVariables false
namespace Go.Proofs.YtoojimfimlpplaaGreatDoor
open Go.RowKit Go.Deep

theorem add0 (g j : Nat) : (⟨g, 0, none⟩ : Addr).add j = ⟨g, j, none⟩ := by unfold Addr.add; split <;> simp_all
theorem drewAlloc (w : World) (o : Obj) : (w.alloc o).drew = w.drew.alloc o := rfl
def sliceLen : Value → Nat
  | .slice _ n _ => n
  | _ => 0

set_option maxHeartbeats 8000000 in
set_option maxRecDepth 100000 in
theorem specL5Add (g n cap : Nat) (ps : List PeakV) (p : PeakV) (w : World) (h : AtP w g ps) (hn : n = ps.length) (hm : n ≤ 1048576) (hk : ∀ i, i < ps.length → peakOkB (ps.getD i default) = true) (hr : Room ps n p) :
    Calls Tryz.prog 53 #[.slice (some ⟨g, 0, none⟩) n cap, peakVal p] w fun e w' => ∃ v, e = .returned v ∧ PRow w.heap.size v (addP ps p) w' ∧ Below w.heap.size w w' := by
  obtain ⟨i0, hi, hz0, hz1, hz2⟩ := info3 infoPeak
  have HA : Hid (AtP w g ps) := h
  have HN : Hid (n = ps.length) := hn
  have HKP : Hid (∀ i, i < ps.length → peakOkB (ps.getD i default) = true) := hk
  have HR0 : Hid (Room ps n p) := hr
  have HAD : Hid (addP (ps.take n) p = addP ps p) := by show _ = _; rw [hn, List.take_length]
  generalize addP ps p = A at HAD ⊢
  unfold peakVal
  have C0 : Hid (CBk ((w.alloc (.cells #[.string p.sum, .int .i64 p.work, .int .i64 p.count] 31)).alloc (.cells #[] 31)) w.heap.size 31 #[.string p.sum, .int .i64 p.work, .int .i64 p.count]) := (CBk.new w _ _).alloc _
  have L0 : Hid (Below w.heap.size w ((w.alloc (.cells #[.string p.sum, .int .i64 p.work, .int .i64 p.count] 31)).alloc (.cells #[] 31))) := ((Below.refl _ w).alloc (Nat.le_refl _) _).alloc (by simp) _
  have R0 : Hid (((w.alloc (.cells #[.string p.sum, .int .i64 p.work, .int .i64 p.count] 31)).alloc (.cells #[] 31)).ownsRow (w.heap.size + 1) 31 3 (.slice (some ⟨w.heap.size + 1, 0, none⟩) 0 0) 0 []) := by
    have := (frow_new pEnc 31 3 (w.alloc (.cells #[.string p.sum, .int .i64 p.work, .int .i64 p.count] 31))).2
    rwa [show (w.alloc (.cells #[.string p.sum, .int .i64 p.work, .int .i64 p.count] 31)).heap.size = w.heap.size + 1 from by simp] at this
  have HZ : Hid (((w.alloc (.cells #[.string p.sum, .int .i64 p.work, .int .i64 p.count] 31)).alloc (.cells #[] 31)).heap.size = w.heap.size + 2) := by show _ = _; simp
  have HU : Hid (∀ u ∈ ps.flatMap pEnc, u.oneCell' = true) := pEncs_one ps
  have HNW : Hid (∀ wx, Below w.heap.size w wx → ∀ j u, (ps.flatMap pEnc)[j]? = some u → wx.cell? ((⟨g, 0, none⟩ : Addr).add j) = some u) := by
    intro wx hb j u hj
    have hat := HA.out.below hb HA.out.1
    have hjl : j < (ps.flatMap pEnc).length := by
      rcases Nat.lt_or_ge j (ps.flatMap pEnc).length with h' | h'
      · exact h'
      · rw [List.getElem?_eq_none h'] at hj; cases hj
    rw [flat_length 3 pEnc pEnc_len] at hjl
    have hq : j = j / 3 * 3 + j % 3 := by omega
    have hi3 : j / 3 < ps.length := by omega
    have h3 := hat.2 (j / 3) (j % 3) hi3 (Nat.mod_lt _ (by decide))
    have hf := flat_at 3 pEnc pEnc_len ps (j / 3) (j % 3) hi3 (Nat.mod_lt _ (by decide))
    rw [← hq] at h3 hf
    rw [add0, h3, ← hf]
    exact hj
  have HPL : Hid ((ps.flatMap pEnc).length = n * 3) := by show _ = _; rw [flat_length 3 pEnc pEnc_len, hn]
  clear h hn hk hr
  have hy1 : 0 + n ≤ maxLen := by unfold maxLen; omega
  have hy2 : (0 + n) * 32 ≤ 140737488355328 := by omega
  go_enter Tryz.func53, Tryz.ntmps53
  have hzz : w.heap.size + 1 ≤ ((w.alloc (.cells #[.string p.sum, .int .i64 p.work, .int .i64 p.count] 31)).alloc (.cells #[] 31)).heap.size := by have := HZ.out; omega
  obtain ⟨g3, hg3⟩ : ∃ g3, g3 = w.heap.size := ⟨_, rfl⟩
  have HG3 : Hid (g3 = w.heap.size) := hg3
  go_wp2_with (at_builtin; refine wpList_append_any rfl _ _ 26 rfl (w.heap.size + 1) 31 i0 (.agg #[.string ⟨#[]⟩, .int .i64 0, .int .i64 0]) 3 32 Tryz.underlying26 hi hz0 hz1 hz2 rfl (by decide) (w.heap.size + 1) 0 0 [] (by rfl) R0.out ⟨g, 0, none⟩ n cap (ps.flatMap pEnc) (by rfl) HPL.out (HNW.out _ L0.out) HU.out hy1 hy2 hzz ?_; intro g5 c5 w1 hown1 hgrow1 hat1 hlt1)
  have C1 : Hid (CBk w1 g3 31 #[.string p.sum, .int .i64 p.work, .int .i64 p.count]) := by
    have := C0.out
    rw [← hg3] at this
    unfold CBk at this ⊢
    rw [hgrow1.block g3 (by have := HZ.out; omega) (by simp; omega)]
    exact this
  have B1 : Hid (Below w.heap.size w w1) := L0.out.grown hgrow1 (by have := HZ.out; omega) (fun j hj => by cases hj; omega)
  have RW1 : Hid (w1.ownsRow (w.heap.size + 1) 31 3 (.slice (some ⟨g5, 0, none⟩) n c5) n ((ps.take n).flatMap pEnc)) := by
    have e : ps.take n = ps := by rw [HN.out, List.take_length]
    rw [Nat.zero_add, List.nil_append] at hown1
    show World.ownsRow _ _ _ _ _ _ _
    rw [e]
    exact hown1
  rw [← hg3]
  clear hown1 hgrow1 hat1 hlt1 C0 L0 R0 HZ hzz hy1 hy2 HNW HU HPL
  clear hg3
  go_wp2_with fail
  go_loopw [5] (fun out wr => ∃ (m g5 c5 : Nat) (q : PeakV), m ≤ n ∧ out = .slice (some ⟨g5, 0, none⟩) m c5 ∧ Hid (wr.ownsRow (w.heap.size + 1) 31 3 (.slice (some ⟨g5, 0, none⟩) m c5) m ((ps.take m).flatMap pEnc)) ∧ Hid (CBk wr g3 31 #[.string q.sum, .int .i64 q.work, .int .i64 q.count]) ∧ Hid (addP (ps.take m) q = A) ∧ Hid (Room ps m q) ∧ Hid (Below w.heap.size w wr)) (fun out _ => sliceLen out)
  case atStart => exact ⟨n, g5, c5, p, Nat.le_refl _, rfl, RW1, C1, HAD, HR0, B1⟩
  case round =>
    clear RW1 C1 HAD HR0 B1
    obtain ⟨m, g5, c5, q, hmn, rfl, RW, CR, HAD, HRM, HB⟩ := hrel
    obtain ⟨d0, d1, d2⟩ := CR.out.cells3
    cases m with
    | zero =>
      have hd0 : decide ((0 : Int) < ((0 : Nat) : Int)) = false := by decide
      have hd1 : ((0 : Nat) : Int) = 0 := rfl
      have HRV : Hid (A = ps.take 0 ++ [q]) := by show _ = _; rw [← HAD.out, List.take_zero, addP_nil]; rfl
      go_wp2_with fail
      go_big_region
      obtain ⟨d0, d1, d2⟩ := CR.out.cells3
      have hx1 : 0 + 1 ≤ maxLen := by unfold maxLen; omega
      have hx2 : (0 + 1) * 32 ≤ 140737488355328 := by omega
      have hu := pEnc_one q
      have hsz : w.heap.size + 1 ≤ wr.heap.size := by have := CR.out.lt; have := HG3.out; omega
      have HRW : Hid (wr.drew.ownsRow (w.heap.size + 1) 31 3 (.slice (some ⟨g5, 0, none⟩) (0) c5) (0) ((ps.take (0)).flatMap pEnc)) := RW.out
      go_wp2_with (at_builtin; rw [drewAlloc]; refine wp_appN rfl _ _ 26 rfl (w.heap.size + 1) 31 i0 (.agg #[.string ⟨#[]⟩, .int .i64 0, .int .i64 0]) 3 32 1 Tryz.underlying26 hi hz0 hz1 hz2 rfl (by decide) (by decide) (.slice (some ⟨g5, 0, none⟩) (0) c5) (0) _ rfl HRW.out (pEnc q) (by first | rfl | simp [Act.eval]) rfl hu hx1 hx2 hsz ?_; intro g6 c6 w6 hown6 hb6 hkeep6)
      have R6 : Hid (PRow w.heap.size (.slice (some ⟨g6, 0, none⟩) (0 + 1) c6) A w6) := by
        have hv : A = ps.take (0) ++ [q] := HRV.out
        have hl : (ps.take (0)).length = 0 := by rw [List.length_take]; have := HN.out; omega
        have : PRow (w.heap.size + 1) (.slice (some ⟨g6, 0, none⟩) (0 + 1) c6) (ps.take (0) ++ [q]) w6 := FRow.of (by rw [List.flatMap_append]; simpa using hown6) (by rw [List.length_append, hl]; rfl)
        rw [hv]
        exact this.mono (Nat.le_succ _)
      have B6 : Hid (Below w.heap.size w w6) := HB.out.drew.trans (hb6.mono (Nat.le_succ _))
      clear hown6 hb6 hkeep6
      go_wp2_with fail
      go_ret
      exact ⟨_, rfl, R6.out, B6.out⟩
    | succ m =>
      have hml : m < ps.length := by rw [← HN.out]; omega
      have HRO : Hid (PRow (w.heap.size + 1) (.slice (some ⟨g5, 0, none⟩) (m + 1) c5) (ps.take (m + 1)) wr) := FRow.of RW.out (by rw [List.length_take]; omega)
      have hat := (FRow.at pEnc_len HRO.out).1
      have hlen : m < (ps.take (m + 1)).length := by rw [List.length_take]; omega
      have q0 := AtP.c0 hat m hlen
      have q1 := AtP.c1 hat m hlen
      have q2 := AtP.c2 hat m hlen
      have hgt : (ps.take (m + 1)).getD m default = ps.getD m default := by simp
      rw [hgt] at q0 q1 q2
      have HGE : Hid (w.heap.size + 1 ≤ g5 ∧ g5 < wr.heap.size) := ⟨(FRow.at pEnc_len HRO.out).2.2.1, hat.1⟩
      have HCC : Hid (m + 1 ≤ c5) := (FRow.at pEnc_len HRO.out).2.2.2
      have HKM : Hid (peakOkB (ps.getD m default) = true) := HKP.out m hml
      have HS : Hid ((ps.getD m default).count = q.count → Room ps m (bothP (ps.getD m default) q)) := fun he => HRM.out.step HKP.out hml he
      have HYES : Hid ((ps.getD m default).count = q.count → addP (ps.take m) (bothP (ps.getD m default) q) = A) := fun he => by
        rw [← HAD.out, take_one hml, addP_yes he]
      have HNO : Hid (¬ (ps.getD m default).count = q.count → A = ps.take (m + 1) ++ [q]) := fun he => by
        rw [← HAD.out, take_one hml, addP_no he]
      have hd0 : decide ((0 : Int) < ((m + 1 : Nat) : Int)) = true := decide_eq_true (by omega)
      have hd2 : (0 : Int) < ((m + 1 : Nat) : Int) := by omega
      have hw1 : IntKind.i64.wrap (((m + 1 : Nat) : Int) - 1) = (m : Int) := by rw [IntKind.wrap_i64]; omega
      have lm0 : (0 : Int) ≤ (m : Int) := by omega
      have lm1 : (m : Int) < ((m + 1 : Nat) : Int) := by omega
      obtain ⟨M, hM⟩ : ∃ M, M = m + 1 := ⟨_, rfl⟩
      have HM : Hid (M = m + 1) := hM
      rw [← hM] at hd0 hd2 hw1 lm1 ⊢
      rw [← hM] at HRO RW HNO HCC hmn
      have HTK : Hid (ps.take M = ps.take m ++ [ps.getD m default]) := by show _ = _; rw [hM, take_one hml]
      have hdN : decide (0 < M) = true := decide_eq_true (by omega)
      have hdN2 : 0 < M := by omega
      clear hM hat hlen hgt hml HAD
      generalize ps.getD m default = t at q0 q1 q2 HKM HS HYES HNO HTK
      by_cases he : t.count = q.count
      · have heb : (t.count == q.count) = true := by simpa using he
        have HRM2 : Hid (Room ps m (bothP t q)) := HS.out he
        have HAD2 : Hid (addP (ps.take m) (bothP t q) = A) := HYES.out he
        have hp1 := fun w' => specL5Both t q w' HKM.out HRM.out.ok
        unfold peakVal at hp1
        have lmc : (m : Int) ≤ (c5 : Int) := by have := HCC.out; have := HM.out; omega
        have hc0 : ¬ c5 = 0 := by have := HCC.out; have := HM.out; omega
        clear HS HYES HNO he
        go_wp2_with fail
        go_big_region
        go_wp2_with fail
        go_region_with (go_at_call 74; refine (hp1 _).mono ?_; rintro e w5 ⟨rfl, b5⟩; have C5 : Hid (CBk w5 g3 31 #[.string q.sum, .int .i64 q.work, .int .i64 q.count]) := CBk.call (w := wr.drew.drew) CR.out b5; obtain ⟨m0, m1, m2⟩ := C5.out.cells3; obtain ⟨f0, f1, f2⟩ := C5.out.free3)
        all_goals
          have C6 : Hid (CBk (((w5.setCell ⟨g3, 0, none⟩ (.string (bothP t q).sum)).setCell ⟨g3, 1, none⟩ (.int .i64 (bothP t q).work)).setCell ⟨g3, 2, none⟩ (.int .i64 (bothP t q).count)) g3 31 #[.string (bothP t q).sum, .int .i64 (bothP t q).work, .int .i64 (bothP t q).count]) := C5.out.set3
          have B6 : Hid (Below w.heap.size w (((w5.setCell ⟨g3, 0, none⟩ (.string (bothP t q).sum)).setCell ⟨g3, 1, none⟩ (.int .i64 (bothP t q).work)).setCell ⟨g3, 2, none⟩ (.int .i64 (bothP t q).count))) := by
            have e4 := HG3.out
            exact (((HB.out.drew.drew.trans (Below.mono (w := wr.drew.drew) b5 HB.out.size)).setCell (p := ⟨g3, 0, none⟩) (by show w.heap.size ≤ g3; omega) _).setCell (p := ⟨g3, 1, none⟩) (by show w.heap.size ≤ g3; omega) _).setCell (p := ⟨g3, 2, none⟩) (by show w.heap.size ≤ g3; omega) _
          have R6 : Hid ((((w5.setCell ⟨g3, 0, none⟩ (.string (bothP t q).sum)).setCell ⟨g3, 1, none⟩ (.int .i64 (bothP t q).work)).setCell ⟨g3, 2, none⟩ (.int .i64 (bothP t q).count)).ownsRow (w.heap.size + 1) 31 3 (.slice (some ⟨g5, 0, none⟩) m c5) m ((ps.take m).flatMap pEnc)) := by
            have hl : ((ps.take m).flatMap pEnc).length = m * 3 := by
              rw [flat_length 3 pEnc pEnc_len, List.length_take]
              have := HN.out
              have := HM.out
              omega
            have h5 : w5.ownsRow (w.heap.size + 1) 31 3 (.slice (some ⟨g5, 0, none⟩) (m + 1) c5) (m + 1) ((ps.take m).flatMap pEnc ++ pEnc t) := by
              have := (FRow.below (w := wr.drew.drew) HRO.out (w' := w5) b5).2
              rw [HTK.out, List.flatMap_append] at this
              have hmin : min m ps.length = m := by have := HN.out; have := HM.out; omega
              simpa [HM.out, List.length_take, hmin] using this
            have h6 := ownsRow_pop hl h5
            have hgg : ∀ (i : Nat) (v : Value) (wx : World), wx.ownsRow (w.heap.size + 1) 31 3 (.slice (some ⟨g5, 0, none⟩) m c5) m ((ps.take m).flatMap pEnc) → (wx.setCell ⟨g3, i, none⟩ v).ownsRow (w.heap.size + 1) 31 3 (.slice (some ⟨g5, 0, none⟩) m c5) m ((ps.take m).flatMap pEnc) := by
              intro i v wx hx
              obtain ⟨h1, h2⟩ := hx
              refine ⟨h1, ?_⟩
              rcases h2 with h3 | ⟨g', cap', cur, hv, hB, hg, h4⟩
              · exact .inl h3
              · refine .inr ⟨g', cap', cur, hv, hB, ?_, h4⟩
                have : g3 ≠ g' := by have := HG3.out; omega
                simp [World.setCell, Array.getElem?_modify, hg, this]
            exact hgg _ _ _ (hgg _ _ _ (hgg _ _ _ h6))
          generalize bothP t q = nq at C6 B6 R6 HRM2 HAD2
          clear C5 b5 m0 m1 m2 f0 f1 f2
          go_wp2_with fail
          go_roundw
          case rel => exact ⟨m, g5, c5, nq, by have := HM.out; omega, rfl, R6, C6, HAD2, HRM2, B6⟩
          case measure => have := HM.out; simp [sliceLen]; omega
      · have heb : (t.count == q.count) = false := by simpa using he
        have HRV : Hid (A = ps.take M ++ [q]) := HNO.out he
        have hMm : M ≤ 1048576 := by omega
        clear HS HYES HNO
        go_wp2_with fail
        go_big_region
        obtain ⟨d0, d1, d2⟩ := CR.out.cells3
        have hx1 : M + 1 ≤ maxLen := by unfold maxLen; omega
        have hx2 : (M + 1) * 32 ≤ 140737488355328 := by omega
        have hu := pEnc_one q
        have hsz : w.heap.size + 1 ≤ wr.heap.size := by have := CR.out.lt; have := HG3.out; omega
        have HRW : Hid (wr.drew.ownsRow (w.heap.size + 1) 31 3 (.slice (some ⟨g5, 0, none⟩) (M) c5) (M) ((ps.take (M)).flatMap pEnc)) := RW.out
        go_wp2_with (at_builtin; rw [drewAlloc]; refine wp_appN rfl _ _ 26 rfl (w.heap.size + 1) 31 i0 (.agg #[.string ⟨#[]⟩, .int .i64 0, .int .i64 0]) 3 32 1 Tryz.underlying26 hi hz0 hz1 hz2 rfl (by decide) (by decide) (.slice (some ⟨g5, 0, none⟩) (M) c5) (M) _ rfl HRW.out (pEnc q) (by first | rfl | simp [Act.eval]) rfl hu hx1 hx2 hsz ?_; intro g6 c6 w6 hown6 hb6 hkeep6)
        have R6 : Hid (PRow w.heap.size (.slice (some ⟨g6, 0, none⟩) (M + 1) c6) A w6) := by
          have hv : A = ps.take (M) ++ [q] := HRV.out
          have hl : (ps.take (M)).length = M := by rw [List.length_take]; have := HN.out; omega
          have : PRow (w.heap.size + 1) (.slice (some ⟨g6, 0, none⟩) (M + 1) c6) (ps.take (M) ++ [q]) w6 := FRow.of (by rw [List.flatMap_append]; simpa using hown6) (by rw [List.length_append, hl]; rfl)
          rw [hv]
          exact this.mono (Nat.le_succ _)
        have B6 : Hid (Below w.heap.size w w6) := HB.out.drew.trans (hb6.mono (Nat.le_succ _))
        clear hown6 hb6 hkeep6
        go_wp2_with fail
        go_ret
        exact ⟨_, rfl, R6.out, B6.out⟩

end Go.Proofs.YtoojimfimlpplaaGreatDoor

set_option linter.unusedVariables false
namespace Go.Proofs.YtoojimfimlpplaaGreatDoor
open Go.RowKit Go.Deep

theorem addR_all {C : PeakV → Prop} (hb : ∀ a b, C (bothP a b)) : ∀ (r : List PeakV) (p : PeakV), (∀ q ∈ r, C q) → C p → ∀ q ∈ addR r p, C q
  | [], p, _, hp, q, hq => by rw [List.mem_singleton.1 hq]; exact hp
  | x :: r, p, hr, hp, q, hq => by
    unfold addR at hq
    split at hq
    · exact addR_all hb r _ (fun y hy => hr y (List.mem_cons_of_mem _ hy)) (hb _ _) q hq
    · rcases List.mem_cons.1 hq with rfl | h2
      · exact hp
      · exact hr q h2
theorem addP_all {C : PeakV → Prop} (hb : ∀ a b, C (bothP a b)) {ps : List PeakV} {p : PeakV} (hr : ∀ q ∈ ps, C q) (hp : C p) : ∀ q ∈ addP ps p, C q := by
  intro q hq
  exact addR_all hb ps.reverse p (fun y hy => hr y (List.mem_reverse.1 hy)) hp q (List.mem_reverse.1 hq)
theorem addR_len : ∀ (r : List PeakV) (p : PeakV), (addR r p).length ≤ r.length + 1
  | [], p => by simp [addR]
  | x :: r, p => by
    unfold addR
    split
    · have := addR_len r (bothP x p)
      simp
      omega
    · simp
theorem addP_len (ps : List PeakV) (p : PeakV) : (addP ps p).length ≤ ps.length + 1 := by
  have := addR_len ps.reverse p
  simpa [addP] using this
theorem getD_all {C : PeakV → Prop} {l : List PeakV} (h : ∀ q ∈ l, C q) (i : Nat) (hi : i < l.length) : C (l.getD i default) := by
  rw [List.getD_eq_getElem?_getD, List.getElem?_eq_getElem hi]
  exact h _ (List.getElem_mem hi)

theorem peaks_ok {ps : List PeakV} (h : rangeOkB ps = true) (i : Nat) (hi : i < ps.length) : peakOkB (ps.getD i default) = true := by
  rw [rangeOkB, Bool.and_eq_true, List.all_eq_true] at h
  have := h.1 i (List.mem_range.2 hi)
  simp only [stepOk, Bool.and_eq_true] at this
  exact this.1
theorem range_cnt {ps : List PeakV} (h : rangeOkB ps = true) : cntTo ps ps.length ≤ 20 := by
  rw [rangeOkB, Bool.and_eq_true, decide_eq_true_eq] at h
  exact h.2

theorem newsPeaks {w wx : World} {g : Nat} {ps : List PeakV} (hA : AtP w g ps) (hb : Below w.heap.size w wx) : ∀ j u, (ps.flatMap pEnc)[j]? = some u → wx.cell? ((⟨g, 0, none⟩ : Addr).add j) = some u := by
  intro j u hj
  have hat := hA.below hb hA.1
  have hjl : j < (ps.flatMap pEnc).length := by
    rcases Nat.lt_or_ge j (ps.flatMap pEnc).length with h' | h'
    · exact h'
    · rw [List.getElem?_eq_none h'] at hj; cases hj
  rw [flat_length 3 pEnc pEnc_len] at hjl
  have hq : j = j / 3 * 3 + j % 3 := by omega
  have hi3 : j / 3 < ps.length := by omega
  have h3 := hat.2 (j / 3) (j % 3) hi3 (Nat.mod_lt _ (by decide))
  have hf := flat_at 3 pEnc pEnc_len ps (j / 3) (j % 3) hi3 (Nat.mod_lt _ (by decide))
  rw [← hq] at h3 hf
  rw [add0, h3, ← hf]
  exact hj

def AddPost (B : Nat) (ps : List PeakV) (h : HeadV) (e : Ending) (w' : World) : Prop :=
  ((rangeOkB ps && headOkB h) = false ∧ e = .returned (.tuple #[.slice none 0 0, .bool false])) ∨
  ((rangeOkB ps && headOkB h) = true ∧ ∃ v, e = .returned (.tuple #[v, .bool (rangeOkB (addP ps (leafP h)))]) ∧ PRow B v (if rangeOkB (addP ps (leafP h)) then addP ps (leafP h) else ps) w')

end Go.Proofs.YtoojimfimlpplaaGreatDoor

set_option linter.unusedVariables false
namespace Go.Proofs.YtoojimfimlpplaaGreatDoor
open Go.RowKit Go.Deep

def sumC : List PeakV → Int
  | [] => 0
  | p :: r => p.count + sumC r
theorem cnt_sum (ps : List PeakV) : ∀ k, k ≤ ps.length → cntTo ps k = sumC (ps.take k).reverse
  | 0, _ => by simp [cntTo, sumC]
  | k + 1, hk => by
    rw [cntTo, cnt_sum ps k (by omega), take_one (by omega), List.reverse_append]
    simp [sumC, Int.add_comm]
theorem cnt_all (ps : List PeakV) : cntTo ps ps.length = sumC ps.reverse := by
  rw [cnt_sum ps ps.length (Nat.le_refl _), List.take_length]
theorem addR_sum : ∀ (r : List PeakV) (p : PeakV), sumC (addR r p) = sumC r + p.count
  | [], p => by simp [addR, sumC]
  | x :: r, p => by
    unfold addR
    split
    · rw [addR_sum r (bothP x p)]
      simp only [sumC, bothP]
      omega
    · simp only [sumC]
      omega
theorem addP_cnt (ps : List PeakV) (p : PeakV) : cntTo (addP ps p) (addP ps p).length = cntTo ps ps.length + p.count := by
  rw [cnt_all, cnt_all, addP, List.reverse_reverse, addR_sum]
theorem sumC_pos : ∀ (r : List PeakV), (∀ q ∈ r, peakOkB q = true) → 0 ≤ sumC r
  | [], _ => Int.le_refl _
  | x :: r, h => by
    have h1 := peakOk_in (h x (List.mem_cons_self ..))
    have h2 := sumC_pos r (fun q hq => h q (List.mem_cons_of_mem _ hq))
    simp only [sumC]
    omega
theorem bothP_ok {a b : PeakV} (ha : peakOkB a = true) (hb : peakOkB b = true) (h : a.count + b.count ≤ 20) : peakOkB (bothP a b) = true := by
  have h1 := peakOk_in ha
  have h2 := peakOk_in hb
  have hs := isSum_both a b
  simp only [peakOkB, hs, Bool.true_and, Bool.and_eq_true, decide_eq_true_eq]
  show (1 ≤ a.count + b.count ∧ a.count + b.count ≤ 20) ∧ a.count + b.count ≤ a.work + b.work ∧ a.work + b.work ≤ (a.count + b.count) * 8
  omega
theorem addR_ok : ∀ (r : List PeakV) (p : PeakV), (∀ q ∈ r, peakOkB q = true) → peakOkB p = true → sumC r + p.count ≤ 20 → ∀ q ∈ addR r p, peakOkB q = true
  | [], p, _, hp, _, q, hq => by rw [List.mem_singleton.1 hq]; exact hp
  | x :: r, p, hr, hp, hs, q, hq => by
    have h1 := hr x (List.mem_cons_self ..)
    have h2 := fun y hy => hr y (List.mem_cons_of_mem _ hy)
    have h3 := sumC_pos r h2
    simp only [sumC] at hs
    unfold addR at hq
    split at hq
    · exact addR_ok r (bothP x p) h2 (bothP_ok h1 hp (by omega)) (by simp only [bothP]; omega) q hq
    · rcases List.mem_cons.1 hq with rfl | h4
      · exact hp
      · exact hr q h4
theorem addP_ok {ps : List PeakV} {p : PeakV} (hr : ∀ q ∈ ps, peakOkB q = true) (hp : peakOkB p = true) (h : cntTo ps ps.length + p.count ≤ 20) : ∀ q ∈ addP ps p, peakOkB q = true := by
  intro q hq
  rw [cnt_all] at h
  exact addR_ok ps.reverse p (fun y hy => hr y (List.mem_reverse.1 hy)) hp h q (List.mem_reverse.1 hq)

/-- The peaks of the first heads. -/
def ofP (l : List HeadV) : Nat → List PeakV
  | 0 => []
  | k + 1 => addP (ofP l k) (leafP (l.getD k default))
theorem ofP_ok {l : List HeadV} (h : ∀ i, i < l.length → headOkB (l.getD i default) = true) (hl : l.length ≤ 20) : ∀ k, k ≤ l.length → (∀ q ∈ ofP l k, peakOkB q = true) ∧ cntTo (ofP l k) (ofP l k).length = (k : Int) ∧ (ofP l k).length ≤ k
  | 0, _ => ⟨fun q hq => by simp [ofP] at hq, rfl, Nat.le_refl _⟩
  | k + 1, hk => by
    obtain ⟨h1, h2, h3⟩ := ofP_ok h hl k (by omega)
    have hp : peakOkB (leafP (l.getD k default)) = true := fine_ok (fine_leaf (h k (by omega))) (by show (1 : Int) ≤ 20; decide)
    have hc : (leafP (l.getD k default)).count = 1 := rfl
    refine ⟨addP_ok h1 hp (by rw [h2, hc]; omega), ?_, ?_⟩
    · show cntTo (addP _ _) (addP _ _).length = _
      rw [addP_cnt, h2, hc]
      omega
    · have := addP_len (ofP l k) (leafP (l.getD k default))
      show (addP _ _).length ≤ _
      omega

end Go.Proofs.YtoojimfimlpplaaGreatDoor

set_option linter.unusedVariables false
namespace Go.Proofs.YtoojimfimlpplaaGreatDoor
open Go.RowKit Go.Deep

/-- The peak of the 2^j leaves from a on. -/
def treeT (f : Nat → PeakV) (a : Nat) : Nat → PeakV
  | 0 => f a
  | j + 1 => bothP (treeT f a j) (treeT f (a + 2 ^ j) j)
/-- The steps beside the way of leaf a + x in it, the lowest first. -/
def sibT (f : Nat → PeakV) (a : Nat) : Nat → Nat → List PeakV
  | 0, _ => []
  | j + 1, x => if x < 2 ^ j then sibT f a j x ++ [treeT f (a + 2 ^ j) j] else sibT f (a + 2 ^ j) j (x - 2 ^ j) ++ [treeT f a j]
/-- The same, a row at a time: 2^k leaves a place. -/
def sibR (f : Nat → PeakV) (a k : Nat) : Nat → Nat → List PeakV
  | 0, _ => []
  | j + 1, x => treeT f (a + (x + 1 - x % 2 * 2) * 2 ^ k) k :: sibR f a (k + 1) j (x / 2)
theorem sibR_top (f : Nat → PeakV) : ∀ (j a k x : Nat), x < 2 ^ (j + 1) → sibR f a k (j + 1) x = if x < 2 ^ j then sibR f a k j x ++ [treeT f (a + 2 ^ (j + k)) (j + k)] else sibR f (a + 2 ^ (j + k)) k j (x - 2 ^ j) ++ [treeT f a (j + k)]
  | 0, a, k, x, hx => by
    have h2 : x = 0 ∨ x = 1 := by have : x < 2 := by simpa using hx
                                  omega
    rcases h2 with rfl | rfl <;> simp [sibR]
  | j + 1, a, k, x, hx => by
    have e2 : 2 ^ (j + 1 + 1) = 2 * 2 ^ (j + 1) := Nat.pow_succ'
    have e1 : 2 ^ (j + 1) = 2 * 2 ^ j := Nat.pow_succ'
    have ek : j + 1 + k = j + (k + 1) := by omega
    rw [sibR, sibR_top f j a (k + 1) (x / 2) (by omega), ek]
    by_cases h : x < 2 ^ (j + 1)
    · rw [if_pos h, if_pos (by omega), sibR]
      rfl
    · rw [if_neg h, if_neg (by omega), sibR]
      have e3 : (x - 2 ^ (j + 1)) / 2 = x / 2 - 2 ^ j := by omega
      have e4 : x + 1 - x % 2 * 2 = 2 ^ (j + 1) + (x - 2 ^ (j + 1) + 1 - (x - 2 ^ (j + 1)) % 2 * 2) := by omega
      have e5 : a + (2 ^ (j + 1) + (x - 2 ^ (j + 1) + 1 - (x - 2 ^ (j + 1)) % 2 * 2)) * 2 ^ k = a + 2 ^ (j + (k + 1)) + (x - 2 ^ (j + 1) + 1 - (x - 2 ^ (j + 1)) % 2 * 2) * 2 ^ k := by
        rw [Nat.add_mul, ← Nat.pow_add, ← Nat.add_assoc, show j + 1 + k = j + (k + 1) from ek]
      rw [e3, e4, e5]
      rfl
theorem sibR_eq (f : Nat → PeakV) : ∀ (j a x : Nat), x < 2 ^ j → sibR f a 0 j x = sibT f a j x
  | 0, _, _, _ => rfl
  | j + 1, a, x, hx => by
    have e1 : 2 ^ (j + 1) = 2 * 2 ^ j := Nat.pow_succ'
    rw [sibR_top f j a 0 x hx, sibT, Nat.add_zero]
    by_cases h : x < 2 ^ j
    · rw [if_pos h, if_pos h, sibR_eq f j a x h]
    · rw [if_neg h, if_neg h, sibR_eq f j _ _ (by omega)]

/-- A row of peaks becomes the row above it. -/
def upP : List PeakV → List PeakV
  | p :: q :: r => bothP p q :: upP r
  | _ => []
def treeS : Nat → List PeakV → Nat → List PeakV
  | 0, _, _ => []
  | j + 1, row, x => row.getD (x + 1 - x % 2 * 2) default :: treeS j (upP row) (x / 2)
/-- m places of 2^k leaves each, from a on. -/
def rowT (f : Nat → PeakV) (a k : Nat) : Nat → List PeakV
  | 0 => []
  | m + 1 => treeT f a k :: rowT f (a + 2 ^ k) k m
theorem rowT_len (f : Nat → PeakV) : ∀ (m a k : Nat), (rowT f a k m).length = m
  | 0, _, _ => rfl
  | m + 1, a, k => by rw [rowT, List.length_cons, rowT_len f m]
theorem rowT_at (f : Nat → PeakV) : ∀ (m a k i : Nat), i < m → (rowT f a k m).getD i default = treeT f (a + i * 2 ^ k) k
  | m + 1, a, k, 0, _ => by simp [rowT]
  | m + 1, a, k, i + 1, h => by
    have := rowT_at f m (a + 2 ^ k) k i (by omega)
    rw [rowT, List.getD_cons_succ, this, Nat.add_mul, Nat.one_mul]
    congr 1
    omega
theorem upP_row (f : Nat → PeakV) : ∀ (m a k : Nat), upP (rowT f a k (2 * m)) = rowT f a (k + 1) m
  | 0, _, _ => rfl
  | m + 1, a, k => by
    have e1 : 2 ^ (k + 1) = 2 ^ k + 2 ^ k := by rw [Nat.pow_succ']; omega
    rw [show 2 * (m + 1) = 2 * m + 1 + 1 from by omega, rowT, rowT, upP, rowT, upP_row f m, treeT, e1, Nat.add_assoc]
theorem treeS_eq (f : Nat → PeakV) : ∀ (j a k x : Nat), x < 2 ^ j → treeS j (rowT f a k (2 ^ j)) x = sibR f a k j x
  | 0, _, _, _, _ => rfl
  | j + 1, a, k, x, hx => by
    have e1 : 2 ^ (j + 1) = 2 * 2 ^ j := Nat.pow_succ'
    rw [treeS, sibR, rowT_at f _ a k _ (by omega), e1, upP_row, treeS_eq f j a (k + 1) (x / 2) (by omega)]
/-- The specification's steps are those of the halves. -/
theorem treeS_sib (f : Nat → PeakV) (j a x : Nat) (hx : x < 2 ^ j) : treeS j (rowT f a 0 (2 ^ j)) x = sibT f a j x := by
  rw [treeS_eq f j a 0 x hx, sibR_eq f j a x hx]
end Go.Proofs.YtoojimfimlpplaaGreatDoor

set_option linter.unusedVariables false
namespace Go.Proofs.YtoojimfimlpplaaGreatDoor
open Go.RowKit Go.Deep

/-- A peak, and whether the leaf that is proved is in it. -/
abbrev NodeV := PeakV × Bool
def bothN (a b : NodeV) : NodeV := (bothP a.1 b.1, a.2 || b.2)
def noteN (a b : NodeV) : List PeakV := (if a.2 = true then [b.1] else []) ++ (if b.2 = true then [a.1] else [])
/-- A node pushed, the last one first: the stack, and what is noted. -/
def addN : List NodeV → NodeV → List NodeV
  | [], p => [p]
  | q :: r, p => if q.1.count = p.1.count then addN r (bothN q p) else p :: q :: r
def noteR : List NodeV → NodeV → List PeakV
  | [], _ => []
  | q :: r, p => if q.1.count = p.1.count then noteN q p ++ noteR r (bothN q p) else []
/-- The stack behind m leaves, the last node first; the notes. -/
def stkN (f : Nat → PeakV) (x : Nat) : Nat → List NodeV
  | 0 => []
  | m + 1 => addN (stkN f x m) (f m, decide (m = x))
def notesN (f : Nat → PeakV) (x : Nat) : Nat → List PeakV
  | 0 => []
  | m + 1 => notesN f x m ++ noteR (stkN f x m) (f m, decide (m = x))

/-- A node as its place and its height say. -/
def nodeT (f : Nat → PeakV) (x : Nat) (s : Nat × Nat) : NodeV := (treeT f s.1 s.2, decide (s.1 ≤ x ∧ x < s.1 + 2 ^ s.2))
/-- Places and heights, the last first: each ends where the one ahead of it in the list begins, and is higher. -/
def Shp : Nat → Nat → List (Nat × Nat) → Prop
  | e, _, [] => e = 0
  | e, j, s :: r => s.1 + 2 ^ s.2 = e ∧ j ≤ s.2 ∧ Shp s.1 (s.2 + 1) r
/-- What is noted for a leaf, as far as the halves go. -/
def sibS (f : Nat → PeakV) (x : Nat) : List (Nat × Nat) → List PeakV
  | [] => []
  | s :: r => if s.1 ≤ x ∧ x < s.1 + 2 ^ s.2 then sibT f s.1 s.2 (x - s.1) else sibS f x r
theorem treeT_cnt {f : Nat → PeakV} (hf : ∀ i, (f i).count = 1) : ∀ (j a : Nat), (treeT f a j).count = ((2 ^ j : Nat) : Int)
  | 0, a => by rw [treeT, hf]; rfl
  | j + 1, a => by
    have h1 := treeT_cnt hf j a
    have h2 := treeT_cnt hf j (a + 2 ^ j)
    have e1 : 2 ^ (j + 1) = 2 ^ j + 2 ^ j := by rw [Nat.pow_succ']; omega
    rw [treeT, e1]
    show (treeT f a j).count + (treeT f (a + 2 ^ j) j).count = _
    rw [h1, h2]
    omega
theorem pow_same {i j : Nat} (h : 2 ^ i = 2 ^ j) : i = j := by
  rcases Nat.lt_trichotomy i j with h' | h' | h'
  · have := Nat.pow_lt_pow_right (a := 2) (by decide) h'
    omega
  · exact h'
  · have := Nat.pow_lt_pow_right (a := 2) (by decide) h'
    omega
theorem node_both (f : Nat → PeakV) (x a j : Nat) : bothN (nodeT f x (a, j)) (nodeT f x (a + 2 ^ j, j)) = nodeT f x (a, j + 1) := by
  have e1 : 2 ^ (j + 1) = 2 ^ j + 2 ^ j := by rw [Nat.pow_succ']; omega
  simp only [bothN, nodeT, treeT, e1, Prod.mk.injEq, true_and]
  rw [← Bool.decide_or, decide_eq_decide]
  omega
theorem Shp.low {e j i : Nat} {r : List (Nat × Nat)} (h : Shp e j r) (hi : i ≤ j) : Shp e i r := by
  cases r with
  | nil => exact h
  | cons s r => exact ⟨h.1, Nat.le_trans hi h.2.1, h.2.2⟩
/-- No place of the list holds a leaf from its end on. -/
theorem sibS_no (f : Nat → PeakV) (x : Nat) : ∀ (r : List (Nat × Nat)) (e j : Nat), Shp e j r → e ≤ x → sibS f x r = []
  | [], _, _, _, _ => rfl
  | s :: r, e, j, h, hx => by
    obtain ⟨h1, h2, h3⟩ := h
    have : 0 < 2 ^ s.2 := Nat.two_pow_pos _
    rw [sibS, if_neg (by omega)]
    exact sibS_no f x r s.1 (s.2 + 1) h3 (by omega)
/-- One pushed on nodes as their places say: again nodes as their places say, and the notes grow to what the halves say. -/
theorem push_shp {f : Nat → PeakV} (hf : ∀ i, (f i).count = 1) (x : Nat) : ∀ (r : List (Nat × Nat)) (a j : Nat), Shp a j r →
    ∃ t, addN (r.map (nodeT f x)) (nodeT f x (a, j)) = t.map (nodeT f x) ∧ Shp (a + 2 ^ j) 0 t ∧
      sibS f x ((a, j) :: r) ++ noteR (r.map (nodeT f x)) (nodeT f x (a, j)) = sibS f x t
  | [], a, j, h => ⟨[(a, j)], rfl, ⟨rfl, Nat.zero_le _, h⟩, by simp [noteR]⟩
  | s :: r, a, j, h => by
    obtain ⟨h1, h2, h3⟩ := h
    obtain ⟨b, i⟩ := s
    dsimp only at h1 h2 h3
    have hp : 0 < 2 ^ i := Nat.two_pow_pos _
    by_cases hij : i = j
    · subst hij
      subst h1
      have e1 : 2 ^ (i + 1) = 2 ^ i + 2 ^ i := by rw [Nat.pow_succ']; omega
      obtain ⟨t, t1, t2, t3⟩ := push_shp hf x r b (i + 1) h3
      have hc : (nodeT f x (b, i)).1.count = (nodeT f x (b + 2 ^ i, i)).1.count := by
        show (treeT f b i).count = (treeT f (b + 2 ^ i) i).count
        rw [treeT_cnt hf, treeT_cnt hf]
      refine ⟨t, ?_, by rw [show b + 2 ^ i + 2 ^ i = b + 2 ^ (i + 1) from by omega]; exact t2, ?_⟩
      · rw [List.map_cons, addN, if_pos hc, node_both]
        exact t1
      · rw [List.map_cons, noteR, if_pos hc, node_both, ← t3, ← List.append_assoc]
        congr 1
        have ha : (nodeT f x (b, i)).2 = decide (b ≤ x ∧ x < b + 2 ^ i) := rfl
        have hb : (nodeT f x (b + 2 ^ i, i)).2 = decide (b + 2 ^ i ≤ x ∧ x < b + 2 ^ i + 2 ^ i) := rfl
        rw [noteN, ha, hb]
        simp only [sibS, decide_eq_true_eq]
        by_cases c1 : b + 2 ^ i ≤ x ∧ x < b + 2 ^ i + 2 ^ i
        · rw [if_pos c1, if_neg (by omega), if_pos c1, if_pos (by omega), sibT, if_neg (by omega), List.nil_append, show x - b - 2 ^ i = x - (b + 2 ^ i) from by omega]
          rfl
        · rw [if_neg c1, if_neg c1, List.append_nil]
          by_cases c2 : b ≤ x ∧ x < b + 2 ^ i
          · rw [if_pos c2, if_pos c2, if_pos (by omega), sibT, if_pos (by omega)]
            rfl
          · rw [if_neg c2, if_neg c2, if_neg (by omega), List.append_nil]
    · have hc : ¬ (nodeT f x (b, i)).1.count = (nodeT f x (a, j)).1.count := by
        show ¬ (treeT f b i).count = (treeT f a j).count
        rw [treeT_cnt hf, treeT_cnt hf]
        intro he
        exact hij (pow_same (by omega))
      refine ⟨(a, j) :: (b, i) :: r, ?_, ⟨rfl, Nat.zero_le _, h1, by show j + 1 ≤ i; omega, h3⟩, ?_⟩
      · rw [List.map_cons, addN, if_neg hc]
        rfl
      · rw [List.map_cons, noteR, if_neg hc, List.append_nil]
/-- The stack behind m leaves, and its notes. -/
theorem stk_shp {f : Nat → PeakV} (hf : ∀ i, (f i).count = 1) (x : Nat) : ∀ m, ∃ t, stkN f x m = t.map (nodeT f x) ∧ Shp m 0 t ∧ notesN f x m = sibS f x t
  | 0 => ⟨[], rfl, rfl, rfl⟩
  | m + 1 => by
    obtain ⟨t, t1, t2, t3⟩ := stk_shp hf x m
    obtain ⟨u, u1, u2, u3⟩ := push_shp hf x t m 0 t2
    have hn : ((f m, decide (m = x)) : NodeV) = nodeT f x (m, 0) := by
      simp only [nodeT, treeT, Prod.mk.injEq, true_and, decide_eq_decide]
      omega
    refine ⟨u, ?_, u2, ?_⟩
    · rw [stkN, t1, hn]
      exact u1
    · rw [notesN, t1, t3, hn, ← u3]
      congr 1
      by_cases hm : m = x
      · subst hm
        rw [sibS_no f m t m 0 t2 (Nat.le_refl _), sibS, if_pos (by simp), sibT]
      · rw [sibS, if_neg (by simp; omega)]
end Go.Proofs.YtoojimfimlpplaaGreatDoor

set_option linter.unusedVariables false
namespace Go.Proofs.YtoojimfimlpplaaGreatDoor
open Go.RowKit Go.Deep

theorem addN_fst : ∀ (r : List NodeV) (p : NodeV), (addN r p).map Prod.fst = addR (r.map Prod.fst) p.1
  | [], p => rfl
  | q :: r, p => by
    rw [addN, List.map_cons, addR]
    split
    · rw [addN_fst r (bothN q p)]
      rfl
    · rfl
def leafF (l : List HeadV) (i : Nat) : PeakV := leafP (l.getD i default)
theorem leafF_cnt (l : List HeadV) (i : Nat) : (leafF l i).count = 1 := rfl
theorem stk_ofP (l : List HeadV) (x : Nat) : ∀ m, (stkN (leafF l) x m).map Prod.fst = (ofP l m).reverse
  | 0 => rfl
  | m + 1 => by
    rw [stkN, addN_fst, stk_ofP l x m, ofP, addP, List.reverse_reverse]
    rfl
/-- The peaks of places and heights, the first first. -/
def peaksT (f : Nat → PeakV) (t : List (Nat × Nat)) : List PeakV := (t.map fun s => treeT f s.1 s.2).reverse
theorem peaksT_cons (f : Nat → PeakV) (s : Nat × Nat) (r : List (Nat × Nat)) : peaksT f (s :: r) = peaksT f r ++ [treeT f s.1 s.2] := by simp [peaksT]
theorem stk_peaks {l : List HeadV} {x m : Nat} {t : List (Nat × Nat)} (h : stkN (leafF l) x m = t.map (nodeT (leafF l) x)) : ofP l m = peaksT (leafF l) t := by
  have h1 := stk_ofP l x m
  rw [h, List.map_map] at h1
  have h2 := congrArg List.reverse h1
  rw [List.reverse_reverse] at h2
  exact h2.symm
theorem shp_cnt {f : Nat → PeakV} (hf : ∀ i, (f i).count = 1) : ∀ (t : List (Nat × Nat)) (e j : Nat), Shp e j t → cntTo (peaksT f t) (peaksT f t).length = (e : Int)
  | [], e, j, h => by
    obtain rfl : e = 0 := h
    rfl
  | s :: r, e, j, h => by
    obtain ⟨h1, h2, h3⟩ := h
    have h4 := shp_cnt hf r s.1 _ h3
    rw [cnt_all] at h4 ⊢
    rw [peaksT_cons, List.reverse_append]
    show (treeT f s.1 s.2).count + sumC (peaksT f r).reverse = _
    rw [h4, treeT_cnt hf]
    omega
theorem cnt_app (ps qs : List PeakV) : ∀ k, k ≤ ps.length → cntTo (ps ++ qs) k = cntTo ps k
  | 0, _ => rfl
  | k + 1, hk => by
    rw [cntTo, cntTo, cnt_app ps qs k (by omega)]
    congr 2
    rw [List.getD_eq_getElem?_getD, List.getD_eq_getElem?_getD, List.getElem?_append_left (by omega)]
theorem cnt_mono {ps : List PeakV} (h : ∀ q ∈ ps, 0 ≤ q.count) : ∀ (d k : Nat), k + d ≤ ps.length → cntTo ps k ≤ cntTo ps (k + d)
  | 0, k, _ => Int.le_refl _
  | d + 1, k, hd => by
    have h1 := cnt_mono h d k (by omega)
    have h2 : 0 ≤ (ps.getD (k + d) default).count := by
      rw [List.getD_eq_getElem?_getD, List.getElem?_eq_getElem (by omega)]
      exact h _ (List.getElem_mem _)
    rw [← Nat.add_assoc, cntTo]
    omega
theorem peaksT_pos {f : Nat → PeakV} (hf : ∀ i, (f i).count = 1) (t : List (Nat × Nat)) : ∀ q ∈ peaksT f t, 0 ≤ q.count := by
  intro q hq
  rw [peaksT, List.mem_reverse] at hq
  obtain ⟨s, _, rfl⟩ := List.mem_map.1 hq
  rw [treeT_cnt hf]
  exact Int.natCast_nonneg _
/-- The peak in which a leaf is: its place and height, and the notes for the leaf. -/
theorem shp_place {f : Nat → PeakV} (hf : ∀ i, (f i).count = 1) (x : Nat) : ∀ (t : List (Nat × Nat)) (e j : Nat), Shp e j t → x < e →
    ∃ (k a i : Nat), k < (peaksT f t).length ∧ (x : Int) < cntTo (peaksT f t) (k + 1) ∧ (∀ m, m < k → ¬ (x : Int) < cntTo (peaksT f t) (m + 1)) ∧ cntTo (peaksT f t) k = (a : Int) ∧ (peaksT f t).getD k default = treeT f a i ∧ a ≤ x ∧ x < a + 2 ^ i ∧ sibS f x t = sibT f a i (x - a)
  | [], e, j, h, hx => by
    obtain rfl : e = 0 := h
    omega
  | s :: r, e, j, h, hx => by
    obtain ⟨h1, h2, h3⟩ := h
    have hc := shp_cnt hf r s.1 _ h3
    have hl : (peaksT f (s :: r)).length = (peaksT f r).length + 1 := by rw [peaksT_cons, List.length_append]; rfl
    by_cases hs : s.1 ≤ x
    · have e0 : cntTo (peaksT f (s :: r)) (peaksT f r).length = (s.1 : Int) := by rw [peaksT_cons, cnt_app _ _ _ (Nat.le_refl _), hc]
      have e1 : (peaksT f (s :: r)).getD (peaksT f r).length default = treeT f s.1 s.2 := by
        rw [peaksT_cons, List.getD_eq_getElem?_getD, List.getElem?_append_right (Nat.le_refl _), Nat.sub_self]
        rfl
      refine ⟨(peaksT f r).length, s.1, s.2, by omega, ?_, ?_, e0, e1, hs, by omega, ?_⟩
      · rw [cntTo, e0, e1, treeT_cnt hf]
        generalize 2 ^ s.2 = P at h1 ⊢
        omega
      · intro m hm
        rw [peaksT_cons, cnt_app _ _ _ (by omega)]
        have := cnt_mono (peaksT_pos hf r) ((peaksT f r).length - (m + 1)) (m + 1) (by omega)
        rw [show m + 1 + ((peaksT f r).length - (m + 1)) = (peaksT f r).length from by omega, hc] at this
        omega
      · rw [sibS, if_pos (by omega)]
    · obtain ⟨k, a, i, k1, k2, k3, k4, k5, k6, k7, k8⟩ := shp_place hf x r s.1 _ h3 (by omega)
      refine ⟨k, a, i, by omega, ?_, ?_, ?_, ?_, k6, k7, ?_⟩
      · rw [peaksT_cons, cnt_app _ _ _ (by omega)]; exact k2
      · intro m hm
        rw [peaksT_cons, cnt_app _ _ _ (by omega)]
        exact k3 m hm
      · rw [peaksT_cons, cnt_app _ _ _ (by omega)]; exact k4
      · rw [peaksT_cons, List.getD_eq_getElem?_getD, List.getElem?_append_left k1, ← List.getD_eq_getElem?_getD]
        exact k5
      · rw [sibS, if_neg (by omega)]; exact k8
/-- What RangeProof tells of heads that are ok and a place among them: the peaks, and the steps that were noted; the specification finds the same in the tree of the place's peak. -/
theorem proof_same (l : List HeadV) (x m : Nat) (hx : x < m) : ∃ (k a i : Nat), placeP (ofP l m) (x : Int) = some k ∧ cntTo (ofP l m) k = (a : Int) ∧ ((ofP l m).getD k default).count = ((2 ^ i : Nat) : Int) ∧ a ≤ x ∧ x < a + 2 ^ i ∧ notesN (leafF l) x m = treeS i (rowT (leafF l) a 0 (2 ^ i)) (x - a) := by
  obtain ⟨t, t1, t2, t3⟩ := stk_shp (leafF_cnt l) x m
  have hp := stk_peaks t1
  obtain ⟨k, a, i, k1, k2, k3, k4, k5, k6, k7, k8⟩ := shp_place (leafF_cnt l) x t m 0 t2 hx
  rw [hp]
  refine ⟨k, a, i, place_at k1 k2 k3, k4, by rw [k5, treeT_cnt (leafF_cnt l)], k6, k7, ?_⟩
  rw [t3, k8, treeS_sib _ _ _ _ (by omega)]
end Go.Proofs.YtoojimfimlpplaaGreatDoor

set_option linter.unusedVariables false
namespace Go.Proofs.YtoojimfimlpplaaGreatDoor
open Go.RowKit Go.Deep

theorem tree_fine {f : Nat → PeakV} {N : Nat} (hf : ∀ i, i < N → Fine (f i) 0 0) : ∀ (j a : Nat), a + 2 ^ j ≤ N → j ≤ 5 → Fine (treeT f a j) 0 j
  | 0, a, h, _ => hf a (by rw [Nat.pow_zero] at h; omega)
  | j + 1, a, h, h5 => by
    have e1 : 2 ^ (j + 1) = 2 ^ j + 2 ^ j := by rw [Nat.pow_succ']; omega
    rw [e1] at h
    have i1 : a + 2 ^ j ≤ N := Nat.le_trans (Nat.add_le_add_left (Nat.le_add_right _ _) a) h
    have i2 : a + 2 ^ j + 2 ^ j ≤ N := by rw [Nat.add_assoc]; exact h
    have h1 : Fine (treeT f a j) 0 j := tree_fine hf j a i1 (by omega)
    have h2 : Fine (treeT f (a + 2 ^ j) j) 0 j := tree_fine hf j (a + 2 ^ j) i2 (by omega)
    have c1 := h1.cnt
    have c2 := h2.cnt
    have w1 := h1.wk
    have w2 := h2.wk
    have l1 := h1.l1
    have l2 := h2.l1
    refine ⟨?_, h5, isSum_both _ _, ?_, Int.le_refl _, ?_⟩
    · show (treeT f a j).count + (treeT f (a + 2 ^ j) j).count = _
      rw [c1, c2, e1]
      omega
    · show (treeT f a j).count + (treeT f (a + 2 ^ j) j).count ≤ (treeT f a j).work + (treeT f (a + 2 ^ j) j).work ∧ (treeT f a j).work + (treeT f (a + 2 ^ j) j).work ≤ ((treeT f a j).count + (treeT f (a + 2 ^ j) j).count) * 8
      omega
    · show (0 : Int) ≤ (treeT f a j).work + (treeT f (a + 2 ^ j) j).work
      omega
theorem sibR_len (f : Nat → PeakV) : ∀ (j a k x : Nat), (sibR f a k j x).length = j
  | 0, _, _, _ => rfl
  | j + 1, a, k, x => by rw [sibR, List.length_cons, sibR_len f j]
theorem sibR_at (f : Nat → PeakV) : ∀ (j a k x i : Nat), i < j → (sibR f a k j x).getD i default = treeT f (a + (x / 2 ^ i + 1 - x / 2 ^ i % 2 * 2) * 2 ^ (k + i)) (k + i)
  | j + 1, a, k, x, 0, _ => by simp [sibR]
  | j + 1, a, k, x, i + 1, h => by
    have e1 : x / 2 / 2 ^ i = x / 2 ^ (i + 1) := by rw [Nat.div_div_eq_div_mul, ← Nat.pow_succ']
    rw [sibR, List.getD_cons_succ, sibR_at f j a (k + 1) (x / 2) i (by omega), e1, show k + 1 + i = k + (i + 1) from by omega]
theorem climb_to {f : Nat → PeakV} {N : Nat} (hf : ∀ i, i < N → Fine (f i) 0 0) (j a x : Nat) (ha : a + 2 ^ j ≤ N) (hj : 2 ^ j ≤ 20) (hx : x < 2 ^ j) : ∀ i, i ≤ j → ∃ l : Int, walkTo (f (a + x)) x (sibR f a 0 j x) i = some (treeT f (a + x / 2 ^ i * 2 ^ i) i, l) ∧ 0 ≤ l
  | 0, _ => ⟨0, by simp [walkTo, treeT], Int.le_refl _⟩
  | i + 1, hi => by
    obtain ⟨l, h1, h2⟩ := climb_to hf j a x ha hj hx i (by omega)
    have hs := sibR_at f j a 0 x i (by omega)
    rw [Nat.zero_add] at hs
    have hpos : 0 < 2 ^ i := Nat.two_pow_pos i
    have e1 : 2 ^ (i + 1) = 2 * 2 ^ i := Nat.pow_succ'
    have hle : 2 ^ (i + 1) ≤ 2 ^ j := Nat.pow_le_pow_right (by decide) hi
    have h4 : i ≤ 4 := by
      refine Classical.byContradiction fun h => ?_
      have : 2 ^ 5 ≤ 2 ^ i := Nat.pow_le_pow_right (by decide) (by omega)
      omega
    have ey : x / 2 ^ (i + 1) = x / 2 ^ i / 2 := by rw [Nat.div_div_eq_div_mul, ← Nat.pow_succ]
    obtain ⟨d, hd⟩ : ∃ d, j = i + 1 + d := ⟨j - (i + 1), by omega⟩
    have ej : 2 ^ j = 2 ^ d * (2 * 2 ^ i) := by rw [hd, Nat.pow_add, e1, Nat.mul_comm]
    have hy : x / 2 ^ i < 2 * 2 ^ d := by
      rw [Nat.div_lt_iff_lt_mul hpos]
      have : 2 * 2 ^ d * 2 ^ i = 2 ^ j := by rw [ej, Nat.mul_comm 2 (2 ^ d), Nat.mul_assoc]
      omega
    generalize hxy : x / 2 ^ i = y at h1 hs ey hy
    have hsib : (y + 1 - y % 2 * 2) < 2 * 2 ^ d := by omega
    have hin : ∀ z, z < 2 * 2 ^ d → a + z * 2 ^ i + 2 ^ i ≤ N := by
      intro z hz
      have h5 : (z + 1) * 2 ^ i ≤ 2 * 2 ^ d * 2 ^ i := Nat.mul_le_mul_right _ hz
      have h6 : 2 * 2 ^ d * 2 ^ i = 2 ^ j := by rw [ej, Nat.mul_comm 2 (2 ^ d), Nat.mul_assoc]
      rw [Nat.add_mul, Nat.one_mul, h6] at h5
      omega
    have f1 := tree_fine hf i (a + y * 2 ^ i) (hin y hy) (by omega)
    have f2 := tree_fine hf i (a + (y + 1 - y % 2 * 2) * 2 ^ i) (hin _ hsib) (by omega)
    have c20 : (treeT f (a + (y + 1 - y % 2 * 2) * 2 ^ i) i).count ≤ 20 := by
      rw [f2.cnt]
      have : 2 ^ i ≤ 20 := by omega
      exact_mod_cast this
    have hb : (peakOkB ((sibR f a 0 j x).getD i default) && decide (((sibR f a 0 j x).getD i default).count = (treeT f (a + y * 2 ^ i) i).count)) = true := by
      rw [hs, Bool.and_eq_true, decide_eq_true_eq, f1.cnt, f2.cnt]
      exact ⟨fine_ok f2 c20, rfl⟩
    have hw := f2.l1
    have e2 : x / 2 ^ (i + 1) * 2 ^ (i + 1) = y / 2 * 2 * 2 ^ i := by rw [ey, e1, Nat.mul_assoc]
    rw [e2]
    by_cases hm : y % 2 = 1
    · have hw2 := walk_left h1 hb (by rw [hxy]; exact hm)
      rw [hs] at hw2
      have e3 : y + 1 - y % 2 * 2 = y / 2 * 2 := by omega
      have e4 : a + y * 2 ^ i = a + y / 2 * 2 * 2 ^ i + 2 ^ i := by
        have : y = y / 2 * 2 + 1 := by omega
        rw [Nat.add_assoc, ← Nat.succ_mul]
        exact congrArg (fun z => a + z * 2 ^ i) this
      rw [e3, e4] at hw2
      rw [e3] at hw
      exact ⟨_, hw2, by omega⟩
    · have hw2 := walk_right h1 hb (by rw [hxy]; exact hm)
      rw [hs] at hw2
      have e3 : y + 1 - y % 2 * 2 = y / 2 * 2 + 1 := by omega
      have e5 : y = y / 2 * 2 := by omega
      have e4 : a + (y / 2 * 2 + 1) * 2 ^ i = a + y / 2 * 2 * 2 ^ i + 2 ^ i := by rw [Nat.add_mul, Nat.one_mul, Nat.add_assoc]
      rw [e3, e4, ← e5] at hw2
      rw [← e5]
      exact ⟨_, hw2, h2⟩
theorem same_refl (q : PeakV) : samePB q q = true := by simp [samePB]
/-- What is noted for a leaf climbs. -/
theorem climb_yes {l : List HeadV} (hok : ∀ i, i < l.length → headOkB (l.getD i default) = true) (j a x : Nat) (ha : a + 2 ^ j ≤ l.length) (hj : 2 ^ j ≤ 20) (hx : x < 2 ^ j) : 0 ≤ climbV (treeT (leafF l) a j) (l.getD (a + x) default) x (sibT (leafF l) a j x) := by
  obtain ⟨w, h1, h2⟩ := climb_to (f := leafF l) (N := l.length) (fun i hi => fine_leaf (hok i hi)) j a x ha hj hx j (Nat.le_refl _)
  rw [Nat.div_eq_of_lt hx, Nat.zero_mul, Nat.add_zero, sibR_eq _ _ _ _ hx] at h1
  have hlen : (sibT (leafF l) a j x).length = j := by rw [← sibR_eq _ _ _ _ hx]; exact sibR_len _ _ _ _ _
  have h3 : walkTo (leafP (l.getD (a + x) default)) x (sibT (leafF l) a j x) (sibT (leafF l) a j x).length = some (treeT (leafF l) a j, w) := by rw [hlen]; exact h1
  rw [climb_some h3, if_pos (same_refl _)]
  exact h2
/-- What RangeProof tells of ok heads and a place among them passes RangeCheck. -/
theorem check_proof {l : List HeadV} (hok : ∀ i, i < l.length → headOkB (l.getD i default) = true) (hl : l.length ≤ 20) (x : Nat) (hx : x < l.length) (hr : rangeOkB (ofP l l.length) = true) : 0 ≤ checkV ⟨(rangeRoot (ofP l l.length)).toArray⟩ (l.getD x default) (x : Int) (ofP l l.length) (notesN (leafF l) x l.length) := by
  obtain ⟨t, t1, t2, t3⟩ := stk_shp (leafF_cnt l) x l.length
  have hp := stk_peaks t1
  obtain ⟨k, a, i, k1, k2, k3, k4, k5, k6, k7, k8⟩ := shp_place (leafF_cnt l) x t l.length 0 t2 hx
  have hc := shp_cnt (leafF_cnt l) t l.length 0 t2
  have hmono := cnt_mono (peaksT_pos (leafF_cnt l) t) ((peaksT (leafF l) t).length - (k + 1)) (k + 1) (by omega)
  rw [show k + 1 + ((peaksT (leafF l) t).length - (k + 1)) = (peaksT (leafF l) t).length from by omega, hc, cntTo, k4, k5, treeT_cnt (leafF_cnt l)] at hmono
  have hai : a + 2 ^ i ≤ l.length := by
    generalize 2 ^ i = P at hmono ⊢
    omega
  have hi20 : 2 ^ i ≤ 20 := by omega
  have h4 : i ≤ 4 := by
    refine Classical.byContradiction fun h => ?_
    have : 2 ^ 5 ≤ 2 ^ i := Nat.pow_le_pow_right (by decide) (by omega)
    omega
  have hlt : x - a < 2 ^ i := by omega
  have hlen : (sibT (leafF l) a i (x - a)).length = i := by rw [← sibR_eq _ _ _ _ hlt]; exact sibR_len _ _ _ _ _
  have hcl := climb_yes hok i a (x - a) hai hi20 hlt
  rw [show a + (x - a) = x from by omega] at hcl
  rw [← hp] at k1 k2 k3 k4 k5
  have hn : notesN (leafF l) x l.length = sibT (leafF l) a i (x - a) := by rw [t3, k8]
  have hxa : ((x : Int) - cntTo (ofP l l.length) k).toNat = x - a := by rw [k4]; omega
  have hwk : 0 ≤ wrkTo (ofP l l.length) k := by
    have : ∀ m, m ≤ (ofP l l.length).length → 0 ≤ wrkTo (ofP l l.length) m := by
      intro m
      induction m with
      | zero => intro _; exact Int.le_refl _
      | succ m ih =>
        intro hm
        have h3 := ih (by omega)
        have h4 := rangeOk_at hr m (by omega)
        rw [wrkTo]
        omega
    exact this k (by omega)
  rw [hn, check_some ⟨hok x hx, Int.natCast_nonneg _, by omega, hr, rfl⟩ (place_at k1 k2 k3), hxa, k5, if_neg (by omega)]
  omega
end Go.Proofs.YtoojimfimlpplaaGreatDoor

set_option linter.unusedVariables false
namespace Go.Proofs.YtoojimfimlpplaaGreatDoor
open Go.RowKit Go.Deep

theorem shp_down {f : Nat → PeakV} (hf : ∀ i, (f i).count = 1) : ∀ (t : List (Nat × Nat)) (e j : Nat), Shp e j t → (∀ i, 0 < i → i < (peaksT f t).length → ((peaksT f t).getD i default).count < ((peaksT f t).getD (i - 1) default).count) ∧ (0 < (peaksT f t).length → ((2 ^ j : Nat) : Int) ≤ ((peaksT f t).getD ((peaksT f t).length - 1) default).count)
  | [], _, _, _ => ⟨fun i _ h => absurd h (by simp [peaksT]), fun h => absurd h (by simp [peaksT])⟩
  | s :: r, e, j, h => by
    obtain ⟨h1, h2, h3⟩ := h
    obtain ⟨ih1, ih2⟩ := shp_down hf r _ _ h3
    have hl : (peaksT f (s :: r)).length = (peaksT f r).length + 1 := by rw [peaksT_cons, List.length_append]; rfl
    have e1 : (peaksT f (s :: r)).getD (peaksT f r).length default = treeT f s.1 s.2 := by
      rw [peaksT_cons, List.getD_eq_getElem?_getD, List.getElem?_append_right (Nat.le_refl _), Nat.sub_self]
      rfl
    have e2 : ∀ i, i < (peaksT f r).length → (peaksT f (s :: r)).getD i default = (peaksT f r).getD i default := fun i hi => by
      rw [peaksT_cons, List.getD_eq_getElem?_getD, List.getElem?_append_left hi, ← List.getD_eq_getElem?_getD]
    have hlt : ((2 ^ s.2 : Nat) : Int) < ((2 ^ (s.2 + 1) : Nat) : Int) := by exact_mod_cast Nat.pow_lt_pow_right (by decide) (Nat.lt_succ_self _)
    have hle : ((2 ^ j : Nat) : Int) ≤ ((2 ^ s.2 : Nat) : Int) := by exact_mod_cast Nat.pow_le_pow_right (by decide) h2
    refine ⟨fun i hi hil => ?_, fun _ => ?_⟩
    · by_cases hb : i < (peaksT f r).length
      · rw [e2 i hb, e2 (i - 1) (by omega)]
        exact ih1 i hi hb
      · have hb2 : i = (peaksT f r).length := by omega
        have h4 := ih2 (by omega)
        rw [hb2, e1, e2 _ (by omega), treeT_cnt hf]
        exact Int.lt_of_lt_of_le hlt h4
    · rw [hl, Nat.add_sub_cancel, e1, treeT_cnt hf]
      exact hle
theorem peaksT_two {f : Nat → PeakV} (hf : ∀ i, (f i).count = 1) (t : List (Nat × Nat)) : ∀ q ∈ peaksT f t, ∃ i : Nat, q.count = ((2 ^ i : Nat) : Int) := by
  intro q hq
  rw [peaksT, List.mem_reverse] at hq
  obtain ⟨s, _, rfl⟩ := List.mem_map.1 hq
  exact ⟨s.2, treeT_cnt hf _ _⟩
theorem two_yes {i : Nat} (h : ((2 ^ i : Nat) : Int) ≤ 20) : twoB ((2 ^ i : Nat) : Int) = true := by
  have h4 : i ≤ 4 := by
    refine Classical.byContradiction fun hn => ?_
    have h5 : 2 ^ 5 ≤ 2 ^ i := Nat.pow_le_pow_right (by decide) (by omega)
    have h6 : 2 ^ i ≤ 20 := by exact_mod_cast h
    omega
  have : i = 0 ∨ i = 1 ∨ i = 2 ∨ i = 3 ∨ i = 4 := by omega
  rcases this with rfl | rfl | rfl | rfl | rfl <;> decide
theorem ofP_rangeOk {l : List HeadV} (hok : ∀ i, i < l.length → headOkB (l.getD i default) = true) (hl : l.length ≤ 20) (m : Nat) (hm : m ≤ l.length) : rangeOkB (ofP l m) = true := by
  obtain ⟨h1, h2, h3⟩ := ofP_ok hok hl m hm
  obtain ⟨t, t1, t2, _⟩ := stk_shp (leafF_cnt l) 0 m
  have hp := stk_peaks t1
  have hd := (shp_down (leafF_cnt l) t m 0 t2).1
  rw [← hp] at hd
  rw [rangeOk_end, h2, decide_eq_true_eq]
  · omega
  · intro i hi
    have hmem : (ofP l m).getD i default ∈ ofP l m := by rw [List.getD_eq_getElem?_getD, List.getElem?_eq_getElem hi]; exact List.getElem_mem hi
    have hk := h1 _ hmem
    have hc := peakOk_in hk
    obtain ⟨j, hj⟩ := peaksT_two (leafF_cnt l) t _ (by rw [← hp]; exact hmem)
    have h2c : twoB ((ofP l m).getD i default).count = true := by rw [hj]; exact two_yes (by rw [← hj]; exact hc.2.1)
    rw [stepOk, hk, h2c, Bool.true_and, Bool.true_and, Bool.or_eq_true, decide_eq_true_eq, decide_eq_true_eq]
    by_cases h0 : i = 0
    · exact .inl h0
    · exact .inr (hd i (by omega) hi)
/-- What RangeProof tells of ok heads and a place among them passes RangeCheck. -/
theorem check_proofs {l : List HeadV} (hok : ∀ i, i < l.length → headOkB (l.getD i default) = true) (hl : l.length ≤ 20) (x : Nat) (hx : x < l.length) : 0 ≤ checkV ⟨(rangeRoot (ofP l l.length)).toArray⟩ (l.getD x default) (x : Int) (ofP l l.length) (notesN (leafF l) x l.length) :=
  check_proof hok hl x hx (ofP_rangeOk hok hl _ (Nat.le_refl _))
end Go.Proofs.YtoojimfimlpplaaGreatDoor

