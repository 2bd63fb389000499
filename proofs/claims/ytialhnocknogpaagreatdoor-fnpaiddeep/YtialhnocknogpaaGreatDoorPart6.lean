/-
  Texts that the last part needs, joined.
-/
import Derived.Test.YtialhnocknogpaaGreatDoorPart1
import Derived.Test.YtialhnocknogpaaGreatDoorPart2
import Derived.Test.YtialhnocknogpaaGreatDoorPart3
import Derived.Test.YtialhnocknogpaaGreatDoorPart4
import Derived.Test.YtialhnocknogpaaGreatDoorPart5
import Derived.Lib.SmallJoins
import Derived.Lib.FrozenHead2
import Derived.Deep.AppendLies
import Derived.WalkSmall
import Derived.BigRegion
import Derived.Deep.RegionWith
import Derived.Deep.RegionHeld3
import Derived.Deep.RegionLaw
import Derived.Lib.AppendIntMem
import Derived.Deep.Cut
set_option linter.unusedVariables false
namespace Go.Proofs.YtialhnocknogpaaGreatDoor
open Go.ChangeShapes Go.WideShapes Go.ChangeAt Go.RowKit Go.Deep Go.Joins

theorem CBk.two {w : World} {g : Nat} {T : TypeId} {a b : Value} (h : CBk w g T #[a, b]) : w.cell? ⟨g, 0, none⟩ = some a ∧ w.cell? ⟨g, 1, none⟩ = some b ∧ w.frozen? ⟨g, 0, none⟩ = false ∧ w.frozen? ⟨g, 1, none⟩ = false :=
  ⟨h.cell 0, h.cell 1, h.frozen 0, h.frozen 1⟩
theorem CBk.out2 {w : World} {g : Nat} {T : TypeId} {a b : Value} (h : CBk w g T #[a, b]) : w.cell? ⟨g, 0, none⟩ = some a ∧ w.cell? ⟨g, 1, none⟩ = some b := ⟨h.cell 0, h.cell 1⟩
/-- A proof of the laws. -/
structure LPrf where
  pa : Option Addr
  pn : Nat
  pc : Nat
  pl : List PeakV
  sa : Option Addr
  sn : Nat
  sc : Nat
  sl : List PeakV
def lprfVal (L : LPrf) : Value := .agg #[.slice L.pa L.pn L.pc, .slice L.sa L.sn L.sc]
structure IsPrf (w : World) (L : LPrf) : Prop where
  p : IsPeaks w L.pa L.pn L.pc L.pl
  s : IsPeaks w L.sa L.sn L.sc L.sl
theorem peaks_below {w w' : World} {a : Option Addr} {len cap : Nat} {ps : List PeakV} (h : IsPeaks w a len cap ps) (hb : Below w.heap.size w w') : IsPeaks w' a len cap ps := by
  have hat := fun i hi => h.at hb i hi
  rcases h with h1 | ⟨x, hx, h1, h2, h3, h4, h5⟩
  · exact .inl h1
  · refine .inr ⟨x, hx, h1, h2, h3, fun i hi => ?_, h5⟩
    obtain ⟨y, hy, hc⟩ := hat i hi
    rw [hx] at hy
    obtain rfl := Option.some.inj hy
    exact hc
theorem IsPrf.below {w w' : World} {L : LPrf} (h : IsPrf w L) (hb : Below w.heap.size w w') : IsPrf w' L := ⟨peaks_below h.p hb, peaks_below h.s hb⟩
theorem shape_slice2 {P : Program} {H : Type} {enc : TypeId × Value → H} {W : World} {base : Nat} {sp : Nat → Bool} {held : Bool} {n : Nat} {t e : TypeId} {v : Value} {y : DataW H × List MemPlace} (ht : P.underlying t = some (.slice e)) (h : DataW.trod enc P W base sp held n t [v] = some y) : ∃ a len cap, v = .slice a len cap := by
  rcases open_slice ht h with ⟨hcs, _⟩ | ⟨x, l, c, m, n, D, Pl, hcs, _⟩
  · simp at hcs
    exact ⟨_, _, _, hcs⟩
  · simp at hcs
    exact ⟨_, _, _, hcs⟩
structure SmallPrf (L : LPrf) : Prop where
  pn : L.pn ≤ 1048576
  ps : ∀ i, i < L.pn → (L.pl.getD i default).sum.size ≤ 1048576
  sn : L.sn ≤ 1048576
  ss : ∀ i, i < L.sn → (L.sl.getD i default).sum.size ≤ 1048576
/-- A proof in memory of its own. -/
structure PrfV where
  g : Nat
  n : Nat
  c : Nat
  ps : List PeakV
  sg : Nat
  sn : Nat
  sc : Nat
  ss : List PeakV
def prfVal (s : PrfV) : Value := .agg #[.slice (some ⟨s.g, 0, none⟩) s.n s.c, .slice (some ⟨s.sg, 0, none⟩) s.sn s.sc]
structure CopyPrf (B : Nat) (L : LPrf) (v : PrfV) (w : World) : Prop where
  p : RowP w v.g L.pl
  ps : v.ps = L.pl
  pn : v.n = L.pn
  pc : v.c = v.n
  st : RowP w v.sg L.sl
  ss : v.ss = L.sl
  sn : v.sn = L.sn
  sc : v.sc = v.sn
  lo : B ≤ v.g
  up : v.g < v.sg
theorem CopyPrf.below {B : Nat} {L : LPrf} {s : PrfV} {w w' : World} (h : CopyPrf B L s w) (hb : Below w.heap.size w w') : CopyPrf B L s w' :=
  ⟨h.p.below hb h.p.lt, h.ps, h.pn, h.pc, h.st.below hb h.st.lt, h.ss, h.sn, h.sc, h.lo, h.up⟩
theorem rowP_other {w : World} {g g' : Nat} {l : List PeakV} (h : RowP w g l) (hg : g' ≠ g) (j : Nat) (v : Value) : RowP (w.setCell ⟨g', j, none⟩ v) g l := by
  unfold RowP RowF at h ⊢; simp [World.setCell, Array.getElem?_modify, h, hg]

end Go.Proofs.YtialhnocknogpaaGreatDoor

set_option linter.unusedVariables false
namespace Go.Proofs.YtialhnocknogpaaGreatDoor
open Go.RowKit Go.Deep

theorem sameR (a b : ByteArray) : (a.toList == b.toList) = decide (a = b) := by
  rw [Bool.eq_iff_iff, beq_iff_eq, decide_eq_true_eq, ByteArray.toList_eq, ByteArray.toList_eq]
  constructor
  · intro h
    exact ByteArray.ext (by simpa using h)
  · intro h
    rw [h]
theorem walk_fine {h : HeadV} (hok : headOkB h = true) {a : Nat} {ss : List PeakV} : ∀ (i : Nat) (q : PeakV) (l : Int), walkTo (leafP h) a ss i = some (q, l) → Fine q l i
  | 0, q, l, hw => by
    simp only [walkTo, Option.some.injEq, Prod.mk.injEq] at hw
    obtain ⟨rfl, rfl⟩ := hw
    exact fine_leaf hok
  | i + 1, q, l, hw => by
    rw [walkTo] at hw
    cases hx : walkTo (leafP h) a ss i with
    | none => rw [hx] at hw; cases hw
    | some y =>
      obtain ⟨q0, l0⟩ := y
      have ih := walk_fine hok i q0 l0 hx
      rw [hx] at hw
      dsimp only at hw
      cases hb : (peakOkB (ss.getD i default) && decide ((ss.getD i default).count = q0.count)) with
      | false => rw [hb] at hw; cases hw
      | true =>
        rw [hb] at hw
        simp only [if_true] at hw
        split at hw
        · simp only [Option.some.injEq, Prod.mk.injEq] at hw
          obtain ⟨rfl, rfl⟩ := hw
          exact fine_left ih hb
        · simp only [Option.some.injEq, Prod.mk.injEq] at hw
          obtain ⟨rfl, rfl⟩ := hw
          exact fine_right ih hb
theorem fine_le {q : PeakV} {l : Int} {i : Nat} (h : Fine q l i) : l ≤ 256 := by
  have h1 := h.l1
  have h2 := h.wk
  have h3 := h.cnt
  have h4 := h.hi
  have h5 : (2 ^ i : Nat) ≤ 32 := by
    have : i = 0 ∨ i = 1 ∨ i = 2 ∨ i = 3 ∨ i = 4 ∨ i = 5 := by omega
    rcases this with rfl | rfl | rfl | rfl | rfl | rfl <;> decide
  omega
theorem climb_le {top : PeakV} {h : HeadV} (hok : headOkB h = true) (a : Nat) (ss : List PeakV) : -1 ≤ climbV top h a ss ∧ climbV top h a ss ≤ 256 := by
  unfold climbV
  cases hx : walkTo (leafP h) a ss ss.length with
  | none => dsimp only; omega
  | some y =>
    obtain ⟨q, l⟩ := y
    have hf := walk_fine hok _ q l hx
    have := fine_le hf
    have := hf.l0
    dsimp only
    split <;> omega
theorem wrk_in {ps : List PeakV} (h : rangeOkB ps = true) : ∀ k, k ≤ ps.length → 0 ≤ wrkTo ps k ∧ wrkTo ps k ≤ 160 * (k : Int)
  | 0, _ => by simp [wrkTo]
  | k + 1, hk => by
    have ih := wrk_in h k (by omega)
    have := rangeOk_at h k (by omega)
    rw [wrkTo]
    push_cast
    omega
theorem cnt_in {ps : List PeakV} (h : rangeOkB ps = true) : ∀ k, k ≤ ps.length → 0 ≤ cntTo ps k ∧ cntTo ps k ≤ 20 * (k : Int)
  | 0, _ => by simp [cntTo]
  | k + 1, hk => by
    have ih := cnt_in h k (by omega)
    have := rangeOk_at h k (by omega)
    rw [cntTo]
    push_cast
    omega
/-- A proof in memory. -/
structure PrfAt (s : PrfV) (w : World) : Prop where
  p : AtP w s.g s.ps
  pl : s.n = s.ps.length
  pm : s.n ≤ 1048576
  pc : s.n ≤ s.c
  t : AtP w s.sg s.ss
  tl : s.sn = s.ss.length
  tm : s.sn ≤ 1048576
theorem PrfAt.below {s : PrfV} {w w' : World} (h : PrfAt s w) (hb : Below w.heap.size w w') : PrfAt s w' :=
  ⟨h.p.below hb h.p.1, h.pl, h.pm, h.pc, h.t.below hb h.t.1, h.tl, h.tm⟩
theorem check_root {root : ByteArray} {h : HeadV} {a : Int} {ps ss : List PeakV} (hn : (⟨(rangeRoot ps).toArray⟩ : ByteArray) ≠ root) : checkV root h a ps ss = -1 := check_no (fun hh => hn hh.2.2.2.2)

end Go.Proofs.YtialhnocknogpaaGreatDoor

set_option linter.unusedVariables false
namespace Go.Proofs.YtialhnocknogpaaGreatDoor
open Go.RowKit

theorem cells_new (w : World) (e : TypeId) (news : List Value) : ∀ j u, news[j]? = some u → (w.alloc (.cells news.toArray e)).cell? ((⟨w.heap.size, 0, none⟩ : Addr).add j) = some u := by
  intro j u hj
  have e1 : (⟨w.heap.size, 0, none⟩ : Addr).add j = ⟨w.heap.size, j, none⟩ := by unfold Addr.add; split <;> simp_all
  rw [e1, Lib.cell_of_heap (heap_alloc_new w _)]
  simpa using hj
theorem wp_appN {P : Program} {w : World} {ops : Array Oper} {rest : List Oper} {o : Oper} {a : Act} {Q : Exit → Act → World → Prop} (hgd : o.guard = none) (s x : Operand) (t : TypeId)
    (ho : o.op = .call { callee := .builtin .append, args := #[s, x], argTypes := #[t, t] })
    (base : Nat) (e : TypeId) (i : TypeInfo) (z : Value) (size bytes m : Nat) (ht : P.underlying t = some (.slice e)) (hi : P.info? e = some i) (hz : i.zero = some z)
    (hsize : i.size = size) (hby : i.bytes = bytes) (hzs : z.cells.size = size) (hs0 : 0 < size) (hm0 : 0 < m)
    (v : Value) (n : Nat) (xs : List Value) (hs : a.eval s = v) (hown : w.ownsRow base e size v n xs)
    (news : List Value) (hx : a.eval x = .slice (some ⟨w.heap.size, 0, none⟩) m m) (hl : news.length = m * size) (hu : ∀ u ∈ news, u.oneCell' = true)
    (h63 : n + m ≤ maxLen) (hbytes : (n + m) * bytes ≤ 140737488355328) (hbase : base ≤ w.heap.size)
    (h : ∀ g cap w', w'.ownsRow base e size (.slice (some ⟨g, 0, none⟩) (n + m) cap) (n + m) (xs ++ news) → Below base w w' → (∀ b, b < w.heap.size → v.ownBlock ≠ some b → w'.heap[b]? = w.heap[b]?) →
      wpList P ops Q rest (a.put o.dst (.slice (some ⟨g, 0, none⟩) (n + m) cap)) w') :
    wpList P ops Q (o :: rest) a (w.alloc (.cells news.toArray e)) := by
  refine wpList_append_own _ hgd s x t ho base e i z size bytes ht hi hz hsize hby hzs hs0 v n xs hs (hown.alloc _) ⟨w.heap.size, 0, none⟩ m m news hx hl ?_ hu h63 hbytes (by simp; omega) ?_
  · intro j u hj
    have e1 : (⟨w.heap.size, 0, none⟩ : Addr).add j = ⟨w.heap.size, j, none⟩ := by unfold Addr.add; split <;> simp_all
    rw [e1, Lib.cell_of_heap (heap_alloc_new w _)]
    simpa using hj
  · intro v' w' hown' hg _
    obtain ⟨g, cap, rfl⟩ : ∃ g cap, v' = .slice (some ⟨g, 0, none⟩) (n + m) cap := by
      rcases hown'.2 with ⟨_, h0⟩ | ⟨g, cap, cur, hv, _⟩
      · omega
      · exact ⟨g, cap, hv⟩
    refine h g cap w' hown' (((Below.refl base w).alloc hbase _).grown hg (by simp; omega) (fun k hk => (hown.lt k hk).1)) ?_
    intro b hb hne
    rw [hg.block b (by simp; omega) (fun e => hne e.symm)]
    exact Below.heap_alloc _ _ _ hb

end Go.Proofs.YtialhnocknogpaaGreatDoor

set_option linter.unusedVariables false
namespace Go.Proofs.YtialhnocknogpaaGreatDoor
open Go.RowKit

section frow
variable {α : Type}
def FRow (enc : α → List Value) (T : TypeId) (k B : Nat) (v : Value) (l : List α) (w : World) : Prop := (∃ g cap, v = .slice (some ⟨g, 0, none⟩) l.length cap) ∧ w.ownsRow B T k v l.length (l.flatMap enc)
theorem frow_new (enc : α → List Value) (T : TypeId) (k : Nat) (w : World) : FRow enc T k w.heap.size (.slice (some ⟨w.heap.size, 0, none⟩) 0 0) [] (w.alloc (.cells #[] T)) :=
  ⟨⟨_, _, rfl⟩, by simp, .inr ⟨w.heap.size, 0, #[], rfl, Nat.le_refl _, heap_alloc_new w _, Nat.le_refl _, Nat.zero_le _, by simp, by simp⟩⟩
theorem frow_cap (enc : α → List Value) (T : TypeId) (k n : Nat) (hk : ∀ a, (enc a).length = k) (a : α) (w : World) (hn : n ≤ maxLen) : FRow enc T k w.heap.size (.slice (some ⟨w.heap.size, 0, none⟩) 0 n) [] (w.alloc (.cells ((List.replicate n a).flatMap enc).toArray T)) :=
  ⟨⟨_, _, rfl⟩, by simp, .inr ⟨w.heap.size, n, _, rfl, Nat.le_refl _, heap_alloc_new w _, Nat.zero_le _, hn, by simp [flat_length k enc hk], by simp⟩⟩
theorem FRow.block {enc : α → List Value} {T : TypeId} {k B : Nat} {v : Value} {l : List α} {w : World} (h : FRow enc T k B v l w) : ∃ g cap cur, v = .slice (some ⟨g, 0, none⟩) l.length cap ∧ B ≤ g ∧ g < w.heap.size ∧ w.heap[g]? = some (.cells cur T (0, 0)) ∧ cur.toList.take (l.length * k) = l.flatMap enc ∧ l.length ≤ cap := by
  obtain ⟨⟨g, cap, rfl⟩, _, h2⟩ := h
  rcases h2 with ⟨h3, _⟩ | ⟨g', cap', cur, hv, hB, hg, hc, _, _, ht⟩
  · cases h3
  · simp only [Value.slice.injEq, Option.some.injEq, Addr.mk.injEq, and_true] at hv
    obtain ⟨rfl, _, rfl⟩ := hv
    refine ⟨g, cap, cur, rfl, hB, ?_, hg, ht, hc⟩
    rcases Nat.lt_or_ge g w.heap.size with h' | h'
    · exact h'
    · simp [Array.getElem?_eq_none h'] at hg
theorem FRow.at [Inhabited α] {enc : α → List Value} {T : TypeId} {k B g n cap : Nat} {l : List α} {w : World} (hk : ∀ a, (enc a).length = k) (h : FRow enc T k B (.slice (some ⟨g, 0, none⟩) n cap) l w) : AtF enc k w g l ∧ n = l.length ∧ B ≤ g ∧ n ≤ cap := by
  obtain ⟨g', cap', cur, hv, hB, hlt, hg, ht, hc⟩ := h.block
  simp only [Value.slice.injEq, Option.some.injEq, Addr.mk.injEq, and_true] at hv
  obtain ⟨rfl, rfl, rfl⟩ := hv
  refine ⟨⟨hlt, fun i j hi hj => ?_⟩, rfl, hB, hc⟩
  have hlt2 : i * k + j < l.length * k := by
    have : (i + 1) * k ≤ l.length * k := Nat.mul_le_mul_right k hi
    rw [Nat.add_mul] at this
    omega
  rw [Lib.cell_of_heap hg, ← flat_at k enc hk l i j hi hj, ← ht, List.getElem?_take_of_lt hlt2]
  simp
theorem FRow.keep {enc : α → List Value} {T : TypeId} {k B : Nat} {v : Value} {l : List α} {w w' : World} (h : FRow enc T k B v l w) (hk : ∀ g, B ≤ g → g < w.heap.size → w'.heap[g]? = w.heap[g]?) : FRow enc T k B v l w' := by
  obtain ⟨⟨g, cap, rfl⟩, h1, h2⟩ := h
  refine ⟨⟨g, cap, rfl⟩, h1, ?_⟩
  rcases h2 with ⟨h3, _⟩ | ⟨g', cap', cur, hv, hB, hg, h4⟩
  · cases h3
  · have hlt : g' < w.heap.size := by
      rcases Nat.lt_or_ge g' w.heap.size with h' | h'
      · exact h'
      · simp [Array.getElem?_eq_none h'] at hg
    exact .inr ⟨g', cap', cur, hv, hB, by rw [hk g' hB hlt]; exact hg, h4⟩
theorem FRow.below {enc : α → List Value} {T : TypeId} {k B : Nat} {v : Value} {l : List α} {w w' : World} (h : FRow enc T k B v l w) (hb : Below w.heap.size w w') : FRow enc T k B v l w' := h.keep (fun g _ hg => hb.block g hg)
theorem FRow.drew {enc : α → List Value} {T : TypeId} {k B : Nat} {v : Value} {l : List α} {w : World} (h : FRow enc T k B v l w) : FRow enc T k B v l w.drew := h
theorem FRow.mono {enc : α → List Value} {T : TypeId} {k B C : Nat} {v : Value} {l : List α} {w : World} (h : FRow enc T k B v l w) (hC : C ≤ B) : FRow enc T k C v l w := by
  obtain ⟨h0, h1, h2⟩ := h
  refine ⟨h0, h1, ?_⟩
  rcases h2 with h3 | ⟨g', cap', cur, hv, hB, h4⟩
  · exact .inl h3
  · exact .inr ⟨g', cap', cur, hv, Nat.le_trans hC hB, h4⟩
theorem FRow.of {enc : α → List Value} {T : TypeId} {k B g n cap : Nat} {l : List α} {w : World} (h : w.ownsRow B T k (.slice (some ⟨g, 0, none⟩) n cap) n (l.flatMap enc)) (hn : n = l.length) : FRow enc T k B (.slice (some ⟨g, 0, none⟩) n cap) l w := by
  subst hn
  exact ⟨⟨g, cap, rfl⟩, h⟩
theorem info3 {P : Program} {t : TypeId} {z : Value} {n b : Nat} (h : (P.info? t).map (fun i => (i.zero, i.size, i.bytes)) = some (some z, n, b)) : ∃ i, P.info? t = some i ∧ i.zero = some z ∧ i.size = n ∧ i.bytes = b := by
  cases hi : P.info? t with
  | none => rw [hi] at h; cases h
  | some i =>
    rw [hi] at h
    simp only [Option.map_some, Option.some.injEq, Prod.mk.injEq] at h
    exact ⟨i, rfl, h.1, h.2.1, h.2.2⟩
end frow

end Go.Proofs.YtialhnocknogpaaGreatDoor

set_option linter.unusedVariables false
namespace Go.Proofs.YtialhnocknogpaaGreatDoor
open Go.RowKit

section
variable {P : Program} {w : World}
theorem run_append_any (t ty : TypeId) (base : Nat) (e : TypeId) (i : TypeInfo) (z : Value) (size bytes : Nat) (ht : P.underlying t = some (.slice e)) (hi : P.info? e = some i) (hz : i.zero = some z)
    (hsize : i.size = size) (hby : i.bytes = bytes) (hzs : z.cells.size = size) (hsz : 0 < size)
    (g0 c0 n : Nat) (xs : List Value) (hown : w.ownsRow base e size (.slice (some ⟨g0, 0, none⟩) n c0) n xs)
    (ad : Addr) (m c : Nat) (news : List Value) (hl : news.length = m * size) (hnews : ∀ j u, news[j]? = some u → w.cell? (ad.add j) = some u) (h1 : ∀ u ∈ news, u.oneCell' = true)
    (h63 : n + m ≤ maxLen) (hbytes : (n + m) * bytes ≤ 140737488355328) (hbase : base ≤ w.heap.size) :
    ∃ g cap w', (Builtin.append_ #[t, t] ty #[.slice (some ⟨g0, 0, none⟩) n c0, .slice (some ad) m c]).run P w = .ok (.slice (some ⟨g, 0, none⟩) (n + m) cap) w' ∧
      w'.ownsRow base e size (.slice (some ⟨g, 0, none⟩) (n + m) cap) (n + m) (xs ++ news) ∧ w.grownBy w' (some g0) ∧ (g0 = g ∨ g = w.heap.size) ∧ g < w'.heap.size := by
  obtain ⟨v', w', hr, h2, h3, _, h5⟩ := run_append_own_at (P := P) w base t ty e i z size bytes ht hi hz hsize hby hzs hsz (.slice (some ⟨g0, 0, none⟩) n c0) n xs hown ad m c news hl hnews h1 h63 hbytes hbase
  rcases h2.2 with ⟨h6, _⟩ | ⟨g, cap, cur, hv, hB, hg, _⟩
  · rw [h6] at h5
    rcases h5 with h5 | h5 <;> simp [Value.ownBlock] at h5
  · subst hv
    refine ⟨g, cap, w', hr, h2, h3, ?_, ?_⟩
    · rcases h5 with h5 | h5
      · left
        have : g = g0 := by simpa [Value.ownBlock] using h5
        exact this.symm
      · right
        simpa [Value.ownBlock] using h5
    · rcases Nat.lt_or_ge g w'.heap.size with h' | h'
      · exact h'
      · simp [Array.getElem?_eq_none h'] at hg
theorem step_append_any {ops : Array Oper} {o : Oper} {a : Act} {K : Act → World → Prop} {Q : Exit → Act → World → Prop} {E : Prop} (hgd : o.guard = none) (s x : Operand) (t : TypeId)
    (ho : o.op = .call { callee := .builtin .append, args := #[s, x], argTypes := #[t, t] })
    (base : Nat) (e : TypeId) (i : TypeInfo) (z : Value) (size bytes : Nat) (ht : P.underlying t = some (.slice e)) (hi : P.info? e = some i) (hz : i.zero = some z)
    (hsize : i.size = size) (hby : i.bytes = bytes) (hzs : z.cells.size = size) (hsz : 0 < size)
    (g0 c0 n : Nat) (xs : List Value) (hs : a.eval s = .slice (some ⟨g0, 0, none⟩) n c0) (hown : w.ownsRow base e size (.slice (some ⟨g0, 0, none⟩) n c0) n xs)
    (ad : Addr) (m c : Nat) (news : List Value) (hx : a.eval x = .slice (some ad) m c) (hl : news.length = m * size) (hnews : ∀ j u, news[j]? = some u → w.cell? (ad.add j) = some u) (h1 : ∀ u ∈ news, u.oneCell' = true)
    (h63 : n + m ≤ maxLen) (hbytes : (n + m) * bytes ≤ 140737488355328) (hbase : base ≤ w.heap.size)
    (h : ∀ g cap w', w'.ownsRow base e size (.slice (some ⟨g, 0, none⟩) (n + m) cap) (n + m) (xs ++ news) → w.grownBy w' (some g0) → Hid (g0 = g ∨ g = w.heap.size) → Hid (g < w'.heap.size) → K (a.put o.dst (.slice (some ⟨g, 0, none⟩) (n + m) cap)) w') :
    if Region.wanted o (yielded ops a.tmps) = true then Oper.wp P o a w K Q else E := by
  have hw : Region.wanted o (yielded ops a.tmps) = true := by simp [Region.wanted, hgd]
  rw [if_pos hw]
  obtain ⟨g, cap, w', hr, h2, h3, h4, h5⟩ := run_append_any (P := P) (w := w) t o.type base e i z size bytes ht hi hz hsize hby hzs hsz g0 c0 n xs hown ad m c news hl hnews h1 h63 hbytes hbase
  unfold Oper.wp execOp
  simp only [ho, resolve, invoke, builtin, Sem.run_bind, Sem.run_pure, Result.andThen_ok, List.map_toArray, List.map_cons, List.map_nil, hs, hx, hr]
  exact h g cap w' h2 h3 h4 h5
end

end Go.Proofs.YtialhnocknogpaaGreatDoor

set_option linter.unusedVariables false
namespace Go.Proofs.YtialhnocknogpaaGreatDoor
open Go.RowKit Go.Deep

/-- Peaks, the last first, with one more. -/
def addR : List PeakV → PeakV → List PeakV
  | [], p => [p]
  | q :: r, p => if q.count = p.count then addR r (bothP q p) else p :: q :: r
def addP (ps : List PeakV) (p : PeakV) : List PeakV := (addR ps.reverse p).reverse
theorem addP_nil (p : PeakV) : addP [] p = [p] := rfl
theorem addP_yes {ps : List PeakV} {q p : PeakV} (h : q.count = p.count) : addP (ps ++ [q]) p = addP ps (bothP q p) := by simp [addP, addR, h]
theorem addP_no {ps : List PeakV} {q p : PeakV} (h : ¬ q.count = p.count) : addP (ps ++ [q]) p = ps ++ [q] ++ [p] := by simp [addP, addR, h]
theorem take_one {ps : List PeakV} {m : Nat} (h : m < ps.length) : ps.take (m + 1) = ps.take m ++ [ps.getD m default] := by
  rw [List.take_add_one, List.getElem?_eq_getElem h]
  simp [List.getElem?_eq_getElem h]
/-- A peak that is ok, and not too many heads in it and ahead of it. -/
structure Room (ps : List PeakV) (m : Nat) (q : PeakV) : Prop where
  ok : peakOkB q = true
  few : q.count + cntTo ps m ≤ 21
theorem cnt_pos {ps : List PeakV} (h : ∀ i, i < ps.length → peakOkB (ps.getD i default) = true) : ∀ m, m ≤ ps.length → 0 ≤ cntTo ps m
  | 0, _ => Int.le_refl _
  | m + 1, hm => by
    have := cnt_pos h m (by omega)
    have := peakOk_in (h m (by omega))
    rw [cntTo]
    omega
theorem Room.step {ps : List PeakV} {m : Nat} {q : PeakV} (hk : ∀ i, i < ps.length → peakOkB (ps.getD i default) = true) (hm : m < ps.length) (h : Room ps (m + 1) q) (he : (ps.getD m default).count = q.count) : Room ps m (bothP (ps.getD m default) q) := by
  have h1 := peakOk_in (hk m hm)
  have h2 := peakOk_in h.ok
  have h3 := h.few
  have h4 := cnt_pos hk m (by omega)
  rw [cntTo] at h3
  refine ⟨?_, ?_⟩
  · have hs := isSum_both (ps.getD m default) q
    simp only [peakOkB, hs, Bool.true_and, Bool.and_eq_true, decide_eq_true_eq]
    show (1 ≤ (ps.getD m default).count + q.count ∧ (ps.getD m default).count + q.count ≤ 20) ∧ (ps.getD m default).count + q.count ≤ (ps.getD m default).work + q.work ∧ (ps.getD m default).work + q.work ≤ ((ps.getD m default).count + q.count) * 8
    omega
  · show (ps.getD m default).count + q.count + cntTo ps m ≤ 21
    omega
abbrev PRow (B : Nat) (v : Value) (l : List PeakV) (w : World) : Prop := FRow pEnc 54 3 B v l w
theorem pEnc_one (p : PeakV) : ∀ u ∈ pEnc p, u.oneCell' = true := by
  intro u hu
  simp only [pEnc, List.mem_cons, List.not_mem_nil, or_false] at hu
  rcases hu with rfl | rfl | rfl <;> rfl
theorem pEncs_one (l : List PeakV) : ∀ u ∈ l.flatMap pEnc, u.oneCell' = true := by
  intro u hu
  obtain ⟨p, _, hp⟩ := List.mem_flatMap.1 hu
  exact pEnc_one p u hp
section
variable {P : Program} {w : World}
theorem wpList_append_any {ops : Array Oper} {rest : List Oper} {o : Oper} {a : Act} {Q : Exit → Act → World → Prop} (hgd : o.guard = none) (s x : Operand) (t : TypeId)
    (ho : o.op = .call { callee := .builtin .append, args := #[s, x], argTypes := #[t, t] })
    (base : Nat) (e : TypeId) (i : TypeInfo) (z : Value) (size bytes : Nat) (ht : P.underlying t = some (.slice e)) (hi : P.info? e = some i) (hz : i.zero = some z)
    (hsize : i.size = size) (hby : i.bytes = bytes) (hzs : z.cells.size = size) (hsz : 0 < size)
    (g0 c0 n : Nat) (xs : List Value) (hs : a.eval s = .slice (some ⟨g0, 0, none⟩) n c0) (hown : w.ownsRow base e size (.slice (some ⟨g0, 0, none⟩) n c0) n xs)
    (ad : Addr) (m c : Nat) (news : List Value) (hx : a.eval x = .slice (some ad) m c) (hl : news.length = m * size) (hnews : ∀ j u, news[j]? = some u → w.cell? (ad.add j) = some u) (h1 : ∀ u ∈ news, u.oneCell' = true)
    (h63 : n + m ≤ maxLen) (hbytes : (n + m) * bytes ≤ 140737488355328) (hbase : base ≤ w.heap.size)
    (h : ∀ g cap w', w'.ownsRow base e size (.slice (some ⟨g, 0, none⟩) (n + m) cap) (n + m) (xs ++ news) → w.grownBy w' (some g0) → Hid (g0 = g ∨ g = w.heap.size) → Hid (g < w'.heap.size) → wpList P ops Q rest (a.put o.dst (.slice (some ⟨g, 0, none⟩) (n + m) cap)) w') : wpList P ops Q (o :: rest) a w := by
  refine wpList_plain hgd fun _ hK => ?_
  obtain ⟨g, cap, w', hr, h2, h3, h4, h5⟩ := run_append_any (P := P) (w := w) t o.type base e i z size bytes ht hi hz hsize hby hzs hsz g0 c0 n xs hown ad m c news hl hnews h1 h63 hbytes hbase
  unfold Oper.wp execOp
  simp only [ho, resolve, invoke, builtin, Sem.run_bind, Sem.run_pure, Result.andThen_ok, List.map_toArray, List.map_cons, List.map_nil, hs, hx, hr]
  exact hK _ _ (h g cap w' h2 h3 h4 h5)
end

end Go.Proofs.YtialhnocknogpaaGreatDoor

set_option linter.unusedVariables false
namespace Go.Proofs.YtialhnocknogpaaGreatDoor
open Go.RowKit Go.Deep

theorem add0 (g j : Nat) : (⟨g, 0, none⟩ : Addr).add j = ⟨g, j, none⟩ := by unfold Addr.add; split <;> simp_all
theorem drewAlloc (w : World) (o : Obj) : (w.alloc o).drew = w.drew.alloc o := rfl
def sliceLen : Value → Nat
  | .slice _ n _ => n
  | _ => 0

set_option maxHeartbeats 8000000 in
set_option maxRecDepth 100000 in
theorem specL5Add (g n cap : Nat) (ps : List PeakV) (p : PeakV) (w : World) (h : AtP w g ps) (hn : n = ps.length) (hm : n ≤ 1048576) (hk : ∀ i, i < ps.length → peakOkB (ps.getD i default) = true) (hr : Room ps n p) :
    Calls Tryz.prog 41 #[.slice (some ⟨g, 0, none⟩) n cap, peakVal p] w fun e w' => ∃ v, e = .returned v ∧ PRow w.heap.size v (addP ps p) w' ∧ Below w.heap.size w w' := by
  obtain ⟨i0, hi, hz0, hz1, hz2⟩ := info3 infoPeak
  have HA : Hid (AtP w g ps) := h
  have HN : Hid (n = ps.length) := hn
  have HKP : Hid (∀ i, i < ps.length → peakOkB (ps.getD i default) = true) := hk
  have HR0 : Hid (Room ps n p) := hr
  have HAD : Hid (addP (ps.take n) p = addP ps p) := by show _ = _; rw [hn, List.take_length]
  generalize addP ps p = A at HAD ⊢
  unfold peakVal
  have C0 : Hid (CBk ((w.alloc (.cells #[.string p.sum, .int .i64 p.work, .int .i64 p.count] 54)).alloc (.cells #[] 54)) w.heap.size 54 #[.string p.sum, .int .i64 p.work, .int .i64 p.count]) := (CBk.new w _ _).alloc _
  have L0 : Hid (Below w.heap.size w ((w.alloc (.cells #[.string p.sum, .int .i64 p.work, .int .i64 p.count] 54)).alloc (.cells #[] 54))) := ((Below.refl _ w).alloc (Nat.le_refl _) _).alloc (by simp) _
  have R0 : Hid (((w.alloc (.cells #[.string p.sum, .int .i64 p.work, .int .i64 p.count] 54)).alloc (.cells #[] 54)).ownsRow (w.heap.size + 1) 54 3 (.slice (some ⟨w.heap.size + 1, 0, none⟩) 0 0) 0 []) := by
    have := (frow_new pEnc 54 3 (w.alloc (.cells #[.string p.sum, .int .i64 p.work, .int .i64 p.count] 54))).2
    rwa [show (w.alloc (.cells #[.string p.sum, .int .i64 p.work, .int .i64 p.count] 54)).heap.size = w.heap.size + 1 from by simp] at this
  have HZ : Hid (((w.alloc (.cells #[.string p.sum, .int .i64 p.work, .int .i64 p.count] 54)).alloc (.cells #[] 54)).heap.size = w.heap.size + 2) := by show _ = _; simp
  have HU : Hid (∀ u ∈ ps.flatMap pEnc, u.oneCell' = true) := pEncs_one ps
  have HNW : Hid (∀ wx, Below w.heap.size w wx → ∀ j u, (ps.flatMap pEnc)[j]? = some u → wx.cell? ((⟨g, 0, none⟩ : Addr).add j) = some u) := by
    intro wx hb j u hj
    have hat := HA.out.below hb HA.out.1
    have hjl : j < (ps.flatMap pEnc).length := by
      rcases Nat.lt_or_ge j (ps.flatMap pEnc).length with h' | h'
      · exact h'
      · rw [List.getElem?_eq_none h'] at hj; cases hj
    rw [flat_length 3 pEnc pEnc_len] at hjl
    have hq : j = j / 3 * 3 + j % 3 := by omega
    have hi3 : j / 3 < ps.length := by omega
    have h3 := hat.2 (j / 3) (j % 3) hi3 (Nat.mod_lt _ (by decide))
    have hf := flat_at 3 pEnc pEnc_len ps (j / 3) (j % 3) hi3 (Nat.mod_lt _ (by decide))
    rw [← hq] at h3 hf
    rw [add0, h3, ← hf]
    exact hj
  have HPL : Hid ((ps.flatMap pEnc).length = n * 3) := by show _ = _; rw [flat_length 3 pEnc pEnc_len, hn]
  clear h hn hk hr
  have hy1 : 0 + n ≤ maxLen := by unfold maxLen; omega
  have hy2 : (0 + n) * 32 ≤ 140737488355328 := by omega
  go_enter Tryz.func41, Tryz.ntmps41
  have hzz : w.heap.size + 1 ≤ ((w.alloc (.cells #[.string p.sum, .int .i64 p.work, .int .i64 p.count] 54)).alloc (.cells #[] 54)).heap.size := by have := HZ.out; omega
  obtain ⟨g3, hg3⟩ : ∃ g3, g3 = w.heap.size := ⟨_, rfl⟩
  have HG3 : Hid (g3 = w.heap.size) := hg3
  go_wp2_with (at_builtin; refine wpList_append_any rfl _ _ 25 rfl (w.heap.size + 1) 54 i0 (.agg #[.string ⟨#[]⟩, .int .i64 0, .int .i64 0]) 3 32 Tryz.underlying25 hi hz0 hz1 hz2 rfl (by decide) (w.heap.size + 1) 0 0 [] (by rfl) R0.out ⟨g, 0, none⟩ n cap (ps.flatMap pEnc) (by rfl) HPL.out (HNW.out _ L0.out) HU.out hy1 hy2 hzz ?_; intro g5 c5 w1 hown1 hgrow1 hat1 hlt1)
  have C1 : Hid (CBk w1 g3 54 #[.string p.sum, .int .i64 p.work, .int .i64 p.count]) := by
    have := C0.out
    rw [← hg3] at this
    unfold CBk at this ⊢
    rw [hgrow1.block g3 (by have := HZ.out; omega) (by simp; omega)]
    exact this
  have B1 : Hid (Below w.heap.size w w1) := L0.out.grown hgrow1 (by have := HZ.out; omega) (fun j hj => by cases hj; omega)
  have RW1 : Hid (w1.ownsRow (w.heap.size + 1) 54 3 (.slice (some ⟨g5, 0, none⟩) n c5) n ((ps.take n).flatMap pEnc)) := by
    have e : ps.take n = ps := by rw [HN.out, List.take_length]
    rw [Nat.zero_add, List.nil_append] at hown1
    show World.ownsRow _ _ _ _ _ _ _
    rw [e]
    exact hown1
  rw [← hg3]
  clear hown1 hgrow1 hat1 hlt1 C0 L0 R0 HZ hzz hy1 hy2 HNW HU HPL
  clear hg3
  go_wp2_with fail
  go_loopw [5] (fun out wr => ∃ (m g5 c5 : Nat) (q : PeakV), m ≤ n ∧ out = .slice (some ⟨g5, 0, none⟩) m c5 ∧ Hid (wr.ownsRow (w.heap.size + 1) 54 3 (.slice (some ⟨g5, 0, none⟩) m c5) m ((ps.take m).flatMap pEnc)) ∧ Hid (CBk wr g3 54 #[.string q.sum, .int .i64 q.work, .int .i64 q.count]) ∧ Hid (addP (ps.take m) q = A) ∧ Hid (Room ps m q) ∧ Hid (Below w.heap.size w wr)) (fun out _ => sliceLen out)
  case atStart => exact ⟨n, g5, c5, p, Nat.le_refl _, rfl, RW1, C1, HAD, HR0, B1⟩
  case round =>
    clear RW1 C1 HAD HR0 B1
    obtain ⟨m, g5, c5, q, hmn, rfl, RW, CR, HAD, HRM, HB⟩ := hrel
    obtain ⟨d0, d1, d2⟩ := CR.out.cells3
    cases m with
    | zero =>
      have hd0 : decide ((0 : Int) < ((0 : Nat) : Int)) = false := by decide
      have hd1 : ((0 : Nat) : Int) = 0 := rfl
      have HRV : Hid (A = ps.take 0 ++ [q]) := by show _ = _; rw [← HAD.out, List.take_zero, addP_nil]; rfl
      go_wp2_with fail
      go_big_region
      obtain ⟨d0, d1, d2⟩ := CR.out.cells3
      have hx1 : 0 + 1 ≤ maxLen := by unfold maxLen; omega
      have hx2 : (0 + 1) * 32 ≤ 140737488355328 := by omega
      have hu := pEnc_one q
      have hsz : w.heap.size + 1 ≤ wr.heap.size := by have := CR.out.lt; have := HG3.out; omega
      have HRW : Hid (wr.drew.ownsRow (w.heap.size + 1) 54 3 (.slice (some ⟨g5, 0, none⟩) (0) c5) (0) ((ps.take (0)).flatMap pEnc)) := RW.out
      go_wp2_with (at_builtin; rw [drewAlloc]; refine wp_appN rfl _ _ 25 rfl (w.heap.size + 1) 54 i0 (.agg #[.string ⟨#[]⟩, .int .i64 0, .int .i64 0]) 3 32 1 Tryz.underlying25 hi hz0 hz1 hz2 rfl (by decide) (by decide) (.slice (some ⟨g5, 0, none⟩) (0) c5) (0) _ rfl HRW.out (pEnc q) (by first | rfl | simp [Act.eval]) rfl hu hx1 hx2 hsz ?_; intro g6 c6 w6 hown6 hb6 hkeep6)
      have R6 : Hid (PRow w.heap.size (.slice (some ⟨g6, 0, none⟩) (0 + 1) c6) A w6) := by
        have hv : A = ps.take (0) ++ [q] := HRV.out
        have hl : (ps.take (0)).length = 0 := by rw [List.length_take]; have := HN.out; omega
        have : PRow (w.heap.size + 1) (.slice (some ⟨g6, 0, none⟩) (0 + 1) c6) (ps.take (0) ++ [q]) w6 := FRow.of (by rw [List.flatMap_append]; simpa using hown6) (by rw [List.length_append, hl]; rfl)
        rw [hv]
        exact this.mono (Nat.le_succ _)
      have B6 : Hid (Below w.heap.size w w6) := HB.out.drew.trans (hb6.mono (Nat.le_succ _))
      clear hown6 hb6 hkeep6
      go_wp2_with fail
      go_ret
      exact ⟨_, rfl, R6.out, B6.out⟩
    | succ m =>
      have hml : m < ps.length := by rw [← HN.out]; omega
      have HRO : Hid (PRow (w.heap.size + 1) (.slice (some ⟨g5, 0, none⟩) (m + 1) c5) (ps.take (m + 1)) wr) := FRow.of RW.out (by rw [List.length_take]; omega)
      have hat := (FRow.at pEnc_len HRO.out).1
      have hlen : m < (ps.take (m + 1)).length := by rw [List.length_take]; omega
      have q0 := AtP.c0 hat m hlen
      have q1 := AtP.c1 hat m hlen
      have q2 := AtP.c2 hat m hlen
      have hgt : (ps.take (m + 1)).getD m default = ps.getD m default := by simp
      rw [hgt] at q0 q1 q2
      have HGE : Hid (w.heap.size + 1 ≤ g5 ∧ g5 < wr.heap.size) := ⟨(FRow.at pEnc_len HRO.out).2.2.1, hat.1⟩
      have HCC : Hid (m + 1 ≤ c5) := (FRow.at pEnc_len HRO.out).2.2.2
      have HKM : Hid (peakOkB (ps.getD m default) = true) := HKP.out m hml
      have HS : Hid ((ps.getD m default).count = q.count → Room ps m (bothP (ps.getD m default) q)) := fun he => HRM.out.step HKP.out hml he
      have HYES : Hid ((ps.getD m default).count = q.count → addP (ps.take m) (bothP (ps.getD m default) q) = A) := fun he => by
        rw [← HAD.out, take_one hml, addP_yes he]
      have HNO : Hid (¬ (ps.getD m default).count = q.count → A = ps.take (m + 1) ++ [q]) := fun he => by
        rw [← HAD.out, take_one hml, addP_no he]
      have hd0 : decide ((0 : Int) < ((m + 1 : Nat) : Int)) = true := decide_eq_true (by omega)
      have hd2 : (0 : Int) < ((m + 1 : Nat) : Int) := by omega
      have hw1 : IntKind.i64.wrap (((m + 1 : Nat) : Int) - 1) = (m : Int) := by rw [IntKind.wrap_i64]; omega
      have lm0 : (0 : Int) ≤ (m : Int) := by omega
      have lm1 : (m : Int) < ((m + 1 : Nat) : Int) := by omega
      obtain ⟨M, hM⟩ : ∃ M, M = m + 1 := ⟨_, rfl⟩
      have HM : Hid (M = m + 1) := hM
      rw [← hM] at hd0 hd2 hw1 lm1 ⊢
      rw [← hM] at HRO RW HNO HCC hmn
      have HTK : Hid (ps.take M = ps.take m ++ [ps.getD m default]) := by show _ = _; rw [hM, take_one hml]
      have hdN : decide (0 < M) = true := decide_eq_true (by omega)
      have hdN2 : 0 < M := by omega
      clear hM hat hlen hgt hml HAD
      generalize ps.getD m default = t at q0 q1 q2 HKM HS HYES HNO HTK
      by_cases he : t.count = q.count
      · have heb : (t.count == q.count) = true := by simpa using he
        have HRM2 : Hid (Room ps m (bothP t q)) := HS.out he
        have HAD2 : Hid (addP (ps.take m) (bothP t q) = A) := HYES.out he
        have hp1 := fun w' => specL5Both t q w' HKM.out HRM.out.ok
        unfold peakVal at hp1
        have lmc : (m : Int) ≤ (c5 : Int) := by have := HCC.out; have := HM.out; omega
        have hc0 : ¬ c5 = 0 := by have := HCC.out; have := HM.out; omega
        clear HS HYES HNO he
        go_wp2_with fail
        go_big_region
        go_wp2_with fail
        go_region_with (go_at_call 68; refine (hp1 _).mono ?_; rintro e w5 ⟨rfl, b5⟩; have C5 : Hid (CBk w5 g3 54 #[.string q.sum, .int .i64 q.work, .int .i64 q.count]) := CBk.call (w := wr.drew.drew) CR.out b5; obtain ⟨m0, m1, m2⟩ := C5.out.cells3; obtain ⟨f0, f1, f2⟩ := C5.out.free3)
        all_goals
          have C6 : Hid (CBk (((w5.setCell ⟨g3, 0, none⟩ (.string (bothP t q).sum)).setCell ⟨g3, 1, none⟩ (.int .i64 (bothP t q).work)).setCell ⟨g3, 2, none⟩ (.int .i64 (bothP t q).count)) g3 54 #[.string (bothP t q).sum, .int .i64 (bothP t q).work, .int .i64 (bothP t q).count]) := C5.out.set3
          have B6 : Hid (Below w.heap.size w (((w5.setCell ⟨g3, 0, none⟩ (.string (bothP t q).sum)).setCell ⟨g3, 1, none⟩ (.int .i64 (bothP t q).work)).setCell ⟨g3, 2, none⟩ (.int .i64 (bothP t q).count))) := by
            have e4 := HG3.out
            exact (((HB.out.drew.drew.trans (Below.mono (w := wr.drew.drew) b5 HB.out.size)).setCell (p := ⟨g3, 0, none⟩) (by show w.heap.size ≤ g3; omega) _).setCell (p := ⟨g3, 1, none⟩) (by show w.heap.size ≤ g3; omega) _).setCell (p := ⟨g3, 2, none⟩) (by show w.heap.size ≤ g3; omega) _
          have R6 : Hid ((((w5.setCell ⟨g3, 0, none⟩ (.string (bothP t q).sum)).setCell ⟨g3, 1, none⟩ (.int .i64 (bothP t q).work)).setCell ⟨g3, 2, none⟩ (.int .i64 (bothP t q).count)).ownsRow (w.heap.size + 1) 54 3 (.slice (some ⟨g5, 0, none⟩) m c5) m ((ps.take m).flatMap pEnc)) := by
            have hl : ((ps.take m).flatMap pEnc).length = m * 3 := by
              rw [flat_length 3 pEnc pEnc_len, List.length_take]
              have := HN.out
              have := HM.out
              omega
            have h5 : w5.ownsRow (w.heap.size + 1) 54 3 (.slice (some ⟨g5, 0, none⟩) (m + 1) c5) (m + 1) ((ps.take m).flatMap pEnc ++ pEnc t) := by
              have := (FRow.below (w := wr.drew.drew) HRO.out (w' := w5) b5).2
              rw [HTK.out, List.flatMap_append] at this
              have hmin : min m ps.length = m := by have := HN.out; have := HM.out; omega
              simpa [HM.out, List.length_take, hmin] using this
            have h6 := ownsRow_pop hl h5
            have hgg : ∀ (i : Nat) (v : Value) (wx : World), wx.ownsRow (w.heap.size + 1) 54 3 (.slice (some ⟨g5, 0, none⟩) m c5) m ((ps.take m).flatMap pEnc) → (wx.setCell ⟨g3, i, none⟩ v).ownsRow (w.heap.size + 1) 54 3 (.slice (some ⟨g5, 0, none⟩) m c5) m ((ps.take m).flatMap pEnc) := by
              intro i v wx hx
              obtain ⟨h1, h2⟩ := hx
              refine ⟨h1, ?_⟩
              rcases h2 with h3 | ⟨g', cap', cur, hv, hB, hg, h4⟩
              · exact .inl h3
              · refine .inr ⟨g', cap', cur, hv, hB, ?_, h4⟩
                have : g3 ≠ g' := by have := HG3.out; omega
                simp [World.setCell, Array.getElem?_modify, hg, this]
            exact hgg _ _ _ (hgg _ _ _ (hgg _ _ _ h6))
          generalize bothP t q = nq at C6 B6 R6 HRM2 HAD2
          clear C5 b5 m0 m1 m2 f0 f1 f2
          go_wp2_with fail
          go_roundw
          case rel => exact ⟨m, g5, c5, nq, by have := HM.out; omega, rfl, R6, C6, HAD2, HRM2, B6⟩
          case measure => have := HM.out; simp [sliceLen]; omega
      · have heb : (t.count == q.count) = false := by simpa using he
        have HRV : Hid (A = ps.take M ++ [q]) := HNO.out he
        have hMm : M ≤ 1048576 := by omega
        clear HS HYES HNO
        go_wp2_with fail
        go_big_region
        obtain ⟨d0, d1, d2⟩ := CR.out.cells3
        have hx1 : M + 1 ≤ maxLen := by unfold maxLen; omega
        have hx2 : (M + 1) * 32 ≤ 140737488355328 := by omega
        have hu := pEnc_one q
        have hsz : w.heap.size + 1 ≤ wr.heap.size := by have := CR.out.lt; have := HG3.out; omega
        have HRW : Hid (wr.drew.ownsRow (w.heap.size + 1) 54 3 (.slice (some ⟨g5, 0, none⟩) (M) c5) (M) ((ps.take (M)).flatMap pEnc)) := RW.out
        go_wp2_with (at_builtin; rw [drewAlloc]; refine wp_appN rfl _ _ 25 rfl (w.heap.size + 1) 54 i0 (.agg #[.string ⟨#[]⟩, .int .i64 0, .int .i64 0]) 3 32 1 Tryz.underlying25 hi hz0 hz1 hz2 rfl (by decide) (by decide) (.slice (some ⟨g5, 0, none⟩) (M) c5) (M) _ rfl HRW.out (pEnc q) (by first | rfl | simp [Act.eval]) rfl hu hx1 hx2 hsz ?_; intro g6 c6 w6 hown6 hb6 hkeep6)
        have R6 : Hid (PRow w.heap.size (.slice (some ⟨g6, 0, none⟩) (M + 1) c6) A w6) := by
          have hv : A = ps.take (M) ++ [q] := HRV.out
          have hl : (ps.take (M)).length = M := by rw [List.length_take]; have := HN.out; omega
          have : PRow (w.heap.size + 1) (.slice (some ⟨g6, 0, none⟩) (M + 1) c6) (ps.take (M) ++ [q]) w6 := FRow.of (by rw [List.flatMap_append]; simpa using hown6) (by rw [List.length_append, hl]; rfl)
          rw [hv]
          exact this.mono (Nat.le_succ _)
        have B6 : Hid (Below w.heap.size w w6) := HB.out.drew.trans (hb6.mono (Nat.le_succ _))
        clear hown6 hb6 hkeep6
        go_wp2_with fail
        go_ret
        exact ⟨_, rfl, R6.out, B6.out⟩

end Go.Proofs.YtialhnocknogpaaGreatDoor

set_option linter.unusedVariables false
namespace Go.Proofs.YtialhnocknogpaaGreatDoor
open Go.RowKit Go.Deep

theorem addR_all {C : PeakV → Prop} (hb : ∀ a b, C (bothP a b)) : ∀ (r : List PeakV) (p : PeakV), (∀ q ∈ r, C q) → C p → ∀ q ∈ addR r p, C q
  | [], p, _, hp, q, hq => by rw [List.mem_singleton.1 hq]; exact hp
  | x :: r, p, hr, hp, q, hq => by
    unfold addR at hq
    split at hq
    · exact addR_all hb r _ (fun y hy => hr y (List.mem_cons_of_mem _ hy)) (hb _ _) q hq
    · rcases List.mem_cons.1 hq with rfl | h2
      · exact hp
      · exact hr q h2
theorem addP_all {C : PeakV → Prop} (hb : ∀ a b, C (bothP a b)) {ps : List PeakV} {p : PeakV} (hr : ∀ q ∈ ps, C q) (hp : C p) : ∀ q ∈ addP ps p, C q := by
  intro q hq
  exact addR_all hb ps.reverse p (fun y hy => hr y (List.mem_reverse.1 hy)) hp q (List.mem_reverse.1 hq)
theorem addR_len : ∀ (r : List PeakV) (p : PeakV), (addR r p).length ≤ r.length + 1
  | [], p => by simp [addR]
  | x :: r, p => by
    unfold addR
    split
    · have := addR_len r (bothP x p)
      simp
      omega
    · simp
theorem addP_len (ps : List PeakV) (p : PeakV) : (addP ps p).length ≤ ps.length + 1 := by
  have := addR_len ps.reverse p
  simpa [addP] using this
theorem getD_all {C : PeakV → Prop} {l : List PeakV} (h : ∀ q ∈ l, C q) (i : Nat) (hi : i < l.length) : C (l.getD i default) := by
  rw [List.getD_eq_getElem?_getD, List.getElem?_eq_getElem hi]
  exact h _ (List.getElem_mem hi)

theorem peaks_ok {ps : List PeakV} (h : rangeOkB ps = true) (i : Nat) (hi : i < ps.length) : peakOkB (ps.getD i default) = true := by
  rw [rangeOkB, Bool.and_eq_true, List.all_eq_true] at h
  have := h.1 i (List.mem_range.2 hi)
  simp only [stepOk, Bool.and_eq_true] at this
  exact this.1
theorem range_cnt {ps : List PeakV} (h : rangeOkB ps = true) : cntTo ps ps.length ≤ 20 := by
  rw [rangeOkB, Bool.and_eq_true, decide_eq_true_eq] at h
  exact h.2

theorem newsPeaks {w wx : World} {g : Nat} {ps : List PeakV} (hA : AtP w g ps) (hb : Below w.heap.size w wx) : ∀ j u, (ps.flatMap pEnc)[j]? = some u → wx.cell? ((⟨g, 0, none⟩ : Addr).add j) = some u := by
  intro j u hj
  have hat := hA.below hb hA.1
  have hjl : j < (ps.flatMap pEnc).length := by
    rcases Nat.lt_or_ge j (ps.flatMap pEnc).length with h' | h'
    · exact h'
    · rw [List.getElem?_eq_none h'] at hj; cases hj
  rw [flat_length 3 pEnc pEnc_len] at hjl
  have hq : j = j / 3 * 3 + j % 3 := by omega
  have hi3 : j / 3 < ps.length := by omega
  have h3 := hat.2 (j / 3) (j % 3) hi3 (Nat.mod_lt _ (by decide))
  have hf := flat_at 3 pEnc pEnc_len ps (j / 3) (j % 3) hi3 (Nat.mod_lt _ (by decide))
  rw [← hq] at h3 hf
  rw [add0, h3, ← hf]
  exact hj

def AddPost (B : Nat) (ps : List PeakV) (h : HeadV) (e : Ending) (w' : World) : Prop :=
  ((rangeOkB ps && headOkB h) = false ∧ e = .returned (.tuple #[.slice none 0 0, .bool false])) ∨
  ((rangeOkB ps && headOkB h) = true ∧ ∃ v, e = .returned (.tuple #[v, .bool (rangeOkB (addP ps (leafP h)))]) ∧ PRow B v (if rangeOkB (addP ps (leafP h)) then addP ps (leafP h) else ps) w')

end Go.Proofs.YtialhnocknogpaaGreatDoor

set_option linter.unusedVariables false
namespace Go.Proofs.YtialhnocknogpaaGreatDoor
open Go.RowKit Go.Deep

def sumC : List PeakV → Int
  | [] => 0
  | p :: r => p.count + sumC r
theorem cnt_sum (ps : List PeakV) : ∀ k, k ≤ ps.length → cntTo ps k = sumC (ps.take k).reverse
  | 0, _ => by simp [cntTo, sumC]
  | k + 1, hk => by
    rw [cntTo, cnt_sum ps k (by omega), take_one (by omega), List.reverse_append]
    simp [sumC, Int.add_comm]
theorem cnt_all (ps : List PeakV) : cntTo ps ps.length = sumC ps.reverse := by
  rw [cnt_sum ps ps.length (Nat.le_refl _), List.take_length]
theorem addR_sum : ∀ (r : List PeakV) (p : PeakV), sumC (addR r p) = sumC r + p.count
  | [], p => by simp [addR, sumC]
  | x :: r, p => by
    unfold addR
    split
    · rw [addR_sum r (bothP x p)]
      simp only [sumC, bothP]
      omega
    · simp only [sumC]
      omega
theorem addP_cnt (ps : List PeakV) (p : PeakV) : cntTo (addP ps p) (addP ps p).length = cntTo ps ps.length + p.count := by
  rw [cnt_all, cnt_all, addP, List.reverse_reverse, addR_sum]
theorem sumC_pos : ∀ (r : List PeakV), (∀ q ∈ r, peakOkB q = true) → 0 ≤ sumC r
  | [], _ => Int.le_refl _
  | x :: r, h => by
    have h1 := peakOk_in (h x (List.mem_cons_self ..))
    have h2 := sumC_pos r (fun q hq => h q (List.mem_cons_of_mem _ hq))
    simp only [sumC]
    omega
theorem bothP_ok {a b : PeakV} (ha : peakOkB a = true) (hb : peakOkB b = true) (h : a.count + b.count ≤ 20) : peakOkB (bothP a b) = true := by
  have h1 := peakOk_in ha
  have h2 := peakOk_in hb
  have hs := isSum_both a b
  simp only [peakOkB, hs, Bool.true_and, Bool.and_eq_true, decide_eq_true_eq]
  show (1 ≤ a.count + b.count ∧ a.count + b.count ≤ 20) ∧ a.count + b.count ≤ a.work + b.work ∧ a.work + b.work ≤ (a.count + b.count) * 8
  omega
theorem addR_ok : ∀ (r : List PeakV) (p : PeakV), (∀ q ∈ r, peakOkB q = true) → peakOkB p = true → sumC r + p.count ≤ 20 → ∀ q ∈ addR r p, peakOkB q = true
  | [], p, _, hp, _, q, hq => by rw [List.mem_singleton.1 hq]; exact hp
  | x :: r, p, hr, hp, hs, q, hq => by
    have h1 := hr x (List.mem_cons_self ..)
    have h2 := fun y hy => hr y (List.mem_cons_of_mem _ hy)
    have h3 := sumC_pos r h2
    simp only [sumC] at hs
    unfold addR at hq
    split at hq
    · exact addR_ok r (bothP x p) h2 (bothP_ok h1 hp (by omega)) (by simp only [bothP]; omega) q hq
    · rcases List.mem_cons.1 hq with rfl | h4
      · exact hp
      · exact hr q h4
theorem addP_ok {ps : List PeakV} {p : PeakV} (hr : ∀ q ∈ ps, peakOkB q = true) (hp : peakOkB p = true) (h : cntTo ps ps.length + p.count ≤ 20) : ∀ q ∈ addP ps p, peakOkB q = true := by
  intro q hq
  rw [cnt_all] at h
  exact addR_ok ps.reverse p (fun y hy => hr y (List.mem_reverse.1 hy)) hp h q (List.mem_reverse.1 hq)

/-- The peaks of the first heads. -/
def ofP (l : List HeadV) : Nat → List PeakV
  | 0 => []
  | k + 1 => addP (ofP l k) (leafP (l.getD k default))
theorem ofP_ok {l : List HeadV} (h : ∀ i, i < l.length → headOkB (l.getD i default) = true) (hl : l.length ≤ 20) : ∀ k, k ≤ l.length → (∀ q ∈ ofP l k, peakOkB q = true) ∧ cntTo (ofP l k) (ofP l k).length = (k : Int) ∧ (ofP l k).length ≤ k
  | 0, _ => ⟨fun q hq => by simp [ofP] at hq, rfl, Nat.le_refl _⟩
  | k + 1, hk => by
    obtain ⟨h1, h2, h3⟩ := ofP_ok h hl k (by omega)
    have hp : peakOkB (leafP (l.getD k default)) = true := fine_ok (fine_leaf (h k (by omega))) (by show (1 : Int) ≤ 20; decide)
    have hc : (leafP (l.getD k default)).count = 1 := rfl
    refine ⟨addP_ok h1 hp (by rw [h2, hc]; omega), ?_, ?_⟩
    · show cntTo (addP _ _) (addP _ _).length = _
      rw [addP_cnt, h2, hc]
      omega
    · have := addP_len (ofP l k) (leafP (l.getD k default))
      show (addP _ _).length ≤ _
      omega

end Go.Proofs.YtialhnocknogpaaGreatDoor

set_option linter.unusedVariables false
namespace Go.Proofs.YtialhnocknogpaaGreatDoor
open Go.RowKit Go.Deep

/-- The peak of the 2^j leaves from a on. -/
def treeT (f : Nat → PeakV) (a : Nat) : Nat → PeakV
  | 0 => f a
  | j + 1 => bothP (treeT f a j) (treeT f (a + 2 ^ j) j)
/-- The steps beside the way of leaf a + x in it, the lowest first. -/
def sibT (f : Nat → PeakV) (a : Nat) : Nat → Nat → List PeakV
  | 0, _ => []
  | j + 1, x => if x < 2 ^ j then sibT f a j x ++ [treeT f (a + 2 ^ j) j] else sibT f (a + 2 ^ j) j (x - 2 ^ j) ++ [treeT f a j]
/-- The same, a row at a time: 2^k leaves a place. -/
def sibR (f : Nat → PeakV) (a k : Nat) : Nat → Nat → List PeakV
  | 0, _ => []
  | j + 1, x => treeT f (a + (x + 1 - x % 2 * 2) * 2 ^ k) k :: sibR f a (k + 1) j (x / 2)
theorem sibR_top (f : Nat → PeakV) : ∀ (j a k x : Nat), x < 2 ^ (j + 1) → sibR f a k (j + 1) x = if x < 2 ^ j then sibR f a k j x ++ [treeT f (a + 2 ^ (j + k)) (j + k)] else sibR f (a + 2 ^ (j + k)) k j (x - 2 ^ j) ++ [treeT f a (j + k)]
  | 0, a, k, x, hx => by
    have h2 : x = 0 ∨ x = 1 := by have : x < 2 := by simpa using hx
                                  omega
    rcases h2 with rfl | rfl <;> simp [sibR]
  | j + 1, a, k, x, hx => by
    have e2 : 2 ^ (j + 1 + 1) = 2 * 2 ^ (j + 1) := Nat.pow_succ'
    have e1 : 2 ^ (j + 1) = 2 * 2 ^ j := Nat.pow_succ'
    have ek : j + 1 + k = j + (k + 1) := by omega
    rw [sibR, sibR_top f j a (k + 1) (x / 2) (by omega), ek]
    by_cases h : x < 2 ^ (j + 1)
    · rw [if_pos h, if_pos (by omega), sibR]
      rfl
    · rw [if_neg h, if_neg (by omega), sibR]
      have e3 : (x - 2 ^ (j + 1)) / 2 = x / 2 - 2 ^ j := by omega
      have e4 : x + 1 - x % 2 * 2 = 2 ^ (j + 1) + (x - 2 ^ (j + 1) + 1 - (x - 2 ^ (j + 1)) % 2 * 2) := by omega
      have e5 : a + (2 ^ (j + 1) + (x - 2 ^ (j + 1) + 1 - (x - 2 ^ (j + 1)) % 2 * 2)) * 2 ^ k = a + 2 ^ (j + (k + 1)) + (x - 2 ^ (j + 1) + 1 - (x - 2 ^ (j + 1)) % 2 * 2) * 2 ^ k := by
        rw [Nat.add_mul, ← Nat.pow_add, ← Nat.add_assoc, show j + 1 + k = j + (k + 1) from ek]
      rw [e3, e4, e5]
      rfl
theorem sibR_eq (f : Nat → PeakV) : ∀ (j a x : Nat), x < 2 ^ j → sibR f a 0 j x = sibT f a j x
  | 0, _, _, _ => rfl
  | j + 1, a, x, hx => by
    have e1 : 2 ^ (j + 1) = 2 * 2 ^ j := Nat.pow_succ'
    rw [sibR_top f j a 0 x hx, sibT, Nat.add_zero]
    by_cases h : x < 2 ^ j
    · rw [if_pos h, if_pos h, sibR_eq f j a x h]
    · rw [if_neg h, if_neg h, sibR_eq f j _ _ (by omega)]

/-- A row of peaks becomes the row above it. -/
def upP : List PeakV → List PeakV
  | p :: q :: r => bothP p q :: upP r
  | _ => []
def treeS : Nat → List PeakV → Nat → List PeakV
  | 0, _, _ => []
  | j + 1, row, x => row.getD (x + 1 - x % 2 * 2) default :: treeS j (upP row) (x / 2)
/-- m places of 2^k leaves each, from a on. -/
def rowT (f : Nat → PeakV) (a k : Nat) : Nat → List PeakV
  | 0 => []
  | m + 1 => treeT f a k :: rowT f (a + 2 ^ k) k m
theorem rowT_len (f : Nat → PeakV) : ∀ (m a k : Nat), (rowT f a k m).length = m
  | 0, _, _ => rfl
  | m + 1, a, k => by rw [rowT, List.length_cons, rowT_len f m]
theorem rowT_at (f : Nat → PeakV) : ∀ (m a k i : Nat), i < m → (rowT f a k m).getD i default = treeT f (a + i * 2 ^ k) k
  | m + 1, a, k, 0, _ => by simp [rowT]
  | m + 1, a, k, i + 1, h => by
    have := rowT_at f m (a + 2 ^ k) k i (by omega)
    rw [rowT, List.getD_cons_succ, this, Nat.add_mul, Nat.one_mul]
    congr 1
    omega
theorem upP_row (f : Nat → PeakV) : ∀ (m a k : Nat), upP (rowT f a k (2 * m)) = rowT f a (k + 1) m
  | 0, _, _ => rfl
  | m + 1, a, k => by
    have e1 : 2 ^ (k + 1) = 2 ^ k + 2 ^ k := by rw [Nat.pow_succ']; omega
    rw [show 2 * (m + 1) = 2 * m + 1 + 1 from by omega, rowT, rowT, upP, rowT, upP_row f m, treeT, e1, Nat.add_assoc]
theorem treeS_eq (f : Nat → PeakV) : ∀ (j a k x : Nat), x < 2 ^ j → treeS j (rowT f a k (2 ^ j)) x = sibR f a k j x
  | 0, _, _, _, _ => rfl
  | j + 1, a, k, x, hx => by
    have e1 : 2 ^ (j + 1) = 2 * 2 ^ j := Nat.pow_succ'
    rw [treeS, sibR, rowT_at f _ a k _ (by omega), e1, upP_row, treeS_eq f j a (k + 1) (x / 2) (by omega)]
/-- The specification's steps are those of the halves. -/
theorem treeS_sib (f : Nat → PeakV) (j a x : Nat) (hx : x < 2 ^ j) : treeS j (rowT f a 0 (2 ^ j)) x = sibT f a j x := by
  rw [treeS_eq f j a 0 x hx, sibR_eq f j a x hx]
end Go.Proofs.YtialhnocknogpaaGreatDoor

set_option linter.unusedVariables false
namespace Go.Proofs.YtialhnocknogpaaGreatDoor
open Go.RowKit Go.Deep

/-- A peak, and whether the leaf that is proved is in it. -/
abbrev NodeV := PeakV × Bool
def bothN (a b : NodeV) : NodeV := (bothP a.1 b.1, a.2 || b.2)
def noteN (a b : NodeV) : List PeakV := (if a.2 = true then [b.1] else []) ++ (if b.2 = true then [a.1] else [])
/-- A node pushed, the last one first: the stack, and what is noted. -/
def addN : List NodeV → NodeV → List NodeV
  | [], p => [p]
  | q :: r, p => if q.1.count = p.1.count then addN r (bothN q p) else p :: q :: r
def noteR : List NodeV → NodeV → List PeakV
  | [], _ => []
  | q :: r, p => if q.1.count = p.1.count then noteN q p ++ noteR r (bothN q p) else []
/-- The stack behind m leaves, the last node first; the notes. -/
def stkN (f : Nat → PeakV) (x : Nat) : Nat → List NodeV
  | 0 => []
  | m + 1 => addN (stkN f x m) (f m, decide (m = x))
def notesN (f : Nat → PeakV) (x : Nat) : Nat → List PeakV
  | 0 => []
  | m + 1 => notesN f x m ++ noteR (stkN f x m) (f m, decide (m = x))

/-- A node as its place and its height say. -/
def nodeT (f : Nat → PeakV) (x : Nat) (s : Nat × Nat) : NodeV := (treeT f s.1 s.2, decide (s.1 ≤ x ∧ x < s.1 + 2 ^ s.2))
/-- Places and heights, the last first: each ends where the one ahead of it in the list begins, and is higher. -/
def Shp : Nat → Nat → List (Nat × Nat) → Prop
  | e, _, [] => e = 0
  | e, j, s :: r => s.1 + 2 ^ s.2 = e ∧ j ≤ s.2 ∧ Shp s.1 (s.2 + 1) r
/-- What is noted for a leaf, as far as the halves go. -/
def sibS (f : Nat → PeakV) (x : Nat) : List (Nat × Nat) → List PeakV
  | [] => []
  | s :: r => if s.1 ≤ x ∧ x < s.1 + 2 ^ s.2 then sibT f s.1 s.2 (x - s.1) else sibS f x r
theorem treeT_cnt {f : Nat → PeakV} (hf : ∀ i, (f i).count = 1) : ∀ (j a : Nat), (treeT f a j).count = ((2 ^ j : Nat) : Int)
  | 0, a => by rw [treeT, hf]; rfl
  | j + 1, a => by
    have h1 := treeT_cnt hf j a
    have h2 := treeT_cnt hf j (a + 2 ^ j)
    have e1 : 2 ^ (j + 1) = 2 ^ j + 2 ^ j := by rw [Nat.pow_succ']; omega
    rw [treeT, e1]
    show (treeT f a j).count + (treeT f (a + 2 ^ j) j).count = _
    rw [h1, h2]
    omega
theorem pow_same {i j : Nat} (h : 2 ^ i = 2 ^ j) : i = j := by
  rcases Nat.lt_trichotomy i j with h' | h' | h'
  · have := Nat.pow_lt_pow_right (a := 2) (by decide) h'
    omega
  · exact h'
  · have := Nat.pow_lt_pow_right (a := 2) (by decide) h'
    omega
theorem node_both (f : Nat → PeakV) (x a j : Nat) : bothN (nodeT f x (a, j)) (nodeT f x (a + 2 ^ j, j)) = nodeT f x (a, j + 1) := by
  have e1 : 2 ^ (j + 1) = 2 ^ j + 2 ^ j := by rw [Nat.pow_succ']; omega
  simp only [bothN, nodeT, treeT, e1, Prod.mk.injEq, true_and]
  rw [← Bool.decide_or, decide_eq_decide]
  omega
theorem Shp.low {e j i : Nat} {r : List (Nat × Nat)} (h : Shp e j r) (hi : i ≤ j) : Shp e i r := by
  cases r with
  | nil => exact h
  | cons s r => exact ⟨h.1, Nat.le_trans hi h.2.1, h.2.2⟩
/-- No place of the list holds a leaf from its end on. -/
theorem sibS_no (f : Nat → PeakV) (x : Nat) : ∀ (r : List (Nat × Nat)) (e j : Nat), Shp e j r → e ≤ x → sibS f x r = []
  | [], _, _, _, _ => rfl
  | s :: r, e, j, h, hx => by
    obtain ⟨h1, h2, h3⟩ := h
    have : 0 < 2 ^ s.2 := Nat.two_pow_pos _
    rw [sibS, if_neg (by omega)]
    exact sibS_no f x r s.1 (s.2 + 1) h3 (by omega)
/-- One pushed on nodes as their places say: again nodes as their places say, and the notes grow to what the halves say. -/
theorem push_shp {f : Nat → PeakV} (hf : ∀ i, (f i).count = 1) (x : Nat) : ∀ (r : List (Nat × Nat)) (a j : Nat), Shp a j r →
    ∃ t, addN (r.map (nodeT f x)) (nodeT f x (a, j)) = t.map (nodeT f x) ∧ Shp (a + 2 ^ j) 0 t ∧
      sibS f x ((a, j) :: r) ++ noteR (r.map (nodeT f x)) (nodeT f x (a, j)) = sibS f x t
  | [], a, j, h => ⟨[(a, j)], rfl, ⟨rfl, Nat.zero_le _, h⟩, by simp [noteR]⟩
  | s :: r, a, j, h => by
    obtain ⟨h1, h2, h3⟩ := h
    obtain ⟨b, i⟩ := s
    dsimp only at h1 h2 h3
    have hp : 0 < 2 ^ i := Nat.two_pow_pos _
    by_cases hij : i = j
    · subst hij
      subst h1
      have e1 : 2 ^ (i + 1) = 2 ^ i + 2 ^ i := by rw [Nat.pow_succ']; omega
      obtain ⟨t, t1, t2, t3⟩ := push_shp hf x r b (i + 1) h3
      have hc : (nodeT f x (b, i)).1.count = (nodeT f x (b + 2 ^ i, i)).1.count := by
        show (treeT f b i).count = (treeT f (b + 2 ^ i) i).count
        rw [treeT_cnt hf, treeT_cnt hf]
      refine ⟨t, ?_, by rw [show b + 2 ^ i + 2 ^ i = b + 2 ^ (i + 1) from by omega]; exact t2, ?_⟩
      · rw [List.map_cons, addN, if_pos hc, node_both]
        exact t1
      · rw [List.map_cons, noteR, if_pos hc, node_both, ← t3, ← List.append_assoc]
        congr 1
        have ha : (nodeT f x (b, i)).2 = decide (b ≤ x ∧ x < b + 2 ^ i) := rfl
        have hb : (nodeT f x (b + 2 ^ i, i)).2 = decide (b + 2 ^ i ≤ x ∧ x < b + 2 ^ i + 2 ^ i) := rfl
        rw [noteN, ha, hb]
        simp only [sibS, decide_eq_true_eq]
        by_cases c1 : b + 2 ^ i ≤ x ∧ x < b + 2 ^ i + 2 ^ i
        · rw [if_pos c1, if_neg (by omega), if_pos c1, if_pos (by omega), sibT, if_neg (by omega), List.nil_append, show x - b - 2 ^ i = x - (b + 2 ^ i) from by omega]
          rfl
        · rw [if_neg c1, if_neg c1, List.append_nil]
          by_cases c2 : b ≤ x ∧ x < b + 2 ^ i
          · rw [if_pos c2, if_pos c2, if_pos (by omega), sibT, if_pos (by omega)]
            rfl
          · rw [if_neg c2, if_neg c2, if_neg (by omega), List.append_nil]
    · have hc : ¬ (nodeT f x (b, i)).1.count = (nodeT f x (a, j)).1.count := by
        show ¬ (treeT f b i).count = (treeT f a j).count
        rw [treeT_cnt hf, treeT_cnt hf]
        intro he
        exact hij (pow_same (by omega))
      refine ⟨(a, j) :: (b, i) :: r, ?_, ⟨rfl, Nat.zero_le _, h1, by show j + 1 ≤ i; omega, h3⟩, ?_⟩
      · rw [List.map_cons, addN, if_neg hc]
        rfl
      · rw [List.map_cons, noteR, if_neg hc, List.append_nil]
/-- The stack behind m leaves, and its notes. -/
theorem stk_shp {f : Nat → PeakV} (hf : ∀ i, (f i).count = 1) (x : Nat) : ∀ m, ∃ t, stkN f x m = t.map (nodeT f x) ∧ Shp m 0 t ∧ notesN f x m = sibS f x t
  | 0 => ⟨[], rfl, rfl, rfl⟩
  | m + 1 => by
    obtain ⟨t, t1, t2, t3⟩ := stk_shp hf x m
    obtain ⟨u, u1, u2, u3⟩ := push_shp hf x t m 0 t2
    have hn : ((f m, decide (m = x)) : NodeV) = nodeT f x (m, 0) := by
      simp only [nodeT, treeT, Prod.mk.injEq, true_and, decide_eq_decide]
      omega
    refine ⟨u, ?_, u2, ?_⟩
    · rw [stkN, t1, hn]
      exact u1
    · rw [notesN, t1, t3, hn, ← u3]
      congr 1
      by_cases hm : m = x
      · subst hm
        rw [sibS_no f m t m 0 t2 (Nat.le_refl _), sibS, if_pos (by simp), sibT]
      · rw [sibS, if_neg (by simp; omega)]
end Go.Proofs.YtialhnocknogpaaGreatDoor

set_option linter.unusedVariables false
namespace Go.Proofs.YtialhnocknogpaaGreatDoor
open Go.RowKit Go.Deep

theorem addN_fst : ∀ (r : List NodeV) (p : NodeV), (addN r p).map Prod.fst = addR (r.map Prod.fst) p.1
  | [], p => rfl
  | q :: r, p => by
    rw [addN, List.map_cons, addR]
    split
    · rw [addN_fst r (bothN q p)]
      rfl
    · rfl
def leafF (l : List HeadV) (i : Nat) : PeakV := leafP (l.getD i default)
theorem leafF_cnt (l : List HeadV) (i : Nat) : (leafF l i).count = 1 := rfl
theorem stk_ofP (l : List HeadV) (x : Nat) : ∀ m, (stkN (leafF l) x m).map Prod.fst = (ofP l m).reverse
  | 0 => rfl
  | m + 1 => by
    rw [stkN, addN_fst, stk_ofP l x m, ofP, addP, List.reverse_reverse]
    rfl
/-- The peaks of places and heights, the first first. -/
def peaksT (f : Nat → PeakV) (t : List (Nat × Nat)) : List PeakV := (t.map fun s => treeT f s.1 s.2).reverse
theorem peaksT_cons (f : Nat → PeakV) (s : Nat × Nat) (r : List (Nat × Nat)) : peaksT f (s :: r) = peaksT f r ++ [treeT f s.1 s.2] := by simp [peaksT]
theorem stk_peaks {l : List HeadV} {x m : Nat} {t : List (Nat × Nat)} (h : stkN (leafF l) x m = t.map (nodeT (leafF l) x)) : ofP l m = peaksT (leafF l) t := by
  have h1 := stk_ofP l x m
  rw [h, List.map_map] at h1
  have h2 := congrArg List.reverse h1
  rw [List.reverse_reverse] at h2
  exact h2.symm
theorem shp_cnt {f : Nat → PeakV} (hf : ∀ i, (f i).count = 1) : ∀ (t : List (Nat × Nat)) (e j : Nat), Shp e j t → cntTo (peaksT f t) (peaksT f t).length = (e : Int)
  | [], e, j, h => by
    obtain rfl : e = 0 := h
    rfl
  | s :: r, e, j, h => by
    obtain ⟨h1, h2, h3⟩ := h
    have h4 := shp_cnt hf r s.1 _ h3
    rw [cnt_all] at h4 ⊢
    rw [peaksT_cons, List.reverse_append]
    show (treeT f s.1 s.2).count + sumC (peaksT f r).reverse = _
    rw [h4, treeT_cnt hf]
    omega
theorem cnt_app (ps qs : List PeakV) : ∀ k, k ≤ ps.length → cntTo (ps ++ qs) k = cntTo ps k
  | 0, _ => rfl
  | k + 1, hk => by
    rw [cntTo, cntTo, cnt_app ps qs k (by omega)]
    congr 2
    rw [List.getD_eq_getElem?_getD, List.getD_eq_getElem?_getD, List.getElem?_append_left (by omega)]
theorem cnt_mono {ps : List PeakV} (h : ∀ q ∈ ps, 0 ≤ q.count) : ∀ (d k : Nat), k + d ≤ ps.length → cntTo ps k ≤ cntTo ps (k + d)
  | 0, k, _ => Int.le_refl _
  | d + 1, k, hd => by
    have h1 := cnt_mono h d k (by omega)
    have h2 : 0 ≤ (ps.getD (k + d) default).count := by
      rw [List.getD_eq_getElem?_getD, List.getElem?_eq_getElem (by omega)]
      exact h _ (List.getElem_mem _)
    rw [← Nat.add_assoc, cntTo]
    omega
theorem peaksT_pos {f : Nat → PeakV} (hf : ∀ i, (f i).count = 1) (t : List (Nat × Nat)) : ∀ q ∈ peaksT f t, 0 ≤ q.count := by
  intro q hq
  rw [peaksT, List.mem_reverse] at hq
  obtain ⟨s, _, rfl⟩ := List.mem_map.1 hq
  rw [treeT_cnt hf]
  exact Int.natCast_nonneg _
/-- The peak in which a leaf is: its place and height, and the notes for the leaf. -/
theorem shp_place {f : Nat → PeakV} (hf : ∀ i, (f i).count = 1) (x : Nat) : ∀ (t : List (Nat × Nat)) (e j : Nat), Shp e j t → x < e →
    ∃ (k a i : Nat), k < (peaksT f t).length ∧ (x : Int) < cntTo (peaksT f t) (k + 1) ∧ (∀ m, m < k → ¬ (x : Int) < cntTo (peaksT f t) (m + 1)) ∧ cntTo (peaksT f t) k = (a : Int) ∧ (peaksT f t).getD k default = treeT f a i ∧ a ≤ x ∧ x < a + 2 ^ i ∧ sibS f x t = sibT f a i (x - a)
  | [], e, j, h, hx => by
    obtain rfl : e = 0 := h
    omega
  | s :: r, e, j, h, hx => by
    obtain ⟨h1, h2, h3⟩ := h
    have hc := shp_cnt hf r s.1 _ h3
    have hl : (peaksT f (s :: r)).length = (peaksT f r).length + 1 := by rw [peaksT_cons, List.length_append]; rfl
    by_cases hs : s.1 ≤ x
    · have e0 : cntTo (peaksT f (s :: r)) (peaksT f r).length = (s.1 : Int) := by rw [peaksT_cons, cnt_app _ _ _ (Nat.le_refl _), hc]
      have e1 : (peaksT f (s :: r)).getD (peaksT f r).length default = treeT f s.1 s.2 := by
        rw [peaksT_cons, List.getD_eq_getElem?_getD, List.getElem?_append_right (Nat.le_refl _), Nat.sub_self]
        rfl
      refine ⟨(peaksT f r).length, s.1, s.2, by omega, ?_, ?_, e0, e1, hs, by omega, ?_⟩
      · rw [cntTo, e0, e1, treeT_cnt hf]
        generalize 2 ^ s.2 = P at h1 ⊢
        omega
      · intro m hm
        rw [peaksT_cons, cnt_app _ _ _ (by omega)]
        have := cnt_mono (peaksT_pos hf r) ((peaksT f r).length - (m + 1)) (m + 1) (by omega)
        rw [show m + 1 + ((peaksT f r).length - (m + 1)) = (peaksT f r).length from by omega, hc] at this
        omega
      · rw [sibS, if_pos (by omega)]
    · obtain ⟨k, a, i, k1, k2, k3, k4, k5, k6, k7, k8⟩ := shp_place hf x r s.1 _ h3 (by omega)
      refine ⟨k, a, i, by omega, ?_, ?_, ?_, ?_, k6, k7, ?_⟩
      · rw [peaksT_cons, cnt_app _ _ _ (by omega)]; exact k2
      · intro m hm
        rw [peaksT_cons, cnt_app _ _ _ (by omega)]
        exact k3 m hm
      · rw [peaksT_cons, cnt_app _ _ _ (by omega)]; exact k4
      · rw [peaksT_cons, List.getD_eq_getElem?_getD, List.getElem?_append_left k1, ← List.getD_eq_getElem?_getD]
        exact k5
      · rw [sibS, if_neg (by omega)]; exact k8
/-- What RangeProof tells of heads that are ok and a place among them: the peaks, and the steps that were noted; the specification finds the same in the tree of the place's peak. -/
theorem proof_same (l : List HeadV) (x m : Nat) (hx : x < m) : ∃ (k a i : Nat), placeP (ofP l m) (x : Int) = some k ∧ cntTo (ofP l m) k = (a : Int) ∧ ((ofP l m).getD k default).count = ((2 ^ i : Nat) : Int) ∧ a ≤ x ∧ x < a + 2 ^ i ∧ notesN (leafF l) x m = treeS i (rowT (leafF l) a 0 (2 ^ i)) (x - a) := by
  obtain ⟨t, t1, t2, t3⟩ := stk_shp (leafF_cnt l) x m
  have hp := stk_peaks t1
  obtain ⟨k, a, i, k1, k2, k3, k4, k5, k6, k7, k8⟩ := shp_place (leafF_cnt l) x t m 0 t2 hx
  rw [hp]
  refine ⟨k, a, i, place_at k1 k2 k3, k4, by rw [k5, treeT_cnt (leafF_cnt l)], k6, k7, ?_⟩
  rw [t3, k8, treeS_sib _ _ _ _ (by omega)]
end Go.Proofs.YtialhnocknogpaaGreatDoor

set_option linter.unusedVariables false
namespace Go.Proofs.YtialhnocknogpaaGreatDoor
open Go.RowKit Go.Deep

theorem sizeAlloc (w : World) (o : Obj) : w.heap.size ≤ (w.alloc o).heap.size := by simp
theorem grownOff {w w' : World} {o : Obj} {g : Nat} (h : (w.alloc o).grownBy w' (some g)) : ∀ c, c < w.heap.size → c ≠ g → w'.heap[c]? = w.heap[c]? := fun c hc hne =>
  (h.block c (Nat.lt_of_lt_of_le hc (sizeAlloc w o)) (by simpa using hne)).trans (Below.heap_alloc _ _ _ hc)
/-- A stack in memory: its block, its row of peaks. -/
structure StkW (w0 wr : World) (g r c M : Nat) (l : List PeakV) : Prop where
  s : CBk wr g 63 #[.slice (some ⟨r, 0, none⟩) M c, .func (.func 33) #[] #[], .func (.func 34) #[] #[]]
  row : wr.ownsRow w0.heap.size 54 3 (.slice (some ⟨r, 0, none⟩) M c) M (l.flatMap pEnc)
  len : l.length = M
  b : Below w0.heap.size w0 wr
  rg : r ≠ g
  lo : w0.heap.size ≤ g
def Stk (w0 wr : World) (g : Nat) (l : List PeakV) : Prop := ∃ r c M, StkW w0 wr g r c M l
theorem StkW.frow {w0 wr : World} {g r c M : Nat} {l : List PeakV} (h : StkW w0 wr g r c M l) : PRow w0.heap.size (.slice (some ⟨r, 0, none⟩) M c) l wr := FRow.of h.row h.len.symm
theorem StkW.at {w0 wr : World} {g r c M : Nat} {l : List PeakV} (h : StkW w0 wr g r c M l) : AtP wr r l ∧ M = l.length ∧ w0.heap.size ≤ r ∧ M ≤ c := FRow.at pEnc_len h.frow
theorem StkW.call {w0 wr w' : World} {g r c M : Nat} {l : List PeakV} (h : StkW w0 wr g r c M l) (hb : Below wr.heap.size wr w') : StkW w0 w' g r c M l :=
  ⟨h.s.call hb, (FRow.below h.frow hb).2 |> (fun x => by rw [h.len] at x; exact x), h.len, h.b.trans (hb.mono h.b.size), h.rg, h.lo⟩
theorem StkW.drew {w0 wr : World} {g r c M : Nat} {l : List PeakV} (h : StkW w0 wr g r c M l) : StkW w0 wr.drew g r c M l := h.call (Below.refl _ _).drew
theorem StkW.outs {w0 wr : World} {g r c M : Nat} {l : List PeakV} (h : StkW w0 wr g r c M l) : wr.cell? ⟨g, 0, none⟩ = some (.slice (some ⟨r, 0, none⟩) M c) ∧ wr.cell? ⟨g, 1, none⟩ = some (.func (.func 33) #[] #[]) ∧ wr.cell? ⟨g, 2, none⟩ = some (.func (.func 34) #[] #[]) := ⟨h.s.cell 0, h.s.cell 1, h.s.cell 2⟩
theorem rowKeep {B r c M g3 i : Nat} {xs : List Value} {wx : World} {v : Value} (hx : wx.ownsRow B 54 3 (.slice (some ⟨r, 0, none⟩) M c) M xs) (hne : r ≠ g3) : (wx.setCell ⟨g3, i, none⟩ v).ownsRow B 54 3 (.slice (some ⟨r, 0, none⟩) M c) M xs := by
  obtain ⟨h1, h2⟩ := hx
  refine ⟨h1, ?_⟩
  rcases h2 with h3 | ⟨g', cap', cur, hv, hB, hg, h4⟩
  · exact .inl h3
  · refine .inr ⟨g', cap', cur, hv, hB, ?_, h4⟩
    simp only [Value.slice.injEq, Option.some.injEq, Addr.mk.injEq, and_true] at hv
    have : g3 ≠ g' := by have := hv.1; omega
    simp [World.setCell, Array.getElem?_modify, hg, this]
theorem PushK {w0 wr w6 : World} {o : Obj} {g r c M : Nat} {l : List PeakV} (h : StkW w0 wr g r c M l) (hg : (wr.drew.alloc o).grownBy w6 (some r)) : CBk w6 g 63 #[.slice (some ⟨r, 0, none⟩) M c, .func (.func 33) #[] #[], .func (.func 34) #[] #[]] :=
  (grownOff hg g h.s.lt h.rg.symm).trans h.s
/-- Behind a store into a block of no other's. -/
theorem StkW.store {w0 wr : World} {g r c M : Nat} {l : List PeakV} (h : StkW w0 wr g r c M l) {g3 i : Nat} (v : Value) (h1 : g3 ≠ g) (h2 : r ≠ g3) (h3 : w0.heap.size ≤ g3) : StkW w0 (wr.setCell ⟨g3, i, none⟩ v) g r c M l :=
  ⟨h.s.other h1 v, rowKeep h.row h2, h.len, h.b.setCell (p := ⟨g3, i, none⟩) h3 v, h.rg, h.lo⟩
/-- The stack while one is pushed: the one's block beside it. -/
structure PushW (w0 wr : World) (g g3 r c M : Nat) (l : List PeakV) (q : PeakV) : Prop where
  k : StkW w0 wr g r c M l
  o : CBk wr g3 54 #[.string q.sum, .int .i64 q.work, .int .i64 q.count]
  n1 : g < g3
  n2 : r < g3
theorem PushW.call {w0 wr w' : World} {g g3 r c M : Nat} {l : List PeakV} {q : PeakV} (h : PushW w0 wr g g3 r c M l q) (hb : Below wr.heap.size wr w') : PushW w0 w' g g3 r c M l q := ⟨h.k.call hb, h.o.call hb, h.n1, h.n2⟩
theorem PushW.drew {w0 wr : World} {g g3 r c M : Nat} {l : List PeakV} {q : PeakV} (h : PushW w0 wr g g3 r c M l q) : PushW w0 wr.drew g g3 r c M l q := h.call (Below.refl _ _).drew
theorem PushW.two {w0 wr : World} {g g3 r c M : Nat} {l : List PeakV} {q : PeakV} (h : PushW w0 wr g g3 r c M l q) : (wr.cell? ⟨g, 0, none⟩ = some (.slice (some ⟨r, 0, none⟩) M c) ∧ wr.cell? ⟨g, 1, none⟩ = some (.func (.func 33) #[] #[]) ∧ wr.cell? ⟨g, 2, none⟩ = some (.func (.func 34) #[] #[])) ∧ (wr.cell? ⟨g3, 0, none⟩ = some (.string q.sum) ∧ wr.cell? ⟨g3, 1, none⟩ = some (.int .i64 q.work) ∧ wr.cell? ⟨g3, 2, none⟩ = some (.int .i64 q.count)) := ⟨h.k.outs, h.o.cell 0, h.o.cell 1, h.o.cell 2⟩
theorem PushW.all {w0 wr : World} {g g3 r c M m : Nat} {l : List PeakV} {q t : PeakV} (h : PushW w0 wr g g3 r c M l q) (hm : m < l.length) (ht : l.getD m default = t) : (wr.cell? ⟨g, 0, none⟩ = some (.slice (some ⟨r, 0, none⟩) M c) ∧ wr.cell? ⟨g, 1, none⟩ = some (.func (.func 33) #[] #[]) ∧ wr.cell? ⟨g, 2, none⟩ = some (.func (.func 34) #[] #[])) ∧ (wr.cell? ⟨r, m * 3, none⟩ = some (.string t.sum) ∧ wr.cell? ⟨r, m * 3 + 1, none⟩ = some (.int .i64 t.work) ∧ wr.cell? ⟨r, m * 3 + 2, none⟩ = some (.int .i64 t.count)) ∧ (wr.cell? ⟨g3, 0, none⟩ = some (.string q.sum) ∧ wr.cell? ⟨g3, 1, none⟩ = some (.int .i64 q.work) ∧ wr.cell? ⟨g3, 2, none⟩ = some (.int .i64 q.count)) := by
  have h1 := h.k.at.1
  refine ⟨h.k.outs, ?_, h.o.cell 0, h.o.cell 1, h.o.cell 2⟩
  rw [← ht]
  exact ⟨AtP.c0 h1 m hm, AtP.c1 h1 m hm, AtP.c2 h1 m hm⟩
theorem PushW.grown {w0 wr w6 : World} {o : Obj} {g g3 r c M : Nat} {l : List PeakV} {q : PeakV} (h : PushW w0 wr g g3 r c M l q) (hg : (wr.drew.alloc o).grownBy w6 (some r)) : CBk w6 g 63 #[.slice (some ⟨r, 0, none⟩) M c, .func (.func 33) #[] #[], .func (.func 34) #[] #[]] := PushK h.k hg
theorem PushW.grownTwo {w0 wr w6 : World} {o : Obj} {g g3 r c M : Nat} {l : List PeakV} {q : PeakV} (h : PushW w0 wr g g3 r c M l q) (hg : (wr.drew.alloc o).grownBy w6 (some r)) : (w6.cell? ⟨g, 0, none⟩ = some (.slice (some ⟨r, 0, none⟩) M c) ∧ w6.cell? ⟨g, 1, none⟩ = some (.func (.func 33) #[] #[]) ∧ w6.cell? ⟨g, 2, none⟩ = some (.func (.func 34) #[] #[])) ∧ (w6.cell? ⟨g3, 0, none⟩ = some (.string q.sum) ∧ w6.cell? ⟨g3, 1, none⟩ = some (.int .i64 q.work) ∧ w6.cell? ⟨g3, 2, none⟩ = some (.int .i64 q.count)) := by
  have h1 : CBk w6 g 63 #[.slice (some ⟨r, 0, none⟩) M c, .func (.func 33) #[] #[], .func (.func 34) #[] #[]] := PushK h.k hg
  have h2 : CBk w6 g3 54 #[.string q.sum, .int .i64 q.work, .int .i64 q.count] := (grownOff hg g3 h.o.lt (by have := h.n2; omega)).trans h.o
  exact ⟨⟨h1.cell 0, h1.cell 1, h1.cell 2⟩, h2.cell 0, h2.cell 1, h2.cell 2⟩
/-- Behind the store of another one. -/
theorem PushW.put {w0 wr : World} {g g3 r c M : Nat} {l : List PeakV} {q : PeakV} (h : PushW w0 wr g g3 r c M l q) (x : PeakV) : PushW w0 (((wr.setCell ⟨g3, 0, none⟩ (.string (x).sum)).setCell ⟨g3, 1, none⟩ (.int .i64 (x).work)).setCell ⟨g3, 2, none⟩ (.int .i64 (x).count)) g g3 r c M l x := by
  have h1 := h.n1
  have h2 := h.n2
  have h3 := h.k.lo
  exact ⟨((h.k.store _ (by omega) (by omega) (by omega)).store _ (by omega) (by omega) (by omega)).store _ (by omega) (by omega) (by omega), h.o.set3, h1, h2⟩
/-- Behind the store of a shorter row. -/
theorem PushW.pop {w0 wr : World} {g g3 r c m : Nat} {l : List PeakV} {q : PeakV} (h : PushW w0 wr g g3 r c (m + 1) l q) : PushW w0 (wr.setCell ⟨g, 0, none⟩ (.slice (some ⟨r, 0, none⟩) m c)) g g3 r c m (l.take m) q := by
  have h1 := h.n1
  have h2 := h.n2
  have h3 := h.k.lo
  have h4 := h.k.len
  have hml : m < l.length := by omega
  have e1 : l = l.take m ++ [l.getD m default] := by
    rw [← take_one hml, ← h4, List.take_length]
  have hl : ((l.take m).flatMap pEnc).length = m * 3 := by
    rw [flat_length 3 pEnc pEnc_len, List.length_take]
    omega
  have h5 : wr.ownsRow w0.heap.size 54 3 (.slice (some ⟨r, 0, none⟩) (m + 1) c) (m + 1) ((l.take m).flatMap pEnc ++ pEnc (l.getD m default)) := by
    have := h.k.row
    rw [e1, List.flatMap_append] at this
    have hmin : min m l.length = m := by omega
    simpa [List.take_append_of_le_length, List.length_take, hmin] using this
  have h6 := ownsRow_pop hl h5
  refine ⟨⟨h.k.s.set 0 _, rowKeep h6 h.k.rg, by rw [List.length_take]; omega, h.k.b.setCell (p := ⟨g, 0, none⟩) h3 _, h.k.rg, h3⟩, h.o.other (by omega) _, h1, h2⟩

def PushRes (w0 : World) (g : Nat) (l : List PeakV) (e : Ending) (w' : World) : Prop := e = .returned (.tuple #[]) ∧ Stk w0 w' g l
theorem push_res {w0 w' : World} {g r c M : Nat} {l : List PeakV} (h : StkW w0 w' g r c M l) : PushRes w0 g l (.returned (.tuple #[])) w' := ⟨rfl, r, c, M, h⟩
set_option maxHeartbeats 8000000 in
set_option maxRecDepth 100000 in
theorem implPush (w0 : World) (g : Nat) (ps : List PeakV) (p : PeakV) (w : World) (hs : Stk w0 w g ps) (hm : ps.length ≤ 1048576) (hk : ∀ i, i < ps.length → peakOkB (ps.getD i default) = true) (hr : Room ps ps.length p) (hK : RowG w0 shaK) (hP : TabP w0) :
    Calls Tryz.prog 20 #[.pointer (some ⟨g, 0, none⟩), peakVal p] w fun e w' => PushRes w0 g (addP ps p) e w' := by
  obtain ⟨r, c, n, h0⟩ := hs
  obtain ⟨i0, hi, hz0, hz1, hz2⟩ := info3 infoPeak
  have HN : Hid (n = ps.length) := h0.len.symm
  have HM0 : Hid (n ≤ 1048576) := by show _ ≤ _; have := h0.len; omega
  have HK : Hid (RowG w0 shaK) := hK
  have HP : Hid (TabP w0) := hP
  have HKP : Hid (∀ i, i < ps.length → peakOkB (ps.getD i default) = true) := hk
  have HR0 : Hid (Room ps n p) := by show Room _ _ _; rw [HN.out]; exact hr
  have HAD : Hid (addP (ps.take n) p = addP ps p) := by show _ = _; rw [HN.out, List.take_length]
  generalize addP ps p = A at HAD ⊢
  unfold peakVal
  have PZ : Hid (PushW w0 (w.alloc (.cells #[.string p.sum, .int .i64 p.work, .int .i64 p.count] 54)) g w.heap.size r c n ps p) := by
    have hb : Below w.heap.size w (w.alloc (.cells #[.string p.sum, .int .i64 p.work, .int .i64 p.count] 54)) := (Below.refl _ w).alloc (Nat.le_refl _) _
    exact ⟨h0.call hb, CBk.new w _ _, h0.s.lt, h0.at.1.1⟩
  have P0 : Hid (PushW w0 (w.alloc (.cells #[.string p.sum, .int .i64 p.work, .int .i64 p.count] 54)) g w.heap.size r c n (ps.take n) p) := by
    have e : ps.take n = ps := by rw [HN.out, List.take_length]
    rw [e]
    exact PZ.out
  clear hm hk hr hK hP h0 PZ
  obtain ⟨⟨a0, a1, a2⟩, x0⟩ := P0.out.two
  have hw0 : IntKind.i64.wrap ((n : Int) - 1) = (n : Int) - 1 := by have := HM0.out; rw [IntKind.wrap_i64]; omega
  go_enter Tryz.func20, Tryz.ntmps20
  go_wp2_with fail
  clear a0 a1 a2 x0 hw0
  generalize w.alloc (.cells #[.string p.sum, .int .i64 p.work, .int .i64 p.count] 54) = W0 at P0 ⊢
  obtain ⟨g3, hg3⟩ : ∃ g3, g3 = w.heap.size := ⟨_, rfl⟩
  rw [← hg3] at P0 ⊢
  clear hg3
  clear w
  go_loopw [4] (fun last wr => ∃ (m : Nat) (q : PeakV), m ≤ n ∧ last = .int .i64 ((m : Int) - 1) ∧ Hid (PushW w0 wr g g3 r c m (ps.take m) q) ∧ Hid (addP (ps.take m) q = A) ∧ Hid (Room ps m q)) (fun last _ => (intOf last + 1).toNat)
  case atStart => exact ⟨n, p, Nat.le_refl _, rfl, P0, HAD, HR0⟩
  case round =>
    clear P0 HAD HR0
    obtain ⟨m, q, hmn, rfl, PW, HAD, HRM⟩ := hrel
    cases m with
    | zero =>
      have e0 : ((0 : Nat) : Int) - 1 = -1 := rfl
      rw [e0]
      have hd0 : decide ((0 : Int) ≤ -1) = false := by decide
      have HRV : Hid (A = ps.take 0 ++ [q]) := by show _ = _; rw [← HAD.out, List.take_zero, addP_nil]; rfl
      obtain ⟨M, hM⟩ : ∃ M, M = 0 := ⟨_, rfl⟩
      have HM : Hid (M = 0) := hM
      rw [← hM] at PW HRV
      clear hM hmn HAD HRM
      obtain ⟨⟨a0, a1, a2⟩, d0, d1, d2⟩ := PW.out.two
      go_wp2_with fail
      go_big_region
      have PW1 : Hid (PushW w0 wr.drew g g3 r c M (ps.take M) q) := PW.out.drew
      have HLA : Hid ((ps.take M).length = M) := PW1.out.k.len
      have hx1 : M + 1 ≤ maxLen := by have h1 := HLA.out; rw [List.length_take] at h1; have h2 := HM0.out; have h3 := HN.out; unfold maxLen; omega
      have hx2 : (M + 1) * 32 ≤ 140737488355328 := by have h1 := HLA.out; rw [List.length_take] at h1; have h2 := HM0.out; have h3 := HN.out; omega
      have HRD : Hid (wr.drew.ownsRow w0.heap.size 54 3 (.slice (some ⟨r, 0, none⟩) M c) M ((ps.take M).flatMap pEnc)) := PW1.out.k.row
      have HZ : Hid (w0.heap.size ≤ wr.drew.heap.size ∧ g3 < wr.drew.heap.size ∧ g < g3 ∧ r < g3 ∧ r ≠ g ∧ w0.heap.size ≤ g ∧ w0.heap.size ≤ r) := ⟨PW1.out.k.b.size, PW1.out.o.lt, PW1.out.n1, PW1.out.n2, PW1.out.k.rg, PW1.out.k.lo, PW1.out.k.at.2.2.1⟩
      have PX : Hid (PushW w0 wr.drew.drew g g3 r c M (ps.take M) q) := PW1.out.drew
      have PA : Hid (PushW w0 (wr.drew.drew.alloc (.cells (pEnc q).toArray 54)) g g3 r c M (ps.take M) q) := PX.out.call ((Below.refl _ _).alloc (Nat.le_refl _) _)
      have hu := pEnc_one q
      have HCN : Hid (∀ j u, (pEnc q)[j]? = some u → (wr.drew.drew.alloc (.cells (pEnc q).toArray 54)).cell? ((⟨wr.drew.heap.size, 0, none⟩ : Addr).add j) = some u) := cells_new wr.drew.drew 54 (pEnc q)
      have HFd : Hid ((wr.drew.drew.alloc (.cells (pEnc q).toArray 54)).ownsRow w0.heap.size 54 3 (.slice (some ⟨r, 0, none⟩) M c) M ((ps.take M).flatMap pEnc)) := PA.out.k.row
      have HBZ : Hid (w0.heap.size ≤ (wr.drew.drew.alloc (.cells (pEnc q).toArray 54)).heap.size) := PA.out.k.b.size
      have HGT6 : Hid (∀ w6, (wr.drew.drew.alloc (.cells (pEnc q).toArray 54)).grownBy w6 (some r) → CBk w6 g 63 #[.slice (some ⟨r, 0, none⟩) M c, .func (.func 33) #[] #[], .func (.func 34) #[] #[]]) := fun w6 h => PW1.out.grown h
      have ba0 : (wr.alloc (.cells #[.string q.sum, .int .i64 q.work, .int .i64 q.count] 54)).cell? ⟨g, 0, none⟩ = some (.slice (some ⟨r, 0, none⟩) M c) := (Below.cell ((Below.refl _ wr).alloc (Nat.le_refl _) _) (p := ⟨g, 0, none⟩) PW.out.k.s.lt).trans PW.out.k.outs.1
      clear a0 a1 a2 d0 d1 d2
      obtain ⟨⟨a0, a1, a2⟩, d0, d1, d2⟩ := PX.out.two
      go_wp2_with fail
      go_region_law (refine step_append_any rfl (.tmp 56) (.tmp 58) 25 rfl w0.heap.size 54 i0 (.agg #[.string ⟨#[]⟩, .int .i64 0, .int .i64 0]) 3 32 Tryz.underlying25 hi hz0 hz1 hz2 rfl (by decide) r c M ((ps.take M).flatMap pEnc) (by simp [Act.eval]) HFd.out ⟨wr.drew.heap.size, 0, none⟩ 1 1 (pEnc q) (by simp [Act.eval]) rfl HCN.out hu hx1 hx2 HBZ.out ?_; intro g6 c6 w6 hown6 hgrow6 hat6 hlt6; have C6 : Hid (CBk w6 g 63 #[.slice (some ⟨r, 0, none⟩) M c, .func (.func 33) #[] #[], .func (.func 34) #[] #[]]) := HGT6.out w6 hgrow6; have q6 : w6.cell? ⟨g, 0, none⟩ = some (.slice (some ⟨r, 0, none⟩) M c) := C6.out.cell 0; have z6 : w6.frozen? ⟨g, 0, none⟩ = false := C6.out.frozen 0)
      all_goals
        have K6 : Hid (StkW w0 (w6.setCell ⟨g, 0, none⟩ (.slice (some ⟨g6, 0, none⟩) (M + 1) c6)) g g6 c6 (M + 1) A) := by
          have hz := HZ.out
          have hne : g6 ≠ g := by
            have h1 : r = g6 ∨ g6 = wr.drew.heap.size ∨ wr.drew.heap.size ≤ g6 := by
              rcases hat6.out with h1 | h1
              · exact .inl h1
              · right; right; rw [h1]; simp
            omega
          refine ⟨C6.out.set 0 _, rowKeep ?_ hne, ?_, ?_, hne, hz.2.2.2.2.2.1⟩
          · rw [HRV.out, List.flatMap_append]
            simpa using hown6
          · rw [HRV.out, List.length_append, HLA.out]
            rfl
          · exact (PA.out.k.b.grown hgrow6 PA.out.k.b.size (fun j hj => by cases hj; exact hz.2.2.2.2.2.2)).setCell (p := ⟨g, 0, none⟩) hz.2.2.2.2.2.1 _
        clear PX PA C6 HRD hown6 hgrow6 hat6 hlt6
        go_wp2_with fail
        exact bodyPost_ret (results_none rfl _ _ _) rfl (push_res K6.out)
    | succ m =>
      have e0 : ((m + 1 : Nat) : Int) - 1 = (m : Int) := by omega
      rw [e0]
      have hml : m < ps.length := by rw [← HN.out]; omega
      have hgt : (ps.take (m + 1)).getD m default = ps.getD m default := by simp
      have hlen : m < (ps.take (m + 1)).length := by rw [List.length_take]; omega
      have HKM : Hid (peakOkB (ps.getD m default) = true) := HKP.out m hml
      have HS : Hid ((ps.getD m default).count = q.count → Room ps m (bothP (ps.getD m default) q)) := fun he => HRM.out.step HKP.out hml he
      have HYES : Hid ((ps.getD m default).count = q.count → addP (ps.take m) (bothP (ps.getD m default) q) = A) := fun he => by
        rw [← HAD.out, take_one hml, addP_yes he]
      have HNO : Hid (¬ (ps.getD m default).count = q.count → A = ps.take (m + 1) ++ [q]) := fun he => by
        rw [← HAD.out, take_one hml, addP_no he]
      have HTT : Hid ((ps.take (m + 1)).take m = ps.take m) := by show _ = _; rw [List.take_take]; congr 1; omega
      have HLL : Hid (m < (ps.take (m + 1)).length) := hlen
      have HGT : Hid ((ps.take (m + 1)).getD m default = ps.getD m default) := hgt
      have hd0 : decide ((0 : Int) ≤ (m : Int)) = true := decide_eq_true (by omega)
      have hd1 : (0 : Int) ≤ (m : Int) := by omega
      have lm1 : (m : Int) < ((m + 1 : Nat) : Int) := by omega
      obtain ⟨M, hM⟩ : ∃ M, M = m + 1 := ⟨_, rfl⟩
      have HM : Hid (M = m + 1) := hM
      rw [← hM] at lm1
      rw [← hM] at PW HNO HLL HGT hmn
      have HTT : Hid ((ps.take M).take m = ps.take m) := by rw [hM]; exact HTT.out
      have HMN : Hid (M ≤ n) := hmn
      have hdn : decide (0 ≤ m) = true := decide_eq_true (by omega)
      have ltm : m < M := by omega
      clear hM hlen hgt hml HAD hmn
      generalize ps.getD m default = t at HKM HS HYES HNO HGT
      obtain ⟨⟨a0, a1, a2⟩, ⟨q0, q1, q2⟩, d0, d1, d2⟩ := PW.out.all HLL.out HGT.out
      have hal := fun w' => implPeakAlike t q w'
      unfold peakVal at hal
      have PD : Hid (PushW w0 wr.drew g g3 r c M (ps.take M) q) := PW.out.drew
      by_cases he : t.count = q.count
      · have heb : (t.count == q.count) = true := by simpa using he
        rw [heb] at hal
        have HRM2 : Hid (Room ps m (bothP t q)) := HS.out he
        have HAD2 : Hid (addP (ps.take m) (bothP t q) = A) := HYES.out he
        have HBO : Hid (∀ w', Below w0.heap.size w0 w' → Calls Tryz.prog 34 #[.agg #[.string t.sum, .int .i64 t.work, .int .i64 t.count], .agg #[.string q.sum, .int .i64 q.work, .int .i64 q.count]] w' fun e w'' => e = .returned (.agg #[.string (bothP t q).sum, .int .i64 (bothP t q).work, .int .i64 (bothP t q).count]) ∧ Below w'.heap.size w' w'') := fun w' hb => implPeakBoth t q w' HKM.out HRM.out.ok (HK.out.below hb HK.out.lt) (TabP.below HP.out hb (Nat.le_refl _))
        clear HS HYES HNO he heb HRM HKM
        go_wp2_with fail
        go_region_held3 (fun w' => (w'.cell? ⟨g, 0, none⟩ = some (.slice (some ⟨r, 0, none⟩) M c) ∧ w'.cell? ⟨g, 1, none⟩ = some (.func (.func 33) #[] #[]) ∧ w'.cell? ⟨g, 2, none⟩ = some (.func (.func 34) #[] #[])) ∧ (w'.cell? ⟨r, m * 3, none⟩ = some (.string t.sum) ∧ w'.cell? ⟨r, m * 3 + 1, none⟩ = some (.int .i64 t.work) ∧ w'.cell? ⟨r, m * 3 + 2, none⟩ = some (.int .i64 t.count)) ∧ (w'.cell? ⟨g3, 0, none⟩ = some (.string q.sum) ∧ w'.cell? ⟨g3, 1, none⟩ = some (.int .i64 q.work) ∧ w'.cell? ⟨g3, 2, none⟩ = some (.int .i64 q.count)))
          (first | exact PW.out.all HLL.out HGT.out | exact PD.out.all HLL.out HGT.out | exact P5.out.all HLL.out HGT.out)
          (first | (go_at_call 33; refine (hal _).mono ?_; rintro e w5 ⟨rfl, b5⟩; have P5 : Hid (PushW w0 w5 g g3 r c M (ps.take M) q) := PD.out.call b5))
        clear a0 a1 a2 q0 q1 q2 d0 d1 d2 PW PD b5
        obtain ⟨⟨a0, a1, a2⟩, ⟨q0, q1, q2⟩, d0, d1, d2⟩ := P5.out.all HLL.out HGT.out
        have hlt4 : (m : Int) < (M : Int) := lm1
        go_wp2_with fail
        go_region_with (go_at_call 34; refine (HBO.out _ (P5.out.drew.k.b)).mono ?_; rintro e w6 ⟨rfl, b6⟩; have P6 : Hid (PushW w0 w6 g g3 r c M (ps.take M) q) := P5.out.drew.call b6; obtain ⟨m0, m1, m2⟩ := P6.out.o.cells3; obtain ⟨f0, f1, f2⟩ := P6.out.o.free3)
        all_goals
          have P7 : Hid _ := P6.out.put (bothP t q)
          generalize bothP t q = nq at P7 HRM2 HAD2
          clear a0 a1 a2 q0 q1 q2 d0 d1 d2 m0 m1 m2 f0 f1 f2 b6 P6 P5 HBO
          generalize (((w6.setCell ⟨g3, 0, none⟩ (.string (nq).sum)).setCell ⟨g3, 1, none⟩ (.int .i64 (nq).work)).setCell ⟨g3, 2, none⟩ (.int .i64 (nq).count)) = w7 at P7 ⊢
          clear w6
          obtain ⟨⟨a0, a1, a2⟩, d0, d1, d2⟩ := P7.out.two
          have z0 := P7.out.k.s.frozen 0
          have lmc : (m : Int) ≤ (c : Int) := by have := P7.out.k.at.2.2.2; omega
          have hc0 : ¬ c = 0 := by have := P7.out.k.at.2.2.2; omega
          have P8 : Hid (PushW w0 (w7.setCell ⟨g, 0, none⟩ (.slice (some ⟨r, 0, none⟩) m c)) g g3 r c m (ps.take m) nq) := by
            have h1 := P7.out
            rw [HM.out] at h1
            have h2 := h1.pop
            rwa [show (ps.take (m + 1)).take m = ps.take m from by rw [← HM.out]; exact HTT.out] at h2
          have hw2 : IntKind.i64.wrap ((m : Int) - 1) = (m : Int) - 1 := by have := HMN.out; have := HM0.out; rw [IntKind.wrap_i64]; omega
          clear P7
          go_wp2_with fail
          go_roundw
          case rel => exact ⟨m, nq, by have := HM.out; have := HMN.out; omega, rfl, P8, HAD2, HRM2⟩
          case measure => have := HM.out; simp [intOf] <;> omega
      · have heb : (t.count == q.count) = false := by simpa using he
        rw [heb] at hal
        have HRV : Hid (A = ps.take M ++ [q]) := HNO.out he
        clear HS HYES HNO he heb HRM HKM HTT
        go_wp2_with fail
        go_region_held3 (fun w' => (w'.cell? ⟨g, 0, none⟩ = some (.slice (some ⟨r, 0, none⟩) M c) ∧ w'.cell? ⟨g, 1, none⟩ = some (.func (.func 33) #[] #[]) ∧ w'.cell? ⟨g, 2, none⟩ = some (.func (.func 34) #[] #[])) ∧ (w'.cell? ⟨r, m * 3, none⟩ = some (.string t.sum) ∧ w'.cell? ⟨r, m * 3 + 1, none⟩ = some (.int .i64 t.work) ∧ w'.cell? ⟨r, m * 3 + 2, none⟩ = some (.int .i64 t.count)) ∧ (w'.cell? ⟨g3, 0, none⟩ = some (.string q.sum) ∧ w'.cell? ⟨g3, 1, none⟩ = some (.int .i64 q.work) ∧ w'.cell? ⟨g3, 2, none⟩ = some (.int .i64 q.count)))
          (first | exact PW.out.all HLL.out HGT.out | exact PD.out.all HLL.out HGT.out | exact P5.out.all HLL.out HGT.out)
          (first | (go_at_call 33; refine (hal _).mono ?_; rintro e w5 ⟨rfl, b5⟩; have P5 : Hid (PushW w0 w5 g g3 r c M (ps.take M) q) := PD.out.call b5))
        clear a0 a1 a2 q0 q1 q2 d0 d1 d2 PW PD b5
        have HLA : Hid ((ps.take M).length = M) := P5.out.k.len
        have hx1 : M + 1 ≤ maxLen := by have h1 := HLA.out; rw [List.length_take] at h1; have h2 := HM0.out; have h3 := HN.out; unfold maxLen; omega
        have hx2 : (M + 1) * 32 ≤ 140737488355328 := by have h1 := HLA.out; rw [List.length_take] at h1; have h2 := HM0.out; have h3 := HN.out; omega
        have HRD : Hid (w5.ownsRow w0.heap.size 54 3 (.slice (some ⟨r, 0, none⟩) M c) M ((ps.take M).flatMap pEnc)) := P5.out.k.row
        have HZ : Hid (w0.heap.size ≤ w5.heap.size ∧ g3 < w5.heap.size ∧ g < g3 ∧ r < g3 ∧ r ≠ g ∧ w0.heap.size ≤ g ∧ w0.heap.size ≤ r) := ⟨P5.out.k.b.size, P5.out.o.lt, P5.out.n1, P5.out.n2, P5.out.k.rg, P5.out.k.lo, P5.out.k.at.2.2.1⟩
        have PX : Hid (PushW w0 w5.drew g g3 r c M (ps.take M) q) := P5.out.drew
        have PA : Hid (PushW w0 (w5.drew.alloc (.cells (pEnc q).toArray 54)) g g3 r c M (ps.take M) q) := PX.out.call ((Below.refl _ _).alloc (Nat.le_refl _) _)
        have hu := pEnc_one q
        have HCN : Hid (∀ j u, (pEnc q)[j]? = some u → (w5.drew.alloc (.cells (pEnc q).toArray 54)).cell? ((⟨w5.heap.size, 0, none⟩ : Addr).add j) = some u) := cells_new w5.drew 54 (pEnc q)
        have HFd : Hid ((w5.drew.alloc (.cells (pEnc q).toArray 54)).ownsRow w0.heap.size 54 3 (.slice (some ⟨r, 0, none⟩) M c) M ((ps.take M).flatMap pEnc)) := PA.out.k.row
        have HBZ : Hid (w0.heap.size ≤ (w5.drew.alloc (.cells (pEnc q).toArray 54)).heap.size) := PA.out.k.b.size
        have HGT6 : Hid (∀ w6, (w5.drew.alloc (.cells (pEnc q).toArray 54)).grownBy w6 (some r) → CBk w6 g 63 #[.slice (some ⟨r, 0, none⟩) M c, .func (.func 33) #[] #[], .func (.func 34) #[] #[]]) := fun w6 h => P5.out.grown h
        have ba0 : (w5.alloc (.cells #[.string q.sum, .int .i64 q.work, .int .i64 q.count] 54)).cell? ⟨g, 0, none⟩ = some (.slice (some ⟨r, 0, none⟩) M c) := (Below.cell ((Below.refl _ w5).alloc (Nat.le_refl _) _) (p := ⟨g, 0, none⟩) P5.out.k.s.lt).trans P5.out.k.outs.1
        obtain ⟨⟨a0, a1, a2⟩, d0, d1, d2⟩ := PX.out.two
        go_wp2_with fail
        go_region_law (refine step_append_any rfl (.tmp 56) (.tmp 58) 25 rfl w0.heap.size 54 i0 (.agg #[.string ⟨#[]⟩, .int .i64 0, .int .i64 0]) 3 32 Tryz.underlying25 hi hz0 hz1 hz2 rfl (by decide) r c M ((ps.take M).flatMap pEnc) (by simp [Act.eval]) HFd.out ⟨w5.heap.size, 0, none⟩ 1 1 (pEnc q) (by simp [Act.eval]) rfl HCN.out hu hx1 hx2 HBZ.out ?_; intro g6 c6 w6 hown6 hgrow6 hat6 hlt6; have C6 : Hid (CBk w6 g 63 #[.slice (some ⟨r, 0, none⟩) M c, .func (.func 33) #[] #[], .func (.func 34) #[] #[]]) := HGT6.out w6 hgrow6; have q6 : w6.cell? ⟨g, 0, none⟩ = some (.slice (some ⟨r, 0, none⟩) M c) := C6.out.cell 0; have z6 : w6.frozen? ⟨g, 0, none⟩ = false := C6.out.frozen 0)
        all_goals
          have K6 : Hid (StkW w0 (w6.setCell ⟨g, 0, none⟩ (.slice (some ⟨g6, 0, none⟩) (M + 1) c6)) g g6 c6 (M + 1) A) := by
            have hz := HZ.out
            have hne : g6 ≠ g := by
              have h1 : r = g6 ∨ g6 = w5.heap.size ∨ w5.heap.size ≤ g6 := by
                rcases hat6.out with h1 | h1
                · exact .inl h1
                · right; right; rw [h1]; simp
              omega
            refine ⟨C6.out.set 0 _, rowKeep ?_ hne, ?_, ?_, hne, hz.2.2.2.2.2.1⟩
            · rw [HRV.out, List.flatMap_append]
              simpa using hown6
            · rw [HRV.out, List.length_append, HLA.out]
              rfl
            · exact (PA.out.k.b.grown hgrow6 PA.out.k.b.size (fun j hj => by cases hj; exact hz.2.2.2.2.2.2)).setCell (p := ⟨g, 0, none⟩) hz.2.2.2.2.2.1 _
          clear PX PA C6 HRD hown6 hgrow6 hat6 hlt6
          go_wp2_with fail
          exact bodyPost_ret (results_none rfl _ _ _) rfl (push_res K6.out)

end Go.Proofs.YtialhnocknogpaaGreatDoor

set_option linter.unusedVariables false
namespace Go.Proofs.YtialhnocknogpaaGreatDoor
open Go.RowKit Go.Deep

def nodeVal (a : NodeV) : Value := .agg #[.string a.1.sum, .int .i64 a.1.work, .int .i64 a.1.count, .bool a.2]
end Go.Proofs.YtialhnocknogpaaGreatDoor

set_option linter.unusedVariables false
namespace Go.Proofs.YtialhnocknogpaaGreatDoor
open Go.RowKit

def mkD : Nat → Nat → List UInt8 → List UInt8
  | 0, _, out => out
  | f + 1, k, out => if k = 0 then out else mkD f (k / 10) (UInt8.ofNat (48 + k % 10) :: out)
/-- The text of a number's mark. -/
def mkS (k : Nat) : ByteArray := if k = 0 then ⟨#[109, 48]⟩ else ⟨(109 :: mkD 19 k []).toArray⟩
theorem mkD_zero (f : Nat) (out : List UInt8) : mkD f 0 out = out := by cases f <;> simp [mkD]

end Go.Proofs.YtialhnocknogpaaGreatDoor

set_option linter.unusedVariables false
namespace Go.Proofs.YtialhnocknogpaaGreatDoor
open Go.RowKit Go.Deep

/-- A block of peaks that may be written. -/
def PBk (w : World) (g n : Nat) : Prop := ∃ cur : Array Value, w.heap[g]? = some (.cells cur 54 (0, 0)) ∧ n * 3 ≤ cur.size
theorem PBk.lt {w : World} {g n : Nat} (h : PBk w g n) : g < w.heap.size := by
  obtain ⟨cur, h1, _⟩ := h
  rcases Nat.lt_or_ge g w.heap.size with h' | h'
  · exact h'
  · simp [Array.getElem?_eq_none h'] at h1
theorem PBk.keep {w w' : World} {g n : Nat} (h : PBk w g n) (hk : w'.heap[g]? = w.heap[g]?) : PBk w' g n := by
  obtain ⟨cur, h1, h2⟩ := h
  exact ⟨cur, hk.trans h1, h2⟩
theorem PBk.below {w w' : World} {g n B : Nat} (h : PBk w g n) (hb : Below B w w') (hg : g < B) : PBk w' g n := h.keep (hb.block g hg)
theorem PBk.cell {w : World} {g n : Nat} (h : PBk w g n) (i : Nat) (hi : i < n * 3) : (∃ v, w.cell? ⟨g, i, none⟩ = some v) ∧ w.frozen? ⟨g, i, none⟩ = false := by
  obtain ⟨cur, h1, h2⟩ := h
  refine ⟨?_, Lib.frozen_of_heap h1 i⟩
  rw [Lib.cell_of_heap h1]
  have hic : i < cur.size := by omega
  exact ⟨cur[i], Array.getElem?_eq_getElem hic⟩
theorem PBk.set {w : World} {g n : Nat} (h : PBk w g n) (i : Nat) (v : Value) : PBk (w.setCell ⟨g, i, none⟩ v) g n := by
  obtain ⟨cur, h1, h2⟩ := h
  exact ⟨cur.setIfInBounds i v, by simp [World.setCell, Array.getElem?_modify, h1], by simpa using h2⟩
theorem PBk.of {w : World} {g : Nat} {l : List PeakV} (h : RowP w g l) : PBk w g l.length := ⟨_, h, by simp [flat_length 3 pEnc pEnc_len]⟩
theorem PBk.frow {B : Nat} {v : Value} {l : List PeakV} {w : World} (h : PRow B v l w) : ∃ g cap, v = .slice (some ⟨g, 0, none⟩) l.length cap ∧ AtP w g l ∧ PBk w g l.length ∧ B ≤ g := by
  obtain ⟨g, cap, cur, rfl, h1, h2, h3, h4, h5⟩ := h.block
  refine ⟨g, cap, rfl, (FRow.at pEnc_len h).1, ⟨cur, h3, ?_⟩, h1⟩
  have := congrArg List.length h4
  rw [List.length_take, flat_length 3 pEnc pEnc_len] at this
  rw [← Array.length_toList]
  omega
theorem cellSetOther {w : World} {g i j : Nat} {v : Value} (h : i ≠ j) : (w.setCell ⟨g, i, none⟩ v).cell? ⟨g, j, none⟩ = w.cell? ⟨g, j, none⟩ := by
  simp [World.setCell, World.cell?, Array.getElem?_modify]
  cases hh : w.heap[g]? with
  | none => simp
  | some o => cases o <;> simp [h]
theorem PBk.cellSet {w : World} {g n : Nat} (h : PBk w g n) (i : Nat) (hi : i < n * 3) (v : Value) : (w.setCell ⟨g, i, none⟩ v).cell? ⟨g, i, none⟩ = some v := by
  obtain ⟨cur, h1, h2⟩ := h
  have : (w.setCell ⟨g, i, none⟩ v).heap[g]? = some (.cells (cur.setIfInBounds i v) 54 (0, 0)) := by simp [World.setCell, Array.getElem?_modify, h1]
  rw [Lib.cell_of_heap this]
  have : i < cur.size := by omega
  simp [this]
/-- A list that holds its marks, so far. -/
def MkP (w : World) (g k n : Nat) : Prop := ∀ i, i < n → w.cell? ⟨g, i * 3, none⟩ = some (.string (mkS (k + 3 * i))) ∧ w.cell? ⟨g, i * 3 + 1, none⟩ = some (.int .i64 (((k + 3 * i : Nat) : Int) + 1)) ∧ w.cell? ⟨g, i * 3 + 2, none⟩ = some (.int .i64 (((k + 3 * i : Nat) : Int) + 1 + 1))
theorem MkP.below {w w' : World} {g k n B : Nat} (h : MkP w g k n) (hb : Below B w w') (hg : g < B) : MkP w' g k n := fun i hi =>
  ⟨(hb.cell (p := ⟨g, i * 3, none⟩) hg).trans (h i hi).1, (hb.cell (p := ⟨g, i * 3 + 1, none⟩) hg).trans (h i hi).2.1, (hb.cell (p := ⟨g, i * 3 + 2, none⟩) hg).trans (h i hi).2.2⟩
theorem MkP.step {w : World} {g k j n : Nat} (h : MkP w g k j) (hb : PBk w g n) (hj : j < n) : MkP (((w.setCell ⟨g, j * 3, none⟩ (.string (mkS (k + 3 * j)))).setCell ⟨g, j * 3 + 1, none⟩ (.int .i64 (((k + 3 * j : Nat) : Int) + 1))).setCell ⟨g, j * 3 + 2, none⟩ (.int .i64 (((k + 3 * j : Nat) : Int) + 1 + 1))) g k (j + 1) := by
  intro i hi
  rcases Nat.lt_or_ge i j with h' | h'
  · obtain ⟨h1, h2, h3⟩ := h i h'
    refine ⟨?_, ?_, ?_⟩
    · rw [cellSetOther (by omega), cellSetOther (by omega), cellSetOther (by omega)]; exact h1
    · rw [cellSetOther (by omega), cellSetOther (by omega), cellSetOther (by omega)]; exact h2
    · rw [cellSetOther (by omega), cellSetOther (by omega), cellSetOther (by omega)]; exact h3
  · obtain rfl : i = j := by omega
    refine ⟨?_, ?_, ?_⟩
    · rw [cellSetOther (by omega), cellSetOther (by omega)]; exact hb.cellSet _ (by omega) _
    · rw [cellSetOther (by omega)]; exact (hb.set _ _).cellSet _ (by omega) _
    · exact ((hb.set _ _).set _ _).cellSet _ (by omega) _
/-- What writing marks leaves. -/
def MPPost (g n k : Nat) (w : World) (e : Ending) (w' : World) : Prop := e = .returned (.int .i64 ((k + 3 * n : Nat) : Int)) ∧ MkP w' g k n ∧ (∀ c, c < w.heap.size → c ≠ g → w'.heap[c]? = w.heap[c]?) ∧ Below 0 w w' ∧ PBk w' g n
theorem setOff {w wr : World} {g j : Nat} {v : Value} (h : ∀ c, c < w.heap.size → c ≠ g → wr.heap[c]? = w.heap[c]?) : ∀ c, c < w.heap.size → c ≠ g → (wr.setCell ⟨g, j, none⟩ v).heap[c]? = w.heap[c]? := fun c hc hne => by
  rw [← h c hc hne]
  simp [World.setCell, Array.getElem?_modify, Ne.symm hne]
/-- A list of peaks that was handed back: nothing, or a row that stands in a block of its own. -/
def Pks (B : Nat) (v : Value) (l : List PeakV) (w : World) : Prop := (v = .slice none 0 0 ∧ l = []) ∨ ∃ g cap, v = .slice (some ⟨g, 0, none⟩) l.length cap ∧ AtP w g l ∧ PBk w g l.length ∧ B ≤ g
theorem Pks.below {B : Nat} {v : Value} {l : List PeakV} {w w' : World} (h : Pks B v l w) (hb : Below w.heap.size w w') : Pks B v l w' := by
  rcases h with h | ⟨g, cap, h1, h2, h3, h4⟩
  · exact .inl h
  · exact .inr ⟨g, cap, h1, h2.below hb h2.1, h3.below hb h3.lt, h4⟩
theorem Pks.mono {B C : Nat} {v : Value} {l : List PeakV} {w : World} (h : Pks B v l w) (hc : C ≤ B) : Pks C v l w := by
  rcases h with h | ⟨g, cap, h1, h2, h3, h4⟩
  · exact .inl h
  · exact .inr ⟨g, cap, h1, h2, h3, Nat.le_trans hc h4⟩
/-- The block of a value that is a row. -/
def blkOf : Value → Nat → Prop
  | .slice (some a) _ _, g => a.block = g
  | _, _ => False
theorem Pks.blk {B : Nat} {v : Value} {l : List PeakV} {w : World} (h : Pks B v l w) {g : Nat} (hv : blkOf v g) : g < w.heap.size ∧ B ≤ g := by
  rcases h with ⟨rfl, _⟩ | ⟨g', c', rfl, h2, _, h4⟩
  · exact absurd hv (by simp [blkOf])
  · have : g' = g := hv
    subst this
    exact ⟨h2.1, h4⟩
theorem Pks.keep {B : Nat} {v : Value} {l : List PeakV} {w w' : World} (h : Pks B v l w) (hs : w.heap.size ≤ w'.heap.size) (hk : ∀ g, blkOf v g → w'.heap[g]? = w.heap[g]?) : Pks B v l w' := by
  rcases h with h | ⟨g, cap, rfl, h2, h3, h4⟩
  · exact .inl h
  · refine .inr ⟨g, cap, rfl, ⟨Nat.lt_of_lt_of_le h2.1 hs, fun i j hi hj => ?_⟩, h3.keep (hk g rfl), h4⟩
    have := h2.2 i j hi hj
    rw [← this]
    exact World.cell?_of_block (a := ⟨g, i * 3 + j, none⟩) (hk g rfl)
/-- A list of peaks that holds its marks. -/
def HeldP (v : Value) (n : Nat) (w : World) : Prop := (v = .slice none 0 0 ∧ n = 0) ∨ ∃ g cap, v = .slice (some ⟨g, 0, none⟩) n cap ∧ g < w.heap.size ∧ MkP w g 1 n
theorem HeldP.below {v : Value} {n : Nat} {w w' : World} (h : HeldP v n w) (hb : Below w.heap.size w w') : HeldP v n w' := by
  rcases h with h | ⟨g, cap, h1, h2, h3⟩
  · exact .inl h
  · exact .inr ⟨g, cap, h1, Nat.lt_of_lt_of_le h2 hb.size, h3.below hb h2⟩
end Go.Proofs.YtialhnocknogpaaGreatDoor

set_option linter.unusedVariables false
namespace Go.Proofs.YtialhnocknogpaaGreatDoor
open Go.RowKit Go.Deep

/-- The proof while it is made: its block, its row of steps. -/
structure PfW (w0 wr : World) (gp : Nat) (vs : Value) (ss : List PeakV) : Prop where
  k : CBk wr gp 27 #[.slice none 0 0, vs]
  row : wr.ownsRow w0.heap.size 54 3 vs ss.length (ss.flatMap pEnc)
  b : Below w0.heap.size w0 wr
  lo : w0.heap.size ≤ gp
def Pf (w0 wr : World) (gp : Nat) (ss : List PeakV) : Prop := ∃ vs, PfW w0 wr gp vs ss
/-- No block but the proof's own and those of peaks has changed. -/
def Off (gp : Nat) (w w' : World) : Prop := w.heap.size ≤ w'.heap.size ∧ ∀ c, c < w.heap.size → c ≠ gp → (∀ cur fr, w.heap[c]? ≠ some (.cells cur 54 fr)) → w'.heap[c]? = w.heap[c]?
theorem Off.refl (gp : Nat) (w : World) : Off gp w w := ⟨Nat.le_refl _, fun _ _ _ _ => rfl⟩
theorem Off.trans {gp : Nat} {w w1 w2 : World} (h : Off gp w w1) (h2 : Off gp w1 w2) : Off gp w w2 :=
  ⟨Nat.le_trans h.1 h2.1, fun c hc hne hp => by
    have e := h.2 c hc hne hp
    rw [← e]
    exact h2.2 c (Nat.lt_of_lt_of_le hc h.1) hne (fun cur fr => by rw [e]; exact hp cur fr)⟩
theorem Off.below {gp : Nat} {w w1 w2 : World} (h : Off gp w w1) (hb : Below w1.heap.size w1 w2) : Off gp w w2 :=
  h.trans ⟨hb.size, fun c hc _ _ => hb.block c hc⟩
theorem Off.set {gp g j : Nat} {w w1 : World} (h : Off gp w w1) (hg : w.heap.size ≤ g ∨ g = gp) (v : Value) : Off gp w (w1.setCell ⟨g, j, none⟩ v) :=
  ⟨by simpa using h.1, fun c hc hne hp => by
    rw [← h.2 c hc hne hp]
    have : c ≠ g := by rcases hg with h' | h' <;> omega
    simp [World.setCell, Array.getElem?_modify, Ne.symm this]⟩
/-- A block of another type is not the row's. -/
theorem own_ne {w : World} {B g n : Nat} {T : TypeId} {v : Value} {xs : List Value} {cs : Array Value} (h : w.ownsRow B 54 3 v n xs) (hk : CBk w g T cs) (hT : T ≠ 54) : v.ownBlock ≠ some g := by
  rcases h.2 with ⟨rfl, _⟩ | ⟨g', cap, cur, rfl, _, hg, _⟩
  · simp [Value.ownBlock]
  · intro he
    have he' : g' = g := by simpa [Value.ownBlock] using he
    subst he'
    have hk' : w.heap[g']? = some (.cells cs T (0, 0)) := hk
    rw [hg] at hk'
    simp only [Option.some.injEq, Obj.cells.injEq] at hk'
    exact hT hk'.2.1.symm
theorem own_is {w : World} {B n b : Nat} {v : Value} {xs : List Value} (h : w.ownsRow B 54 3 v n xs) (hv : v.ownBlock = some b) : ∃ cur, w.heap[b]? = some (.cells cur 54 (0, 0)) := by
  rcases h.2 with ⟨rfl, _⟩ | ⟨g', cap, cur, rfl, _, hg, _⟩
  · simp [Value.ownBlock] at hv
  · have : g' = b := by simpa [Value.ownBlock] using hv
    subst this
    exact ⟨cur, hg⟩
theorem own_below {w w' : World} {B n : Nat} {v : Value} {xs : List Value} (h : w.ownsRow B 54 3 v n xs) (hb : Below w.heap.size w w') : w'.ownsRow B 54 3 v n xs := by
  refine ⟨h.1, ?_⟩
  rcases h.2 with h1 | ⟨g', cap, cur, hv, hB, hg, h4⟩
  · exact .inl h1
  · refine .inr ⟨g', cap, cur, hv, hB, ?_, h4⟩
    rw [hb.block g' ?_]
    · exact hg
    · rcases Nat.lt_or_ge g' w.heap.size with h' | h'
      · exact h'
      · simp [Array.getElem?_eq_none h'] at hg
theorem own_set {w : World} {B n g j : Nat} {T : TypeId} {v u : Value} {xs : List Value} {cs : Array Value} (h : w.ownsRow B 54 3 v n xs) (hk : CBk w g T cs) (hT : T ≠ 54) : (w.setCell ⟨g, j, none⟩ u).ownsRow B 54 3 v n xs := by
  have hne := own_ne h hk hT
  refine ⟨h.1, ?_⟩
  rcases h.2 with h1 | ⟨g', cap, cur, hv, hB, hg, h4⟩
  · exact .inl h1
  · refine .inr ⟨g', cap, cur, hv, hB, ?_, h4⟩
    have : g ≠ g' := by
      intro he
      subst he
      rw [hv] at hne
      exact hne rfl
    simp [World.setCell, Array.getElem?_modify, hg, this]
theorem PfW.call {w0 wr w' : World} {gp : Nat} {vs : Value} {ss : List PeakV} (h : PfW w0 wr gp vs ss) (hb : Below wr.heap.size wr w') : PfW w0 w' gp vs ss :=
  ⟨h.k.call hb, own_below h.row hb, h.b.trans (hb.mono h.b.size), h.lo⟩
theorem PfW.store {w0 wr : World} {gp g j : Nat} {T : TypeId} {vs : Value} {ss : List PeakV} {cs : Array Value} (h : PfW w0 wr gp vs ss) (hk : CBk wr g T cs) (hT : T ≠ 54) (hne : g ≠ gp) (hlo : w0.heap.size ≤ g) (u : Value) : PfW w0 (wr.setCell ⟨g, j, none⟩ u) gp vs ss :=
  ⟨h.k.other hne u, own_set h.row hk hT, h.b.setCell (p := ⟨g, j, none⟩) hlo u, h.lo⟩
theorem CBk.free4 {w : World} {g : Nat} {T : TypeId} {cs : Array Value} (h : CBk w g T cs) : w.frozen? ⟨g, 0, none⟩ = false ∧ w.frozen? ⟨g, 1, none⟩ = false ∧ w.frozen? ⟨g, 2, none⟩ = false ∧ w.frozen? ⟨g, 3, none⟩ = false := ⟨h.frozen 0, h.frozen 1, h.frozen 2, h.frozen 3⟩
theorem CBk.set4 {w : World} {g : Nat} {T : TypeId} {x y z u a b c d : Value} (h : CBk w g T #[x, y, z, u]) : CBk ((((w.setCell ⟨g, 0, none⟩ a).setCell ⟨g, 1, none⟩ b).setCell ⟨g, 2, none⟩ c).setCell ⟨g, 3, none⟩ d) g T #[a, b, c, d] := (((h.set 0 a).set 1 b).set 2 c).set 3 d
theorem ftne : (27 : TypeId) ≠ 54 := by decide
def BothRes (w0 w : World) (gp : Nat) (ss : List PeakV) (a b : NodeV) (e : Ending) (w' : World) : Prop := e = .returned (nodeVal (bothN a b)) ∧ Pf w0 w' gp (ss ++ noteN a b) ∧ Off gp w w'
end Go.Proofs.YtialhnocknogpaaGreatDoor

