/-
  Texts that the last part needs, joined.
-/
import Derived.Test.YtplldapkcljllaaGreatDoorPart1
import Derived.Test.YtplldapkcljllaaGreatDoorPart2
import Derived.Test.YtplldapkcljllaaGreatDoorPart3
import Derived.Test.YtplldapkcljllaaGreatDoorPart4
import Derived.Test.YtplldapkcljllaaGreatDoorPart5
import Derived.Deep.AppendLies
import Derived.WalkSmall
import Derived.BigRegion
import Derived.Deep.RegionWith
import Derived.Deep.RegionHeld3
import Derived.Deep.RegionLaw
import Derived.Lib.AppendIntMem
set_option linter.unusedVariables false
namespace Go.Proofs.YtplldapkcljllaaGreatDoor
open Go.RowKit

section frow
variable {α : Type}
def FRow (enc : α → List Value) (T : TypeId) (k B : Nat) (v : Value) (l : List α) (w : World) : Prop := (∃ g cap, v = .slice (some ⟨g, 0, none⟩) l.length cap) ∧ w.ownsRow B T k v l.length (l.flatMap enc)
theorem frow_new (enc : α → List Value) (T : TypeId) (k : Nat) (w : World) : FRow enc T k w.heap.size (.slice (some ⟨w.heap.size, 0, none⟩) 0 0) [] (w.alloc (.cells #[] T)) :=
  ⟨⟨_, _, rfl⟩, by simp, .inr ⟨w.heap.size, 0, #[], rfl, Nat.le_refl _, heap_alloc_new w _, Nat.le_refl _, Nat.zero_le _, by simp, by simp⟩⟩
theorem frow_cap (enc : α → List Value) (T : TypeId) (k n : Nat) (hk : ∀ a, (enc a).length = k) (a : α) (w : World) (hn : n ≤ maxLen) : FRow enc T k w.heap.size (.slice (some ⟨w.heap.size, 0, none⟩) 0 n) [] (w.alloc (.cells ((List.replicate n a).flatMap enc).toArray T)) :=
  ⟨⟨_, _, rfl⟩, by simp, .inr ⟨w.heap.size, n, _, rfl, Nat.le_refl _, heap_alloc_new w _, Nat.zero_le _, hn, by simp [flat_length k enc hk], by simp⟩⟩
theorem FRow.block {enc : α → List Value} {T : TypeId} {k B : Nat} {v : Value} {l : List α} {w : World} (h : FRow enc T k B v l w) : ∃ g cap cur, v = .slice (some ⟨g, 0, none⟩) l.length cap ∧ B ≤ g ∧ g < w.heap.size ∧ w.heap[g]? = some (.cells cur T (0, 0)) ∧ cur.toList.take (l.length * k) = l.flatMap enc ∧ l.length ≤ cap := by
  obtain ⟨⟨g, cap, rfl⟩, _, h2⟩ := h
  rcases h2 with ⟨h3, _⟩ | ⟨g', cap', cur, hv, hB, hg, hc, _, _, ht⟩
  · cases h3
  · simp only [Value.slice.injEq, Option.some.injEq, Addr.mk.injEq, and_true] at hv
    obtain ⟨rfl, _, rfl⟩ := hv
    refine ⟨g, cap, cur, rfl, hB, ?_, hg, ht, hc⟩
    rcases Nat.lt_or_ge g w.heap.size with h' | h'
    · exact h'
    · simp [Array.getElem?_eq_none h'] at hg
theorem FRow.at [Inhabited α] {enc : α → List Value} {T : TypeId} {k B g n cap : Nat} {l : List α} {w : World} (hk : ∀ a, (enc a).length = k) (h : FRow enc T k B (.slice (some ⟨g, 0, none⟩) n cap) l w) : AtF enc k w g l ∧ n = l.length ∧ B ≤ g ∧ n ≤ cap := by
  obtain ⟨g', cap', cur, hv, hB, hlt, hg, ht, hc⟩ := h.block
  simp only [Value.slice.injEq, Option.some.injEq, Addr.mk.injEq, and_true] at hv
  obtain ⟨rfl, rfl, rfl⟩ := hv
  refine ⟨⟨hlt, fun i j hi hj => ?_⟩, rfl, hB, hc⟩
  have hlt2 : i * k + j < l.length * k := by
    have : (i + 1) * k ≤ l.length * k := Nat.mul_le_mul_right k hi
    rw [Nat.add_mul] at this
    omega
  rw [Lib.cell_of_heap hg, ← flat_at k enc hk l i j hi hj, ← ht, List.getElem?_take_of_lt hlt2]
  simp
theorem FRow.keep {enc : α → List Value} {T : TypeId} {k B : Nat} {v : Value} {l : List α} {w w' : World} (h : FRow enc T k B v l w) (hk : ∀ g, B ≤ g → g < w.heap.size → w'.heap[g]? = w.heap[g]?) : FRow enc T k B v l w' := by
  obtain ⟨⟨g, cap, rfl⟩, h1, h2⟩ := h
  refine ⟨⟨g, cap, rfl⟩, h1, ?_⟩
  rcases h2 with ⟨h3, _⟩ | ⟨g', cap', cur, hv, hB, hg, h4⟩
  · cases h3
  · have hlt : g' < w.heap.size := by
      rcases Nat.lt_or_ge g' w.heap.size with h' | h'
      · exact h'
      · simp [Array.getElem?_eq_none h'] at hg
    exact .inr ⟨g', cap', cur, hv, hB, by rw [hk g' hB hlt]; exact hg, h4⟩
theorem FRow.below {enc : α → List Value} {T : TypeId} {k B : Nat} {v : Value} {l : List α} {w w' : World} (h : FRow enc T k B v l w) (hb : Below w.heap.size w w') : FRow enc T k B v l w' := h.keep (fun g _ hg => hb.block g hg)
theorem FRow.drew {enc : α → List Value} {T : TypeId} {k B : Nat} {v : Value} {l : List α} {w : World} (h : FRow enc T k B v l w) : FRow enc T k B v l w.drew := h
theorem FRow.mono {enc : α → List Value} {T : TypeId} {k B C : Nat} {v : Value} {l : List α} {w : World} (h : FRow enc T k B v l w) (hC : C ≤ B) : FRow enc T k C v l w := by
  obtain ⟨h0, h1, h2⟩ := h
  refine ⟨h0, h1, ?_⟩
  rcases h2 with h3 | ⟨g', cap', cur, hv, hB, h4⟩
  · exact .inl h3
  · exact .inr ⟨g', cap', cur, hv, Nat.le_trans hC hB, h4⟩
theorem FRow.of {enc : α → List Value} {T : TypeId} {k B g n cap : Nat} {l : List α} {w : World} (h : w.ownsRow B T k (.slice (some ⟨g, 0, none⟩) n cap) n (l.flatMap enc)) (hn : n = l.length) : FRow enc T k B (.slice (some ⟨g, 0, none⟩) n cap) l w := by
  subst hn
  exact ⟨⟨g, cap, rfl⟩, h⟩
theorem info3 {P : Program} {t : TypeId} {z : Value} {n b : Nat} (h : (P.info? t).map (fun i => (i.zero, i.size, i.bytes)) = some (some z, n, b)) : ∃ i, P.info? t = some i ∧ i.zero = some z ∧ i.size = n ∧ i.bytes = b := by
  cases hi : P.info? t with
  | none => rw [hi] at h; cases h
  | some i =>
    rw [hi] at h
    simp only [Option.map_some, Option.some.injEq, Prod.mk.injEq] at h
    exact ⟨i, rfl, h.1, h.2.1, h.2.2⟩
end frow

end Go.Proofs.YtplldapkcljllaaGreatDoor

set_option linter.unusedVariables false
namespace Go.Proofs.YtplldapkcljllaaGreatDoor
open Go.RowKit

section
variable {P : Program} {w : World}
theorem run_append_any (t ty : TypeId) (base : Nat) (e : TypeId) (i : TypeInfo) (z : Value) (size bytes : Nat) (ht : P.underlying t = some (.slice e)) (hi : P.info? e = some i) (hz : i.zero = some z)
    (hsize : i.size = size) (hby : i.bytes = bytes) (hzs : z.cells.size = size) (hsz : 0 < size)
    (g0 c0 n : Nat) (xs : List Value) (hown : w.ownsRow base e size (.slice (some ⟨g0, 0, none⟩) n c0) n xs)
    (ad : Addr) (m c : Nat) (news : List Value) (hl : news.length = m * size) (hnews : ∀ j u, news[j]? = some u → w.cell? (ad.add j) = some u) (h1 : ∀ u ∈ news, u.oneCell' = true)
    (h63 : n + m ≤ maxLen) (hbytes : (n + m) * bytes ≤ 140737488355328) (hbase : base ≤ w.heap.size) :
    ∃ g cap w', (Builtin.append_ #[t, t] ty #[.slice (some ⟨g0, 0, none⟩) n c0, .slice (some ad) m c]).run P w = .ok (.slice (some ⟨g, 0, none⟩) (n + m) cap) w' ∧
      w'.ownsRow base e size (.slice (some ⟨g, 0, none⟩) (n + m) cap) (n + m) (xs ++ news) ∧ w.grownBy w' (some g0) ∧ (g0 = g ∨ g = w.heap.size) ∧ g < w'.heap.size := by
  obtain ⟨v', w', hr, h2, h3, _, h5⟩ := run_append_own_at (P := P) w base t ty e i z size bytes ht hi hz hsize hby hzs hsz (.slice (some ⟨g0, 0, none⟩) n c0) n xs hown ad m c news hl hnews h1 h63 hbytes hbase
  rcases h2.2 with ⟨h6, _⟩ | ⟨g, cap, cur, hv, hB, hg, _⟩
  · rw [h6] at h5
    rcases h5 with h5 | h5 <;> simp [Value.ownBlock] at h5
  · subst hv
    refine ⟨g, cap, w', hr, h2, h3, ?_, ?_⟩
    · rcases h5 with h5 | h5
      · left
        have : g = g0 := by simpa [Value.ownBlock] using h5
        exact this.symm
      · right
        simpa [Value.ownBlock] using h5
    · rcases Nat.lt_or_ge g w'.heap.size with h' | h'
      · exact h'
      · simp [Array.getElem?_eq_none h'] at hg
theorem step_append_any {ops : Array Oper} {o : Oper} {a : Act} {K : Act → World → Prop} {Q : Exit → Act → World → Prop} {E : Prop} (hgd : o.guard = none) (s x : Operand) (t : TypeId)
    (ho : o.op = .call { callee := .builtin .append, args := #[s, x], argTypes := #[t, t] })
    (base : Nat) (e : TypeId) (i : TypeInfo) (z : Value) (size bytes : Nat) (ht : P.underlying t = some (.slice e)) (hi : P.info? e = some i) (hz : i.zero = some z)
    (hsize : i.size = size) (hby : i.bytes = bytes) (hzs : z.cells.size = size) (hsz : 0 < size)
    (g0 c0 n : Nat) (xs : List Value) (hs : a.eval s = .slice (some ⟨g0, 0, none⟩) n c0) (hown : w.ownsRow base e size (.slice (some ⟨g0, 0, none⟩) n c0) n xs)
    (ad : Addr) (m c : Nat) (news : List Value) (hx : a.eval x = .slice (some ad) m c) (hl : news.length = m * size) (hnews : ∀ j u, news[j]? = some u → w.cell? (ad.add j) = some u) (h1 : ∀ u ∈ news, u.oneCell' = true)
    (h63 : n + m ≤ maxLen) (hbytes : (n + m) * bytes ≤ 140737488355328) (hbase : base ≤ w.heap.size)
    (h : ∀ g cap w', w'.ownsRow base e size (.slice (some ⟨g, 0, none⟩) (n + m) cap) (n + m) (xs ++ news) → w.grownBy w' (some g0) → Hid (g0 = g ∨ g = w.heap.size) → Hid (g < w'.heap.size) → K (a.put o.dst (.slice (some ⟨g, 0, none⟩) (n + m) cap)) w') :
    if Region.wanted o (yielded ops a.tmps) = true then Oper.wp P o a w K Q else E := by
  have hw : Region.wanted o (yielded ops a.tmps) = true := by simp [Region.wanted, hgd]
  rw [if_pos hw]
  obtain ⟨g, cap, w', hr, h2, h3, h4, h5⟩ := run_append_any (P := P) (w := w) t o.type base e i z size bytes ht hi hz hsize hby hzs hsz g0 c0 n xs hown ad m c news hl hnews h1 h63 hbytes hbase
  unfold Oper.wp execOp
  simp only [ho, resolve, invoke, builtin, Sem.run_bind, Sem.run_pure, Result.andThen_ok, List.map_toArray, List.map_cons, List.map_nil, hs, hx, hr]
  exact h g cap w' h2 h3 h4 h5
end

end Go.Proofs.YtplldapkcljllaaGreatDoor

set_option linter.unusedVariables false
namespace Go.Proofs.YtplldapkcljllaaGreatDoor
open Go.RowKit Go.Deep

/-- Peaks, the last first, with one more. -/
def addR : List PeakV → PeakV → List PeakV
  | [], p => [p]
  | q :: r, p => if q.count = p.count then addR r (bothP q p) else p :: q :: r
def addP (ps : List PeakV) (p : PeakV) : List PeakV := (addR ps.reverse p).reverse
theorem addP_nil (p : PeakV) : addP [] p = [p] := rfl
theorem addP_yes {ps : List PeakV} {q p : PeakV} (h : q.count = p.count) : addP (ps ++ [q]) p = addP ps (bothP q p) := by simp [addP, addR, h]
theorem addP_no {ps : List PeakV} {q p : PeakV} (h : ¬ q.count = p.count) : addP (ps ++ [q]) p = ps ++ [q] ++ [p] := by simp [addP, addR, h]
theorem take_one {ps : List PeakV} {m : Nat} (h : m < ps.length) : ps.take (m + 1) = ps.take m ++ [ps.getD m default] := by
  rw [List.take_add_one, List.getElem?_eq_getElem h]
  simp [List.getElem?_eq_getElem h]
/-- A peak that is ok, and not too many heads in it and ahead of it. -/
structure Room (ps : List PeakV) (m : Nat) (q : PeakV) : Prop where
  ok : peakOkB q = true
  few : q.count + cntTo ps m ≤ 21
theorem cnt_pos {ps : List PeakV} (h : ∀ i, i < ps.length → peakOkB (ps.getD i default) = true) : ∀ m, m ≤ ps.length → 0 ≤ cntTo ps m
  | 0, _ => Int.le_refl _
  | m + 1, hm => by
    have := cnt_pos h m (by omega)
    have := peakOk_in (h m (by omega))
    rw [cntTo]
    omega
theorem Room.step {ps : List PeakV} {m : Nat} {q : PeakV} (hk : ∀ i, i < ps.length → peakOkB (ps.getD i default) = true) (hm : m < ps.length) (h : Room ps (m + 1) q) (he : (ps.getD m default).count = q.count) : Room ps m (bothP (ps.getD m default) q) := by
  have h1 := peakOk_in (hk m hm)
  have h2 := peakOk_in h.ok
  have h3 := h.few
  have h4 := cnt_pos hk m (by omega)
  rw [cntTo] at h3
  refine ⟨?_, ?_⟩
  · have hs := isSum_both (ps.getD m default) q
    simp only [peakOkB, hs, Bool.true_and, Bool.and_eq_true, decide_eq_true_eq]
    show (1 ≤ (ps.getD m default).count + q.count ∧ (ps.getD m default).count + q.count ≤ 20) ∧ (ps.getD m default).count + q.count ≤ (ps.getD m default).work + q.work ∧ (ps.getD m default).work + q.work ≤ ((ps.getD m default).count + q.count) * 8
    omega
  · show (ps.getD m default).count + q.count + cntTo ps m ≤ 21
    omega
abbrev PRow (B : Nat) (v : Value) (l : List PeakV) (w : World) : Prop := FRow pEnc 44 3 B v l w
theorem pEnc_one (p : PeakV) : ∀ u ∈ pEnc p, u.oneCell' = true := by
  intro u hu
  simp only [pEnc, List.mem_cons, List.not_mem_nil, or_false] at hu
  rcases hu with rfl | rfl | rfl <;> rfl
theorem pEncs_one (l : List PeakV) : ∀ u ∈ l.flatMap pEnc, u.oneCell' = true := by
  intro u hu
  obtain ⟨p, _, hp⟩ := List.mem_flatMap.1 hu
  exact pEnc_one p u hp
section
variable {P : Program} {w : World}
theorem wpList_append_any {ops : Array Oper} {rest : List Oper} {o : Oper} {a : Act} {Q : Exit → Act → World → Prop} (hgd : o.guard = none) (s x : Operand) (t : TypeId)
    (ho : o.op = .call { callee := .builtin .append, args := #[s, x], argTypes := #[t, t] })
    (base : Nat) (e : TypeId) (i : TypeInfo) (z : Value) (size bytes : Nat) (ht : P.underlying t = some (.slice e)) (hi : P.info? e = some i) (hz : i.zero = some z)
    (hsize : i.size = size) (hby : i.bytes = bytes) (hzs : z.cells.size = size) (hsz : 0 < size)
    (g0 c0 n : Nat) (xs : List Value) (hs : a.eval s = .slice (some ⟨g0, 0, none⟩) n c0) (hown : w.ownsRow base e size (.slice (some ⟨g0, 0, none⟩) n c0) n xs)
    (ad : Addr) (m c : Nat) (news : List Value) (hx : a.eval x = .slice (some ad) m c) (hl : news.length = m * size) (hnews : ∀ j u, news[j]? = some u → w.cell? (ad.add j) = some u) (h1 : ∀ u ∈ news, u.oneCell' = true)
    (h63 : n + m ≤ maxLen) (hbytes : (n + m) * bytes ≤ 140737488355328) (hbase : base ≤ w.heap.size)
    (h : ∀ g cap w', w'.ownsRow base e size (.slice (some ⟨g, 0, none⟩) (n + m) cap) (n + m) (xs ++ news) → w.grownBy w' (some g0) → Hid (g0 = g ∨ g = w.heap.size) → Hid (g < w'.heap.size) → wpList P ops Q rest (a.put o.dst (.slice (some ⟨g, 0, none⟩) (n + m) cap)) w') : wpList P ops Q (o :: rest) a w := by
  refine wpList_plain hgd fun _ hK => ?_
  obtain ⟨g, cap, w', hr, h2, h3, h4, h5⟩ := run_append_any (P := P) (w := w) t o.type base e i z size bytes ht hi hz hsize hby hzs hsz g0 c0 n xs hown ad m c news hl hnews h1 h63 hbytes hbase
  unfold Oper.wp execOp
  simp only [ho, resolve, invoke, builtin, Sem.run_bind, Sem.run_pure, Result.andThen_ok, List.map_toArray, List.map_cons, List.map_nil, hs, hx, hr]
  exact hK _ _ (h g cap w' h2 h3 h4 h5)
end

end Go.Proofs.YtplldapkcljllaaGreatDoor

set_option linter.unusedVariables false
namespace Go.Proofs.YtplldapkcljllaaGreatDoor
open Go.RowKit Go.Deep

theorem add0 (g j : Nat) : (⟨g, 0, none⟩ : Addr).add j = ⟨g, j, none⟩ := by unfold Addr.add; split <;> simp_all
theorem drewAlloc (w : World) (o : Obj) : (w.alloc o).drew = w.drew.alloc o := rfl
def sliceLen : Value → Nat
  | .slice _ n _ => n
  | _ => 0

set_option maxHeartbeats 8000000 in
set_option maxRecDepth 100000 in
theorem specL5Add (g n cap : Nat) (ps : List PeakV) (p : PeakV) (w : World) (h : AtP w g ps) (hn : n = ps.length) (hm : n ≤ 1048576) (hk : ∀ i, i < ps.length → peakOkB (ps.getD i default) = true) (hr : Room ps n p) :
    Calls Tryz.prog 19 #[.slice (some ⟨g, 0, none⟩) n cap, peakVal p] w fun e w' => ∃ v, e = .returned v ∧ PRow w.heap.size v (addP ps p) w' ∧ Below w.heap.size w w' := by
  obtain ⟨i0, hi, hz0, hz1, hz2⟩ := info3 infoPeak
  have HA : Hid (AtP w g ps) := h
  have HN : Hid (n = ps.length) := hn
  have HKP : Hid (∀ i, i < ps.length → peakOkB (ps.getD i default) = true) := hk
  have HR0 : Hid (Room ps n p) := hr
  have HAD : Hid (addP (ps.take n) p = addP ps p) := by show _ = _; rw [hn, List.take_length]
  generalize addP ps p = A at HAD ⊢
  unfold peakVal
  have C0 : Hid (CBk ((w.alloc (.cells #[.string p.sum, .int .i64 p.work, .int .i64 p.count] 44)).alloc (.cells #[] 44)) w.heap.size 44 #[.string p.sum, .int .i64 p.work, .int .i64 p.count]) := (CBk.new w _ _).alloc _
  have L0 : Hid (Below w.heap.size w ((w.alloc (.cells #[.string p.sum, .int .i64 p.work, .int .i64 p.count] 44)).alloc (.cells #[] 44))) := ((Below.refl _ w).alloc (Nat.le_refl _) _).alloc (by simp) _
  have R0 : Hid (((w.alloc (.cells #[.string p.sum, .int .i64 p.work, .int .i64 p.count] 44)).alloc (.cells #[] 44)).ownsRow (w.heap.size + 1) 44 3 (.slice (some ⟨w.heap.size + 1, 0, none⟩) 0 0) 0 []) := by
    have := (frow_new pEnc 44 3 (w.alloc (.cells #[.string p.sum, .int .i64 p.work, .int .i64 p.count] 44))).2
    rwa [show (w.alloc (.cells #[.string p.sum, .int .i64 p.work, .int .i64 p.count] 44)).heap.size = w.heap.size + 1 from by simp] at this
  have HZ : Hid (((w.alloc (.cells #[.string p.sum, .int .i64 p.work, .int .i64 p.count] 44)).alloc (.cells #[] 44)).heap.size = w.heap.size + 2) := by show _ = _; simp
  have HU : Hid (∀ u ∈ ps.flatMap pEnc, u.oneCell' = true) := pEncs_one ps
  have HNW : Hid (∀ wx, Below w.heap.size w wx → ∀ j u, (ps.flatMap pEnc)[j]? = some u → wx.cell? ((⟨g, 0, none⟩ : Addr).add j) = some u) := by
    intro wx hb j u hj
    have hat := HA.out.below hb HA.out.1
    have hjl : j < (ps.flatMap pEnc).length := by
      rcases Nat.lt_or_ge j (ps.flatMap pEnc).length with h' | h'
      · exact h'
      · rw [List.getElem?_eq_none h'] at hj; cases hj
    rw [flat_length 3 pEnc pEnc_len] at hjl
    have hq : j = j / 3 * 3 + j % 3 := by omega
    have hi3 : j / 3 < ps.length := by omega
    have h3 := hat.2 (j / 3) (j % 3) hi3 (Nat.mod_lt _ (by decide))
    have hf := flat_at 3 pEnc pEnc_len ps (j / 3) (j % 3) hi3 (Nat.mod_lt _ (by decide))
    rw [← hq] at h3 hf
    rw [add0, h3, ← hf]
    exact hj
  have HPL : Hid ((ps.flatMap pEnc).length = n * 3) := by show _ = _; rw [flat_length 3 pEnc pEnc_len, hn]
  clear h hn hk hr
  have hy1 : 0 + n ≤ maxLen := by unfold maxLen; omega
  have hy2 : (0 + n) * 32 ≤ 140737488355328 := by omega
  go_enter Tryz.func19, Tryz.ntmps19
  have hzz : w.heap.size + 1 ≤ ((w.alloc (.cells #[.string p.sum, .int .i64 p.work, .int .i64 p.count] 44)).alloc (.cells #[] 44)).heap.size := by have := HZ.out; omega
  obtain ⟨g3, hg3⟩ : ∃ g3, g3 = w.heap.size := ⟨_, rfl⟩
  have HG3 : Hid (g3 = w.heap.size) := hg3
  go_wp2_with (at_builtin; refine wpList_append_any rfl _ _ 23 rfl (w.heap.size + 1) 44 i0 (.agg #[.string ⟨#[]⟩, .int .i64 0, .int .i64 0]) 3 32 Tryz.underlying23 hi hz0 hz1 hz2 rfl (by decide) (w.heap.size + 1) 0 0 [] (by rfl) R0.out ⟨g, 0, none⟩ n cap (ps.flatMap pEnc) (by rfl) HPL.out (HNW.out _ L0.out) HU.out hy1 hy2 hzz ?_; intro g5 c5 w1 hown1 hgrow1 hat1 hlt1)
  have C1 : Hid (CBk w1 g3 44 #[.string p.sum, .int .i64 p.work, .int .i64 p.count]) := by
    have := C0.out
    rw [← hg3] at this
    unfold CBk at this ⊢
    rw [hgrow1.block g3 (by have := HZ.out; omega) (by simp; omega)]
    exact this
  have B1 : Hid (Below w.heap.size w w1) := L0.out.grown hgrow1 (by have := HZ.out; omega) (fun j hj => by cases hj; omega)
  have RW1 : Hid (w1.ownsRow (w.heap.size + 1) 44 3 (.slice (some ⟨g5, 0, none⟩) n c5) n ((ps.take n).flatMap pEnc)) := by
    have e : ps.take n = ps := by rw [HN.out, List.take_length]
    rw [Nat.zero_add, List.nil_append] at hown1
    show World.ownsRow _ _ _ _ _ _ _
    rw [e]
    exact hown1
  rw [← hg3]
  clear hown1 hgrow1 hat1 hlt1 C0 L0 R0 HZ hzz hy1 hy2 HNW HU HPL
  clear hg3
  go_wp2_with fail
  go_loopw [5] (fun out wr => ∃ (m g5 c5 : Nat) (q : PeakV), m ≤ n ∧ out = .slice (some ⟨g5, 0, none⟩) m c5 ∧ Hid (wr.ownsRow (w.heap.size + 1) 44 3 (.slice (some ⟨g5, 0, none⟩) m c5) m ((ps.take m).flatMap pEnc)) ∧ Hid (CBk wr g3 44 #[.string q.sum, .int .i64 q.work, .int .i64 q.count]) ∧ Hid (addP (ps.take m) q = A) ∧ Hid (Room ps m q) ∧ Hid (Below w.heap.size w wr)) (fun out _ => sliceLen out)
  case atStart => exact ⟨n, g5, c5, p, Nat.le_refl _, rfl, RW1, C1, HAD, HR0, B1⟩
  case round =>
    clear RW1 C1 HAD HR0 B1
    obtain ⟨m, g5, c5, q, hmn, rfl, RW, CR, HAD, HRM, HB⟩ := hrel
    obtain ⟨d0, d1, d2⟩ := CR.out.cells3
    cases m with
    | zero =>
      have hd0 : decide ((0 : Int) < ((0 : Nat) : Int)) = false := by decide
      have hd1 : ((0 : Nat) : Int) = 0 := rfl
      have HRV : Hid (A = ps.take 0 ++ [q]) := by show _ = _; rw [← HAD.out, List.take_zero, addP_nil]; rfl
      go_wp2_with fail
      go_big_region
      obtain ⟨d0, d1, d2⟩ := CR.out.cells3
      have hx1 : 0 + 1 ≤ maxLen := by unfold maxLen; omega
      have hx2 : (0 + 1) * 32 ≤ 140737488355328 := by omega
      have hu := pEnc_one q
      have hsz : w.heap.size + 1 ≤ wr.heap.size := by have := CR.out.lt; have := HG3.out; omega
      have HRW : Hid (wr.drew.ownsRow (w.heap.size + 1) 44 3 (.slice (some ⟨g5, 0, none⟩) (0) c5) (0) ((ps.take (0)).flatMap pEnc)) := RW.out
      go_wp2_with (at_builtin; rw [drewAlloc]; refine wp_appN rfl _ _ 23 rfl (w.heap.size + 1) 44 i0 (.agg #[.string ⟨#[]⟩, .int .i64 0, .int .i64 0]) 3 32 1 Tryz.underlying23 hi hz0 hz1 hz2 rfl (by decide) (by decide) (.slice (some ⟨g5, 0, none⟩) (0) c5) (0) _ rfl HRW.out (pEnc q) (by first | rfl | simp [Act.eval]) rfl hu hx1 hx2 hsz ?_; intro g6 c6 w6 hown6 hb6 hkeep6)
      have R6 : Hid (PRow w.heap.size (.slice (some ⟨g6, 0, none⟩) (0 + 1) c6) A w6) := by
        have hv : A = ps.take (0) ++ [q] := HRV.out
        have hl : (ps.take (0)).length = 0 := by rw [List.length_take]; have := HN.out; omega
        have : PRow (w.heap.size + 1) (.slice (some ⟨g6, 0, none⟩) (0 + 1) c6) (ps.take (0) ++ [q]) w6 := FRow.of (by rw [List.flatMap_append]; simpa using hown6) (by rw [List.length_append, hl]; rfl)
        rw [hv]
        exact this.mono (Nat.le_succ _)
      have B6 : Hid (Below w.heap.size w w6) := HB.out.drew.trans (hb6.mono (Nat.le_succ _))
      clear hown6 hb6 hkeep6
      go_wp2_with fail
      go_ret
      exact ⟨_, rfl, R6.out, B6.out⟩
    | succ m =>
      have hml : m < ps.length := by rw [← HN.out]; omega
      have HRO : Hid (PRow (w.heap.size + 1) (.slice (some ⟨g5, 0, none⟩) (m + 1) c5) (ps.take (m + 1)) wr) := FRow.of RW.out (by rw [List.length_take]; omega)
      have hat := (FRow.at pEnc_len HRO.out).1
      have hlen : m < (ps.take (m + 1)).length := by rw [List.length_take]; omega
      have q0 := AtP.c0 hat m hlen
      have q1 := AtP.c1 hat m hlen
      have q2 := AtP.c2 hat m hlen
      have hgt : (ps.take (m + 1)).getD m default = ps.getD m default := by simp
      rw [hgt] at q0 q1 q2
      have HGE : Hid (w.heap.size + 1 ≤ g5 ∧ g5 < wr.heap.size) := ⟨(FRow.at pEnc_len HRO.out).2.2.1, hat.1⟩
      have HCC : Hid (m + 1 ≤ c5) := (FRow.at pEnc_len HRO.out).2.2.2
      have HKM : Hid (peakOkB (ps.getD m default) = true) := HKP.out m hml
      have HS : Hid ((ps.getD m default).count = q.count → Room ps m (bothP (ps.getD m default) q)) := fun he => HRM.out.step HKP.out hml he
      have HYES : Hid ((ps.getD m default).count = q.count → addP (ps.take m) (bothP (ps.getD m default) q) = A) := fun he => by
        rw [← HAD.out, take_one hml, addP_yes he]
      have HNO : Hid (¬ (ps.getD m default).count = q.count → A = ps.take (m + 1) ++ [q]) := fun he => by
        rw [← HAD.out, take_one hml, addP_no he]
      have hd0 : decide ((0 : Int) < ((m + 1 : Nat) : Int)) = true := decide_eq_true (by omega)
      have hd2 : (0 : Int) < ((m + 1 : Nat) : Int) := by omega
      have hw1 : IntKind.i64.wrap (((m + 1 : Nat) : Int) - 1) = (m : Int) := by rw [IntKind.wrap_i64]; omega
      have lm0 : (0 : Int) ≤ (m : Int) := by omega
      have lm1 : (m : Int) < ((m + 1 : Nat) : Int) := by omega
      obtain ⟨M, hM⟩ : ∃ M, M = m + 1 := ⟨_, rfl⟩
      have HM : Hid (M = m + 1) := hM
      rw [← hM] at hd0 hd2 hw1 lm1 ⊢
      rw [← hM] at HRO RW HNO HCC hmn
      have HTK : Hid (ps.take M = ps.take m ++ [ps.getD m default]) := by show _ = _; rw [hM, take_one hml]
      have hdN : decide (0 < M) = true := decide_eq_true (by omega)
      have hdN2 : 0 < M := by omega
      clear hM hat hlen hgt hml HAD
      generalize ps.getD m default = t at q0 q1 q2 HKM HS HYES HNO HTK
      by_cases he : t.count = q.count
      · have heb : (t.count == q.count) = true := by simpa using he
        have HRM2 : Hid (Room ps m (bothP t q)) := HS.out he
        have HAD2 : Hid (addP (ps.take m) (bothP t q) = A) := HYES.out he
        have hp1 := fun w' => specL5Both t q w' HKM.out HRM.out.ok
        unfold peakVal at hp1
        have lmc : (m : Int) ≤ (c5 : Int) := by have := HCC.out; have := HM.out; omega
        have hc0 : ¬ c5 = 0 := by have := HCC.out; have := HM.out; omega
        clear HS HYES HNO he
        go_wp2_with fail
        go_big_region
        go_wp2_with fail
        go_region_with (go_at_call 38; refine (hp1 _).mono ?_; rintro e w5 ⟨rfl, b5⟩; have C5 : Hid (CBk w5 g3 44 #[.string q.sum, .int .i64 q.work, .int .i64 q.count]) := CBk.call (w := wr.drew.drew) CR.out b5; obtain ⟨m0, m1, m2⟩ := C5.out.cells3; obtain ⟨f0, f1, f2⟩ := C5.out.free3)
        all_goals
          have C6 : Hid (CBk (((w5.setCell ⟨g3, 0, none⟩ (.string (bothP t q).sum)).setCell ⟨g3, 1, none⟩ (.int .i64 (bothP t q).work)).setCell ⟨g3, 2, none⟩ (.int .i64 (bothP t q).count)) g3 44 #[.string (bothP t q).sum, .int .i64 (bothP t q).work, .int .i64 (bothP t q).count]) := C5.out.set3
          have B6 : Hid (Below w.heap.size w (((w5.setCell ⟨g3, 0, none⟩ (.string (bothP t q).sum)).setCell ⟨g3, 1, none⟩ (.int .i64 (bothP t q).work)).setCell ⟨g3, 2, none⟩ (.int .i64 (bothP t q).count))) := by
            have e4 := HG3.out
            exact (((HB.out.drew.drew.trans (Below.mono (w := wr.drew.drew) b5 HB.out.size)).setCell (p := ⟨g3, 0, none⟩) (by show w.heap.size ≤ g3; omega) _).setCell (p := ⟨g3, 1, none⟩) (by show w.heap.size ≤ g3; omega) _).setCell (p := ⟨g3, 2, none⟩) (by show w.heap.size ≤ g3; omega) _
          have R6 : Hid ((((w5.setCell ⟨g3, 0, none⟩ (.string (bothP t q).sum)).setCell ⟨g3, 1, none⟩ (.int .i64 (bothP t q).work)).setCell ⟨g3, 2, none⟩ (.int .i64 (bothP t q).count)).ownsRow (w.heap.size + 1) 44 3 (.slice (some ⟨g5, 0, none⟩) m c5) m ((ps.take m).flatMap pEnc)) := by
            have hl : ((ps.take m).flatMap pEnc).length = m * 3 := by
              rw [flat_length 3 pEnc pEnc_len, List.length_take]
              have := HN.out
              have := HM.out
              omega
            have h5 : w5.ownsRow (w.heap.size + 1) 44 3 (.slice (some ⟨g5, 0, none⟩) (m + 1) c5) (m + 1) ((ps.take m).flatMap pEnc ++ pEnc t) := by
              have := (FRow.below (w := wr.drew.drew) HRO.out (w' := w5) b5).2
              rw [HTK.out, List.flatMap_append] at this
              have hmin : min m ps.length = m := by have := HN.out; have := HM.out; omega
              simpa [HM.out, List.length_take, hmin] using this
            have h6 := ownsRow_pop hl h5
            have hgg : ∀ (i : Nat) (v : Value) (wx : World), wx.ownsRow (w.heap.size + 1) 44 3 (.slice (some ⟨g5, 0, none⟩) m c5) m ((ps.take m).flatMap pEnc) → (wx.setCell ⟨g3, i, none⟩ v).ownsRow (w.heap.size + 1) 44 3 (.slice (some ⟨g5, 0, none⟩) m c5) m ((ps.take m).flatMap pEnc) := by
              intro i v wx hx
              obtain ⟨h1, h2⟩ := hx
              refine ⟨h1, ?_⟩
              rcases h2 with h3 | ⟨g', cap', cur, hv, hB, hg, h4⟩
              · exact .inl h3
              · refine .inr ⟨g', cap', cur, hv, hB, ?_, h4⟩
                have : g3 ≠ g' := by have := HG3.out; omega
                simp [World.setCell, Array.getElem?_modify, hg, this]
            exact hgg _ _ _ (hgg _ _ _ (hgg _ _ _ h6))
          generalize bothP t q = nq at C6 B6 R6 HRM2 HAD2
          clear C5 b5 m0 m1 m2 f0 f1 f2
          go_wp2_with fail
          go_roundw
          case rel => exact ⟨m, g5, c5, nq, by have := HM.out; omega, rfl, R6, C6, HAD2, HRM2, B6⟩
          case measure => have := HM.out; simp [sliceLen]; omega
      · have heb : (t.count == q.count) = false := by simpa using he
        have HRV : Hid (A = ps.take M ++ [q]) := HNO.out he
        have hMm : M ≤ 1048576 := by omega
        clear HS HYES HNO
        go_wp2_with fail
        go_big_region
        obtain ⟨d0, d1, d2⟩ := CR.out.cells3
        have hx1 : M + 1 ≤ maxLen := by unfold maxLen; omega
        have hx2 : (M + 1) * 32 ≤ 140737488355328 := by omega
        have hu := pEnc_one q
        have hsz : w.heap.size + 1 ≤ wr.heap.size := by have := CR.out.lt; have := HG3.out; omega
        have HRW : Hid (wr.drew.ownsRow (w.heap.size + 1) 44 3 (.slice (some ⟨g5, 0, none⟩) (M) c5) (M) ((ps.take (M)).flatMap pEnc)) := RW.out
        go_wp2_with (at_builtin; rw [drewAlloc]; refine wp_appN rfl _ _ 23 rfl (w.heap.size + 1) 44 i0 (.agg #[.string ⟨#[]⟩, .int .i64 0, .int .i64 0]) 3 32 1 Tryz.underlying23 hi hz0 hz1 hz2 rfl (by decide) (by decide) (.slice (some ⟨g5, 0, none⟩) (M) c5) (M) _ rfl HRW.out (pEnc q) (by first | rfl | simp [Act.eval]) rfl hu hx1 hx2 hsz ?_; intro g6 c6 w6 hown6 hb6 hkeep6)
        have R6 : Hid (PRow w.heap.size (.slice (some ⟨g6, 0, none⟩) (M + 1) c6) A w6) := by
          have hv : A = ps.take (M) ++ [q] := HRV.out
          have hl : (ps.take (M)).length = M := by rw [List.length_take]; have := HN.out; omega
          have : PRow (w.heap.size + 1) (.slice (some ⟨g6, 0, none⟩) (M + 1) c6) (ps.take (M) ++ [q]) w6 := FRow.of (by rw [List.flatMap_append]; simpa using hown6) (by rw [List.length_append, hl]; rfl)
          rw [hv]
          exact this.mono (Nat.le_succ _)
        have B6 : Hid (Below w.heap.size w w6) := HB.out.drew.trans (hb6.mono (Nat.le_succ _))
        clear hown6 hb6 hkeep6
        go_wp2_with fail
        go_ret
        exact ⟨_, rfl, R6.out, B6.out⟩

end Go.Proofs.YtplldapkcljllaaGreatDoor

set_option linter.unusedVariables false
namespace Go.Proofs.YtplldapkcljllaaGreatDoor
open Go.RowKit Go.Deep

theorem addR_all {C : PeakV → Prop} (hb : ∀ a b, C (bothP a b)) : ∀ (r : List PeakV) (p : PeakV), (∀ q ∈ r, C q) → C p → ∀ q ∈ addR r p, C q
  | [], p, _, hp, q, hq => by rw [List.mem_singleton.1 hq]; exact hp
  | x :: r, p, hr, hp, q, hq => by
    unfold addR at hq
    split at hq
    · exact addR_all hb r _ (fun y hy => hr y (List.mem_cons_of_mem _ hy)) (hb _ _) q hq
    · rcases List.mem_cons.1 hq with rfl | h2
      · exact hp
      · exact hr q h2
theorem addP_all {C : PeakV → Prop} (hb : ∀ a b, C (bothP a b)) {ps : List PeakV} {p : PeakV} (hr : ∀ q ∈ ps, C q) (hp : C p) : ∀ q ∈ addP ps p, C q := by
  intro q hq
  exact addR_all hb ps.reverse p (fun y hy => hr y (List.mem_reverse.1 hy)) hp q (List.mem_reverse.1 hq)
theorem addR_len : ∀ (r : List PeakV) (p : PeakV), (addR r p).length ≤ r.length + 1
  | [], p => by simp [addR]
  | x :: r, p => by
    unfold addR
    split
    · have := addR_len r (bothP x p)
      simp
      omega
    · simp
theorem addP_len (ps : List PeakV) (p : PeakV) : (addP ps p).length ≤ ps.length + 1 := by
  have := addR_len ps.reverse p
  simpa [addP] using this
theorem getD_all {C : PeakV → Prop} {l : List PeakV} (h : ∀ q ∈ l, C q) (i : Nat) (hi : i < l.length) : C (l.getD i default) := by
  rw [List.getD_eq_getElem?_getD, List.getElem?_eq_getElem hi]
  exact h _ (List.getElem_mem hi)

theorem peaks_ok {ps : List PeakV} (h : rangeOkB ps = true) (i : Nat) (hi : i < ps.length) : peakOkB (ps.getD i default) = true := by
  rw [rangeOkB, Bool.and_eq_true, List.all_eq_true] at h
  have := h.1 i (List.mem_range.2 hi)
  simp only [stepOk, Bool.and_eq_true] at this
  exact this.1
theorem range_cnt {ps : List PeakV} (h : rangeOkB ps = true) : cntTo ps ps.length ≤ 20 := by
  rw [rangeOkB, Bool.and_eq_true, decide_eq_true_eq] at h
  exact h.2

theorem newsPeaks {w wx : World} {g : Nat} {ps : List PeakV} (hA : AtP w g ps) (hb : Below w.heap.size w wx) : ∀ j u, (ps.flatMap pEnc)[j]? = some u → wx.cell? ((⟨g, 0, none⟩ : Addr).add j) = some u := by
  intro j u hj
  have hat := hA.below hb hA.1
  have hjl : j < (ps.flatMap pEnc).length := by
    rcases Nat.lt_or_ge j (ps.flatMap pEnc).length with h' | h'
    · exact h'
    · rw [List.getElem?_eq_none h'] at hj; cases hj
  rw [flat_length 3 pEnc pEnc_len] at hjl
  have hq : j = j / 3 * 3 + j % 3 := by omega
  have hi3 : j / 3 < ps.length := by omega
  have h3 := hat.2 (j / 3) (j % 3) hi3 (Nat.mod_lt _ (by decide))
  have hf := flat_at 3 pEnc pEnc_len ps (j / 3) (j % 3) hi3 (Nat.mod_lt _ (by decide))
  rw [← hq] at h3 hf
  rw [add0, h3, ← hf]
  exact hj

def AddPost (B : Nat) (ps : List PeakV) (h : HeadV) (e : Ending) (w' : World) : Prop :=
  ((rangeOkB ps && headOkB h) = false ∧ e = .returned (.tuple #[.slice none 0 0, .bool false])) ∨
  ((rangeOkB ps && headOkB h) = true ∧ ∃ v, e = .returned (.tuple #[v, .bool (rangeOkB (addP ps (leafP h)))]) ∧ PRow B v (if rangeOkB (addP ps (leafP h)) then addP ps (leafP h) else ps) w')

set_option maxHeartbeats 1000000 in
set_option maxRecDepth 100000 in
theorem specRangeAdd (g n cap : Nat) (ps : List PeakV) (h : HeadV) (w : World) (hA : AtP w g ps) (hn : n = ps.length) (hm : n ≤ 1048576) (hz : ∀ i, i < ps.length → (ps.getD i default).sum.size ≤ maxLen) (hp : h.prev.size ≤ maxLen) (hr : h.root.size ≤ maxLen) :
    Calls Tryz.prog 6 #[.slice (some ⟨g, 0, none⟩) n cap, headVal h] w fun e w' => AddPost w.heap.size ps h e w' ∧ Below w.heap.size w w' := by
  obtain ⟨i0, hi, hz0, hz1, hz2⟩ := info3 infoPeak
  have HA : Hid (AtP w g ps) := hA
  have HN : Hid (n = ps.length) := hn
  have hok := fun (w' : World) (hb : Below w.heap.size w w') => specL5Ok g n cap ps w' (HA.out.below hb HA.out.1) hn (by omega) hz
  have hho := fun w' => specL3Ok h w' hp hr
  have HBAD : Hid (∀ e w', (rangeOkB ps && headOkB h) = false → e = .returned (.tuple #[.slice none 0 0, .bool false]) → AddPost w.heap.size ps h e w') := fun e w' h1 h2 => .inl ⟨h1, h2⟩
  have HGOOD : Hid (∀ e w' v, rangeOkB ps = true → headOkB h = true → e = .returned (.tuple #[v, .bool (rangeOkB (addP ps (leafP h)))]) → PRow w.heap.size v (if rangeOkB (addP ps (leafP h)) then addP ps (leafP h) else ps) w' → AddPost w.heap.size ps h e w') := fun e w' v h1 h2 h3 h4 => .inr ⟨by rw [h1, h2]; rfl, v, h3, h4⟩
  generalize AddPost w.heap.size ps h = Q at HBAD HGOOD ⊢
  have HM : Hid (n ≤ 1048576) := hm
  have HZ : Hid (∀ i, i < ps.length → (ps.getD i default).sum.size ≤ maxLen) := hz
  clear hA hn hm hz hp hr
  unfold headVal
  have C0 : Hid (CBk (w.alloc (.cells #[.string h.prev, .string h.root, .int .i64 h.time, .int .i64 h.diff, .int .i64 h.nonce] 25)) w.heap.size 25 #[.string h.prev, .string h.root, .int .i64 h.time, .int .i64 h.diff, .int .i64 h.nonce]) := CBk.new w _ _
  have B0 : Hid (Below w.heap.size w (w.alloc (.cells #[.string h.prev, .string h.root, .int .i64 h.time, .int .i64 h.diff, .int .i64 h.nonce] 25))) := (Below.refl _ w).alloc (Nat.le_refl _) _
  have h0 := hok _ B0.out
  clear hok
  go_enter Tryz.func6, Tryz.ntmps6
  go_wp2_with fail
  generalize w.alloc (.cells #[.string h.prev, .string h.root, .int .i64 h.time, .int .i64 h.diff, .int .i64 h.nonce] 25) = W0 at C0 B0 h0 ⊢
  obtain ⟨g0, hg0⟩ : ∃ g0, g0 = w.heap.size := ⟨_, rfl⟩
  have HG0 : Hid (g0 = w.heap.size) := hg0
  have C0 : Hid (CBk W0 g0 25 #[.string h.prev, .string h.root, .int .i64 h.time, .int .i64 h.diff, .int .i64 h.nonce]) := by rw [hg0]; exact C0.out
  rw [show (w.heap.size) = g0 from hg0.symm]
  clear hg0
  cases hrk : rangeOkB ps with
  | false =>
    have HV : Hid (∀ e w', e = .returned (.tuple #[.slice none 0 0, .bool false]) → Q e w') := fun e w' he => HBAD.out e w' (by rw [hrk]; rfl) he
    rw [hrk] at h0
    clear HBAD HGOOD hho hrk
    refine Calls.mono h0 ?_
    rintro e w1 ⟨rfl, b1⟩
    go_wp2_with fail
    go_ret2
    have h9 := HV.out
    refine ⟨h9 _ _ ?_, B0.out.trans (b1.mono B0.out.size)⟩
    rfl
  | true =>
  have HRK : Hid (rangeOkB ps = true) := hrk
  rw [hrk] at h0
  clear hrk
  refine Calls.mono h0 ?_
  rintro e w1 ⟨rfl, b1⟩
  have C1 : Hid (CBk w1 g0 25 #[.string h.prev, .string h.root, .int .i64 h.time, .int .i64 h.diff, .int .i64 h.nonce]) := C0.out.call b1
  have B1 : Hid (Below w.heap.size w w1) := B0.out.trans (b1.mono B0.out.size)
  clear C0 B0 b1 h0
  obtain ⟨e0, e1, e2, e3, e4⟩ := C1.out.cells5
  cases hhk : headOkB h with
  | false =>
    have HV : Hid (∀ e w', e = .returned (.tuple #[.slice none 0 0, .bool false]) → Q e w') := fun e w' he => HBAD.out e w' (by rw [hhk, HRK.out]; rfl) he
    rw [hhk] at hho
    clear HBAD HGOOD hhk
    go_wp2_with fail
    refine (hho _).mono ?_
    rintro e w2 ⟨rfl, b2⟩
    go_wp2_with fail
    go_ret2
    have h9 := HV.out
    refine ⟨h9 _ _ ?_, B1.out.trans (b2.mono B1.out.size)⟩
    rfl
  | true =>
  have HHK : Hid (headOkB h = true) := hhk
  rw [hhk] at hho
  clear hhk HBAD
  go_wp2_with fail
  refine (hho _).mono ?_
  rintro e w2 ⟨rfl, b2⟩
  have C2 : Hid (CBk w2 g0 25 #[.string h.prev, .string h.root, .int .i64 h.time, .int .i64 h.diff, .int .i64 h.nonce]) := C1.out.call b2
  have B2 : Hid (Below w.heap.size w w2) := B1.out.trans (b2.mono B1.out.size)
  clear C1 B1 b2 hho e0 e1 e2 e3 e4
  obtain ⟨e0, e1, e2, e3, e4⟩ := C2.out.cells5
  have hlf := fun w' => specL5Leaf h w' HHK.out
  unfold headVal at hlf
  have HLK : Hid (peakOkB (leafP h) = true) := fine_ok (fine_leaf HHK.out) (by show (1 : Int) ≤ 20; decide)
  have HL1 : Hid ((leafP h).count = 1) := rfl
  generalize leafP h = p at hlf HLK HL1 HGOOD
  go_wp2_with fail
  refine (hlf _).mono ?_
  rintro e w3 ⟨rfl, b3⟩
  have B3 : Hid (Below w.heap.size w w3) := B2.out.trans (b3.mono B2.out.size)
  have HPK : Hid (∀ i, i < ps.length → peakOkB (ps.getD i default) = true) := fun i hi => peaks_ok HRK.out i hi
  have had := specL5Add g n cap ps p w3 (HA.out.below B3.out HA.out.1) HN.out HM.out HPK.out ⟨HLK.out, by have := (cnt_in HRK.out ps.length (Nat.le_refl _)); rw [HL1.out, HN.out]; have := range_cnt HRK.out; omega⟩
  unfold peakVal at had
  unfold peakVal
  have HLN : Hid ((addP ps p).length ≤ 1048576) := by
    have h1 := addP_len ps p
    have h2 := range_len HRK.out
    show _ ≤ _
    omega
  have HSZ : Hid (∀ i, i < (addP ps p).length → ((addP ps p).getD i default).sum.size ≤ maxLen) := by
    intro i hi
    refine getD_all (C := fun q => q.sum.size ≤ maxLen) (addP_all (fun a b => ?_) (fun q hq => ?_) ?_) i hi
    · show (bothP a b).sum.size ≤ maxLen
      rw [sum_size (isSum_both a b)]
      decide
    · obtain ⟨j, hj, rfl⟩ := List.mem_iff_getElem.1 hq
      have := HZ.out j hj
      rwa [List.getD_eq_getElem?_getD, List.getElem?_eq_getElem hj] at this
    · have := HLK.out
      simp only [peakOkB, Bool.and_eq_true] at this
      rw [sum_size this.1]
      decide
  generalize addP ps p = A at had HLN HSZ HGOOD
  clear b3 C2 B2 hlf e0 e1 e2 e3 e4
  go_wp2_with fail
  refine had.mono ?_
  rintro e w4 ⟨v, rfl, R4, b4⟩
  have B4 : Hid (Below w.heap.size w w4) := B3.out.trans (b4.mono B3.out.size)
  have R4 : Hid (PRow w.heap.size v A w4) := R4.mono B3.out.size
  clear had b4 B3
  obtain ⟨⟨g4, c4, rfl⟩, -⟩ := id R4.out
  have hok4 := specL5Ok g4 A.length c4 A w4 (FRow.at pEnc_len R4.out).1 rfl (by have := HLN.out; omega) HSZ.out
  go_wp2_with fail
  cases hra : rangeOkB A with
  | true =>
    have HV : Hid (∀ e w', e = .returned (.tuple #[.slice (some ⟨g4, 0, none⟩) A.length c4, .bool true]) → PRow w.heap.size (.slice (some ⟨g4, 0, none⟩) A.length c4) A w' → Q e w') := fun e w' he hR => HGOOD.out e w' _ HRK.out HHK.out (by rw [hra]; exact he) (by rw [hra]; exact hR)
    rw [hra] at hok4
    clear hra HGOOD
    refine hok4.mono ?_
    rintro e w5 ⟨rfl, b5⟩
    have R5 : Hid (PRow w.heap.size (.slice (some ⟨g4, 0, none⟩) A.length c4) A w5) := R4.out.below b5
    have B5 : Hid (Below w.heap.size w w5) := B4.out.trans (b5.mono B4.out.size)
    clear R4 B4 b5 hok4
    go_wp2_with fail
    go_ret2
    have h9 := HV.out
    refine ⟨h9 _ _ ?_ R5.out, B5.out⟩
    rfl
  | false =>
    have HV : Hid (∀ v w', PRow w.heap.size v ps w' → Q (.returned (.tuple #[v, .bool false])) w') := fun v w' hR => HGOOD.out _ w' v HRK.out HHK.out (by rw [hra]) (by rw [hra]; exact hR)
    rw [hra] at hok4
    clear hra HGOOD
    refine Calls.mono hok4 ?_
    rintro e w5 ⟨rfl, b5⟩
    have B5 : Hid (Below w.heap.size w w5) := B4.out.trans (b5.mono B4.out.size)
    clear R4 B4 b5 hok4
    have R0 : Hid ((w5.alloc (.cells #[] 44)).ownsRow w5.heap.size 44 3 (.slice (some ⟨w5.heap.size, 0, none⟩) 0 0) 0 []) := (frow_new pEnc 44 3 w5).2
    have L0 : Hid (Below w.heap.size w (w5.alloc (.cells #[] 44))) := B5.out.alloc B5.out.size _
    have HU : Hid (∀ u ∈ ps.flatMap pEnc, u.oneCell' = true) := pEncs_one ps
    have HNW : Hid (∀ j u, (ps.flatMap pEnc)[j]? = some u → (w5.alloc (.cells #[] 44)).cell? ((⟨g, 0, none⟩ : Addr).add j) = some u) := newsPeaks HA.out L0.out
    have HPL : Hid ((ps.flatMap pEnc).length = n * 3) := by show _ = _; rw [flat_length 3 pEnc pEnc_len, HN.out]
    have hy1 : 0 + n ≤ maxLen := by have := HM.out; unfold maxLen; omega
    have hy2 : (0 + n) * 32 ≤ 140737488355328 := by have := HM.out; omega
    have hzz : w5.heap.size ≤ (w5.alloc (.cells #[] 44)).heap.size := by simp
    go_wp2_with (at_builtin; refine wpList_append_any rfl _ _ 23 rfl w5.heap.size 44 i0 (.agg #[.string ⟨#[]⟩, .int .i64 0, .int .i64 0]) 3 32 Tryz.underlying23 hi hz0 hz1 hz2 rfl (by decide) w5.heap.size 0 0 [] (by rfl) R0.out ⟨g, 0, none⟩ n cap (ps.flatMap pEnc) (by rfl) HPL.out HNW.out HU.out hy1 hy2 hzz ?_; intro g6 c6 w6 hown6 hgrow6 hat6 hlt6)
    have hown7 : w6.ownsRow w5.heap.size 44 3 (.slice (some ⟨g6, 0, none⟩) n c6) n (ps.flatMap pEnc) := by
      rw [Nat.zero_add, List.nil_append] at hown6
      exact hown6
    have R6 : Hid (PRow w.heap.size (.slice (some ⟨g6, 0, none⟩) n c6) ps w6) := (FRow.of hown7 HN.out).mono B5.out.size
    have B6 : Hid (Below w.heap.size w w6) := L0.out.grown hgrow6 (by have := B5.out.size; simp; omega) (fun j hj => by cases hj; exact B5.out.size)
    clear hown6 hown7 hgrow6 hat6 hlt6 R0 L0 HNW HPL HU
    go_wp2_with fail
    go_ret2
    have h9 := HV.out
    exact ⟨h9 _ _ R6.out, B6.out⟩

end Go.Proofs.YtplldapkcljllaaGreatDoor

set_option linter.unusedVariables false
namespace Go.Proofs.YtplldapkcljllaaGreatDoor
open Go.RowKit Go.Deep

def sumC : List PeakV → Int
  | [] => 0
  | p :: r => p.count + sumC r
theorem cnt_sum (ps : List PeakV) : ∀ k, k ≤ ps.length → cntTo ps k = sumC (ps.take k).reverse
  | 0, _ => by simp [cntTo, sumC]
  | k + 1, hk => by
    rw [cntTo, cnt_sum ps k (by omega), take_one (by omega), List.reverse_append]
    simp [sumC, Int.add_comm]
theorem cnt_all (ps : List PeakV) : cntTo ps ps.length = sumC ps.reverse := by
  rw [cnt_sum ps ps.length (Nat.le_refl _), List.take_length]
theorem addR_sum : ∀ (r : List PeakV) (p : PeakV), sumC (addR r p) = sumC r + p.count
  | [], p => by simp [addR, sumC]
  | x :: r, p => by
    unfold addR
    split
    · rw [addR_sum r (bothP x p)]
      simp only [sumC, bothP]
      omega
    · simp only [sumC]
      omega
theorem addP_cnt (ps : List PeakV) (p : PeakV) : cntTo (addP ps p) (addP ps p).length = cntTo ps ps.length + p.count := by
  rw [cnt_all, cnt_all, addP, List.reverse_reverse, addR_sum]
theorem sumC_pos : ∀ (r : List PeakV), (∀ q ∈ r, peakOkB q = true) → 0 ≤ sumC r
  | [], _ => Int.le_refl _
  | x :: r, h => by
    have h1 := peakOk_in (h x (List.mem_cons_self ..))
    have h2 := sumC_pos r (fun q hq => h q (List.mem_cons_of_mem _ hq))
    simp only [sumC]
    omega
theorem bothP_ok {a b : PeakV} (ha : peakOkB a = true) (hb : peakOkB b = true) (h : a.count + b.count ≤ 20) : peakOkB (bothP a b) = true := by
  have h1 := peakOk_in ha
  have h2 := peakOk_in hb
  have hs := isSum_both a b
  simp only [peakOkB, hs, Bool.true_and, Bool.and_eq_true, decide_eq_true_eq]
  show (1 ≤ a.count + b.count ∧ a.count + b.count ≤ 20) ∧ a.count + b.count ≤ a.work + b.work ∧ a.work + b.work ≤ (a.count + b.count) * 8
  omega
theorem addR_ok : ∀ (r : List PeakV) (p : PeakV), (∀ q ∈ r, peakOkB q = true) → peakOkB p = true → sumC r + p.count ≤ 20 → ∀ q ∈ addR r p, peakOkB q = true
  | [], p, _, hp, _, q, hq => by rw [List.mem_singleton.1 hq]; exact hp
  | x :: r, p, hr, hp, hs, q, hq => by
    have h1 := hr x (List.mem_cons_self ..)
    have h2 := fun y hy => hr y (List.mem_cons_of_mem _ hy)
    have h3 := sumC_pos r h2
    simp only [sumC] at hs
    unfold addR at hq
    split at hq
    · exact addR_ok r (bothP x p) h2 (bothP_ok h1 hp (by omega)) (by simp only [bothP]; omega) q hq
    · rcases List.mem_cons.1 hq with rfl | h4
      · exact hp
      · exact hr q h4
theorem addP_ok {ps : List PeakV} {p : PeakV} (hr : ∀ q ∈ ps, peakOkB q = true) (hp : peakOkB p = true) (h : cntTo ps ps.length + p.count ≤ 20) : ∀ q ∈ addP ps p, peakOkB q = true := by
  intro q hq
  rw [cnt_all] at h
  exact addR_ok ps.reverse p (fun y hy => hr y (List.mem_reverse.1 hy)) hp h q (List.mem_reverse.1 hq)

/-- The peaks of the first heads. -/
def ofP (l : List HeadV) : Nat → List PeakV
  | 0 => []
  | k + 1 => addP (ofP l k) (leafP (l.getD k default))
theorem ofP_ok {l : List HeadV} (h : ∀ i, i < l.length → headOkB (l.getD i default) = true) (hl : l.length ≤ 20) : ∀ k, k ≤ l.length → (∀ q ∈ ofP l k, peakOkB q = true) ∧ cntTo (ofP l k) (ofP l k).length = (k : Int) ∧ (ofP l k).length ≤ k
  | 0, _ => ⟨fun q hq => by simp [ofP] at hq, rfl, Nat.le_refl _⟩
  | k + 1, hk => by
    obtain ⟨h1, h2, h3⟩ := ofP_ok h hl k (by omega)
    have hp : peakOkB (leafP (l.getD k default)) = true := fine_ok (fine_leaf (h k (by omega))) (by show (1 : Int) ≤ 20; decide)
    have hc : (leafP (l.getD k default)).count = 1 := rfl
    refine ⟨addP_ok h1 hp (by rw [h2, hc]; omega), ?_, ?_⟩
    · show cntTo (addP _ _) (addP _ _).length = _
      rw [addP_cnt, h2, hc]
      omega
    · have := addP_len (ofP l k) (leafP (l.getD k default))
      show (addP _ _).length ≤ _
      omega

end Go.Proofs.YtplldapkcljllaaGreatDoor

set_option linter.unusedVariables false
namespace Go.Proofs.YtplldapkcljllaaGreatDoor
open Go.RowKit Go.Deep

theorem sizeAlloc (w : World) (o : Obj) : w.heap.size ≤ (w.alloc o).heap.size := by simp
theorem grownOff {w w' : World} {o : Obj} {g : Nat} (h : (w.alloc o).grownBy w' (some g)) : ∀ c, c < w.heap.size → c ≠ g → w'.heap[c]? = w.heap[c]? := fun c hc hne =>
  (h.block c (Nat.lt_of_lt_of_le hc (sizeAlloc w o)) (by simpa using hne)).trans (Below.heap_alloc _ _ _ hc)
/-- A stack in memory: its block, its row of peaks. -/
structure StkW (w0 wr : World) (g r c M : Nat) (l : List PeakV) : Prop where
  s : CBk wr g 49 #[.slice (some ⟨r, 0, none⟩) M c, .func (.func 30) #[] #[], .func (.func 31) #[] #[]]
  row : wr.ownsRow w0.heap.size 44 3 (.slice (some ⟨r, 0, none⟩) M c) M (l.flatMap pEnc)
  len : l.length = M
  b : Below w0.heap.size w0 wr
  rg : r ≠ g
  lo : w0.heap.size ≤ g
def Stk (w0 wr : World) (g : Nat) (l : List PeakV) : Prop := ∃ r c M, StkW w0 wr g r c M l
theorem StkW.frow {w0 wr : World} {g r c M : Nat} {l : List PeakV} (h : StkW w0 wr g r c M l) : PRow w0.heap.size (.slice (some ⟨r, 0, none⟩) M c) l wr := FRow.of h.row h.len.symm
theorem StkW.at {w0 wr : World} {g r c M : Nat} {l : List PeakV} (h : StkW w0 wr g r c M l) : AtP wr r l ∧ M = l.length ∧ w0.heap.size ≤ r ∧ M ≤ c := FRow.at pEnc_len h.frow
theorem StkW.call {w0 wr w' : World} {g r c M : Nat} {l : List PeakV} (h : StkW w0 wr g r c M l) (hb : Below wr.heap.size wr w') : StkW w0 w' g r c M l :=
  ⟨h.s.call hb, (FRow.below h.frow hb).2 |> (fun x => by rw [h.len] at x; exact x), h.len, h.b.trans (hb.mono h.b.size), h.rg, h.lo⟩
theorem StkW.drew {w0 wr : World} {g r c M : Nat} {l : List PeakV} (h : StkW w0 wr g r c M l) : StkW w0 wr.drew g r c M l := h.call (Below.refl _ _).drew
theorem StkW.outs {w0 wr : World} {g r c M : Nat} {l : List PeakV} (h : StkW w0 wr g r c M l) : wr.cell? ⟨g, 0, none⟩ = some (.slice (some ⟨r, 0, none⟩) M c) ∧ wr.cell? ⟨g, 1, none⟩ = some (.func (.func 30) #[] #[]) ∧ wr.cell? ⟨g, 2, none⟩ = some (.func (.func 31) #[] #[]) := ⟨h.s.cell 0, h.s.cell 1, h.s.cell 2⟩
theorem rowKeep {B r c M g3 i : Nat} {xs : List Value} {wx : World} {v : Value} (hx : wx.ownsRow B 44 3 (.slice (some ⟨r, 0, none⟩) M c) M xs) (hne : r ≠ g3) : (wx.setCell ⟨g3, i, none⟩ v).ownsRow B 44 3 (.slice (some ⟨r, 0, none⟩) M c) M xs := by
  obtain ⟨h1, h2⟩ := hx
  refine ⟨h1, ?_⟩
  rcases h2 with h3 | ⟨g', cap', cur, hv, hB, hg, h4⟩
  · exact .inl h3
  · refine .inr ⟨g', cap', cur, hv, hB, ?_, h4⟩
    simp only [Value.slice.injEq, Option.some.injEq, Addr.mk.injEq, and_true] at hv
    have : g3 ≠ g' := by have := hv.1; omega
    simp [World.setCell, Array.getElem?_modify, hg, this]
theorem PushK {w0 wr w6 : World} {o : Obj} {g r c M : Nat} {l : List PeakV} (h : StkW w0 wr g r c M l) (hg : (wr.drew.alloc o).grownBy w6 (some r)) : CBk w6 g 49 #[.slice (some ⟨r, 0, none⟩) M c, .func (.func 30) #[] #[], .func (.func 31) #[] #[]] :=
  (grownOff hg g h.s.lt h.rg.symm).trans h.s
/-- Behind a store into a block of no other's. -/
theorem StkW.store {w0 wr : World} {g r c M : Nat} {l : List PeakV} (h : StkW w0 wr g r c M l) {g3 i : Nat} (v : Value) (h1 : g3 ≠ g) (h2 : r ≠ g3) (h3 : w0.heap.size ≤ g3) : StkW w0 (wr.setCell ⟨g3, i, none⟩ v) g r c M l :=
  ⟨h.s.other h1 v, rowKeep h.row h2, h.len, h.b.setCell (p := ⟨g3, i, none⟩) h3 v, h.rg, h.lo⟩
/-- The stack while one is pushed: the one's block beside it. -/
structure PushW (w0 wr : World) (g g3 r c M : Nat) (l : List PeakV) (q : PeakV) : Prop where
  k : StkW w0 wr g r c M l
  o : CBk wr g3 44 #[.string q.sum, .int .i64 q.work, .int .i64 q.count]
  n1 : g < g3
  n2 : r < g3
theorem PushW.call {w0 wr w' : World} {g g3 r c M : Nat} {l : List PeakV} {q : PeakV} (h : PushW w0 wr g g3 r c M l q) (hb : Below wr.heap.size wr w') : PushW w0 w' g g3 r c M l q := ⟨h.k.call hb, h.o.call hb, h.n1, h.n2⟩
theorem PushW.drew {w0 wr : World} {g g3 r c M : Nat} {l : List PeakV} {q : PeakV} (h : PushW w0 wr g g3 r c M l q) : PushW w0 wr.drew g g3 r c M l q := h.call (Below.refl _ _).drew
theorem PushW.two {w0 wr : World} {g g3 r c M : Nat} {l : List PeakV} {q : PeakV} (h : PushW w0 wr g g3 r c M l q) : (wr.cell? ⟨g, 0, none⟩ = some (.slice (some ⟨r, 0, none⟩) M c) ∧ wr.cell? ⟨g, 1, none⟩ = some (.func (.func 30) #[] #[]) ∧ wr.cell? ⟨g, 2, none⟩ = some (.func (.func 31) #[] #[])) ∧ (wr.cell? ⟨g3, 0, none⟩ = some (.string q.sum) ∧ wr.cell? ⟨g3, 1, none⟩ = some (.int .i64 q.work) ∧ wr.cell? ⟨g3, 2, none⟩ = some (.int .i64 q.count)) := ⟨h.k.outs, h.o.cell 0, h.o.cell 1, h.o.cell 2⟩
theorem PushW.all {w0 wr : World} {g g3 r c M m : Nat} {l : List PeakV} {q t : PeakV} (h : PushW w0 wr g g3 r c M l q) (hm : m < l.length) (ht : l.getD m default = t) : (wr.cell? ⟨g, 0, none⟩ = some (.slice (some ⟨r, 0, none⟩) M c) ∧ wr.cell? ⟨g, 1, none⟩ = some (.func (.func 30) #[] #[]) ∧ wr.cell? ⟨g, 2, none⟩ = some (.func (.func 31) #[] #[])) ∧ (wr.cell? ⟨r, m * 3, none⟩ = some (.string t.sum) ∧ wr.cell? ⟨r, m * 3 + 1, none⟩ = some (.int .i64 t.work) ∧ wr.cell? ⟨r, m * 3 + 2, none⟩ = some (.int .i64 t.count)) ∧ (wr.cell? ⟨g3, 0, none⟩ = some (.string q.sum) ∧ wr.cell? ⟨g3, 1, none⟩ = some (.int .i64 q.work) ∧ wr.cell? ⟨g3, 2, none⟩ = some (.int .i64 q.count)) := by
  have h1 := h.k.at.1
  refine ⟨h.k.outs, ?_, h.o.cell 0, h.o.cell 1, h.o.cell 2⟩
  rw [← ht]
  exact ⟨AtP.c0 h1 m hm, AtP.c1 h1 m hm, AtP.c2 h1 m hm⟩
theorem PushW.grown {w0 wr w6 : World} {o : Obj} {g g3 r c M : Nat} {l : List PeakV} {q : PeakV} (h : PushW w0 wr g g3 r c M l q) (hg : (wr.drew.alloc o).grownBy w6 (some r)) : CBk w6 g 49 #[.slice (some ⟨r, 0, none⟩) M c, .func (.func 30) #[] #[], .func (.func 31) #[] #[]] := PushK h.k hg
theorem PushW.grownTwo {w0 wr w6 : World} {o : Obj} {g g3 r c M : Nat} {l : List PeakV} {q : PeakV} (h : PushW w0 wr g g3 r c M l q) (hg : (wr.drew.alloc o).grownBy w6 (some r)) : (w6.cell? ⟨g, 0, none⟩ = some (.slice (some ⟨r, 0, none⟩) M c) ∧ w6.cell? ⟨g, 1, none⟩ = some (.func (.func 30) #[] #[]) ∧ w6.cell? ⟨g, 2, none⟩ = some (.func (.func 31) #[] #[])) ∧ (w6.cell? ⟨g3, 0, none⟩ = some (.string q.sum) ∧ w6.cell? ⟨g3, 1, none⟩ = some (.int .i64 q.work) ∧ w6.cell? ⟨g3, 2, none⟩ = some (.int .i64 q.count)) := by
  have h1 : CBk w6 g 49 #[.slice (some ⟨r, 0, none⟩) M c, .func (.func 30) #[] #[], .func (.func 31) #[] #[]] := PushK h.k hg
  have h2 : CBk w6 g3 44 #[.string q.sum, .int .i64 q.work, .int .i64 q.count] := (grownOff hg g3 h.o.lt (by have := h.n2; omega)).trans h.o
  exact ⟨⟨h1.cell 0, h1.cell 1, h1.cell 2⟩, h2.cell 0, h2.cell 1, h2.cell 2⟩
/-- Behind the store of another one. -/
theorem PushW.put {w0 wr : World} {g g3 r c M : Nat} {l : List PeakV} {q : PeakV} (h : PushW w0 wr g g3 r c M l q) (x : PeakV) : PushW w0 (((wr.setCell ⟨g3, 0, none⟩ (.string (x).sum)).setCell ⟨g3, 1, none⟩ (.int .i64 (x).work)).setCell ⟨g3, 2, none⟩ (.int .i64 (x).count)) g g3 r c M l x := by
  have h1 := h.n1
  have h2 := h.n2
  have h3 := h.k.lo
  exact ⟨((h.k.store _ (by omega) (by omega) (by omega)).store _ (by omega) (by omega) (by omega)).store _ (by omega) (by omega) (by omega), h.o.set3, h1, h2⟩
/-- Behind the store of a shorter row. -/
theorem PushW.pop {w0 wr : World} {g g3 r c m : Nat} {l : List PeakV} {q : PeakV} (h : PushW w0 wr g g3 r c (m + 1) l q) : PushW w0 (wr.setCell ⟨g, 0, none⟩ (.slice (some ⟨r, 0, none⟩) m c)) g g3 r c m (l.take m) q := by
  have h1 := h.n1
  have h2 := h.n2
  have h3 := h.k.lo
  have h4 := h.k.len
  have hml : m < l.length := by omega
  have e1 : l = l.take m ++ [l.getD m default] := by
    rw [← take_one hml, ← h4, List.take_length]
  have hl : ((l.take m).flatMap pEnc).length = m * 3 := by
    rw [flat_length 3 pEnc pEnc_len, List.length_take]
    omega
  have h5 : wr.ownsRow w0.heap.size 44 3 (.slice (some ⟨r, 0, none⟩) (m + 1) c) (m + 1) ((l.take m).flatMap pEnc ++ pEnc (l.getD m default)) := by
    have := h.k.row
    rw [e1, List.flatMap_append] at this
    have hmin : min m l.length = m := by omega
    simpa [List.take_append_of_le_length, List.length_take, hmin] using this
  have h6 := ownsRow_pop hl h5
  refine ⟨⟨h.k.s.set 0 _, rowKeep h6 h.k.rg, by rw [List.length_take]; omega, h.k.b.setCell (p := ⟨g, 0, none⟩) h3 _, h.k.rg, h3⟩, h.o.other (by omega) _, h1, h2⟩

def PushRes (w0 : World) (g : Nat) (l : List PeakV) (e : Ending) (w' : World) : Prop := e = .returned (.tuple #[]) ∧ Stk w0 w' g l
theorem push_res {w0 w' : World} {g r c M : Nat} {l : List PeakV} (h : StkW w0 w' g r c M l) : PushRes w0 g l (.returned (.tuple #[])) w' := ⟨rfl, r, c, M, h⟩
set_option maxHeartbeats 8000000 in
set_option maxRecDepth 100000 in
theorem implPush (w0 : World) (g : Nat) (ps : List PeakV) (p : PeakV) (w : World) (hs : Stk w0 w g ps) (hm : ps.length ≤ 1048576) (hk : ∀ i, i < ps.length → peakOkB (ps.getD i default) = true) (hr : Room ps ps.length p) (hK : RowG w0 shaK) (hP : TabP w0) :
    Calls Tryz.prog 15 #[.pointer (some ⟨g, 0, none⟩), peakVal p] w fun e w' => PushRes w0 g (addP ps p) e w' := by
  obtain ⟨r, c, n, h0⟩ := hs
  obtain ⟨i0, hi, hz0, hz1, hz2⟩ := info3 infoPeak
  have HN : Hid (n = ps.length) := h0.len.symm
  have HM0 : Hid (n ≤ 1048576) := by show _ ≤ _; have := h0.len; omega
  have HK : Hid (RowG w0 shaK) := hK
  have HP : Hid (TabP w0) := hP
  have HKP : Hid (∀ i, i < ps.length → peakOkB (ps.getD i default) = true) := hk
  have HR0 : Hid (Room ps n p) := by show Room _ _ _; rw [HN.out]; exact hr
  have HAD : Hid (addP (ps.take n) p = addP ps p) := by show _ = _; rw [HN.out, List.take_length]
  generalize addP ps p = A at HAD ⊢
  unfold peakVal
  have PZ : Hid (PushW w0 (w.alloc (.cells #[.string p.sum, .int .i64 p.work, .int .i64 p.count] 44)) g w.heap.size r c n ps p) := by
    have hb : Below w.heap.size w (w.alloc (.cells #[.string p.sum, .int .i64 p.work, .int .i64 p.count] 44)) := (Below.refl _ w).alloc (Nat.le_refl _) _
    exact ⟨h0.call hb, CBk.new w _ _, h0.s.lt, h0.at.1.1⟩
  have P0 : Hid (PushW w0 (w.alloc (.cells #[.string p.sum, .int .i64 p.work, .int .i64 p.count] 44)) g w.heap.size r c n (ps.take n) p) := by
    have e : ps.take n = ps := by rw [HN.out, List.take_length]
    rw [e]
    exact PZ.out
  clear hm hk hr hK hP h0 PZ
  obtain ⟨⟨a0, a1, a2⟩, x0⟩ := P0.out.two
  have hw0 : IntKind.i64.wrap ((n : Int) - 1) = (n : Int) - 1 := by have := HM0.out; rw [IntKind.wrap_i64]; omega
  go_enter Tryz.func15, Tryz.ntmps15
  go_wp2_with fail
  clear a0 a1 a2 x0 hw0
  generalize w.alloc (.cells #[.string p.sum, .int .i64 p.work, .int .i64 p.count] 44) = W0 at P0 ⊢
  obtain ⟨g3, hg3⟩ : ∃ g3, g3 = w.heap.size := ⟨_, rfl⟩
  rw [← hg3] at P0 ⊢
  clear hg3
  clear w
  go_loopw [4] (fun last wr => ∃ (m : Nat) (q : PeakV), m ≤ n ∧ last = .int .i64 ((m : Int) - 1) ∧ Hid (PushW w0 wr g g3 r c m (ps.take m) q) ∧ Hid (addP (ps.take m) q = A) ∧ Hid (Room ps m q)) (fun last _ => (intOf last + 1).toNat)
  case atStart => exact ⟨n, p, Nat.le_refl _, rfl, P0, HAD, HR0⟩
  case round =>
    clear P0 HAD HR0
    obtain ⟨m, q, hmn, rfl, PW, HAD, HRM⟩ := hrel
    cases m with
    | zero =>
      have e0 : ((0 : Nat) : Int) - 1 = -1 := rfl
      rw [e0]
      have hd0 : decide ((0 : Int) ≤ -1) = false := by decide
      have HRV : Hid (A = ps.take 0 ++ [q]) := by show _ = _; rw [← HAD.out, List.take_zero, addP_nil]; rfl
      obtain ⟨M, hM⟩ : ∃ M, M = 0 := ⟨_, rfl⟩
      have HM : Hid (M = 0) := hM
      rw [← hM] at PW HRV
      clear hM hmn HAD HRM
      obtain ⟨⟨a0, a1, a2⟩, d0, d1, d2⟩ := PW.out.two
      go_wp2_with fail
      go_big_region
      have PW1 : Hid (PushW w0 wr.drew g g3 r c M (ps.take M) q) := PW.out.drew
      have HLA : Hid ((ps.take M).length = M) := PW1.out.k.len
      have hx1 : M + 1 ≤ maxLen := by have h1 := HLA.out; rw [List.length_take] at h1; have h2 := HM0.out; have h3 := HN.out; unfold maxLen; omega
      have hx2 : (M + 1) * 32 ≤ 140737488355328 := by have h1 := HLA.out; rw [List.length_take] at h1; have h2 := HM0.out; have h3 := HN.out; omega
      have HRD : Hid (wr.drew.ownsRow w0.heap.size 44 3 (.slice (some ⟨r, 0, none⟩) M c) M ((ps.take M).flatMap pEnc)) := PW1.out.k.row
      have HZ : Hid (w0.heap.size ≤ wr.drew.heap.size ∧ g3 < wr.drew.heap.size ∧ g < g3 ∧ r < g3 ∧ r ≠ g ∧ w0.heap.size ≤ g ∧ w0.heap.size ≤ r) := ⟨PW1.out.k.b.size, PW1.out.o.lt, PW1.out.n1, PW1.out.n2, PW1.out.k.rg, PW1.out.k.lo, PW1.out.k.at.2.2.1⟩
      have PX : Hid (PushW w0 wr.drew.drew g g3 r c M (ps.take M) q) := PW1.out.drew
      have PA : Hid (PushW w0 (wr.drew.drew.alloc (.cells (pEnc q).toArray 44)) g g3 r c M (ps.take M) q) := PX.out.call ((Below.refl _ _).alloc (Nat.le_refl _) _)
      have hu := pEnc_one q
      have HCN : Hid (∀ j u, (pEnc q)[j]? = some u → (wr.drew.drew.alloc (.cells (pEnc q).toArray 44)).cell? ((⟨wr.drew.heap.size, 0, none⟩ : Addr).add j) = some u) := cells_new wr.drew.drew 44 (pEnc q)
      have HFd : Hid ((wr.drew.drew.alloc (.cells (pEnc q).toArray 44)).ownsRow w0.heap.size 44 3 (.slice (some ⟨r, 0, none⟩) M c) M ((ps.take M).flatMap pEnc)) := PA.out.k.row
      have HBZ : Hid (w0.heap.size ≤ (wr.drew.drew.alloc (.cells (pEnc q).toArray 44)).heap.size) := PA.out.k.b.size
      have HGT6 : Hid (∀ w6, (wr.drew.drew.alloc (.cells (pEnc q).toArray 44)).grownBy w6 (some r) → CBk w6 g 49 #[.slice (some ⟨r, 0, none⟩) M c, .func (.func 30) #[] #[], .func (.func 31) #[] #[]]) := fun w6 h => PW1.out.grown h
      have ba0 : (wr.alloc (.cells #[.string q.sum, .int .i64 q.work, .int .i64 q.count] 44)).cell? ⟨g, 0, none⟩ = some (.slice (some ⟨r, 0, none⟩) M c) := (Below.cell ((Below.refl _ wr).alloc (Nat.le_refl _) _) (p := ⟨g, 0, none⟩) PW.out.k.s.lt).trans PW.out.k.outs.1
      clear a0 a1 a2 d0 d1 d2
      obtain ⟨⟨a0, a1, a2⟩, d0, d1, d2⟩ := PX.out.two
      go_wp2_with fail
      go_region_law (refine step_append_any rfl (.tmp 56) (.tmp 58) 23 rfl w0.heap.size 44 i0 (.agg #[.string ⟨#[]⟩, .int .i64 0, .int .i64 0]) 3 32 Tryz.underlying23 hi hz0 hz1 hz2 rfl (by decide) r c M ((ps.take M).flatMap pEnc) (by simp [Act.eval]) HFd.out ⟨wr.drew.heap.size, 0, none⟩ 1 1 (pEnc q) (by simp [Act.eval]) rfl HCN.out hu hx1 hx2 HBZ.out ?_; intro g6 c6 w6 hown6 hgrow6 hat6 hlt6; have C6 : Hid (CBk w6 g 49 #[.slice (some ⟨r, 0, none⟩) M c, .func (.func 30) #[] #[], .func (.func 31) #[] #[]]) := HGT6.out w6 hgrow6; have q6 : w6.cell? ⟨g, 0, none⟩ = some (.slice (some ⟨r, 0, none⟩) M c) := C6.out.cell 0; have z6 : w6.frozen? ⟨g, 0, none⟩ = false := C6.out.frozen 0)
      all_goals
        have K6 : Hid (StkW w0 (w6.setCell ⟨g, 0, none⟩ (.slice (some ⟨g6, 0, none⟩) (M + 1) c6)) g g6 c6 (M + 1) A) := by
          have hz := HZ.out
          have hne : g6 ≠ g := by
            have h1 : r = g6 ∨ g6 = wr.drew.heap.size ∨ wr.drew.heap.size ≤ g6 := by
              rcases hat6.out with h1 | h1
              · exact .inl h1
              · right; right; rw [h1]; simp
            omega
          refine ⟨C6.out.set 0 _, rowKeep ?_ hne, ?_, ?_, hne, hz.2.2.2.2.2.1⟩
          · rw [HRV.out, List.flatMap_append]
            simpa using hown6
          · rw [HRV.out, List.length_append, HLA.out]
            rfl
          · exact (PA.out.k.b.grown hgrow6 PA.out.k.b.size (fun j hj => by cases hj; exact hz.2.2.2.2.2.2)).setCell (p := ⟨g, 0, none⟩) hz.2.2.2.2.2.1 _
        clear PX PA C6 HRD hown6 hgrow6 hat6 hlt6
        go_wp2_with fail
        exact bodyPost_ret (results_none rfl _ _ _) rfl (push_res K6.out)
    | succ m =>
      have e0 : ((m + 1 : Nat) : Int) - 1 = (m : Int) := by omega
      rw [e0]
      have hml : m < ps.length := by rw [← HN.out]; omega
      have hgt : (ps.take (m + 1)).getD m default = ps.getD m default := by simp
      have hlen : m < (ps.take (m + 1)).length := by rw [List.length_take]; omega
      have HKM : Hid (peakOkB (ps.getD m default) = true) := HKP.out m hml
      have HS : Hid ((ps.getD m default).count = q.count → Room ps m (bothP (ps.getD m default) q)) := fun he => HRM.out.step HKP.out hml he
      have HYES : Hid ((ps.getD m default).count = q.count → addP (ps.take m) (bothP (ps.getD m default) q) = A) := fun he => by
        rw [← HAD.out, take_one hml, addP_yes he]
      have HNO : Hid (¬ (ps.getD m default).count = q.count → A = ps.take (m + 1) ++ [q]) := fun he => by
        rw [← HAD.out, take_one hml, addP_no he]
      have HTT : Hid ((ps.take (m + 1)).take m = ps.take m) := by show _ = _; rw [List.take_take]; congr 1; omega
      have HLL : Hid (m < (ps.take (m + 1)).length) := hlen
      have HGT : Hid ((ps.take (m + 1)).getD m default = ps.getD m default) := hgt
      have hd0 : decide ((0 : Int) ≤ (m : Int)) = true := decide_eq_true (by omega)
      have hd1 : (0 : Int) ≤ (m : Int) := by omega
      have lm1 : (m : Int) < ((m + 1 : Nat) : Int) := by omega
      obtain ⟨M, hM⟩ : ∃ M, M = m + 1 := ⟨_, rfl⟩
      have HM : Hid (M = m + 1) := hM
      rw [← hM] at lm1
      rw [← hM] at PW HNO HLL HGT hmn
      have HTT : Hid ((ps.take M).take m = ps.take m) := by rw [hM]; exact HTT.out
      have HMN : Hid (M ≤ n) := hmn
      have hdn : decide (0 ≤ m) = true := decide_eq_true (by omega)
      have ltm : m < M := by omega
      clear hM hlen hgt hml HAD hmn
      generalize ps.getD m default = t at HKM HS HYES HNO HGT
      obtain ⟨⟨a0, a1, a2⟩, ⟨q0, q1, q2⟩, d0, d1, d2⟩ := PW.out.all HLL.out HGT.out
      have hal := fun w' => implPeakAlike t q w'
      unfold peakVal at hal
      have PD : Hid (PushW w0 wr.drew g g3 r c M (ps.take M) q) := PW.out.drew
      by_cases he : t.count = q.count
      · have heb : (t.count == q.count) = true := by simpa using he
        rw [heb] at hal
        have HRM2 : Hid (Room ps m (bothP t q)) := HS.out he
        have HAD2 : Hid (addP (ps.take m) (bothP t q) = A) := HYES.out he
        have HBO : Hid (∀ w', Below w0.heap.size w0 w' → Calls Tryz.prog 31 #[.agg #[.string t.sum, .int .i64 t.work, .int .i64 t.count], .agg #[.string q.sum, .int .i64 q.work, .int .i64 q.count]] w' fun e w'' => e = .returned (.agg #[.string (bothP t q).sum, .int .i64 (bothP t q).work, .int .i64 (bothP t q).count]) ∧ Below w'.heap.size w' w'') := fun w' hb => implPeakBoth t q w' HKM.out HRM.out.ok (HK.out.below hb HK.out.lt) (TabP.below HP.out hb (Nat.le_refl _))
        clear HS HYES HNO he heb HRM HKM
        go_wp2_with fail
        go_region_held3 (fun w' => (w'.cell? ⟨g, 0, none⟩ = some (.slice (some ⟨r, 0, none⟩) M c) ∧ w'.cell? ⟨g, 1, none⟩ = some (.func (.func 30) #[] #[]) ∧ w'.cell? ⟨g, 2, none⟩ = some (.func (.func 31) #[] #[])) ∧ (w'.cell? ⟨r, m * 3, none⟩ = some (.string t.sum) ∧ w'.cell? ⟨r, m * 3 + 1, none⟩ = some (.int .i64 t.work) ∧ w'.cell? ⟨r, m * 3 + 2, none⟩ = some (.int .i64 t.count)) ∧ (w'.cell? ⟨g3, 0, none⟩ = some (.string q.sum) ∧ w'.cell? ⟨g3, 1, none⟩ = some (.int .i64 q.work) ∧ w'.cell? ⟨g3, 2, none⟩ = some (.int .i64 q.count)))
          (first | exact PW.out.all HLL.out HGT.out | exact PD.out.all HLL.out HGT.out | exact P5.out.all HLL.out HGT.out)
          (first | (go_at_call 30; refine (hal _).mono ?_; rintro e w5 ⟨rfl, b5⟩; have P5 : Hid (PushW w0 w5 g g3 r c M (ps.take M) q) := PD.out.call b5))
        clear a0 a1 a2 q0 q1 q2 d0 d1 d2 PW PD b5
        obtain ⟨⟨a0, a1, a2⟩, ⟨q0, q1, q2⟩, d0, d1, d2⟩ := P5.out.all HLL.out HGT.out
        have hlt4 : (m : Int) < (M : Int) := lm1
        go_wp2_with fail
        go_region_with (go_at_call 31; refine (HBO.out _ (P5.out.drew.k.b)).mono ?_; rintro e w6 ⟨rfl, b6⟩; have P6 : Hid (PushW w0 w6 g g3 r c M (ps.take M) q) := P5.out.drew.call b6; obtain ⟨m0, m1, m2⟩ := P6.out.o.cells3; obtain ⟨f0, f1, f2⟩ := P6.out.o.free3)
        all_goals
          have P7 : Hid _ := P6.out.put (bothP t q)
          generalize bothP t q = nq at P7 HRM2 HAD2
          clear a0 a1 a2 q0 q1 q2 d0 d1 d2 m0 m1 m2 f0 f1 f2 b6 P6 P5 HBO
          generalize (((w6.setCell ⟨g3, 0, none⟩ (.string (nq).sum)).setCell ⟨g3, 1, none⟩ (.int .i64 (nq).work)).setCell ⟨g3, 2, none⟩ (.int .i64 (nq).count)) = w7 at P7 ⊢
          clear w6
          obtain ⟨⟨a0, a1, a2⟩, d0, d1, d2⟩ := P7.out.two
          have z0 := P7.out.k.s.frozen 0
          have lmc : (m : Int) ≤ (c : Int) := by have := P7.out.k.at.2.2.2; omega
          have hc0 : ¬ c = 0 := by have := P7.out.k.at.2.2.2; omega
          have P8 : Hid (PushW w0 (w7.setCell ⟨g, 0, none⟩ (.slice (some ⟨r, 0, none⟩) m c)) g g3 r c m (ps.take m) nq) := by
            have h1 := P7.out
            rw [HM.out] at h1
            have h2 := h1.pop
            rwa [show (ps.take (m + 1)).take m = ps.take m from by rw [← HM.out]; exact HTT.out] at h2
          have hw2 : IntKind.i64.wrap ((m : Int) - 1) = (m : Int) - 1 := by have := HMN.out; have := HM0.out; rw [IntKind.wrap_i64]; omega
          clear P7
          go_wp2_with fail
          go_roundw
          case rel => exact ⟨m, nq, by have := HM.out; have := HMN.out; omega, rfl, P8, HAD2, HRM2⟩
          case measure => have := HM.out; simp [intOf] <;> omega
      · have heb : (t.count == q.count) = false := by simpa using he
        rw [heb] at hal
        have HRV : Hid (A = ps.take M ++ [q]) := HNO.out he
        clear HS HYES HNO he heb HRM HKM HTT
        go_wp2_with fail
        go_region_held3 (fun w' => (w'.cell? ⟨g, 0, none⟩ = some (.slice (some ⟨r, 0, none⟩) M c) ∧ w'.cell? ⟨g, 1, none⟩ = some (.func (.func 30) #[] #[]) ∧ w'.cell? ⟨g, 2, none⟩ = some (.func (.func 31) #[] #[])) ∧ (w'.cell? ⟨r, m * 3, none⟩ = some (.string t.sum) ∧ w'.cell? ⟨r, m * 3 + 1, none⟩ = some (.int .i64 t.work) ∧ w'.cell? ⟨r, m * 3 + 2, none⟩ = some (.int .i64 t.count)) ∧ (w'.cell? ⟨g3, 0, none⟩ = some (.string q.sum) ∧ w'.cell? ⟨g3, 1, none⟩ = some (.int .i64 q.work) ∧ w'.cell? ⟨g3, 2, none⟩ = some (.int .i64 q.count)))
          (first | exact PW.out.all HLL.out HGT.out | exact PD.out.all HLL.out HGT.out | exact P5.out.all HLL.out HGT.out)
          (first | (go_at_call 30; refine (hal _).mono ?_; rintro e w5 ⟨rfl, b5⟩; have P5 : Hid (PushW w0 w5 g g3 r c M (ps.take M) q) := PD.out.call b5))
        clear a0 a1 a2 q0 q1 q2 d0 d1 d2 PW PD b5
        have HLA : Hid ((ps.take M).length = M) := P5.out.k.len
        have hx1 : M + 1 ≤ maxLen := by have h1 := HLA.out; rw [List.length_take] at h1; have h2 := HM0.out; have h3 := HN.out; unfold maxLen; omega
        have hx2 : (M + 1) * 32 ≤ 140737488355328 := by have h1 := HLA.out; rw [List.length_take] at h1; have h2 := HM0.out; have h3 := HN.out; omega
        have HRD : Hid (w5.ownsRow w0.heap.size 44 3 (.slice (some ⟨r, 0, none⟩) M c) M ((ps.take M).flatMap pEnc)) := P5.out.k.row
        have HZ : Hid (w0.heap.size ≤ w5.heap.size ∧ g3 < w5.heap.size ∧ g < g3 ∧ r < g3 ∧ r ≠ g ∧ w0.heap.size ≤ g ∧ w0.heap.size ≤ r) := ⟨P5.out.k.b.size, P5.out.o.lt, P5.out.n1, P5.out.n2, P5.out.k.rg, P5.out.k.lo, P5.out.k.at.2.2.1⟩
        have PX : Hid (PushW w0 w5.drew g g3 r c M (ps.take M) q) := P5.out.drew
        have PA : Hid (PushW w0 (w5.drew.alloc (.cells (pEnc q).toArray 44)) g g3 r c M (ps.take M) q) := PX.out.call ((Below.refl _ _).alloc (Nat.le_refl _) _)
        have hu := pEnc_one q
        have HCN : Hid (∀ j u, (pEnc q)[j]? = some u → (w5.drew.alloc (.cells (pEnc q).toArray 44)).cell? ((⟨w5.heap.size, 0, none⟩ : Addr).add j) = some u) := cells_new w5.drew 44 (pEnc q)
        have HFd : Hid ((w5.drew.alloc (.cells (pEnc q).toArray 44)).ownsRow w0.heap.size 44 3 (.slice (some ⟨r, 0, none⟩) M c) M ((ps.take M).flatMap pEnc)) := PA.out.k.row
        have HBZ : Hid (w0.heap.size ≤ (w5.drew.alloc (.cells (pEnc q).toArray 44)).heap.size) := PA.out.k.b.size
        have HGT6 : Hid (∀ w6, (w5.drew.alloc (.cells (pEnc q).toArray 44)).grownBy w6 (some r) → CBk w6 g 49 #[.slice (some ⟨r, 0, none⟩) M c, .func (.func 30) #[] #[], .func (.func 31) #[] #[]]) := fun w6 h => P5.out.grown h
        have ba0 : (w5.alloc (.cells #[.string q.sum, .int .i64 q.work, .int .i64 q.count] 44)).cell? ⟨g, 0, none⟩ = some (.slice (some ⟨r, 0, none⟩) M c) := (Below.cell ((Below.refl _ w5).alloc (Nat.le_refl _) _) (p := ⟨g, 0, none⟩) P5.out.k.s.lt).trans P5.out.k.outs.1
        obtain ⟨⟨a0, a1, a2⟩, d0, d1, d2⟩ := PX.out.two
        go_wp2_with fail
        go_region_law (refine step_append_any rfl (.tmp 56) (.tmp 58) 23 rfl w0.heap.size 44 i0 (.agg #[.string ⟨#[]⟩, .int .i64 0, .int .i64 0]) 3 32 Tryz.underlying23 hi hz0 hz1 hz2 rfl (by decide) r c M ((ps.take M).flatMap pEnc) (by simp [Act.eval]) HFd.out ⟨w5.heap.size, 0, none⟩ 1 1 (pEnc q) (by simp [Act.eval]) rfl HCN.out hu hx1 hx2 HBZ.out ?_; intro g6 c6 w6 hown6 hgrow6 hat6 hlt6; have C6 : Hid (CBk w6 g 49 #[.slice (some ⟨r, 0, none⟩) M c, .func (.func 30) #[] #[], .func (.func 31) #[] #[]]) := HGT6.out w6 hgrow6; have q6 : w6.cell? ⟨g, 0, none⟩ = some (.slice (some ⟨r, 0, none⟩) M c) := C6.out.cell 0; have z6 : w6.frozen? ⟨g, 0, none⟩ = false := C6.out.frozen 0)
        all_goals
          have K6 : Hid (StkW w0 (w6.setCell ⟨g, 0, none⟩ (.slice (some ⟨g6, 0, none⟩) (M + 1) c6)) g g6 c6 (M + 1) A) := by
            have hz := HZ.out
            have hne : g6 ≠ g := by
              have h1 : r = g6 ∨ g6 = w5.heap.size ∨ w5.heap.size ≤ g6 := by
                rcases hat6.out with h1 | h1
                · exact .inl h1
                · right; right; rw [h1]; simp
              omega
            refine ⟨C6.out.set 0 _, rowKeep ?_ hne, ?_, ?_, hne, hz.2.2.2.2.2.1⟩
            · rw [HRV.out, List.flatMap_append]
              simpa using hown6
            · rw [HRV.out, List.length_append, HLA.out]
              rfl
            · exact (PA.out.k.b.grown hgrow6 PA.out.k.b.size (fun j hj => by cases hj; exact hz.2.2.2.2.2.2)).setCell (p := ⟨g, 0, none⟩) hz.2.2.2.2.2.1 _
          clear PX PA C6 HRD hown6 hgrow6 hat6 hlt6
          go_wp2_with fail
          exact bodyPost_ret (results_none rfl _ _ _) rfl (push_res K6.out)

end Go.Proofs.YtplldapkcljllaaGreatDoor



set_option linter.unusedVariables false
namespace Go.Proofs.YtplldapkcljllaaGreatDoor
open Go.RowKit Go.Deep

set_option maxHeartbeats 1000000 in
set_option maxRecDepth 100000 in
theorem implCloneP (s : ByteArray) (w : World) (hs : s.size ≤ 281474976710656) :
    Calls Tryz.prog 29 #[.string s] w fun e w' => e = .returned (.string s) ∧ Below w.heap.size w w' := by
  go_enter Tryz.func29, Tryz.ntmps29
  go_wp2_with fail
  refine (Tryz.stringslite_Clone s w hs).mono ?_
  rintro e w1 ⟨rfl, b1⟩
  go_wp2_with fail
  go_ret
  exact ⟨rfl, b1⟩
theorem makeP0 (n : Nat) (hn : n ≤ 1048577) (w : World) : (Instr.makeSlice 23 (.int .i64 0) (.int .i64 (n : Int))).run Tryz.prog w = .ok (.slice (some ⟨w.heap.size, 0, none⟩) 0 n) (w.alloc (.cells (madeCells #[.string ⟨#[]⟩, .int .i64 0, .int .i64 0] (n * 3)) 44)) := by
  obtain ⟨i, hi, hz, hs, hb⟩ := info3 infoPeak
  have hb' : (i.bytes : Int) * (n : Int) ≤ 281474976710656 := by rw [hb]; omega
  have hr := run_make (P := Tryz.prog) w 23 44 i _ Tryz.underlying23 hi hz .i64 .i64 0 (n : Int) (by omega) (by omega) hb' (by omega)
  simp only [Int.toNat_natCast, hs, Value.cells] at hr
  exact hr
theorem StkW.lower {w0 w1 wr : World} {g r c M : Nat} {l : List PeakV} (h : StkW w1 wr g r c M l) (hb : Below w0.heap.size w0 w1) : StkW w0 wr g r c M l := by
  have h1 := (FRow.mono h.frow hb.size).2
  rw [h.len] at h1
  exact ⟨h.s, h1, h.len, hb.trans (h.b.mono hb.size), h.rg, Nat.le_trans hb.size h.lo⟩
theorem Stk.lower {w0 w1 wr : World} {g : Nat} {l : List PeakV} (h : Stk w1 wr g l) (hb : Below w0.heap.size w0 w1) : Stk w0 wr g l := by
  obtain ⟨r, c, M, h⟩ := h
  exact ⟨r, c, M, h.lower hb⟩
theorem Stk.call {w0 wr w' : World} {g : Nat} {l : List PeakV} (h : Stk w0 wr g l) (hb : Below wr.heap.size wr w') : Stk w0 w' g l := by
  obtain ⟨r, c, M, h⟩ := h
  exact ⟨r, c, M, h.call hb⟩
theorem Stk.b {w0 wr : World} {g : Nat} {l : List PeakV} (h : Stk w0 wr g l) : Below w0.heap.size w0 wr := by
  obtain ⟨r, c, M, h⟩ := h
  exact h.b
/-- The stack is new. -/
def StackRes (w : World) (l : List PeakV) (e : Ending) (w' : World) : Prop := ∃ g, e = .returned (.pointer (some ⟨g, 0, none⟩)) ∧ Stk w w' g l
theorem stack_new {w w1 : World} {v : Value} {l : List PeakV} (hR : PRow w.heap.size v l w1) (hb : Below w.heap.size w w1) : StackRes w l (.returned (.pointer (some ⟨w1.heap.size, 0, none⟩))) (w1.alloc (.cells #[v, .func (.func 30) #[] #[], .func (.func 31) #[] #[]] 49)) := by
  obtain ⟨g, c, cur, rfl, h1, h2, _⟩ := hR.block
  have h5 := (FRow.below hR ((Below.refl _ w1).alloc (Nat.le_refl _) (.cells #[.slice (some ⟨g, 0, none⟩) l.length c, .func (.func 30) #[] #[], .func (.func 31) #[] #[]] 49))).2
  exact ⟨_, rfl, g, c, l.length, CBk.new w1 _ _, h5, rfl, hb.alloc hb.size _, by omega, hb.size⟩

set_option maxHeartbeats 4000000 in
set_option maxRecDepth 100000 in
theorem implPeakStackNil (w : World) :
    Calls Tryz.prog 14 #[.slice none 0 0] w fun e w' => StackRes w [] e w' := by
  have hmk : (Instr.makeSlice 23 (.int .i64 0) (.int .i64 1)).run Tryz.prog w = _ := makeP0 1 (by omega) w
  have R0 : Hid (PRow w.heap.size (.slice (some ⟨w.heap.size, 0, none⟩) 0 1) [] (w.alloc (.cells (madeCells #[.string ⟨#[]⟩, .int .i64 0, .int .i64 0] (1 * 3)) 44))) :=
    ⟨⟨_, _, rfl⟩, by simp, .inr ⟨w.heap.size, 1, _, rfl, Nat.le_refl _, heap_alloc_new w _, Nat.zero_le _, by unfold maxLen; omega, by simp [madeCells], by simp⟩⟩
  have B0 : Hid (Below w.heap.size w (w.alloc (.cells (madeCells #[.string ⟨#[]⟩, .int .i64 0, .int .i64 0] (1 * 3)) 44))) := (Below.refl _ w).alloc (Nat.le_refl _) _
  generalize w.alloc (.cells (madeCells #[.string ⟨#[]⟩, .int .i64 0, .int .i64 0] (1 * 3)) 44) = wm at hmk R0 B0
  have HQ : Hid (∀ (w1 : World) (v : Value), PRow w.heap.size v [] w1 → Below w.heap.size w w1 → StackRes w [] (.returned (.pointer (some ⟨w1.heap.size, 0, none⟩))) (w1.alloc (.cells #[v, .func (.func 30) #[] #[], .func (.func 31) #[] #[]] 49))) := fun w1 v h1 h2 => stack_new h1 h2
  generalize StackRes w [] = Q at HQ ⊢
  go_enter Tryz.func14, Tryz.ntmps14
  go_wp2_with fail
  clear hmk
  go_loopw [3, 12] (fun v i wr => v = .slice (some ⟨w.heap.size, 0, none⟩) 0 1 ∧ i = .int .i64 0 ∧ Hid (wr = wm)) (fun _ _ _ => 0)
  case atStart => exact ⟨rfl, rfl, rfl⟩
  case round =>
    obtain ⟨rfl, rfl, HW⟩ := hrel
    go_wp2_with fail
    rw [HW.out]
    exact HQ.out _ _ R0.out B0.out

set_option maxHeartbeats 8000000 in
set_option maxRecDepth 100000 in
theorem implPeakStack (g n cap : Nat) (ps : List PeakV) (w : World) (h : AtP w g ps) (hn : n = ps.length) (hm : n ≤ 1048576) (hz : ∀ i, i < ps.length → (ps.getD i default).sum.size ≤ 281474976710656) :
    Calls Tryz.prog 14 #[.slice (some ⟨g, 0, none⟩) n cap] w fun e w' => StackRes w ps e w' := by
  obtain ⟨i0, hi, hz0, hz1, hz2⟩ := info3 infoPeak
  have hmk : (Instr.makeSlice 23 (.int .i64 0) (.int .i64 ((n : Int) + 1))).run Tryz.prog w = _ := makeP0 (n + 1) (by omega) w
  have HA : Hid (AtP w g ps) := h
  have HN : Hid (n = ps.length) := hn
  have HSZ : Hid (∀ i, i < ps.length → (ps.getD i default).sum.size ≤ 281474976710656) := hz
  have R0 : Hid (PRow w.heap.size (.slice (some ⟨w.heap.size, 0, none⟩) 0 (n + 1)) [] (w.alloc (.cells (madeCells #[.string ⟨#[]⟩, .int .i64 0, .int .i64 0] ((n + 1) * 3)) 44))) :=
    ⟨⟨_, _, rfl⟩, by simp, .inr ⟨w.heap.size, n + 1, _, rfl, Nat.le_refl _, heap_alloc_new w _, Nat.zero_le _, by unfold maxLen; omega, by simp [madeCells], by simp⟩⟩
  have B0 : Hid (Below w.heap.size w (w.alloc (.cells (madeCells #[.string ⟨#[]⟩, .int .i64 0, .int .i64 0] ((n + 1) * 3)) 44))) := (Below.refl _ w).alloc (Nat.le_refl _) _
  generalize (w.alloc (.cells (madeCells #[.string ⟨#[]⟩, .int .i64 0, .int .i64 0] ((n + 1) * 3)) 44)) = wm at hmk R0 B0
  have HQ : Hid (∀ (w1 : World) (v : Value), PRow w.heap.size v (ps.take n) w1 → Below w.heap.size w w1 → StackRes w ps (.returned (.pointer (some ⟨w1.heap.size, 0, none⟩))) (w1.alloc (.cells #[v, .func (.func 30) #[] #[], .func (.func 31) #[] #[]] 49))) := fun w1 v h1 h2 => by
    rw [hn, List.take_length] at h1
    exact stack_new h1 h2
  generalize StackRes w ps = Q at HQ ⊢
  clear h hn hz
  have hw1 : IntKind.i64.wrap ((n : Int) + 1) = (n : Int) + 1 := by rw [IntKind.wrap_i64]; omega
  go_enter Tryz.func14, Tryz.ntmps14
  go_wp2_with fail
  clear hmk hw1
  go_loopw [3, 12] (fun v i wr => ∃ (k g2 c2 : Nat), k ≤ n ∧ i = .int .i64 (k : Int) ∧ v = .slice (some ⟨g2, 0, none⟩) k c2 ∧ Hid (PRow w.heap.size (.slice (some ⟨g2, 0, none⟩) k c2) (ps.take k) wr) ∧ Hid (Below w.heap.size w wr)) (fun _ i _ => n - (intOf i).toNat)
  case atStart => exact ⟨0, w.heap.size, n + 1, by omega, rfl, rfl, R0, B0⟩
  case round =>
    clear R0 B0
    obtain ⟨k, g2, c2, hk, rfl, rfl, R, HB⟩ := hrel
    by_cases hlt : k < n
    · have hkl : k < ps.length := by rw [← HN.out]; exact hlt
      have HAr := HA.out.below HB.out HA.out.1
      have q0 := AtP.c0 HAr k hkl
      have q1 := AtP.c1 HAr k hkl
      have q2 := AtP.c2 HAr k hkl
      have lk : (k : Int) < (n : Int) := by omega
      have lk0 : (0 : Int) ≤ (k : Int) := by omega
      have wk : IntKind.i64.wrap ((k : Int) + 1) = (k : Int) + 1 := by rw [IntKind.wrap_i64]; omega
      have HK1 : Hid (k + 1 ≤ n) := hlt
      have HT : Hid (ps.take (k + 1) = ps.take k ++ [ps.getD k default]) := take_one hkl
      have hcl := fun w' => implCloneP (ps.getD k default).sum w' (HSZ.out k hkl)
      have HLT : Hid ((ps.take k).length = k) := by show _ = _; rw [List.length_take]; omega
      clear hkl HAr
      generalize ps.getD k default = t at q0 q1 q2 hcl HT
      have HG2 : Hid (g2 < wr.heap.size ∧ k ≤ c2) := ⟨(FRow.at pEnc_len R.out).1.1, (FRow.at pEnc_len R.out).2.2.2⟩
      have L0 : Hid (Below wr.heap.size wr (wr.alloc (.cells #[.string t.sum, .int .i64 t.work, .int .i64 t.count] 44))) := (Below.refl _ wr).alloc (Nat.le_refl _) _
      have T0 : Hid (CBk (wr.alloc (.cells #[.string t.sum, .int .i64 t.work, .int .i64 t.count] 44)) wr.heap.size 44 #[.string t.sum, .int .i64 t.work, .int .i64 t.count]) := CBk.new wr _ _
      go_wp2_with fail
      refine (hcl _).mono ?_
      rintro e w2 ⟨rfl, b2⟩
      obtain ⟨gs, hgs⟩ : ∃ gs, gs = wr.heap.size := ⟨_, rfl⟩
      have T2 : Hid (CBk w2 gs 44 #[.string t.sum, .int .i64 t.work, .int .i64 t.count]) := by rw [hgs]; exact T0.out.call b2
      have L2 : Hid (Below wr.heap.size wr w2) := L0.out.trans (b2.mono L0.out.size)
      have B2 : Hid (Below w.heap.size w w2) := HB.out.trans (L2.out.mono HB.out.size)
      have HG : Hid (gs = wr.heap.size) := hgs
      rw [← hgs]
      clear hgs L0 T0 b2 hcl q0 q1 q2
      obtain ⟨d0, d1, d2⟩ := T2.out.cells3
      obtain ⟨f0, f1, f2⟩ := T2.out.free3
      have B3 : Hid (Below w.heap.size w (w2.setCell ⟨gs, 0, none⟩ (.string t.sum))) := B2.out.setCell (p := ⟨gs, 0, none⟩) (by show w.heap.size ≤ gs; rw [HG.out]; exact HB.out.size) _
      have T3 : Hid (CBk (w2.setCell ⟨gs, 0, none⟩ (.string t.sum)) gs 44 #[.string t.sum, .int .i64 t.work, .int .i64 t.count]) := T2.out.set 0 _
      have HOW : Hid ((w2.setCell ⟨gs, 0, none⟩ (.string t.sum)).ownsRow w.heap.size 44 3 (.slice (some ⟨g2, 0, none⟩) k c2) k ((ps.take k).flatMap pEnc)) := by
        have h1 := (FRow.below R.out L2.out).2
        rw [HLT.out] at h1
        exact rowKeep h1 (by rw [HG.out]; have := HG2.out.1; omega)
      have hx1 : k + 1 ≤ maxLen := by unfold maxLen; omega
      have hx2 : (k + 1) * 32 ≤ 140737488355328 := by omega
      have hu := pEnc_one t
      have hsz := B3.out.size
      clear R L2 B2 HB
      clear T2
      go_wp2_with (at_builtin; refine wp_appN rfl _ _ 23 rfl w.heap.size 44 i0 (.agg #[.string ⟨#[]⟩, .int .i64 0, .int .i64 0]) 3 32 1 Tryz.underlying23 hi hz0 hz1 hz2 rfl (by decide) (by decide) _ _ _ rfl HOW.out (pEnc t) (by first | rfl | simp [Act.eval]) rfl hu hx1 hx2 hsz ?_; intro g4 c4 w4 hown4 hb4 hkeep4)
      have R4 : Hid (PRow w.heap.size (.slice (some ⟨g4, 0, none⟩) (k + 1) c4) (ps.take (k + 1)) w4) := by
        rw [HT.out]
        refine FRow.of ?_ ?_
        · rw [List.flatMap_append]
          simpa using hown4
        · rw [List.length_append, HLT.out]; rfl
      have B4 : Hid (Below w.heap.size w w4) := B3.out.trans hb4
      clear hown4 hb4 hkeep4 B3 T3 HOW d0 d1 d2 f0 f1 f2
      go_wp2_with fail
      go_roundw
      case rel => exact ⟨k + 1, g4, c4, HK1.out, by go_num, rfl, R4, B4⟩
      case measure => have := HK1.out; simp [intOf]; omega
    · obtain rfl : k = n := by omega
      go_wp2_with fail
      exact HQ.out _ _ R.out HB.out

end Go.Proofs.YtplldapkcljllaaGreatDoor

set_option linter.unusedVariables false
namespace Go.Proofs.YtplldapkcljllaaGreatDoor
open Go.RowKit Go.Deep

set_option maxHeartbeats 2000000 in
set_option maxRecDepth 100000 in
theorem specL5Of (g n cap : Nat) (l : List HeadV) (w : World) (hA : AtHead w g l) (hn : n = l.length) (hm : n ≤ 20) (hok : ∀ i, i < l.length → headOkB (l.getD i default) = true) :
    Calls Tryz.prog 44 #[.slice (some ⟨g, 0, none⟩) n cap] w fun e w' => ∃ v, e = .returned v ∧ PRow w.heap.size v (ofP l n) w' ∧ Below w.heap.size w w' := by
  have HA : Hid (AtHead w g l) := hA
  have HN : Hid (n = l.length) := hn
  have HM : Hid (n ≤ 20) := hm
  have HOK : Hid (∀ i, i < l.length → headOkB (l.getD i default) = true) := hok
  have R0 : Hid (PRow w.heap.size (.slice (some ⟨w.heap.size, 0, none⟩) 0 0) [] (w.alloc (.cells #[] 44))) := frow_new pEnc 44 3 w
  have B0 : Hid (Below w.heap.size w (w.alloc (.cells #[] 44))) := (Below.refl _ w).alloc (Nat.le_refl _) _
  clear hA hn hm hok
  go_enter Tryz.func44, Tryz.ntmps44
  go_wp2_with fail
  generalize w.alloc (.cells #[] 44) = W0 at R0 B0 ⊢
  go_loopw [3, 4] (fun out i wr => ∃ (k : Nat), k ≤ n ∧ i = .int .i64 (k : Int) ∧ Hid (PRow w.heap.size out (ofP l k) wr) ∧ Hid (Below w.heap.size w wr)) (fun _ i _ => n - (intOf i).toNat)
  case atStart => exact ⟨0, by omega, rfl, R0, B0⟩
  case round =>
    clear R0 B0
    obtain ⟨k, hk, rfl, R, HB⟩ := hrel
    by_cases hlt : k < n
    · have hkl : k < l.length := by rw [← HN.out]; exact hlt
      have HAr := HA.out.below HB.out HA.out.1
      have c0 := AtHead.c0 HAr k hkl
      have c1 := AtHead.c1 HAr k hkl
      have c2 := AtHead.c2 HAr k hkl
      have c3 := AtHead.c3 HAr k hkl
      have c4 := AtHead.c4 HAr k hkl
      have lk : (k : Int) < (n : Int) := by omega
      have lk0 : (0 : Int) ≤ (k : Int) := by omega
      have wk : IntKind.i64.wrap ((k : Int) + 1) = (k : Int) + 1 := by have := HM.out; rw [IntKind.wrap_i64]; omega
      have HK1 : Hid (k + 1 ≤ n) := hlt
      have hkk := HOK.out k hkl
      obtain ⟨ho1, ho2, ho3⟩ := ofP_ok HOK.out (by rw [← HN.out]; exact HM.out) k (by omega)
      have hlf := fun w' => specL5Leaf (l.getD k default) w' hkk
      have HLK : Hid (peakOkB (leafP (l.getD k default)) = true) := fine_ok (fine_leaf hkk) (by show (1 : Int) ≤ 20; decide)
      have HL1 : Hid ((leafP (l.getD k default)).count = 1) := rfl
      have HS : Hid (ofP l (k + 1) = addP (ofP l k) (leafP (l.getD k default))) := rfl
      obtain ⟨A2, hA2⟩ : ∃ A2, A2 = ofP l (k + 1) := ⟨_, rfl⟩
      have HE : Hid (A2 = ofP l (k + 1)) := hA2
      rw [← hA2] at HS
      clear hA2
      have HPK : Hid (∀ i, i < (ofP l k).length → peakOkB ((ofP l k).getD i default) = true) := fun i hi => getD_all (C := fun q => peakOkB q = true) ho1 i hi
      have HCN : Hid (cntTo (ofP l k) (ofP l k).length = (k : Int)) := ho2
      have HLL : Hid ((ofP l k).length ≤ k) := ho3
      generalize leafP (l.getD k default) = p at hlf HLK HL1 HS
      generalize ofP l k = A at R HPK HCN HLL HS
      generalize l.getD k default = h at c0 c1 c2 c3 c4 hlf hkk
      obtain ⟨⟨g4, cc, rfl⟩, -⟩ := id R.out
      unfold headVal at hlf
      clear HAr hkk ho1 ho2 ho3
      go_wp2_with fail
      refine (hlf _).mono ?_
      rintro e w3 ⟨rfl, b3⟩
      have B3 : Hid (Below w.heap.size w w3) := HB.out.trans (b3.mono HB.out.size)
      have R3 : Hid (PRow w.heap.size (.slice (some ⟨g4, 0, none⟩) A.length cc) A w3) := R.out.below b3
      have had := specL5Add g4 A.length cc A p w3 (FRow.at pEnc_len R3.out).1 rfl (by have := HLL.out; have := HM.out; omega) HPK.out ⟨HLK.out, by rw [HL1.out, HCN.out]; have := HM.out; omega⟩
      unfold peakVal at had
      unfold peakVal
      rw [← HS.out] at had
      clear hlf b3 R HB c0 c1 c2 c3 c4 HLK HL1 HPK HCN HS
      go_wp2_with fail
      refine had.mono ?_
      rintro e w4 ⟨v, rfl, R4, b4⟩
      have B4 : Hid (Below w.heap.size w w4) := B3.out.trans (b4.mono B3.out.size)
      have R5 : Hid (PRow w.heap.size v A2 w4) := R4.mono B3.out.size
      clear had b4 B3 R3 R4
      go_wp2_with fail
      go_roundw
      case rel => exact ⟨k + 1, HK1.out, by go_num, by rw [← HE.out]; exact R5, B4⟩
      case measure => have := HK1.out; simp [intOf]; omega
    · obtain rfl : k = n := by omega
      go_wp2_with fail
      go_ret
      exact ⟨_, rfl, R.out, HB.out⟩

end Go.Proofs.YtplldapkcljllaaGreatDoor

set_option linter.unusedVariables false
namespace Go.Proofs.YtplldapkcljllaaGreatDoor
open Go.RowKit Go.Deep

theorem room_leaf {ps : List PeakV} {h : HeadV} (hk : headOkB h = true) (hc : cntTo ps ps.length ≤ 20) : Room ps ps.length (leafP h) := by
  refine ⟨fine_ok (fine_leaf hk) (by show (1 : Int) ≤ 20; decide), ?_⟩
  show (1 : Int) + _ ≤ 21
  omega
set_option linter.unusedSimpArgs false in
set_option maxHeartbeats 8000000 in
set_option maxRecDepth 100000 in
theorem implRangeAdd (g n cap : Nat) (ps : List PeakV) (h : HeadV) (w : World) (hA : AtP w g ps) (hn : n = ps.length) (hm : n ≤ 1048576) (hK : RowG w shaK) (hP : TabP w) :
    Calls Tryz.prog 5 #[.slice (some ⟨g, 0, none⟩) n cap, headVal h] w fun e w' => AddPost w.heap.size ps h e w' ∧ Below w.heap.size w w' := by
  have HA : Hid (AtP w g ps) := hA
  have HN : Hid (n = ps.length) := hn
  have HM : Hid (n ≤ 1048576) := hm
  have HK : Hid (RowG w shaK) := hK
  have HP : Hid (TabP w) := hP
  have hok := fun (w' : World) (hb : Below w.heap.size w w') => implRangeOk g n cap ps w' (HA.out.below hb HA.out.1) HN.out (by omega)
  have hho := fun w' => implHeadOk h w'
  have HST : Hid (rangeOkB ps = true → ∀ (w' : World), Below w.heap.size w w' → Calls Tryz.prog 14 #[.slice (some ⟨g, 0, none⟩) n cap] w' fun e w'' => StackRes w' ps e w'') := fun hr w' hb => implPeakStack g n cap ps w' (HA.out.below hb HA.out.1) HN.out HM.out (fun i hi => by rw [sum_size (peakOk_sum (peaks_ok hr i hi))]; decide)
  have HPU : Hid (rangeOkB ps = true → headOkB h = true → ∀ (w' : World) (g4 : Nat), Stk w w' g4 ps → Calls Tryz.prog 15 #[.pointer (some ⟨g4, 0, none⟩), peakVal (leafP h)] w' fun e w'' => PushRes w g4 (addP ps (leafP h)) e w'') := fun hr hk w' g4 hs => implPush w g4 ps (leafP h) w' hs (by have := HN.out; omega) (fun i hi => peaks_ok hr i hi) (room_leaf hk (range_cnt hr)) HK.out HP.out
  have HPH : Hid (headOkB h = true → ∀ (w' : World), Below w.heap.size w w' → Calls Tryz.prog 16 #[headVal h] w' fun e w'' => e = .returned (peakVal (leafP h)) ∧ Below w'.heap.size w' w'') := fun hk w' hb => implPeakHead h w' hk (HK.out.below hb HK.out.lt) (TabP.below HP.out hb (Nat.le_refl _))
  have HLN : Hid (rangeOkB ps = true → (addP ps (leafP h)).length ≤ 1048576) := fun hr => by
    have h1 := addP_len ps (leafP h)
    have h2 := range_len hr
    omega
  have HBAD : Hid (∀ (e : Ending) (w' : World), (rangeOkB ps && headOkB h) = false → e = .returned (.tuple #[.slice none 0 0, .bool false]) → AddPost w.heap.size ps h e w') := fun e w' h1 h2 => .inl ⟨h1, h2⟩
  have HGOOD : Hid (∀ (e : Ending) (w' : World) (v : Value), rangeOkB ps = true → headOkB h = true → e = .returned (.tuple #[v, .bool (rangeOkB (addP ps (leafP h)))]) → PRow w.heap.size v (if rangeOkB (addP ps (leafP h)) then addP ps (leafP h) else ps) w' → AddPost w.heap.size ps h e w') := fun e w' v h1 h2 h3 h4 => .inr ⟨by rw [h1, h2]; rfl, v, h3, h4⟩
  generalize AddPost w.heap.size ps h = Q at HBAD HGOOD ⊢
  generalize leafP h = p at HPU HPH HLN HGOOD
  generalize addP ps p = A at HPU HLN HGOOD
  clear hA hn hm hK hP
  unfold headVal at hho HPH ⊢
  unfold peakVal at HPU HPH
  have C0 : Hid (CBk (w.alloc (.cells #[.string h.prev, .string h.root, .int .i64 h.time, .int .i64 h.diff, .int .i64 h.nonce] 25)) w.heap.size 25 #[.string h.prev, .string h.root, .int .i64 h.time, .int .i64 h.diff, .int .i64 h.nonce]) := CBk.new w _ _
  have B0 : Hid (Below w.heap.size w (w.alloc (.cells #[.string h.prev, .string h.root, .int .i64 h.time, .int .i64 h.diff, .int .i64 h.nonce] 25))) := (Below.refl _ w).alloc (Nat.le_refl _) _
  go_enter Tryz.func5, Tryz.ntmps5
  have h0 := hok _ B0.out
  clear hok
  go_wp2_with fail
  generalize w.alloc (.cells #[.string h.prev, .string h.root, .int .i64 h.time, .int .i64 h.diff, .int .i64 h.nonce] 25) = W0 at C0 B0 h0 ⊢
  obtain ⟨g0, hg0⟩ : ∃ g0, g0 = w.heap.size := ⟨_, rfl⟩
  rw [← hg0] at C0 ⊢
  clear hg0
  cases hrk : rangeOkB ps with
  | false =>
    have HV : Hid (∀ e w', e = .returned (.tuple #[.slice none 0 0, .bool false]) → Q e w') := fun e w' he => HBAD.out e w' (by rw [hrk]; rfl) he
    rw [hrk] at h0
    clear hho HBAD HGOOD hrk HST HPU HPH HLN
    refine Calls.mono h0 ?_
    rintro e w1 ⟨rfl, b1⟩
    go_wp2_with fail
    go_ret2
    have h9 := HV.out
    exact ⟨h9 _ _ rfl, B0.out.trans (b1.mono B0.out.size)⟩
  | true =>
  have HRK : Hid (rangeOkB ps = true) := hrk
  rw [hrk] at h0
  clear hrk
  refine Calls.mono h0 ?_
  rintro e w1 ⟨rfl, b1⟩
  have C1 : Hid (CBk w1 g0 25 #[.string h.prev, .string h.root, .int .i64 h.time, .int .i64 h.diff, .int .i64 h.nonce]) := C0.out.call b1
  have B1 : Hid (Below w.heap.size w w1) := B0.out.trans (b1.mono B0.out.size)
  clear C0 B0 b1 h0
  obtain ⟨e0, e1, e2, e3, e4⟩ := C1.out.cells5
  cases hhk : headOkB h with
  | false =>
    have HV : Hid (∀ e w', e = .returned (.tuple #[.slice none 0 0, .bool false]) → Q e w') := fun e w' he => HBAD.out e w' (by rw [hhk, HRK.out]; rfl) he
    rw [hhk] at hho
    clear HBAD HGOOD hhk HST HPU HPH HLN
    go_wp2_with fail
    refine (hho _).mono ?_
    rintro e w2 ⟨rfl, b2⟩
    go_wp2_with fail
    go_ret2
    have h9 := HV.out
    exact ⟨h9 _ _ rfl, B1.out.trans (b2.mono B1.out.size)⟩
  | true =>
  have HHK : Hid (headOkB h = true) := hhk
  rw [hhk] at hho
  clear hhk HBAD
  go_wp2_with fail
  refine (hho _).mono ?_
  rintro e w2 ⟨rfl, b2⟩
  have C2 : Hid (CBk w2 g0 25 #[.string h.prev, .string h.root, .int .i64 h.time, .int .i64 h.diff, .int .i64 h.nonce]) := C1.out.call b2
  have B2 : Hid (Below w.heap.size w w2) := B1.out.trans (b2.mono B1.out.size)
  have hst := HST.out HRK.out _ B2.out
  clear C1 B1 b2 hho e0 e1 e2 e3 e4
  go_wp2_with fail
  refine Calls.mono hst ?_
  rintro e w3 ⟨g4, rfl, hs3⟩
  have S3 : Hid (Stk w w3 g4 ps) := hs3.lower B2.out
  have C3 : Hid (CBk w3 g0 25 #[.string h.prev, .string h.root, .int .i64 h.time, .int .i64 h.diff, .int .i64 h.nonce]) := C2.out.call hs3.b
  clear C2 B2 hst hs3
  obtain ⟨e0, e1, e2, e3, e4⟩ := C3.out.cells5
  have hph := HPH.out HHK.out _ S3.out.b
  clear HPH
  go_wp2_with fail
  refine hph.mono ?_
  rintro e w4 ⟨rfl, b4⟩
  have S4 : Hid (Stk w w4 g4 ps) := S3.out.call b4
  have hpu := HPU.out HRK.out HHK.out _ _ S4.out
  clear HPU S3 C3 b4 hph e0 e1 e2 e3 e4
  go_wp2_with fail
  refine Calls.mono hpu ?_
  rintro e w5 ⟨rfl, r, c, M, hs5⟩
  have S5 : Hid (StkW w w5 g4 r c M A) := hs5
  have HM5 : Hid (M = A.length) := hs5.len.symm
  clear hpu hs5 S4
  obtain ⟨a0, a1, a2⟩ := S5.out.outs
  have hok5 := implRangeOk r M c A w5 S5.out.at.1 S5.out.at.2.1 (by rw [HM5.out]; have := HLN.out HRK.out; omega)
  go_wp2_with fail
  cases hra : rangeOkB A with
  | true =>
    have HV : Hid (∀ e w' v, e = .returned (.tuple #[v, .bool true]) → PRow w.heap.size v A w' → Q e w') := fun e w' v he hR => HGOOD.out e w' v HRK.out HHK.out (by rw [hra]; exact he) (by rw [hra]; exact hR)
    rw [hra] at hok5
    clear hra HGOOD HST HLN
    refine hok5.mono ?_
    rintro e w6 ⟨rfl, b6⟩
    have S6 : Hid (StkW w w6 g4 r c M A) := S5.out.call b6
    clear S5 b6 hok5 a0 a1 a2
    obtain ⟨a0, a1, a2⟩ := S6.out.outs
    go_wp2_with fail
    go_ret2
    have h9 := HV.out
    exact ⟨h9 _ _ _ rfl S6.out.frow, S6.out.b⟩
  | false =>
    have HV : Hid (∀ e w' v, e = .returned (.tuple #[v, .bool false]) → PRow w.heap.size v ps w' → Q e w') := fun e w' v he hR => HGOOD.out e w' v HRK.out HHK.out (by rw [hra]; exact he) (by rw [hra]; exact hR)
    rw [hra] at hok5
    clear hra HGOOD HLN
    refine hok5.mono ?_
    rintro e w6 ⟨rfl, b6⟩
    have B6 : Hid (Below w.heap.size w w6) := S5.out.b.trans (b6.mono S5.out.b.size)
    have hst := HST.out HRK.out _ B6.out
    clear S5 b6 hok5 a0 a1 a2 HST
    go_wp2_with fail
    refine Calls.mono hst ?_
    rintro e w7 ⟨g8, rfl, r8, c8, M8, hs7⟩
    have S7 : Hid (StkW w w7 g8 r8 c8 M8 ps) := hs7.lower B6.out
    clear hst hs7 B6
    obtain ⟨a0, a1, a2⟩ := S7.out.outs
    go_wp2_with fail
    go_ret2
    have h9 := HV.out
    exact ⟨h9 _ _ _ rfl S7.out.frow, S7.out.b⟩

end Go.Proofs.YtplldapkcljllaaGreatDoor

set_option linter.unusedVariables false
namespace Go.Proofs.YtplldapkcljllaaGreatDoor
open Go.RowKit

def mkD : Nat → Nat → List UInt8 → List UInt8
  | 0, _, out => out
  | f + 1, k, out => if k = 0 then out else mkD f (k / 10) (UInt8.ofNat (48 + k % 10) :: out)
/-- The text of a number's mark. -/
def mkS (k : Nat) : ByteArray := if k = 0 then ⟨#[109, 48]⟩ else ⟨(109 :: mkD 19 k []).toArray⟩
theorem mkD_zero (f : Nat) (out : List UInt8) : mkD f 0 out = out := by cases f <;> simp [mkD]

end Go.Proofs.YtplldapkcljllaaGreatDoor

set_option linter.unusedVariables false
namespace Go.Proofs.YtplldapkcljllaaGreatDoor
open Go.RowKit Go.Deep

/-- A block of peaks that may be written. -/
def PBk (w : World) (g n : Nat) : Prop := ∃ cur : Array Value, w.heap[g]? = some (.cells cur 44 (0, 0)) ∧ n * 3 ≤ cur.size
theorem PBk.lt {w : World} {g n : Nat} (h : PBk w g n) : g < w.heap.size := by
  obtain ⟨cur, h1, _⟩ := h
  rcases Nat.lt_or_ge g w.heap.size with h' | h'
  · exact h'
  · simp [Array.getElem?_eq_none h'] at h1
theorem PBk.keep {w w' : World} {g n : Nat} (h : PBk w g n) (hk : w'.heap[g]? = w.heap[g]?) : PBk w' g n := by
  obtain ⟨cur, h1, h2⟩ := h
  exact ⟨cur, hk.trans h1, h2⟩
theorem PBk.below {w w' : World} {g n B : Nat} (h : PBk w g n) (hb : Below B w w') (hg : g < B) : PBk w' g n := h.keep (hb.block g hg)
theorem PBk.cell {w : World} {g n : Nat} (h : PBk w g n) (i : Nat) (hi : i < n * 3) : (∃ v, w.cell? ⟨g, i, none⟩ = some v) ∧ w.frozen? ⟨g, i, none⟩ = false := by
  obtain ⟨cur, h1, h2⟩ := h
  refine ⟨?_, Lib.frozen_of_heap h1 i⟩
  rw [Lib.cell_of_heap h1]
  have hic : i < cur.size := by omega
  exact ⟨cur[i], Array.getElem?_eq_getElem hic⟩
theorem PBk.set {w : World} {g n : Nat} (h : PBk w g n) (i : Nat) (v : Value) : PBk (w.setCell ⟨g, i, none⟩ v) g n := by
  obtain ⟨cur, h1, h2⟩ := h
  exact ⟨cur.setIfInBounds i v, by simp [World.setCell, Array.getElem?_modify, h1], by simpa using h2⟩
theorem PBk.of {w : World} {g : Nat} {l : List PeakV} (h : RowP w g l) : PBk w g l.length := ⟨_, h, by simp [flat_length 3 pEnc pEnc_len]⟩
theorem PBk.frow {B : Nat} {v : Value} {l : List PeakV} {w : World} (h : PRow B v l w) : ∃ g cap, v = .slice (some ⟨g, 0, none⟩) l.length cap ∧ AtP w g l ∧ PBk w g l.length ∧ B ≤ g := by
  obtain ⟨g, cap, cur, rfl, h1, h2, h3, h4, h5⟩ := h.block
  refine ⟨g, cap, rfl, (FRow.at pEnc_len h).1, ⟨cur, h3, ?_⟩, h1⟩
  have := congrArg List.length h4
  rw [List.length_take, flat_length 3 pEnc pEnc_len] at this
  rw [← Array.length_toList]
  omega
theorem cellSetOther {w : World} {g i j : Nat} {v : Value} (h : i ≠ j) : (w.setCell ⟨g, i, none⟩ v).cell? ⟨g, j, none⟩ = w.cell? ⟨g, j, none⟩ := by
  simp [World.setCell, World.cell?, Array.getElem?_modify]
  cases hh : w.heap[g]? with
  | none => simp
  | some o => cases o <;> simp [h]
theorem PBk.cellSet {w : World} {g n : Nat} (h : PBk w g n) (i : Nat) (hi : i < n * 3) (v : Value) : (w.setCell ⟨g, i, none⟩ v).cell? ⟨g, i, none⟩ = some v := by
  obtain ⟨cur, h1, h2⟩ := h
  have : (w.setCell ⟨g, i, none⟩ v).heap[g]? = some (.cells (cur.setIfInBounds i v) 44 (0, 0)) := by simp [World.setCell, Array.getElem?_modify, h1]
  rw [Lib.cell_of_heap this]
  have : i < cur.size := by omega
  simp [this]
/-- A list that holds its marks, so far. -/
def MkP (w : World) (g k n : Nat) : Prop := ∀ i, i < n → w.cell? ⟨g, i * 3, none⟩ = some (.string (mkS (k + 3 * i))) ∧ w.cell? ⟨g, i * 3 + 1, none⟩ = some (.int .i64 (((k + 3 * i : Nat) : Int) + 1)) ∧ w.cell? ⟨g, i * 3 + 2, none⟩ = some (.int .i64 (((k + 3 * i : Nat) : Int) + 1 + 1))
theorem MkP.below {w w' : World} {g k n B : Nat} (h : MkP w g k n) (hb : Below B w w') (hg : g < B) : MkP w' g k n := fun i hi =>
  ⟨(hb.cell (p := ⟨g, i * 3, none⟩) hg).trans (h i hi).1, (hb.cell (p := ⟨g, i * 3 + 1, none⟩) hg).trans (h i hi).2.1, (hb.cell (p := ⟨g, i * 3 + 2, none⟩) hg).trans (h i hi).2.2⟩
theorem MkP.step {w : World} {g k j n : Nat} (h : MkP w g k j) (hb : PBk w g n) (hj : j < n) : MkP (((w.setCell ⟨g, j * 3, none⟩ (.string (mkS (k + 3 * j)))).setCell ⟨g, j * 3 + 1, none⟩ (.int .i64 (((k + 3 * j : Nat) : Int) + 1))).setCell ⟨g, j * 3 + 2, none⟩ (.int .i64 (((k + 3 * j : Nat) : Int) + 1 + 1))) g k (j + 1) := by
  intro i hi
  rcases Nat.lt_or_ge i j with h' | h'
  · obtain ⟨h1, h2, h3⟩ := h i h'
    refine ⟨?_, ?_, ?_⟩
    · rw [cellSetOther (by omega), cellSetOther (by omega), cellSetOther (by omega)]; exact h1
    · rw [cellSetOther (by omega), cellSetOther (by omega), cellSetOther (by omega)]; exact h2
    · rw [cellSetOther (by omega), cellSetOther (by omega), cellSetOther (by omega)]; exact h3
  · obtain rfl : i = j := by omega
    refine ⟨?_, ?_, ?_⟩
    · rw [cellSetOther (by omega), cellSetOther (by omega)]; exact hb.cellSet _ (by omega) _
    · rw [cellSetOther (by omega)]; exact (hb.set _ _).cellSet _ (by omega) _
    · exact ((hb.set _ _).set _ _).cellSet _ (by omega) _
/-- What writing marks leaves. -/
def MPPost (g n k : Nat) (w : World) (e : Ending) (w' : World) : Prop := e = .returned (.int .i64 ((k + 3 * n : Nat) : Int)) ∧ MkP w' g k n ∧ (∀ c, c < w.heap.size → c ≠ g → w'.heap[c]? = w.heap[c]?) ∧ Below 0 w w' ∧ PBk w' g n
theorem setOff {w wr : World} {g j : Nat} {v : Value} (h : ∀ c, c < w.heap.size → c ≠ g → wr.heap[c]? = w.heap[c]?) : ∀ c, c < w.heap.size → c ≠ g → (wr.setCell ⟨g, j, none⟩ v).heap[c]? = w.heap[c]? := fun c hc hne => by
  rw [← h c hc hne]
  simp [World.setCell, Array.getElem?_modify, Ne.symm hne]
/-- A list of peaks that was handed back: nothing, or a row that stands in a block of its own. -/
def Pks (B : Nat) (v : Value) (l : List PeakV) (w : World) : Prop := (v = .slice none 0 0 ∧ l = []) ∨ ∃ g cap, v = .slice (some ⟨g, 0, none⟩) l.length cap ∧ AtP w g l ∧ PBk w g l.length ∧ B ≤ g
theorem Pks.below {B : Nat} {v : Value} {l : List PeakV} {w w' : World} (h : Pks B v l w) (hb : Below w.heap.size w w') : Pks B v l w' := by
  rcases h with h | ⟨g, cap, h1, h2, h3, h4⟩
  · exact .inl h
  · exact .inr ⟨g, cap, h1, h2.below hb h2.1, h3.below hb h3.lt, h4⟩
theorem Pks.mono {B C : Nat} {v : Value} {l : List PeakV} {w : World} (h : Pks B v l w) (hc : C ≤ B) : Pks C v l w := by
  rcases h with h | ⟨g, cap, h1, h2, h3, h4⟩
  · exact .inl h
  · exact .inr ⟨g, cap, h1, h2, h3, Nat.le_trans hc h4⟩
/-- The block of a value that is a row. -/
def blkOf : Value → Nat → Prop
  | .slice (some a) _ _, g => a.block = g
  | _, _ => False
theorem Pks.blk {B : Nat} {v : Value} {l : List PeakV} {w : World} (h : Pks B v l w) {g : Nat} (hv : blkOf v g) : g < w.heap.size ∧ B ≤ g := by
  rcases h with ⟨rfl, _⟩ | ⟨g', c', rfl, h2, _, h4⟩
  · exact absurd hv (by simp [blkOf])
  · have : g' = g := hv
    subst this
    exact ⟨h2.1, h4⟩
theorem Pks.keep {B : Nat} {v : Value} {l : List PeakV} {w w' : World} (h : Pks B v l w) (hs : w.heap.size ≤ w'.heap.size) (hk : ∀ g, blkOf v g → w'.heap[g]? = w.heap[g]?) : Pks B v l w' := by
  rcases h with h | ⟨g, cap, rfl, h2, h3, h4⟩
  · exact .inl h
  · refine .inr ⟨g, cap, rfl, ⟨Nat.lt_of_lt_of_le h2.1 hs, fun i j hi hj => ?_⟩, h3.keep (hk g rfl), h4⟩
    have := h2.2 i j hi hj
    rw [← this]
    exact World.cell?_of_block (a := ⟨g, i * 3 + j, none⟩) (hk g rfl)
/-- A list of peaks that holds its marks. -/
def HeldP (v : Value) (n : Nat) (w : World) : Prop := (v = .slice none 0 0 ∧ n = 0) ∨ ∃ g cap, v = .slice (some ⟨g, 0, none⟩) n cap ∧ g < w.heap.size ∧ MkP w g 1 n
theorem HeldP.below {v : Value} {n : Nat} {w w' : World} (h : HeldP v n w) (hb : Below w.heap.size w w') : HeldP v n w' := by
  rcases h with h | ⟨g, cap, h1, h2, h3⟩
  · exact .inl h
  · exact .inr ⟨g, cap, h1, Nat.lt_of_lt_of_le h2 hb.size, h3.below hb h2⟩
end Go.Proofs.YtplldapkcljllaaGreatDoor

