/-
  Texts that the last part needs, joined.
-/
import Derived.Test.YtpddholoehmjkaaGreatDoorPart1
import Derived.Test.YtpddholoehmjkaaGreatDoorPart2
import Derived.Test.YtpddholoehmjkaaGreatDoorPart3
import Derived.Test.YtpddholoehmjkaaGreatDoorPart4
import Derived.Test.YtpddholoehmjkaaGreatDoorPart5
import Derived.Test.YtpddholoehmjkaaGreatDoorPart6
import Derived.Test.YtpddholoehmjkaaGreatDoorPart7
import Derived.Test.YtpddholoehmjkaaGreatDoorPart8
import Derived.Test.YtpddholoehmjkaaGreatDoorPart9
import Derived.Test.YtpddholoehmjkaaGreatDoorPart10
import Derived.Deep.AppendLies
import Derived.Deep.RegionHeld3
import Derived.Deep.RegionWith
import Derived.OwnWalk
set_option linter.unusedVariables false
namespace Go.Proofs.YtpddholoehmjkaaGreatDoor
open Go.RowKit

theorem setL_same {a b : List ByteArray} (h : ∀ x, x ∈ a ↔ x ∈ b) : setL a = setL b := by
  refine (List.map_inj_right (f := fun s : ByteArray => s.data.toList) (fun _ _ hh => data_inj hh)).1 ?_
  refine strict_eq (List.pairwise_map.2 (setL_pair a)) (List.pairwise_map.2 (setL_pair b)) fun x => ?_
  rw [List.mem_map, List.mem_map]
  constructor
  · rintro ⟨s, hs, e⟩; exact ⟨s, (setL_mem b s).2 ((h s).1 ((setL_mem a s).1 hs)), e⟩
  · rintro ⟨s, hs, e⟩; exact ⟨s, (setL_mem a s).2 ((h s).2 ((setL_mem b s).1 hs)), e⟩
theorem filterOf_same {k : List UInt8} {a b : List ByteArray} (h : ∀ x, x ∈ a ↔ x ∈ b) (ha : a.length ≤ 40) (hb : b.length ≤ 40) : filterOf k a = filterOf k b := by
  have h1 : itemsOkB a = itemsOkB b := by
    rw [itemsOkB, itemsOkB, decide_eq_true ha, decide_eq_true hb, Bool.true_and, Bool.true_and, Bool.eq_iff_iff, List.all_eq_true, List.all_eq_true]
    exact ⟨fun hh x hx => hh x ((h x).2 hx), fun hh x hx => hh x ((h x).1 hx)⟩
  have h2 : filterB k a = filterB k b := by rw [filterB, filterB, gapsL, gapsL, placesL, placesL, setL_same h]
  rw [filterOf, filterOf, h1, h2]
theorem sums_gaps : ∀ (l : List Int) (a : Int), 0 ≤ a → Asc a l → sumsF a.toNat ((gapsZ a l).map Int.toNat) = l.map Int.toNat ∧ total a.toNat ((gapsZ a l).map Int.toNat) = (lastZ a l).toNat
  | [], a, _, _ => ⟨rfl, rfl⟩
  | x :: r, a, ha, h => by
    have h1 := h.1
    have ih := sums_gaps r x (by omega) h.2
    have e : a.toNat + (x - a).toNat = x.toNat := by omega
    simp only [gapsZ, List.map_cons, sumsF, total_cons, lastZ, e]
    rw [ih.1, ih.2]
    exact ⟨rfl, rfl⟩
theorem lastZ_mem : ∀ (l : List Int) (a : Int), l ≠ [] → lastZ a l ∈ l
  | [], a, h => absurd rfl h
  | [x], a, _ => by simp [lastZ]
  | x :: y :: r, a, _ => List.mem_cons_of_mem _ (lastZ_mem (y :: r) x (by simp))
theorem bits_le : ∀ (l : List Nat) (a : Nat), (bitsOf 5 l).length + a / 32 ≤ total a l / 32 + 6 * l.length
  | [], a => by simp [bitsOf, total]
  | x :: r, a => by
    have ih := bits_le r (a + x)
    have e : (bitsOf 5 (x :: r)).length = (x / 32 + 1 + 5) + (bitsOf 5 r).length := by
      have : bitsOf 5 (x :: r) = numB 5 x ++ bitsOf 5 r := by simp [bitsOf]
      rw [this, List.length_append, numB_length]
    rw [e, total_cons, List.length_cons]
    have : x / 32 + a / 32 ≤ (a + x) / 32 := by omega
    omega
theorem rice_short (l : List Nat) : (riceB 5 l).length ≤ (bitsOf 5 l).length + 8 := by
  have h1 := runB_len ([], []) (bitsOf 5 l)
  unfold riceB fillB
  generalize runB ([], []) (bitsOf 5 l) = s at h1
  have h2 := runB_len s (List.replicate (if s.2 = [] then 0 else 8 - s.2.length) 0)
  rw [List.length_replicate] at h2
  have h3 : (if s.2 = [] then 0 else 8 - s.2.length) ≤ 8 := by split <;> omega
  simp only [List.length_nil] at h1
  omega
theorem places_lt {k : List UInt8} {ss : List ByteArray} (h1 : isSum k = true) (h2 : itemsOkB ss = true) : ∀ z ∈ placesL k ss, 0 ≤ z ∧ z < ((setL ss).length : Int) * 37 := by
  intro z hz
  obtain ⟨it, hit, rfl⟩ := List.mem_map.1 hz
  have hi := set_items h2 it hit
  have hn : 1 ≤ (setL ss).length := by
    cases hs : setL ss with
    | nil => rw [hs] at hit; cases hit
    | cons a r => simp
  have hn4 : (setL ss).length ≤ 40 := Nat.le_trans (setL_length ss) (itemsOk_len h2)
  have hb : 1 ≤ ((setL ss).length : Int) * 37 ∧ ((setL ss).length : Int) * 37 ≤ 60000 := by omega
  rw [filterTo_yes h1 hi hb]
  have := place_lt (headOf (k ++ 32 :: it.data.toList)) (((setL ss).length : Int) * 37) (headOf_lt _) hb
  omega
theorem filterGet_of {k : List UInt8} {ss : List ByteArray} (h1 : isSum k = true) (h2 : itemsOkB ss = true) : filterGet (filterB k ss) = some ((sortL (placesL k ss)).map Int.toNat) := by
  have hn4 : (setL ss).length ≤ 40 := Nat.le_trans (setL_length ss) (itemsOk_len h2)
  have hp := places_lt h1 h2
  have hasc := asc_sort (placesL k ss) (fun x hx => (hp x hx).1)
  have hsl : (sortL (placesL k ss)).length = (setL ss).length := by rw [sortL_length, placesL, List.length_map]
  have hso : ∀ z ∈ sortL (placesL k ss), 0 ≤ z ∧ z < ((setL ss).length : Int) * 37 := fun z hz => hp z ((sortL_mem _ z).1 hz)
  have hgo := gaps_ok h1 h2
  have hgl : filterB k ss = varB 4 (setL ss).length ++ riceB 5 ((gapsZ 0 (sortL (placesL k ss))).map Int.toNat) := rfl
  have hge : gapsL k ss = gapsZ 0 (sortL (placesL k ss)) := rfl
  rw [hge] at hgo
  rw [hgl]
  generalize sortL (placesL k ss) = so at hasc hsl hso hgo
  generalize (setL ss).length = n at hn4 hsl hso
  have hsg := sums_gaps so 0 (by omega) hasc
  have hgl2 : ((gapsZ 0 so).map Int.toNat).length = n := by rw [List.length_map, gapsZ_length, hsl]
  have hle : ∀ x ∈ (gapsZ 0 so).map Int.toNat, x ≤ 60000 := by
    intro x hx
    obtain ⟨z, hz, rfl⟩ := List.mem_map.1 hx
    obtain ⟨i, hi, rfl⟩ := List.mem_iff_getElem.1 hz
    have := hgo.2 i hi
    rw [List.getD_eq_getElem?_getD, List.getElem?_eq_getElem hi] at this
    simp at this
    omega
  have htot : total 0 ((gapsZ 0 so).map Int.toNat) < n * 37 ∨ (gapsZ 0 so).map Int.toNat = [] := by
    by_cases he : so = []
    · right; rw [he]; rfl
    · left
      have e := hsg.2
      simp only [Int.toNat_zero] at e
      rw [e]
      have := hso _ (lastZ_mem so 0 he)
      omega
  have htle : total 0 ((gapsZ 0 so).map Int.toNat) ≤ 1480 := by
    rcases htot with h | h
    · omega
    · rw [h]; simp [total]
  have hsum : sumsF 0 ((gapsZ 0 so).map Int.toNat) = so.map Int.toNat := by
    have e := hsg.1
    simpa using e
  generalize (gapsZ 0 so).map Int.toNat = gs at hgl2 hle htot htle hsum
  have hv : varB 4 n = varPut (n : Int) := by rw [varPut, if_pos (by omega)]; simp
  have hg := varGet_put n (by omega) (riceB 5 gs)
  have hb := bits_le gs 0
  have hr := rice_short gs
  rw [hv]
  have h0 : ¬ ((varGet (varPut (n : Int) ++ riceB 5 gs)).2 = 0 ∨ 600 < (varPut (n : Int) ++ riceB 5 gs).length) := by
    rw [hg.1, List.length_append]
    omega
  rw [filterGet_some (gaps := gs) h0 ?_, hg.1, placesOf, if_pos htot, hsum]
  rw [hg.1]
  dsimp only
  rw [List.drop_left]
  refine riceGet_yes ?_ ⟨by rw [hgl2]; simp, hle, rfl⟩
  have e1 : decide ((0 : Int) ≤ (n : Int) ∧ (n : Int) ≤ 40) = true := decide_eq_true (by omega)
  have e3 : decide ((riceB 5 gs).length ≤ 600) = true := decide_eq_true (by omega)
  simp only [getOk, e1, e3]
  decide
theorem filterHas_of {k : List UInt8} {ss : List ByteArray} (h1 : isSum k = true) (h2 : itemsOkB ss = true) (it : ByteArray) (hit : it ∈ ss) : filterHas (filterB k ss) k it.data.toList = true := by
  have hset := (setL_mem ss it).2 hit
  have hp := places_lt h1 h2
  have hmem : filterTo k it.data.toList (((setL ss).length : Int) * 37) ∈ sortL (placesL k ss) := (sortL_mem _ _).2 (List.mem_map.2 ⟨it, hset, rfl⟩)
  have hsl : (sortL (placesL k ss)).length = (setL ss).length := by rw [sortL_length, placesL, List.length_map]
  have h0 := hp _ ((sortL_mem _ _).1 hmem)
  rw [filterHas_yes (filterGet_of h1 h2) (fun e => by
    have e2 := List.map_eq_nil_iff.1 e
    rw [e2] at hmem
    cases hmem) h1 (set_items h2 it hset), List.length_map, hsl, List.any_eq_true]
  refine ⟨_, List.mem_map.2 ⟨_, hmem, rfl⟩, decide_eq_true ?_⟩
  omega

end Go.Proofs.YtpddholoehmjkaaGreatDoor

set_option linter.unusedVariables false
namespace Go.Proofs.YtpddholoehmjkaaGreatDoor
open Go.RowKit Go.Deep

def mrkB (ps : List (HeadV × List ByteArray)) : Nat → List UInt8
  | 0 => zeros16.data.toList
  | k + 1 => markOf (mrkB ps k) (blockFilter (ps.getD k default).1 (ps.getD k default).2)
def mrkA (ps : List (HeadV × List ByteArray)) (k : Nat) : ByteArray := ⟨(mrkB ps k).toArray⟩
def marksV (ps : List (HeadV × List ByteArray)) (k : Nat) : List ByteArray := (List.range k).map fun i => mrkA ps (i + 1)
theorem marksV_len (ps : List (HeadV × List ByteArray)) (k : Nat) : (marksV ps k).length = k := by simp [marksV]
theorem marksV_succ (ps : List (HeadV × List ByteArray)) (k : Nat) : marksV ps (k + 1) = marksV ps k ++ [mrkA ps (k + 1)] := by simp [marksV, List.range_succ]
theorem filter_len {k : List UInt8} {ss : List ByteArray} (h1 : isSum k = true) (h2 : itemsOkB ss = true) : (filterB k ss).length ≤ 600 := by
  rcases Nat.lt_or_ge 600 (filterB k ss).length with h | h
  · have := filterGet_of h1 h2
    rw [filterGet_bad (.inr h)] at this
    cases this
  · exact h
theorem pts_getD {bs : List BlkV} {k : Nat} (hk : k < bs.length) : (ptsOf bs).getD k default = ((bs.getD k default).h, (bs.getD k default).ss) := by
  simp [ptsOf, hk]
theorem okP_block {bs : List BlkV} (h : okP (ptsOf bs) = true) {k : Nat} (hk : k < bs.length) : blockOkB (bs.getD k default).h (bs.getD k default).ss = true := by
  simp only [okP, allOk, Bool.and_eq_true, List.all_eq_true] at h
  exact h.2 _ (List.mem_map.2 ⟨_, blk_mem hk, rfl⟩)
/-- The filter of a block of a chain. -/
theorem okP_filter {bs : List BlkV} (h : okP (ptsOf bs) = true) {k : Nat} (hk : k < bs.length) : blockFilter (bs.getD k default).h (bs.getD k default).ss = filterB (sumB (headX (bs.getD k default).h)) (bs.getD k default).ss ∧ (blockFilter (bs.getD k default).h (bs.getD k default).ss).length ≤ 600 := by
  have hb := okP_block h hk
  have hp := blockOk_parts hb
  have e : blockFilter (bs.getD k default).h (bs.getD k default).ss = filterB (sumB (headX (bs.getD k default).h)) (bs.getD k default).ss := by rw [blockFilter, if_pos hb]
  exact ⟨e, by rw [e]; exact filter_len (isSum_sumB _) hp.2⟩
theorem mrk_sum {bs : List BlkV} (h : okP (ptsOf bs) = true) : ∀ k, k ≤ bs.length → isSum (mrkB (ptsOf bs) k) = true
  | 0, _ => by rw [mrkB]; decide
  | k + 1, hk => by
    rw [mrkB, pts_getD (by omega), markOf, if_pos ⟨mrk_sum h k (by omega), (okP_filter h (by omega)).2⟩]
    exact isSum_sumB _
theorem mrk_step {bs : List BlkV} (h : okP (ptsOf bs) = true) {k : Nat} (hk : k < bs.length) : mrkB (ptsOf bs) (k + 1) = sumB (markT (mrkB (ptsOf bs) k) (filterB (sumB (headX (bs.getD k default).h)) (bs.getD k default).ss)) := by
  rw [mrkB, pts_getD hk, markOf, if_pos ⟨mrk_sum h k (by omega), (okP_filter h hk).2⟩, (okP_filter h hk).1]
theorem mrk_len {bs : List BlkV} (h : okP (ptsOf bs) = true) : ∀ k, k ≤ bs.length → (mrkA (ptsOf bs) k).size = 16
  | 0, _ => rfl
  | k + 1, hk => by
    have : (mrkB (ptsOf bs) (k + 1)).length = 16 := by rw [mrk_step h (by omega)]; exact sumB_len _
    show (mrkB (ptsOf bs) (k + 1)).toArray.size = 16
    rw [List.size_toArray]
    exact this

end Go.Proofs.YtpddholoehmjkaaGreatDoor

set_option linter.unusedVariables false
namespace Go.Proofs.YtpddholoehmjkaaGreatDoor
open Go.RowKit

section
variable {P : Program} {w : World}
theorem run_append_any (t ty : TypeId) (base : Nat) (e : TypeId) (i : TypeInfo) (z : Value) (size bytes : Nat) (ht : P.underlying t = some (.slice e)) (hi : P.info? e = some i) (hz : i.zero = some z)
    (hsize : i.size = size) (hby : i.bytes = bytes) (hzs : z.cells.size = size) (hsz : 0 < size)
    (g0 c0 n : Nat) (xs : List Value) (hown : w.ownsRow base e size (.slice (some ⟨g0, 0, none⟩) n c0) n xs)
    (ad : Addr) (m c : Nat) (news : List Value) (hl : news.length = m * size) (hnews : ∀ j u, news[j]? = some u → w.cell? (ad.add j) = some u) (h1 : ∀ u ∈ news, u.oneCell' = true)
    (h63 : n + m ≤ maxLen) (hbytes : (n + m) * bytes ≤ 140737488355328) (hbase : base ≤ w.heap.size) :
    ∃ g cap w', (Builtin.append_ #[t, t] ty #[.slice (some ⟨g0, 0, none⟩) n c0, .slice (some ad) m c]).run P w = .ok (.slice (some ⟨g, 0, none⟩) (n + m) cap) w' ∧
      w'.ownsRow base e size (.slice (some ⟨g, 0, none⟩) (n + m) cap) (n + m) (xs ++ news) ∧ w.grownBy w' (some g0) ∧ (g0 = g ∨ g = w.heap.size) ∧ g < w'.heap.size := by
  obtain ⟨v', w', hr, h2, h3, _, h5⟩ := run_append_own_at (P := P) w base t ty e i z size bytes ht hi hz hsize hby hzs hsz (.slice (some ⟨g0, 0, none⟩) n c0) n xs hown ad m c news hl hnews h1 h63 hbytes hbase
  rcases h2.2 with ⟨h6, _⟩ | ⟨g, cap, cur, hv, hB, hg, _⟩
  · rw [h6] at h5
    rcases h5 with h5 | h5 <;> simp [Value.ownBlock] at h5
  · subst hv
    refine ⟨g, cap, w', hr, h2, h3, ?_, ?_⟩
    · rcases h5 with h5 | h5
      · left
        have : g = g0 := by simpa [Value.ownBlock] using h5
        exact this.symm
      · right
        simpa [Value.ownBlock] using h5
    · rcases Nat.lt_or_ge g w'.heap.size with h' | h'
      · exact h'
      · simp [Array.getElem?_eq_none h'] at hg
theorem step_append_any {ops : Array Oper} {o : Oper} {a : Act} {K : Act → World → Prop} {Q : Exit → Act → World → Prop} {E : Prop} (hgd : o.guard = none) (s x : Operand) (t : TypeId)
    (ho : o.op = .call { callee := .builtin .append, args := #[s, x], argTypes := #[t, t] })
    (base : Nat) (e : TypeId) (i : TypeInfo) (z : Value) (size bytes : Nat) (ht : P.underlying t = some (.slice e)) (hi : P.info? e = some i) (hz : i.zero = some z)
    (hsize : i.size = size) (hby : i.bytes = bytes) (hzs : z.cells.size = size) (hsz : 0 < size)
    (g0 c0 n : Nat) (xs : List Value) (hs : a.eval s = .slice (some ⟨g0, 0, none⟩) n c0) (hown : w.ownsRow base e size (.slice (some ⟨g0, 0, none⟩) n c0) n xs)
    (ad : Addr) (m c : Nat) (news : List Value) (hx : a.eval x = .slice (some ad) m c) (hl : news.length = m * size) (hnews : ∀ j u, news[j]? = some u → w.cell? (ad.add j) = some u) (h1 : ∀ u ∈ news, u.oneCell' = true)
    (h63 : n + m ≤ maxLen) (hbytes : (n + m) * bytes ≤ 140737488355328) (hbase : base ≤ w.heap.size)
    (h : ∀ g cap w', w'.ownsRow base e size (.slice (some ⟨g, 0, none⟩) (n + m) cap) (n + m) (xs ++ news) → w.grownBy w' (some g0) → Hid (g0 = g ∨ g = w.heap.size) → Hid (g < w'.heap.size) → K (a.put o.dst (.slice (some ⟨g, 0, none⟩) (n + m) cap)) w') :
    if Region.wanted o (yielded ops a.tmps) = true then Oper.wp P o a w K Q else E := by
  have hw : Region.wanted o (yielded ops a.tmps) = true := by simp [Region.wanted, hgd]
  rw [if_pos hw]
  obtain ⟨g, cap, w', hr, h2, h3, h4, h5⟩ := run_append_any (P := P) (w := w) t o.type base e i z size bytes ht hi hz hsize hby hzs hsz g0 c0 n xs hown ad m c news hl hnews h1 h63 hbytes hbase
  unfold Oper.wp execOp
  simp only [ho, resolve, invoke, builtin, Sem.run_bind, Sem.run_pure, Result.andThen_ok, List.map_toArray, List.map_cons, List.map_nil, hs, hx, hr]
  exact h g cap w' h2 h3 h4 h5
end

end Go.Proofs.YtpddholoehmjkaaGreatDoor

set_option linter.unusedVariables false
namespace Go.Proofs.YtpddholoehmjkaaGreatDoor
open Go.RowKit Go.Deep

theorem infoBlk : (Tryz.prog.info? 41).map (fun i => (i.zero, i.size, i.bytes)) = some (some (.agg #[.string ⟨#[]⟩, .string ⟨#[]⟩, .int .i64 0, .int .i64 0, .int .i64 0, .slice none 0 0]), 6, 80) := by kernel_rfl
/-- The items of some blocks, each in a block of its own at or above B, are in memory. -/
def OwnItems (B : Nat) (w : World) (bs : List BlkV) : Prop := ∀ b ∈ bs, ItemsAt w b ∧ B ≤ b.g
/-- The items' row of a block is the call's own. -/
def OwnIt (B : Nat) (w : World) (c : BlkV) : Prop := w.ownsRow B 9 1 (.slice (some ⟨c.g, 0, none⟩) c.n c.cap) c.n (c.ss.map Value.string)
theorem OwnIt.keep {B : Nat} {w w' : World} {c : BlkV} (h : OwnIt B w c) (hk : w'.heap[c.g]? = w.heap[c.g]?) : OwnIt B w' c := by
  obtain ⟨h1, h2⟩ := h
  refine ⟨h1, ?_⟩
  rcases h2 with ⟨h3, _⟩ | ⟨g', cap', cur, hv, hB, hg, h4⟩
  · cases h3
  · have e : c.g = g' := by simp only [Value.slice.injEq, Option.some.injEq, Addr.mk.injEq, and_true] at hv; exact hv.1
    exact .inr ⟨g', cap', cur, hv, hB, by rw [← e, hk, e]; exact hg, h4⟩
theorem OwnIt.mono {B C : Nat} {w : World} {c : BlkV} (h : OwnIt B w c) (hC : C ≤ B) : OwnIt C w c := by
  obtain ⟨h1, h2⟩ := h
  refine ⟨h1, ?_⟩
  rcases h2 with ⟨h3, _⟩ | ⟨g', cap', cur, hv, hB, h4⟩
  · cases h3
  · exact .inr ⟨g', cap', cur, hv, Nat.le_trans hC hB, h4⟩
theorem OwnIt.of {Z B g n c : Nat} {h : HeadV} {ss : List ByteArray} {w : World} (ho : w.ownsRow Z 9 1 (.slice (some ⟨g, 0, none⟩) (0 + n) c) (0 + n) ([] ++ ss.map Value.string)) (hB : B ≤ Z) : OwnIt B w ⟨h, g, n, c, ss⟩ := by
  rw [Nat.zero_add, List.nil_append] at ho
  exact OwnIt.mono (B := Z) (c := ⟨h, g, n, c, ss⟩) ho hB
/-- A list of blocks that the call itself has made: its row, its items, apart from each other. -/
structure BList (B : Nat) (v : Value) (cs : List BlkV) (w : World) : Prop where
  row : BRow B v cs w
  items : OwnItems B w cs
  apart : ∀ c ∈ cs, v.ownBlock ≠ some c.g
  own : ∀ c ∈ cs, OwnIt B w c
theorem BList.keep {B : Nat} {v : Value} {cs : List BlkV} {w w' : World} (h : BList B v cs w) (hs : w.heap.size ≤ w'.heap.size) (hk : ∀ g, B ≤ g → g < w.heap.size → w'.heap[g]? = w.heap[g]?) : BList B v cs w' :=
  ⟨h.row.keep hk, fun c hc => ⟨⟨⟨Nat.lt_of_lt_of_le (h.items c hc).1.1.1 hs, fun i hi => (World.cell?_of_block (a := ⟨c.g, i, none⟩) (hk c.g (h.items c hc).2 (h.items c hc).1.1.1)).trans ((h.items c hc).1.1.2 i hi)⟩, (h.items c hc).1.2⟩, (h.items c hc).2⟩, h.apart, fun c hc => (h.own c hc).keep (hk c.g (h.items c hc).2 (h.items c hc).1.1.1)⟩
theorem BList.below {B : Nat} {v : Value} {cs : List BlkV} {w w' : World} (h : BList B v cs w) (hb : Below w.heap.size w w') : BList B v cs w' := h.keep hb.size (fun g _ hg => hb.block g hg)
theorem BList.mono {B C : Nat} {v : Value} {cs : List BlkV} {w : World} (h : BList B v cs w) (hC : C ≤ B) : BList C v cs w := ⟨h.row.mono hC, fun c hc => ⟨(h.items c hc).1, Nat.le_trans hC (h.items c hc).2⟩, h.apart, fun c hc => (h.own c hc).mono hC⟩
/-- Two lists of blocks tell the same. -/
def SameBlks (bs cs : List BlkV) : Prop := cs.map (·.h) = bs.map (·.h) ∧ cs.map (·.ss) = bs.map (·.ss)

theorem atS_far {w w' : World} {g : Nat} {zs : List ByteArray} (h : AtS w g zs) (hk : w'.heap[g]? = w.heap[g]?) (hs : w.heap.size ≤ w'.heap.size) : AtS w' g zs :=
  ⟨Nat.lt_of_lt_of_le h.1 hs, fun i hi => (World.cell?_of_block (a := ⟨g, i, none⟩) hk).trans (h.2 i hi)⟩
theorem srow_of {B n g cap : Nat} {zs : List ByteArray} {w : World} (h : w.ownsRow B 9 1 (.slice (some ⟨g, 0, none⟩) n cap) n (zs.map Value.string)) (hn : n = zs.length) : SRow B (.slice (some ⟨g, 0, none⟩) n cap) zs w := by
  subst hn
  exact ⟨⟨g, cap, rfl⟩, h⟩

theorem AtS.news {w w' : World} {g : Nat} {ss : List ByteArray} (h : AtS w g ss) (hb : Below w.heap.size w w') : ∀ j u, (ss.map Value.string)[j]? = some u → w'.cell? ((⟨g, 0, none⟩ : Addr).add j) = some u := by
  intro j u hj
  have hjl : j < ss.length := by
    rcases Nat.lt_or_ge j ss.length with h' | h'
    · exact h'
    · rw [List.getElem?_eq_none (by simpa using h')] at hj; cases hj
  have e1 : (⟨g, 0, none⟩ : Addr).add j = ⟨g, j, none⟩ := by unfold Addr.add; split <;> simp_all
  rw [e1, hb.cell (p := ⟨g, j, none⟩) h.1]
  have e3 : u = .string (ss.getD j ByteArray.empty) := by
    rw [List.getElem?_map, List.getElem?_eq_getElem hjl] at hj
    rw [List.getD_eq_getElem?_getD, List.getElem?_eq_getElem hjl]
    exact (Option.some.inj hj).symm
  rw [e3]
  exact h.2 j hjl
theorem itemsOneCell (ss : List ByteArray) : ∀ u ∈ ss.map Value.string, u.oneCell' = true := by
  intro u hu
  obtain ⟨x, _, rfl⟩ := List.mem_map.1 hu
  rfl

set_option maxHeartbeats 4000000 in
set_option maxRecDepth 100000 in
theorem specL4Copy (g n cap : Nat) (bs : List BlkV) (w : World) (h : AtBlk w g bs) (hit : ∀ b ∈ bs, ItemsAt w b) (hn : n = bs.length) (hm : n ≤ 1048576) (hs : ∀ b ∈ bs, b.ss.length ≤ 1048576) :
    Calls Tryz.prog 44 #[.slice (some ⟨g, 0, none⟩) n cap] w fun e w' => ∃ v cs, e = .returned v ∧ BList w.heap.size v cs w' ∧ SameBlks bs cs ∧ Below w.heap.size w w' := by
  obtain ⟨i0, hi, hz0, hz1, hz2⟩ := info3 infoBlk
  obtain ⟨j0, ji, jz0, jz1, jz2⟩ := info_parts infoStr
  have HA : Hid (AtBlk w g bs) := h
  have HN : Hid (n = bs.length) := hn
  have HI : Hid (∀ b ∈ bs, ItemsAt w b ∧ b.ss.length ≤ 1048576) := fun b hb => ⟨hit b hb, hs b hb⟩
  have R0 : Hid (BRow w.heap.size (.slice (some ⟨w.heap.size, 0, none⟩) 0 0) [] (w.alloc (.cells #[] 41))) := frow_new _ _ _ w
  have B0 : Hid (Below w.heap.size w (w.alloc (.cells #[] 41))) := (Below.refl _ w).alloc (Nat.le_refl _) _
  clear h hn hit hs
  go_enter Tryz.func44, Tryz.ntmps44
  go_wp2_with fail
  go_loopw [3, 4] (fun v i wr => ∃ (k g2 c2 : Nat) (cs : List BlkV), k ≤ n ∧ i = .int .i64 (k : Int) ∧ v = .slice (some ⟨g2, 0, none⟩) k c2 ∧ Hid (BRow w.heap.size v cs wr) ∧ Hid (OwnItems w.heap.size wr cs ∧ (∀ c ∈ cs, c.g ≠ g2) ∧ ∀ c ∈ cs, OwnIt w.heap.size wr c) ∧ Hid (SameBlks (bs.take k) cs) ∧ Hid (Below w.heap.size w wr)) (fun _ i _ => n - (intOf i).toNat)
  case atStart => exact ⟨0, w.heap.size, 0, [], by omega, rfl, rfl, R0, ⟨(fun c hc => by cases hc), (fun c hc => by cases hc), (fun c hc => by cases hc)⟩, ⟨rfl, rfl⟩, B0⟩
  case round =>
    clear R0 B0
    obtain ⟨k, g2, c2, cs, hk, rfl, rfl, R, HO, HSm, HB⟩ := hrel
    by_cases hlt : k < n
    · have hkl : k < bs.length := by rw [← HN.out]; exact hlt
      have HAr : Hid (AtBlk wr g bs) := HA.out.below HB.out HA.out.1
      have q0 := AtBlk.c0 HAr.out k hkl
      have q1 := AtBlk.c1 HAr.out k hkl
      have q2 := AtBlk.c2 HAr.out k hkl
      have q3 := AtBlk.c3 HAr.out k hkl
      have q4 := AtBlk.c4 HAr.out k hkl
      have q5 := AtBlk.c5 HAr.out k hkl
      have hgl := HAr.out.1
      have lk : (k : Int) < (n : Int) := by omega
      have lk0 : (0 : Int) ≤ (k : Int) := by omega
      have wk : IntKind.i64.wrap ((k : Int) + 1) = (k : Int) + 1 := by rw [IntKind.wrap_i64]; omega
      have HK : Hid (k + 1 ≤ n) := hlt
      have hbm : bs.getD k default ∈ bs := by rw [List.getD_eq_getElem?_getD, List.getElem?_eq_getElem hkl]; exact List.getElem_mem hkl
      have HIb := HI.out _ hbm
      have hcl : cs.length = k := by
        have := congrArg List.length HSm.out.1
        rw [List.length_map, List.length_map, List.length_take] at this
        omega
      have HOW : Hid (wr.ownsRow w.heap.size 41 6 (.slice (some ⟨g2, 0, none⟩) k c2) k (cs.flatMap enBlk)) := by
        have := R.out.2
        rw [hcl] at this
        exact this
      have HT : Hid (bs.take (k + 1) = bs.take k ++ [bs.getD k default]) := by
        show _ = _
        rw [List.take_add_one, List.getElem?_eq_getElem hkl]
        simp [List.getElem?_eq_getElem hkl]
      generalize bs.getD k default = b at q0 q1 q2 q3 q4 q5 HIb HT
      obtain ⟨bh, bg, bn, bc, bss⟩ := b
      dsimp only at q0 q1 q2 q3 q4 q5
      have hbn : bn = bss.length := HIb.1.2
      have HIt : Hid (AtS wr bg bss) := HIb.1.1.below HB.out HIb.1.1.1
      have hbl : bss.length ≤ 1048576 := HIb.2
      have hgb := HIt.out.1
      have hsz := HB.out.size
      have HBN : Hid (bn = bss.length) := hbn
      have hnl : bn ≤ 1048576 := by omega
      have HS0 : Hid ((wr.drew.alloc (.cells #[] 9)).ownsRow wr.heap.size 9 1 (.slice (some ⟨wr.heap.size, 0, none⟩) 0 0) 0 []) := (srow_new wr.drew).2
      have HNW : Hid (∀ j u, (bss.map Value.string)[j]? = some u → (wr.drew.alloc (.cells #[] 9)).cell? ((⟨bg, 0, none⟩ : Addr).add j) = some u) := by
        intro j u hj
        have hjl : j < bss.length := by
          rcases Nat.lt_or_ge j bss.length with h' | h'
          · exact h'
          · rw [List.getElem?_eq_none (by simpa using h')] at hj; cases hj
        have e1 : (⟨bg, 0, none⟩ : Addr).add j = ⟨bg, j, none⟩ := by unfold Addr.add; split <;> simp_all
        rw [e1, ((Below.refl wr.heap.size wr).drew.alloc (Nat.le_refl _) _).cell (p := ⟨bg, j, none⟩) hgb]
        have e2 := HIt.out.2 j hjl
        have e3 : u = .string (bss.getD j ByteArray.empty) := by
          rw [List.getElem?_map, List.getElem?_eq_getElem hjl] at hj
          rw [List.getD_eq_getElem?_getD, List.getElem?_eq_getElem hjl]
          exact (Option.some.inj hj).symm
        rw [e3]
        exact e2
      have HM1 : Hid ((bss.map Value.string).length = bn * 1) := by show _ = _; rw [List.length_map, HBN.out, Nat.mul_one]
      have HU1 : Hid (∀ u ∈ bss.map Value.string, u.oneCell' = true) := by
        intro u hu
        obtain ⟨x, _, rfl⟩ := List.mem_map.1 hu
        rfl
      have hx1 : 0 + bn ≤ maxLen := by unfold maxLen; omega
      have hx2 : (0 + bn) * 16 ≤ 140737488355328 := by omega
      have hy1 : k + 1 ≤ maxLen := by unfold maxLen; omega
      have hy2 : (k + 1) * 80 ≤ 140737488355328 := by omega
      have hg2 : g2 < wr.heap.size := by
        obtain ⟨g', c', cur, hv, _, hl', _⟩ := R.out.block
        simp only [Value.slice.injEq, Option.some.injEq, Addr.mk.injEq, and_true] at hv
        rw [hv.1]
        exact hl'
      have HR3 : Hid (∀ w3, Below wr.heap.size wr w3 → w3.ownsRow w.heap.size 41 6 (.slice (some ⟨g2, 0, none⟩) k c2) k (cs.flatMap enBlk)) := fun w3 b3 => by
        have := (R.out.below b3).2
        rw [hcl] at this
        exact this
      have hne : ¬ g = g2 := by
        obtain ⟨g', c', cur, hv, hB', _⟩ := R.out.block
        simp only [Value.slice.injEq, Option.some.injEq, Addr.mk.injEq, and_true] at hv
        have := HA.out.1
        omega
      clear HIb hbm hkl hbn hbl HOW
      go_wp2_with fail
      go_region_held3 (fun w' => w'.cell? ⟨g, k * 6, none⟩ = some (.string bh.prev) ∧ w'.cell? ⟨g, k * 6 + 1, none⟩ = some (.string bh.root) ∧ w'.cell? ⟨g, k * 6 + 2, none⟩ = some (.int .i64 bh.time) ∧ w'.cell? ⟨g, k * 6 + 3, none⟩ = some (.int .i64 bh.diff) ∧ w'.cell? ⟨g, k * 6 + 4, none⟩ = some (.int .i64 bh.nonce) ∧ w'.cell? ⟨g, k * 6 + 5, none⟩ = some (.slice (some ⟨bg, 0, none⟩) bn bc))
        (first | go_keep | (exact ⟨(b3.cell (p := ⟨g, k * 6, none⟩) hgl).trans q0, (b3.cell (p := ⟨g, k * 6 + 1, none⟩) hgl).trans q1, (b3.cell (p := ⟨g, k * 6 + 2, none⟩) hgl).trans q2, (b3.cell (p := ⟨g, k * 6 + 3, none⟩) hgl).trans q3, (b3.cell (p := ⟨g, k * 6 + 4, none⟩) hgl).trans q4, (b3.cell (p := ⟨g, k * 6 + 5, none⟩) hgl).trans q5⟩) | (have hfar : w4.heap[g]? = w3.heap[g]? := (hgrow4.block g (by simp; omega) (by simpa using hne)).trans (Below.heap_alloc _ _ _ (by omega)); exact ⟨(World.cell?_of_block (a := ⟨g, k * 6, none⟩) hfar).trans ((b3.cell (p := ⟨g, k * 6, none⟩) hgl).trans q0), (World.cell?_of_block (a := ⟨g, k * 6 + 1, none⟩) hfar).trans ((b3.cell (p := ⟨g, k * 6 + 1, none⟩) hgl).trans q1), (World.cell?_of_block (a := ⟨g, k * 6 + 2, none⟩) hfar).trans ((b3.cell (p := ⟨g, k * 6 + 2, none⟩) hgl).trans q2), (World.cell?_of_block (a := ⟨g, k * 6 + 3, none⟩) hfar).trans ((b3.cell (p := ⟨g, k * 6 + 3, none⟩) hgl).trans q3), (World.cell?_of_block (a := ⟨g, k * 6 + 4, none⟩) hfar).trans ((b3.cell (p := ⟨g, k * 6 + 4, none⟩) hgl).trans q4), (World.cell?_of_block (a := ⟨g, k * 6 + 5, none⟩) hfar).trans ((b3.cell (p := ⟨g, k * 6 + 5, none⟩) hgl).trans q5)⟩))
        (first
          | (refine step_append_any (by rfl) _ _ 23 (by rfl) wr.heap.size 9 j0 (.string ⟨#[]⟩) 1 16 Tryz.underlying23 ji jz0 jz1 jz2 rfl (by decide) wr.heap.size 0 0 [] (by rfl) HS0.out ⟨bg, 0, none⟩ bn bc (bss.map Value.string) (by rfl) HM1.out HNW.out HU1.out hx1 hx2 (by simp) ?_; intro g3 c3 w3 hown3 hgrow3 hat3 hlt3; have b3 : Below wr.heap.size wr w3 := ((Below.refl wr.heap.size wr).drew.alloc (Nat.le_refl _) _).grown hgrow3 (by simp) (fun j hj => by cases hj; exact Nat.le_refl _); have hsz3 := b3.size; clear HS0)
          | (refine step_append_any (by rfl) _ _ 26 (by rfl) w.heap.size 41 i0 (.agg #[.string ⟨#[]⟩, .string ⟨#[]⟩, .int .i64 0, .int .i64 0, .int .i64 0, .slice none 0 0]) 6 80 Tryz.underlying26 hi hz0 hz1 hz2 rfl (by decide) g2 c2 k _ (by rfl) (World.ownsRow.alloc (HR3.out _ b3) _) ⟨w3.heap.size, 0, none⟩ 1 1 (enBlk ⟨bh, g3, bn, c3, bss⟩) (by rfl) rfl (cells_new w3 _ _) (enBlk_one _) hy1 hy2 (by simp; omega) ?_; intro g4 c4 w4 hown4 hgrow4 hat4 hlt4))
      have hg3 : wr.heap.size ≤ g3 := by
        rcases hat3.out with h | h
        · omega
        · rw [h]; simp
      have hown3' := hown3
      have F3 : Hid (AtS w3 g3 bss) := by
        rw [Nat.zero_add] at hown3
        exact (SRow.at (srow_of (by simpa using hown3) HBN.out)).1
      have HFAR : Hid (∀ c, c < w3.heap.size → c ≠ g2 → w4.heap[c]? = w3.heap[c]?) := fun c hc hne' => (hgrow4.block c (by simp; omega) (by simpa using hne')).trans (Below.heap_alloc _ _ _ hc)
      have hsz4 : w3.heap.size ≤ w4.heap.size := Nat.le_trans (by simp) hgrow4.size
      have B4 : Hid (Below w.heap.size w w4) := ((HB.out.trans (b3.mono hsz)).alloc (by omega) _).grown hgrow4 (by simp; omega) (fun j hj => by
        cases hj
        obtain ⟨g', c', cur, hv, hB', _⟩ := R.out.block
        simp only [Value.slice.injEq, Option.some.injEq, Addr.mk.injEq, and_true] at hv
        omega)
      have R4 : Hid (BRow w.heap.size (.slice (some ⟨g4, 0, none⟩) (k + 1) c4) (cs ++ [⟨bh, g3, bn, c3, bss⟩]) w4) := by
        refine FRow.of ?_ ?_
        · rw [List.flatMap_append]
          simpa using hown4
        · rw [List.length_append, hcl]; rfl
      have O4 : Hid (OwnItems w.heap.size w4 (cs ++ [⟨bh, g3, bn, c3, bss⟩]) ∧ (∀ c ∈ cs ++ [(⟨bh, g3, bn, c3, bss⟩ : BlkV)], c.g ≠ g4) ∧ ∀ c ∈ cs ++ [(⟨bh, g3, bn, c3, bss⟩ : BlkV)], OwnIt w.heap.size w4 c) := by
        have hold : ∀ c ∈ cs, c.g < wr.heap.size ∧ c.g ≠ g2 ∧ w.heap.size ≤ c.g := fun c hc => ⟨(HO.out.1 c hc).1.1.1, HO.out.2.1 c hc, (HO.out.1 c hc).2⟩
        have hg4 : g4 = g2 ∨ w3.heap.size ≤ g4 := by
          rcases hat4.out with h | h
          · exact .inl h.symm
          · exact .inr (by rw [h]; simp)
        have hlt3' := hlt3.out
        refine ⟨?_, ?_, ?_⟩
        · intro c hc
          rcases List.mem_append.1 hc with h | h
          · have h1 := hold c h
            have h2 := (HO.out.1 c h).1
            exact ⟨⟨atS_far (h2.1.below b3 h1.1) (HFAR.out _ (by omega) h1.2.1) hsz4, h2.2⟩, h1.2.2⟩
          · obtain rfl := List.mem_singleton.1 h
            exact ⟨⟨atS_far F3.out (HFAR.out _ hlt3' (by show g3 ≠ g2; omega)) hsz4, HBN.out⟩, by show _ ≤ g3; omega⟩
        · intro c hc
          rcases List.mem_append.1 hc with h | h
          · have h1 := hold c h
            rcases hg4 with h' | h' <;> omega
          · obtain rfl := List.mem_singleton.1 h
            show g3 ≠ g4
            rcases hg4 with h' | h' <;> omega
        · intro c hc
          rcases List.mem_append.1 hc with h | h
          · have h1 := hold c h
            exact ((HO.out.2.2 c h).keep (b3.block _ h1.1)).keep (HFAR.out _ (by omega) h1.2.1)
          · obtain rfl := List.mem_singleton.1 h
            exact OwnIt.keep (c := ⟨bh, g3, bn, c3, bss⟩) (OwnIt.of hown3' hsz) (HFAR.out _ hlt3' (by show g3 ≠ g2; omega))
      have S4 : Hid (SameBlks (bs.take (k + 1)) (cs ++ [⟨bh, g3, bn, c3, bss⟩])) := by
        refine ⟨?_, ?_⟩ <;> rw [HT.out, List.map_append, List.map_append]
        · rw [HSm.out.1]; rfl
        · rw [HSm.out.2]; rfl
      clear hown3 hown3' hgrow3 hown4 hgrow4 hat3 hat4 hlt3 hlt4 HFAR F3 b3 HO R HSm HNW
      go_wp2_with fail
      go_roundw
      case rel => exact ⟨k + 1, g4, c4, _, HK.out, by go_num, rfl, R4, O4, S4, B4⟩
      case measure => have := HK.out; simp [intOf]; omega
    · obtain rfl : k = n := by omega
      have HE : Hid (bs.take k = bs) := by show _ = _; rw [HN.out, List.take_length]
      go_wp2_with fail
      go_ret
      exact ⟨_, cs, rfl, ⟨R.out, HO.out.1, fun c hc h => HO.out.2.1 c hc (by simpa [Value.ownBlock] using h.symm), HO.out.2.2⟩, by rw [HE.out] at HSm; exact HSm.out, HB.out⟩

end Go.Proofs.YtpddholoehmjkaaGreatDoor

set_option linter.unusedVariables false
namespace Go.Proofs.YtpddholoehmjkaaGreatDoor
open Go.RowKit Go.Deep

/-- A list of marks, in memory of its own. -/
def MksPost (ps : List (HeadV × List ByteArray)) (n : Nat) (w : World) (e : Ending) (w' : World) : Prop := ∃ v, e = .returned v ∧ SRow w.heap.size v (marksV ps n) w' ∧ Below w.heap.size w w'
/-- What ChainMarks answers: nothing, or the marks. -/
def MksRes (ps : List (HeadV × List ByteArray)) (n : Nat) (w : World) (e : Ending) (w' : World) : Prop := (okP ps = false ∧ e = .returned (.slice none 0 0) ∧ Below w.heap.size w w') ∨ (okP ps = true ∧ MksPost ps n w e w')
theorem makeS0 (n : Nat) (hn : n ≤ 1048576) (w : World) : (Instr.makeSlice 23 (.int .i64 0) (.int .i64 (n : Int))).run Tryz.prog w = .ok (.slice (some ⟨w.heap.size, 0, none⟩) 0 n) (w.alloc (.cells (sCells (List.replicate n ⟨#[]⟩)) 9)) := by
  obtain ⟨i, hi, hz, hs, hb⟩ := info3 infoStr
  have hb' : (i.bytes : Int) * (n : Int) ≤ 281474976710656 := by rw [hb]; omega
  have hr := run_make (P := Tryz.prog) w 23 9 i _ Tryz.underlying23 hi hz .i64 .i64 0 (n : Int) (by omega) (by omega) hb' (by omega)
  simp only [Int.toNat_natCast, hs, Value.cells, Nat.mul_one] at hr
  rw [← madeCells_S n]
  exact hr

set_option maxHeartbeats 2000000 in
set_option maxRecDepth 100000 in
theorem specL4Marks (g n cap : Nat) (bs : List BlkV) (w : World) (h : BlksS g n cap bs w) (hok : okP (ptsOf bs) = true) :
    Calls Tryz.prog 63 #[.slice (some ⟨g, 0, none⟩) n cap] w fun e w' => MksPost (ptsOf bs) n w e w' := by
  obtain ⟨i0, hi, hz0, hz1, hz2⟩ := info3 infoStr
  have HA : Hid (BlksS g n cap bs w) := h
  have HN : Hid (n = bs.length) := h.b.len
  have hm := h.b.max
  have HOK : Hid (okP (ptsOf bs) = true) := hok
  have hze := specL4Zero
  have HQ : Hid (∀ e w' v, e = .returned v → SRow w.heap.size v (marksV (ptsOf bs) n) w' → Below w.heap.size w w' → MksPost (ptsOf bs) n w e w') := fun e w' v h1 h2 h3 => ⟨v, h1, h2, h3⟩
  generalize MksPost (ptsOf bs) n w = Q at HQ ⊢
  have R0 : Hid (SRow w.heap.size (.slice (some ⟨w.heap.size, 0, none⟩) 0 0) [] (w.alloc (.cells #[] 9))) := srow_new w
  have B0 : Hid (Below w.heap.size w (w.alloc (.cells #[] 9))) := (Below.refl _ w).alloc (Nat.le_refl _) _
  clear h hok
  go_enter Tryz.func63, Tryz.ntmps63
  go_wp2_with fail
  refine (hze _).mono ?_
  rintro e w0 ⟨rfl, rfl⟩
  clear hze
  go_wp2_with fail
  go_loopw [3, 4, 5] (fun v mk i wr => ∃ k g2 c2 : Nat, k ≤ n ∧ i = .int .i64 (k : Int) ∧ mk = .string (mrkA (ptsOf bs) k) ∧ v = .slice (some ⟨g2, 0, none⟩) k c2 ∧ Hid (SRow w.heap.size v (marksV (ptsOf bs) k) wr) ∧ Hid (Below w.heap.size w wr)) (fun _ _ i _ => n - (intOf i).toNat)
  case atStart => exact ⟨0, _, _, by omega, rfl, rfl, rfl, R0, B0⟩
  case round =>
    clear R0 B0
    obtain ⟨k, g2, c2, hk, rfl, rfl, rfl, R, HB⟩ := hrel
    by_cases hlt : k < n
    · have hkl : k < bs.length := by rw [← HN.out]; exact hlt
      have HAr : Hid (BlksS g n cap bs wr) := HA.out.below HB.out
      have q0 := AtBlk.c0 HAr.out.b.at_ k hkl
      have q1 := AtBlk.c1 HAr.out.b.at_ k hkl
      have q2 := AtBlk.c2 HAr.out.b.at_ k hkl
      have q3 := AtBlk.c3 HAr.out.b.at_ k hkl
      have q4 := AtBlk.c4 HAr.out.b.at_ k hkl
      have q5 := AtBlk.c5 HAr.out.b.at_ k hkl
      have HIT : Hid (ItemsAt wr (bs.getD k default)) := HAr.out.b.items _ (blk_mem hkl)
      have lk : (k : Int) < (n : Int) := by omega
      have lk0 : (0 : Int) ≤ (k : Int) := by omega
      have wk : IntKind.i64.wrap ((k : Int) + 1) = (k : Int) + 1 := by rw [IntKind.wrap_i64]; omega
      have HK1 : Hid (k + 1 ≤ n) := hlt
      have HMS : Hid (marksV (ptsOf bs) (k + 1) = marksV (ptsOf bs) k ++ [mrkA (ptsOf bs) (k + 1)]) := marksV_succ _ _
      have HML : Hid ((marksV (ptsOf bs) k).length = k) := marksV_len _ _
      have HSL : Hid ((mrkA (ptsOf bs) k).size = 16) := mrk_len HOK.out k (by omega)
      have hp := blockOk_parts (okP_block HOK.out hkl)
      have hfl := specL3Filter (bs.getD k default).h (bs.getD k default).g (bs.getD k default).n (bs.getD k default).cap (bs.getD k default).ss wr HIT.out.1 HIT.out.2 hp.1 hp.2
      have hmo := fun (w' : World) => specL3Mark (mrkA (ptsOf bs) k) ⟨(filterB (sumB (headX (bs.getD k default).h)) (bs.getD k default).ss).toArray⟩ w' (by rw [HSL.out]; omega) (by
        have := filter_len (isSum_sumB (headX (bs.getD k default).h)) hp.2
        have e : (⟨(filterB (sumB (headX (bs.getD k default).h)) (bs.getD k default).ss).toArray⟩ : ByteArray).size = (filterB (sumB (headX (bs.getD k default).h)) (bs.getD k default).ss).length := by show Array.size (List.toArray _) = _; rw [List.size_toArray]
        omega)
      have e1 : sumB (markT (mrkA (ptsOf bs) k).data.toList (⟨(filterB (sumB (headX (bs.getD k default).h)) (bs.getD k default).ss).toArray⟩ : ByteArray).data.toList) = mrkB (ptsOf bs) (k + 1) := by rw [mrk_step HOK.out hkl]; simp [mrkA]
      rw [e1] at hmo
      generalize (⟨(filterB (sumB (headX (bs.getD k default).h)) (bs.getD k default).ss).toArray⟩ : ByteArray) = fb at hfl hmo
      clear hp
      have HMA : Hid (mrkA (ptsOf bs) (k + 1) = ⟨(mrkB (ptsOf bs) (k + 1)).toArray⟩) := rfl
      generalize (⟨(mrkB (ptsOf bs) (k + 1)).toArray⟩ : ByteArray) = ms at hmo HMA
      generalize bs.getD k default = bb at q0 q1 q2 q3 q4 q5 hfl
      obtain ⟨p, bg, bn, bc, bss⟩ := bb
      unfold blockVal at hfl
      dsimp only at q0 q1 q2 q3 q4 q5 hfl
      generalize mrkA (ptsOf bs) k = mo at hmo HSL ⊢
      clear e1 HIT hkl HAr
      go_wp2_with fail
      refine hfl.mono ?_
      rintro e w1 ⟨rfl, b1⟩
      have HB1 : Hid (Below wr.heap.size wr w1) := b1
      clear hfl q0 q1 q2 q3 q4 q5 b1
      go_wp2_with fail
      refine (hmo _).mono ?_
      rintro e w2 ⟨rfl, b2⟩
      have HB2 : Hid (Below wr.heap.size wr w2) := HB1.out.trans (b2.mono HB1.out.size)
      have HB3 : Hid (Below w.heap.size w w2) := HB.out.trans (HB2.out.mono HB.out.size)
      have HOW : Hid (w2.ownsRow w.heap.size 9 1 (.slice (some ⟨g2, 0, none⟩) k c2) k ((marksV (ptsOf bs) k).map Value.string)) := by
        have := (R.out.below (C := 0) HB2.out).2
        rw [HML.out] at this
        exact this
      have hsz := HB3.out.size
      have hu : ∀ u ∈ ([.string ms] : List Value), u.oneCell' = true := by intro u hu; rw [List.mem_singleton.1 hu]; rfl
      have hx1 : k + 1 ≤ maxLen := by unfold maxLen; omega
      have hx2 : (k + 1) * 16 ≤ 140737488355328 := by omega
      clear hmo b2 HB1 R HB
      go_wp2_with (at_builtin; refine wp_appN rfl _ _ 23 rfl w.heap.size 9 i0 (.string ⟨#[]⟩) 1 16 1 Tryz.underlying23 hi hz0 hz1 hz2 rfl (by decide) (by decide) _ _ _ rfl HOW.out [.string ms] (by first | rfl | simp [Act.eval]) rfl hu hx1 hx2 hsz ?_; intro g4 c4 w4 hown4 hb4 hkeep4)
      have R4 : Hid (SRow w.heap.size (.slice (some ⟨g4, 0, none⟩) (k + 1) c4) (marksV (ptsOf bs) (k + 1)) w4) := by
        refine srow_of ?_ (by rw [marksV_len])
        rw [HMS.out, HMA.out, List.map_append]
        simpa using hown4
      have B4 : Hid (Below w.heap.size w w4) := HB3.out.trans hb4
      clear hown4 hb4 hkeep4
      go_wp2_with fail
      go_roundw
      case rel => exact ⟨k + 1, g4, c4, HK1.out, by go_num, by rw [HMA.out], rfl, R4, B4⟩
      case measure => have := HK1.out; simp [intOf]; omega
    · obtain rfl : k = n := by omega
      go_wp2_with fail
      exact HQ.out _ _ _ rfl R.out HB.out

set_option maxHeartbeats 2000000 in
set_option maxRecDepth 100000 in
theorem specChainMarks (g n cap : Nat) (bs : List BlkV) (w : World) (h : BlksS g n cap bs w) :
    Calls Tryz.prog 26 #[.slice (some ⟨g, 0, none⟩) n cap] w fun e w' => MksRes (ptsOf bs) n w e w' := by
  have hbl := specL4Blocks g n cap bs w h
  cases hok : okP (ptsOf bs) with
  | false =>
    have HQ : Hid (∀ e w', e = .returned (.slice none 0 0) → Below w.heap.size w w' → MksRes (ptsOf bs) n w e w') := fun e w' h1 h2 => .inl ⟨hok, h1, h2⟩
    generalize MksRes (ptsOf bs) n w = Q at HQ ⊢
    rw [hok] at hbl
    clear hok h
    go_enter Tryz.func26, Tryz.ntmps26
    go_wp2_with fail
    refine hbl.mono ?_
    rintro e w1 ⟨rfl, b1⟩
    go_wp2_with fail
    exact HQ.out _ _ rfl b1
  | true =>
    have hmk := fun (w' : World) (hb : Below w.heap.size w w') => specL4Marks g n cap bs w' (h.below hb) hok
    have HQ : Hid (∀ e w' v, e = .returned v → SRow w.heap.size v (marksV (ptsOf bs) n) w' → Below w.heap.size w w' → MksRes (ptsOf bs) n w e w') := fun e w' v h1 h2 h3 => .inr ⟨hok, v, h1, h2, h3⟩
    generalize MksRes (ptsOf bs) n w = Q at HQ ⊢
    rw [hok] at hbl
    clear hok h
    go_enter Tryz.func26, Tryz.ntmps26
    go_wp2_with fail
    refine hbl.mono ?_
    rintro e w1 ⟨rfl, b1⟩
    have hm1 := hmk _ b1
    clear hmk
    go_wp2_with fail
    refine hm1.mono ?_
    rintro e w2 ⟨v, rfl, r2, b2⟩
    have R2 : Hid (SRow w.heap.size v (marksV (ptsOf bs) n) w2) := r2.mono b1.size
    have B2 : Hid (Below w.heap.size w w2) := b1.trans (b2.mono b1.size)
    clear r2 b2 hm1
    go_wp2_with fail
    exact HQ.out _ _ v rfl R2.out B2.out

def fltA (ps : List (HeadV × List ByteArray)) (k : Nat) : ByteArray := ⟨(blockFilter (ps.getD k default).1 (ps.getD k default).2).toArray⟩
/-- The filters of the first blocks. -/
def fltV (ps : List (HeadV × List ByteArray)) (k : Nat) : List ByteArray := (List.range k).map fun i => fltA ps i
theorem fltV_len (ps : List (HeadV × List ByteArray)) (k : Nat) : (fltV ps k).length = k := by simp [fltV]
theorem fltV_succ (ps : List (HeadV × List ByteArray)) (k : Nat) : fltV ps (k + 1) = fltV ps k ++ [fltA ps k] := by simp [fltV, List.range_succ]
theorem fltV_at (ps : List (HeadV × List ByteArray)) {n k : Nat} (h : k < n) : (fltV ps n).getD k ByteArray.empty = fltA ps k := by simp [fltV, h]

set_option maxHeartbeats 4000000 in
set_option maxRecDepth 100000 in
theorem implBlockFilters (g n cap : Nat) (bs : List BlkV) (w : World) (h : Blks g n cap bs w) (hK : RowG w shaK) (hP : TabP w) :
    Calls Tryz.prog 65 #[.slice (some ⟨g, 0, none⟩) n cap] w fun e w' => ∃ v, e = .returned v ∧ SRow w.heap.size v (fltV (ptsOf bs) n) w' ∧ Below w.heap.size w w' := by
  obtain ⟨i0, hi, hz0, hz1, hz2⟩ := info3 infoStr
  have HA : Hid (Blks g n cap bs w) := h
  have HN : Hid (n = bs.length) := h.len
  have hm := h.max
  have HK : Hid (RowG w shaK) := hK
  have HP : Hid (TabP w) := hP
  have HQ : Hid (∀ (e : Ending) (w' : World) (v : Value), e = .returned v → SRow w.heap.size v (fltV (ptsOf bs) n) w' → Below w.heap.size w w' → ∃ v, e = .returned v ∧ SRow w.heap.size v (fltV (ptsOf bs) n) w' ∧ Below w.heap.size w w') := fun e w' v h1 h2 h3 => ⟨v, h1, h2, h3⟩
  clear h hK hP
  have hmk := makeS0 n hm w
  have R0 : Hid (SRow w.heap.size (.slice (some ⟨w.heap.size, 0, none⟩) 0 n) [] (w.alloc (.cells (sCells (List.replicate n ⟨#[]⟩)) 9))) := srow_cap w n (by omega)
  have B0 : Hid (Below w.heap.size w (w.alloc (.cells (sCells (List.replicate n ⟨#[]⟩)) 9))) := (Below.refl _ w).alloc (Nat.le_refl _) _
  generalize w.alloc (.cells (sCells (List.replicate n ⟨#[]⟩)) 9) = wm at hmk R0 B0
  go_enter Tryz.func65, Tryz.ntmps65
  go_wp2_with fail
  clear hmk
  go_loopw [3, 11] (fun v i wr => ∃ k g2 c2 : Nat, k ≤ n ∧ i = .int .i64 (k : Int) ∧ v = .slice (some ⟨g2, 0, none⟩) k c2 ∧ Hid (SRow w.heap.size v (fltV (ptsOf bs) k) wr) ∧ Hid (Below w.heap.size w wr)) (fun _ i _ => n - (intOf i).toNat)
  case atStart => exact ⟨0, _, _, by omega, rfl, rfl, R0, B0⟩
  case round =>
    clear R0 B0
    obtain ⟨k, g2, c2, hk, rfl, rfl, R, HB⟩ := hrel
    by_cases hlt : k < n
    · have hkl : k < bs.length := by rw [← HN.out]; exact hlt
      have HAr : Hid (Blks g n cap bs wr) := HA.out.below HB.out
      have q0 := AtBlk.c0 HAr.out.at_ k hkl
      have q1 := AtBlk.c1 HAr.out.at_ k hkl
      have q2 := AtBlk.c2 HAr.out.at_ k hkl
      have q3 := AtBlk.c3 HAr.out.at_ k hkl
      have q4 := AtBlk.c4 HAr.out.at_ k hkl
      have q5 := AtBlk.c5 HAr.out.at_ k hkl
      have HIT : Hid (ItemsAt wr (bs.getD k default)) := HAr.out.items _ (blk_mem hkl)
      have lk : (k : Int) < (n : Int) := by omega
      have lk0 : (0 : Int) ≤ (k : Int) := by omega
      have wk : IntKind.i64.wrap ((k : Int) + 1) = (k : Int) + 1 := by rw [IntKind.wrap_i64]; omega
      have HK1 : Hid (k + 1 ≤ n) := hlt
      have HMS : Hid (fltV (ptsOf bs) (k + 1) = fltV (ptsOf bs) k ++ [fltA (ptsOf bs) k]) := fltV_succ _ _
      have HML : Hid ((fltV (ptsOf bs) k).length = k) := fltV_len _ _
      have hfl := fun (w' : World) (hb : Below wr.heap.size wr w') => implBlockFilter (bs.getD k default).h (bs.getD k default).g (bs.getD k default).n (bs.getD k default).cap (bs.getD k default).ss w' (HIT.out.1.below hb HIT.out.1.1) HIT.out.2 (HK.out.below (HB.out.trans (hb.mono HB.out.size)) HK.out.lt) (TabP.below HP.out (HB.out.trans (hb.mono HB.out.size)) (Nat.le_refl _))
      have e1 : (⟨(blockFilter (bs.getD k default).h (bs.getD k default).ss).toArray⟩ : ByteArray) = fltA (ptsOf bs) k := by rw [fltA, pts_getD hkl]
      rw [e1] at hfl
      generalize fltA (ptsOf bs) k = ms at hfl HMS
      generalize bs.getD k default = bb at q0 q1 q2 q3 q4 q5 hfl
      obtain ⟨p, bg, bn, bc, bss⟩ := bb
      unfold blockVal at hfl
      dsimp only at q0 q1 q2 q3 q4 q5 hfl
      clear e1 HIT hkl HAr
      have L0 : Hid (Below wr.heap.size wr (wr.alloc (.cells #[.string p.prev, .string p.root, .int .i64 p.time, .int .i64 p.diff, .int .i64 p.nonce, .slice (some ⟨bg, 0, none⟩) bn bc] 41))) := (Below.refl _ wr).alloc (Nat.le_refl _) _
      go_wp2_with fail
      refine (hfl _ L0.out).mono ?_
      rintro e w2 ⟨rfl, b2⟩
      have HB2 : Hid (Below wr.heap.size wr w2) := L0.out.trans (b2.mono L0.out.size)
      have HB3 : Hid (Below w.heap.size w w2) := HB.out.trans (HB2.out.mono HB.out.size)
      have HOW : Hid (w2.ownsRow w.heap.size 9 1 (.slice (some ⟨g2, 0, none⟩) k c2) k ((fltV (ptsOf bs) k).map Value.string)) := by
        have := (R.out.below (C := 0) HB2.out).2
        rw [HML.out] at this
        exact this
      have hsz := HB3.out.size
      have hu : ∀ u ∈ ([.string ms] : List Value), u.oneCell' = true := by intro u hu; rw [List.mem_singleton.1 hu]; rfl
      have hx1 : k + 1 ≤ maxLen := by unfold maxLen; omega
      have hx2 : (k + 1) * 16 ≤ 140737488355328 := by omega
      clear hfl q0 q1 q2 q3 q4 q5 b2 L0 R HB
      go_wp2_with (at_builtin; refine wp_appN rfl _ _ 23 rfl w.heap.size 9 i0 (.string ⟨#[]⟩) 1 16 1 Tryz.underlying23 hi hz0 hz1 hz2 rfl (by decide) (by decide) _ _ _ rfl HOW.out [.string ms] (by first | rfl | simp [Act.eval]) rfl hu hx1 hx2 hsz ?_; intro g4 c4 w4 hown4 hb4 hkeep4)
      have R4 : Hid (SRow w.heap.size (.slice (some ⟨g4, 0, none⟩) (k + 1) c4) (fltV (ptsOf bs) (k + 1)) w4) := by
        refine srow_of ?_ (by rw [fltV_len])
        rw [HMS.out, List.map_append]
        simpa using hown4
      have B4 : Hid (Below w.heap.size w w4) := HB3.out.trans hb4
      clear hown4 hb4 hkeep4
      go_wp2_with fail
      go_roundw
      case rel => exact ⟨k + 1, g4, c4, HK1.out, by go_num, rfl, R4, B4⟩
      case measure => have := HK1.out; simp [intOf]; omega
    · obtain rfl : k = n := by omega
      go_wp2_with fail
      go_ret
      exact HQ.out _ _ _ rfl R.out HB.out

set_option maxHeartbeats 4000000 in
set_option maxRecDepth 100000 in
theorem implChainMarked (g n cap : Nat) (bs : List BlkV) (w : World) (h : AtS w g (fltV (ptsOf bs) n)) (hn : n = bs.length) (hm : n ≤ 1048576) (hok : okP (ptsOf bs) = true) (hK : RowG w shaK) :
    Calls Tryz.prog 64 #[.slice (some ⟨g, 0, none⟩) n cap] w fun e w' => MksPost (ptsOf bs) n w e w' := by
  obtain ⟨i0, hi, hz0, hz1, hz2⟩ := info3 infoStr
  have HA : Hid (AtS w g (fltV (ptsOf bs) n)) := h
  have HN : Hid (n = bs.length) := hn
  have HOK : Hid (okP (ptsOf bs) = true) := hok
  have HK : Hid (RowG w shaK) := hK
  have HQ : Hid (∀ e w' v, e = .returned v → SRow w.heap.size v (marksV (ptsOf bs) n) w' → Below w.heap.size w w' → MksPost (ptsOf bs) n w e w') := fun e w' v h1 h2 h3 => ⟨v, h1, h2, h3⟩
  generalize MksPost (ptsOf bs) n w = Q at HQ ⊢
  clear h hn hok hK
  have hmk := makeS0 n hm w
  have R0 : Hid (SRow w.heap.size (.slice (some ⟨w.heap.size, 0, none⟩) 0 n) [] (w.alloc (.cells (sCells (List.replicate n ⟨#[]⟩)) 9))) := srow_cap w n (by omega)
  have B0 : Hid (Below w.heap.size w (w.alloc (.cells (sCells (List.replicate n ⟨#[]⟩)) 9))) := (Below.refl _ w).alloc (Nat.le_refl _) _
  generalize w.alloc (.cells (sCells (List.replicate n ⟨#[]⟩)) 9) = wm at hmk R0 B0
  go_enter Tryz.func64, Tryz.ntmps64
  go_wp2_with fail
  clear hmk
  go_loopw [3, 4, 12] (fun v mk i wr => ∃ k g2 c2 : Nat, k ≤ n ∧ i = .int .i64 (k : Int) ∧ mk = .string (mrkA (ptsOf bs) k) ∧ v = .slice (some ⟨g2, 0, none⟩) k c2 ∧ Hid (SRow w.heap.size v (marksV (ptsOf bs) k) wr) ∧ Hid (Below w.heap.size w wr)) (fun _ _ i _ => n - (intOf i).toNat)
  case atStart => exact ⟨0, _, _, by omega, rfl, rfl, rfl, R0, B0⟩
  case round =>
    clear R0 B0
    obtain ⟨k, g2, c2, hk, rfl, rfl, rfl, R, HB⟩ := hrel
    by_cases hlt : k < n
    · have hkl : k < bs.length := by rw [← HN.out]; exact hlt
      have HAr : Hid (AtS wr g (fltV (ptsOf bs) n)) := HA.out.below HB.out HA.out.1
      have q0 := HAr.out.2 k (by rw [fltV_len]; exact hlt)
      rw [fltV_at _ hlt] at q0
      have lk : (k : Int) < (n : Int) := by omega
      have lk0 : (0 : Int) ≤ (k : Int) := by omega
      have wk : IntKind.i64.wrap ((k : Int) + 1) = (k : Int) + 1 := by rw [IntKind.wrap_i64]; omega
      have HK1 : Hid (k + 1 ≤ n) := hlt
      have HMS : Hid (marksV (ptsOf bs) (k + 1) = marksV (ptsOf bs) k ++ [mrkA (ptsOf bs) (k + 1)]) := marksV_succ _ _
      have HML : Hid ((marksV (ptsOf bs) k).length = k) := marksV_len _ _
      have HSL : Hid ((mrkA (ptsOf bs) k).size = 16) := mrk_len HOK.out k (by have := HN.out; omega)
      have hmo := fun (w' : World) (hb : Below w.heap.size w w') => implMarkOf (mrkA (ptsOf bs) k) (fltA (ptsOf bs) k) w' (HK.out.below hb HK.out.lt)
      have e1 : markOf (mrkA (ptsOf bs) k).data.toList (fltA (ptsOf bs) k).data.toList = mrkB (ptsOf bs) (k + 1) := by rw [mrkB]; simp [mrkA, fltA]
      rw [e1] at hmo
      generalize fltA (ptsOf bs) k = fb at q0 hmo
      have HMA : Hid (mrkA (ptsOf bs) (k + 1) = ⟨(mrkB (ptsOf bs) (k + 1)).toArray⟩) := rfl
      generalize (⟨(mrkB (ptsOf bs) (k + 1)).toArray⟩ : ByteArray) = ms at hmo HMA
      generalize mrkA (ptsOf bs) k = mo at hmo HSL ⊢
      clear e1 hkl HAr
      have hm1 := hmo _ HB.out
      go_wp2_with fail
      refine hm1.mono ?_
      rintro e w2 ⟨rfl, b2⟩
      have HB2 : Hid (Below wr.heap.size wr w2) := b2
      have HB3 : Hid (Below w.heap.size w w2) := HB.out.trans (HB2.out.mono HB.out.size)
      have HOW : Hid (w2.ownsRow w.heap.size 9 1 (.slice (some ⟨g2, 0, none⟩) k c2) k ((marksV (ptsOf bs) k).map Value.string)) := by
        have := (R.out.below (C := 0) HB2.out).2
        rw [HML.out] at this
        exact this
      have hsz := HB3.out.size
      have hu : ∀ u ∈ ([.string ms] : List Value), u.oneCell' = true := by intro u hu; rw [List.mem_singleton.1 hu]; rfl
      have hx1 : k + 1 ≤ maxLen := by unfold maxLen; omega
      have hx2 : (k + 1) * 16 ≤ 140737488355328 := by omega
      clear hmo hm1 b2 R HB q0
      go_wp2_with (at_builtin; refine wp_appN rfl _ _ 23 rfl w.heap.size 9 i0 (.string ⟨#[]⟩) 1 16 1 Tryz.underlying23 hi hz0 hz1 hz2 rfl (by decide) (by decide) _ _ _ rfl HOW.out [.string ms] (by first | rfl | simp [Act.eval]) rfl hu hx1 hx2 hsz ?_; intro g4 c4 w4 hown4 hb4 hkeep4)
      have R4 : Hid (SRow w.heap.size (.slice (some ⟨g4, 0, none⟩) (k + 1) c4) (marksV (ptsOf bs) (k + 1)) w4) := by
        refine srow_of ?_ (by rw [marksV_len])
        rw [HMS.out, HMA.out, List.map_append]
        simpa using hown4
      have B4 : Hid (Below w.heap.size w w4) := HB3.out.trans hb4
      clear hown4 hb4 hkeep4
      go_wp2_with fail
      go_roundw
      case rel => exact ⟨k + 1, g4, c4, HK1.out, by go_num, by rw [HMA.out], rfl, R4, B4⟩
      case measure => have := HK1.out; simp [intOf]; omega
    · obtain rfl : k = n := by omega
      go_wp2_with fail
      exact HQ.out _ _ _ rfl R.out HB.out

set_option maxHeartbeats 4000000 in
set_option maxRecDepth 100000 in
theorem implChainMarks (g n cap : Nat) (bs : List BlkV) (w : World) (h : Blks g n cap bs w) (hK : RowG w shaK) (hP : TabP w) (hE : ErrT w) :
    Calls Tryz.prog 27 #[.slice (some ⟨g, 0, none⟩) n cap] w fun e w' => MksRes (ptsOf bs) n w e w' := by
  have hbl := implChainOk g n cap bs w h hK hP hE
  cases hok : okP (ptsOf bs) with
  | false =>
    have HQ : Hid (∀ e w', e = .returned (.slice none 0 0) → Below w.heap.size w w' → MksRes (ptsOf bs) n w e w') := fun e w' h1 h2 => .inl ⟨hok, h1, h2⟩
    generalize MksRes (ptsOf bs) n w = Q at HQ ⊢
    rw [hok] at hbl
    clear hok h hK hP hE
    go_enter Tryz.func27, Tryz.ntmps27
    go_wp2_with fail
    refine hbl.mono ?_
    rintro e w1 ⟨rfl, b1⟩
    go_wp2_with fail
    exact HQ.out _ _ rfl b1
  | true =>
    have hbf := fun (w' : World) (hb : Below w.heap.size w w') => implBlockFilters g n cap bs w' (h.below hb) (hK.below hb hK.lt) (TabP.below hP hb (Nat.le_refl _))
    have hcm : Hid (∀ (g2 c2 : Nat) (w' : World), Below w.heap.size w w' → AtS w' g2 (fltV (ptsOf bs) n) → Calls Tryz.prog 64 #[.slice (some ⟨g2, 0, none⟩) n c2] w' fun e w'' => MksPost (ptsOf bs) n w' e w'') := fun g2 c2 w' hb ha => implChainMarked g2 n c2 bs w' ha h.len h.max hok (hK.below hb hK.lt)
    have HFL : Hid ((fltV (ptsOf bs) n).length = n) := fltV_len _ _
    have HQ : Hid (∀ e w' v, e = .returned v → SRow w.heap.size v (marksV (ptsOf bs) n) w' → Below w.heap.size w w' → MksRes (ptsOf bs) n w e w') := fun e w' v h1 h2 h3 => .inr ⟨hok, v, h1, h2, h3⟩
    generalize MksRes (ptsOf bs) n w = Q at HQ ⊢
    rw [hok] at hbl
    clear hok h hK hP hE
    go_enter Tryz.func27, Tryz.ntmps27
    go_wp2_with fail
    refine hbl.mono ?_
    rintro e w1 ⟨rfl, b1⟩
    have hb1 := hbf _ b1
    have B1 : Hid (Below w.heap.size w w1) := b1
    clear hbl hbf b1
    go_wp2_with fail
    refine hb1.mono ?_
    rintro e w2 ⟨v, rfl, r2, b2⟩
    have B2 : Hid (Below w.heap.size w w2) := B1.out.trans (b2.mono B1.out.size)
    obtain ⟨g2, c2, hv⟩ := r2.1
    subst hv
    have hat := (SRow.at r2).1
    rw [HFL.out]
    have hm2 := hcm.out g2 c2 w2 B2.out hat
    clear hb1 r2 b2 hat hcm
    go_wp2_with fail
    refine hm2.mono ?_
    rintro e w3 ⟨v3, rfl, r3, b3⟩
    have R3 : Hid (SRow w.heap.size v3 (marksV (ptsOf bs) n) w3) := r3.mono B2.out.size
    have B3 : Hid (Below w.heap.size w w3) := B2.out.trans (b3.mono B2.out.size)
    clear r3 b3 hm2
    go_wp2_with fail
    exact HQ.out _ _ v3 rfl R3.out B3.out

end Go.Proofs.YtpddholoehmjkaaGreatDoor

set_option linter.unusedVariables false
namespace Go.Proofs.YtpddholoehmjkaaGreatDoor
open Go.ChangeShapes Go.WideShapes Go.ChangeAt Go.RowKit Go.Deep

structure LBlk where
  h : HeadV
  a : Option Addr
  n : Nat
  cap : Nat
  zs : List ByteArray
instance : Inhabited LBlk := ⟨⟨default, none, 0, 0, []⟩⟩
def enL (b : LBlk) : List Value := [.string b.h.prev, .string b.h.root, .int .i64 b.h.time, .int .i64 b.h.diff, .int .i64 b.h.nonce, .slice b.a b.n b.cap]
theorem enL_len (b : LBlk) : (enL b).length = 6 := rfl
def wfL (W : World) (b : LBlk) : Prop := wfHead b.h ∧ IsTexts W b.a b.n b.cap b.zs
abbrev IsBlks (w : World) (a : Option Addr) (len cap : Nat) (l : List LBlk) : Prop := IsFlat enL (wfL w) 6 w a len cap l
theorem texts_below {w w' : World} {a : Option Addr} {len cap : Nat} {zs : List ByteArray} (h : IsTexts w a len cap zs) (hb : Below w.heap.size w w') : IsTexts w' a len cap zs := by
  rcases h with h1 | ⟨x, hx, h1, h2, h3, h4, h5⟩
  · exact .inl h1
  · refine .inr ⟨x, hx, h1, h2, h3, fun i hi => ?_, h5⟩
    have := h4 i hi
    rw [← this]
    exact hb.cell (cell_lt this)
theorem partsL {cs : List Value} {h : HeadV} {b : Value} (hl : cs.length = 6) (h0 : (cs.drop 0).take 5 = enHead h) (h1 : (cs.drop 5).take 1 = [b]) : cs = enHead h ++ [b] := by
  have e : cs = (cs.drop 0).take 5 ++ (cs.drop 5).take 1 := by
    match cs, hl with
    | [x0, x1, x2, x3, x4, x5], _ => rfl
  rw [e, h0, h1]
set_option maxRecDepth 100000 in
theorem invL {H : Type} {enc : TypeId × Value → H} {W : World} {base : Nat} {held : Bool} (n : Nat) (cs : List Value) (y : DataW H × List MemPlace) (h : DataW.trod enc Tryz.prog W base (fun _ => true) held n 63 cs = some y) (hl : cs.length = 6) : ∃ v : LBlk, cs = enL v ∧ wfL W v := by
  obtain ⟨xs, n, _, _, _, hlen, hx⟩ := DataW.trod_struct Tryz.underlying63 h
  match xs, hlen with
  | [y0, y1], _ =>
    have g0 := hx 0 _ rfl
    have g1 := hx 1 _ rfl
    replace g0 : DataW.trod enc Tryz.prog W base (fun _ => true) held n 61 ((cs.drop 0).take (Tryz.prog.cellsOf 61)) = some y0 := g0
    replace g1 : DataW.trod enc Tryz.prog W base (fun _ => true) held n 23 ((cs.drop 5).take (Tryz.prog.cellsOf 23)) = some y1 := g1
    rw [sizeHead] at g0
    rw [cellsStrs] at g1
    obtain ⟨x, hx0, hxw⟩ := invHead _ _ _ g0 (by rw [List.length_take, List.length_drop, hl]; decide)
    rcases open_strings Tryz.underlying23 Tryz.underlying9 (by kernel_rfl) g1 with ⟨hcs1, _⟩ | ⟨a, l, c, zs, hcs1, _, hl1, hm, hz, _, hcell, hwz⟩
    · exact ⟨⟨x, none, 0, 0, []⟩, partsL hl hx0 hcs1, hxw, .inl ⟨rfl, rfl, rfl, rfl⟩⟩
    · exact ⟨⟨x, some a, l, c, zs⟩, partsL hl hx0 hcs1, hxw, .inr ⟨a, rfl, hl1, hm, by simpa using hz, hcell, hwz⟩⟩
theorem open_blocks {H : Type} {enc : TypeId × Value → H} {W : World} {base : Nat} {held : Bool} {a : Option Addr} {len cap : Nat} {d : DataW H} {p : List MemPlace} (h : DataW.Trod enc Tryz.prog W base (fun _ => true) held 22 (.slice a len cap) d p) : ∃ l : List LBlk, IsBlks W a len cap l :=
  open_flat enL (wfL W) Tryz.underlying22 cellsLBlock (fun n cs y h1 h2 => invL n cs y h1 h2) h
theorem cellsL {w : World} {x : Addr} {b : LBlk} (h : ∀ j, j < 6 → w.cell? (x.add j) = (enL b)[j]?) : w.cell? x = some (.string b.h.prev) ∧ w.cell? ⟨x.block, x.off + 1, none⟩ = some (.string b.h.root) ∧ w.cell? ⟨x.block, x.off + 2, none⟩ = some (.int .i64 b.h.time) ∧ w.cell? ⟨x.block, x.off + 3, none⟩ = some (.int .i64 b.h.diff) ∧ w.cell? ⟨x.block, x.off + 4, none⟩ = some (.int .i64 b.h.nonce) ∧ w.cell? ⟨x.block, x.off + 5, none⟩ = some (.slice b.a b.n b.cap) := by
  exact ⟨h 0 (by decide), h 1 (by decide), h 2 (by decide), h 3 (by decide), h 4 (by decide), h 5 (by decide)⟩

def SzQ (zs : List ByteArray) (len : Nat) (e : Ending) : Prop := e = .returned (.int .i64 (-1)) ∨ ∃ r : Nat, e = .returned (.int .i64 (r : Int)) ∧ r ≤ 1048576 ∧ len ≤ 1048576 ∧ ∀ i, i < len → (zs.getD i ByteArray.empty).size ≤ 1048576
set_option maxHeartbeats 1000000 in
set_option maxRecDepth 100000 in
theorem szStrsQ (r0 : Nat) (hr0 : r0 ≤ 1048576) (a : Option Addr) (len cap : Nat) (zs : List ByteArray) (w : World) (h0 : IsTexts w a len cap zs) :
    Calls Tryz.prog 10 #[.slice a len cap, .int .i64 (r0 : Int)] w fun e w' => w = w' ∧ SzQ zs len e := by
  by_cases hl : (r0 : Int) < (len : Int)
  · have hneg : (r0 : Int) - (len : Int) < 0 := by omega
    have hlm : len ≤ 140737488355328 ∨ True := .inr trivial
    have hcap : len ≤ maxLen := by
      rcases h0 with ⟨_, hl0, _⟩ | ⟨x, _, hlc, hm, _⟩
      · omega
      · omega
    unfold maxLen at hcap
    have hwr : IntKind.i64.wrap ((r0 : Int) - (len : Int)) = (r0 : Int) - (len : Int) := by rw [IntKind.wrap_i64]; omega
    clear h0 hlm
    go_enter Tryz.func10, Tryz.ntmps10
    go_wp2
    go_ret
    exact ⟨rfl, .inl rfl⟩
  · have hn : len ≤ 1048576 := by omega
    have HF : Hid (∀ k, k < len → ∃ x : Addr, a = some x ∧ w.cell? (x.add k) = some (.string (zs.getD k ByteArray.empty)) ∧ (zs.getD k ByteArray.empty).size ≤ maxLen) := by
      intro k hk
      rcases h0 with ⟨_, hl, _⟩ | ⟨x, hx, hlc, _, hzl, hcell, hsz⟩
      · omega
      · refine ⟨x, hx, hcell k (by omega), hsz _ ?_⟩
        have : k < zs.length := by omega
        simp [List.getElem?_eq_getElem this]
    have hwr : IntKind.i64.wrap ((r0 : Int) - (len : Int)) = (r0 : Int) - (len : Int) := by rw [IntKind.wrap_i64]; omega
    have hneg : ¬ (r0 : Int) - (len : Int) < 0 := by omega
    clear h0
    go_enter Tryz.func10, Tryz.ntmps10
    go_wp2
    go_loop [1, 5] (fun l i => ∃ k r : Nat, k ≤ len ∧ r ≤ 1048576 ∧ l = .int .i64 (r : Int) ∧ i = .int .i64 (k : Int) ∧ Hid (∀ j, j < k → (zs.getD j ByteArray.empty).size ≤ 1048576)) (fun _ i => len - (intOf i).toNat)
    case atStart => exact ⟨0, r0 - len, by omega, by omega, by show Value.int .i64 _ = Value.int .i64 _; congr 1; omega, rfl, fun j hj => by omega⟩
    case round =>
      obtain ⟨k, r, hk, hr, rfl, rfl, HA⟩ := hrel
      by_cases hlt : k < len
      · obtain ⟨x, rfl, hc, hz⟩ := HF.out k hlt
        have HK : Hid (k + 1 ≤ len) := hlt
        have HZ : Hid (∀ z : ByteArray, z = zs.getD k ByteArray.empty → z.size ≤ 1048576 → ∀ j, j < k + 1 → (zs.getD j ByteArray.empty).size ≤ 1048576) := by
          intro z hz1 hz2 j hj
          rcases Nat.lt_or_ge j k with h' | h'
          · exact HA.out j h'
          · obtain rfl : j = k := by omega
            rw [← hz1]; exact hz2
        obtain ⟨z, hze⟩ : ∃ z, z = zs.getD k ByteArray.empty := ⟨_, rfl⟩
        rw [← hze] at hc hz
        have HE : Hid (z = zs.getD k ByteArray.empty) := hze
        unfold maxLen at hz
        clear hze
        have lk : (k : Int) < (len : Int) := by omega
        by_cases hneg2 : (r : Int) - (z.size : Int) < 0
        · go_wp2_with fail
          go_ret
          exact ⟨rfl, .inl rfl⟩
        · have HS : Hid (z.size ≤ r) := by show _ ≤ _; omega
          go_wp2_with fail
          go_round
          case rel => exact ⟨k + 1, r - z.size, HK.out, by omega, by have := HS.out; show Value.int .i64 _ = Value.int .i64 _; congr 1; omega, by go_num, HZ.out z HE.out (by have := HS.out; omega)⟩
          case measure => have := HK.out; simp [intOf]; omega
      · go_wp2_with fail
        go_ret
        exact ⟨rfl, .inr ⟨r, rfl, hr, hn, by exact fun i hi => HA.out i (by omega)⟩⟩

theorem infoBlkL : (Tryz.prog.info? 41).map (fun i => (i.zero, i.size, i.bytes)) = some (some (.agg #[.string ⟨#[]⟩, .string ⟨#[]⟩, .int .i64 0, .int .i64 0, .int .i64 0, .slice none 0 0]), 6, 80) := by kernel_rfl
/-- What the measure of a block tells. -/
def smallL (b : LBlk) : Prop := smallHead b.h ∧ b.n ≤ 1048576 ∧ ∀ i, i < b.n → (b.zs.getD i ByteArray.empty).size ≤ 1048576
set_option maxHeartbeats 1000000 in
set_option maxRecDepth 100000 in
theorem szBlkR (r0 : Nat) (hr0 : r0 ≤ 1048576) (h : HeadV) (a : Option Addr) (len cap : Nat) (zs : List ByteArray) (w : World) (hw : wfHead h) (h0 : IsTexts w a len cap zs) :
    Calls Tryz.prog 40 #[blockVal h (.slice a len cap), .int .i64 (r0 : Int)] w fun e w' => Below w.heap.size w w' ∧ (e = .returned (.int .i64 (-1)) ∨ ∃ q : Nat, e = .returned (.int .i64 (q : Int)) ∧ q ≤ 1048576 ∧ smallL ⟨h, a, len, cap, zs⟩) := by
  unfold blockVal
  have hsz := fun w' => szHead1 h r0 w' hr0 hw
  have B0 : Hid (CBk _ w.heap.size 63 #[.string h.prev, .string h.root, .int .i64 h.time, .int .i64 h.diff, .int .i64 h.nonce, .slice a len cap]) := CBk.new w 63 #[.string h.prev, .string h.root, .int .i64 h.time, .int .i64 h.diff, .int .i64 h.nonce, .slice a len cap]
  have L0 : Hid (Below w.heap.size w (w.alloc (.cells #[.string h.prev, .string h.root, .int .i64 h.time, .int .i64 h.diff, .int .i64 h.nonce, .slice a len cap] 63))) := (Below.refl _ w).alloc (Nat.le_refl _) _
  have HIT : Hid (∀ w', Below w.heap.size w w' → IsTexts w' a len cap zs) := fun w' hb => texts_below h0 hb
  clear hw h0
  go_enter Tryz.func40, Tryz.ntmps40
  go_wp2_with fail
  refine (hsz _).mono ?_
  rintro e w1 ⟨b1, rfl | ⟨q, rfl, hq, hsm⟩⟩
  · go_wp2_with fail
    go_ret
    exact ⟨L0.out.trans (b1.mono L0.out.size), .inl rfl⟩
  have L1 : Hid (Below w.heap.size w w1) := L0.out.trans (b1.mono L0.out.size)
  have B1 := (B0.out.call b1).six
  obtain ⟨c0, c1, c2, c3, c4, c5, _⟩ := B1
  have HSM : Hid (smallHead h) := hsm
  have hq0 : ¬ (q : Int) < 0 := by omega
  clear hsm B0 L0 b1 hsz
  go_wp2_with fail
  refine (szStrsQ q (by omega) a len cap zs _ (HIT.out _ L1.out)).mono ?_
  rintro e w2 ⟨rfl, hok⟩
  rcases hok with rfl | ⟨r, rfl, hr, h1, h2⟩
  · go_wp2_with fail
    go_ret
    exact ⟨L1.out, .inl rfl⟩
  · have HSZ : Hid (smallL ⟨h, a, len, cap, zs⟩) := ⟨HSM.out, h1, h2⟩
    have hr0 : ¬ (r : Int) < 0 := by omega
    clear h2
    go_wp2_with fail
    go_ret
    exact ⟨L1.out, .inr ⟨r, rfl, by omega, HSZ.out⟩⟩

set_option maxHeartbeats 1000000 in
set_option maxRecDepth 100000 in
theorem szBlks (r0 : Nat) (hr0 : r0 ≤ 1048576) (a : Option Addr) (len cap : Nat) (ls : List LBlk) (w : World) (h : IsBlks w a len cap ls) :
    Calls Tryz.prog 9 #[.slice a len cap, .int .i64 (r0 : Int)] w fun e w' => Below w.heap.size w w' ∧ (e = .returned (.int .i64 (-1)) ∨ ∃ r : Nat, e = .returned (.int .i64 (r : Int)) ∧ r ≤ 1048576 ∧ len ≤ 1048576 ∧ ∀ i, i < len → smallL (ls.getD i default)) := by
  have HP : Hid (IsBlks w a len cap ls) := h
  have hlm : len ≤ maxLen := h.max
  unfold maxLen at hlm
  have hw : IntKind.i64.wrap ((r0 : Int) - (len : Int)) = (r0 : Int) - (len : Int) := by rw [IntKind.wrap_i64]; omega
  clear h
  by_cases hl : r0 < len
  · have hl' : (r0 : Int) - (len : Int) < 0 := by omega
    go_enter Tryz.func9, Tryz.ntmps9
    go_wp2_with fail
    go_ret
    exact ⟨Below.refl _ _, .inl rfl⟩
  · have hl' : ¬ (r0 : Int) - (len : Int) < 0 := by omega
    go_enter Tryz.func9, Tryz.ntmps9
    go_wp2_with fail
    clear hw hl'
    go_loopw [1, 5] (fun l i wr => ∃ (r k : Nat), k ≤ len ∧ r ≤ 1048576 ∧ i = .int .i64 (k : Int) ∧ l = .int .i64 (r : Int) ∧ Hid (Below w.heap.size w wr) ∧ Hid (∀ i, i < k → smallL (ls.getD i default))) (fun _ i _ => len - (intOf i).toNat)
    case atStart => exact ⟨r0 - len, 0, by omega, by omega, rfl, by show Value.int .i64 _ = Value.int .i64 _; congr 1; omega, Below.refl _ _, fun i hi => by omega⟩
    case round =>
      obtain ⟨r, k, hk, hr, rfl, rfl, HB, HS⟩ := hrel
      by_cases hlt : k < len
      · obtain ⟨x, rfl, hp, hwf⟩ := HP.out.at enL_len HB.out k hlt
        obtain ⟨c0, c1, c2, c3, c4, c5⟩ := cellsL hp
        have lk : (k : Int) < (len : Int) := by omega
        have HK : Hid (k + 1 ≤ len) := hlt
        have HN : Hid (smallL (ls.getD k default) → ∀ i, i < k + 1 → smallL (ls.getD i default)) := by
          intro h1 i hi
          rcases Nat.lt_or_ge i k with h' | h'
          · exact HS.out i h'
          · obtain rfl : i = k := by omega
            exact h1
        clear hp
        generalize ls.getD k default = b at c0 c1 c2 c3 c4 c5 hwf HN
        obtain ⟨p, ba, bn, bc, bz⟩ := b
        have hsb := szBlkR r hr p ba bn bc bz wr hwf.1 (texts_below hwf.2 HB.out)
        unfold blockVal at hsb
        dsimp only at c0 c1 c2 c3 c4 c5
        clear hwf
        go_wp2_with fail
        refine hsb.mono ?_
        rintro e w1 ⟨b1, rfl | ⟨q, rfl, hq, hps⟩⟩
        · go_wp2_with fail
          go_ret
          exact ⟨HB.out.trans (b1.mono HB.out.size), .inl rfl⟩
        · have HQ2 : Hid (∀ i, i < k + 1 → smallL (ls.getD i default)) := HN.out hps
          clear HN hps hsb
          have hq0 : ¬ (q : Int) < 0 := by omega
          go_wp2_with fail
          go_roundw
          case rel => exact ⟨q, k + 1, HK.out, by omega, by go_num, rfl, HB.out.trans (b1.mono HB.out.size), HQ2⟩
          case measure => have := HK.out; simp [intOf]; omega
      · go_wp2_with fail
        go_ret
        exact ⟨HB.out, .inr ⟨r, rfl, by omega, by omega, fun i hi => HS.out i (by omega)⟩⟩

def zeroL : LBlk := ⟨zeroHead, none, 0, 0, []⟩
def toL (b : BlkV) : LBlk := ⟨b.h, some ⟨b.g, 0, none⟩, b.n, b.cap, b.ss⟩
abbrev RowL (w : World) (g : Nat) (l : List LBlk) : Prop := RowF enL 41 w g l
theorem makeL (n : Nat) (hn : n ≤ 1048576) (w : World) : (Instr.makeSlice 26 (.int .i64 (n : Int)) (.int .i64 (n : Int))).run Tryz.prog w = .ok (.slice (some ⟨w.heap.size, 0, none⟩) n n) (w.alloc (.cells ((List.replicate n zeroL).flatMap enL).toArray 41)) := by
  obtain ⟨i, hi, hz, hs, hb⟩ := info3 infoBlkL
  have hb' : (i.bytes : Int) * (n : Int) ≤ 281474976710656 := by rw [hb]; omega
  have hr := run_make (P := Tryz.prog) w 26 41 i _ Tryz.underlying26 hi hz .i64 .i64 (n : Int) (n : Int) (by omega) (by omega) hb' (by omega)
  simp only [Int.toNat_natCast, hs, Value.cells] at hr
  rw [← made_flat 6 enL enL_len (by decide) zeroL n]
  exact hr
theorem RowL.put {w : World} {g : Nat} {l : List LBlk} (h : RowL w g l) (i : Nat) (hi : i < l.length) (b : LBlk) :
    RowL ((((((w.setCell ⟨g, i * 6, none⟩ (.string b.h.prev)).setCell ⟨g, i * 6 + 1, none⟩ (.string b.h.root)).setCell ⟨g, i * 6 + 2, none⟩ (.int .i64 b.h.time)).setCell ⟨g, i * 6 + 3, none⟩ (.int .i64 b.h.diff)).setCell ⟨g, i * 6 + 4, none⟩ (.int .i64 b.h.nonce)).setCell ⟨g, i * 6 + 5, none⟩ (.slice b.a b.n b.cap)) g (l.set i b) := by
  show _ = _
  rw [← flat_put 6 enL enL_len l i b hi]
  exact (rowSet (rowSet (rowSet (rowSet (rowSet (rowSet h _) _) _) _) _) _)
theorem toL_flat (cs : List BlkV) : (cs.map toL).flatMap enL = cs.flatMap enBlk := by
  induction cs with
  | nil => rfl
  | cons c cs ih => rw [List.map_cons, List.flatMap_cons, List.flatMap_cons, ih]; rfl
/-- What is handed in, block by block: the head, the items. -/
def ptsL (ls : List LBlk) : List (HeadV × List ByteArray) := ls.map fun b => (b.h, b.zs.take b.n)
theorem ptsL_take {ls : List LBlk} {k : Nat} (hk : k < ls.length) : ptsL (ls.take (k + 1)) = ptsL (ls.take k) ++ [((ls.getD k default).h, (ls.getD k default).zs.take (ls.getD k default).n)] := by
  unfold ptsL
  rw [List.take_add_one, List.getElem?_eq_getElem hk, List.map_append]
  simp [List.getElem?_eq_getElem hk]
/-- The copy of a list of blocks: in memory of its own. -/
structure CopyB (B g n : Nat) (ls : List LBlk) (cs : List BlkV) (w : World) : Prop where
  row : RowF enBlk 41 w g cs
  len : n = cs.length
  pts : cs.map (fun b => (b.h, b.ss)) = ptsL ls
  items : ∀ c ∈ cs, RowS w c.g c.ss ∧ c.n = c.ss.length ∧ c.cap = c.n ∧ g < c.g
  lo : B ≤ g
theorem CopyB.below {B g n : Nat} {ls : List LBlk} {cs : List BlkV} {w w' : World} (h : CopyB B g n ls cs w) (hb : Below w.heap.size w w') : CopyB B g n ls cs w' :=
  ⟨h.row.below hb h.row.lt, h.len, h.pts, fun c hc => ⟨(h.items c hc).1.below hb (h.items c hc).1.lt, (h.items c hc).2⟩, h.lo⟩
theorem CopyB.at {B g n : Nat} {ls : List LBlk} {cs : List BlkV} {w : World} (h : CopyB B g n ls cs w) : AtBlk w g cs := h.row.at 6 enBlk_len
theorem CopyB.its {B g n : Nat} {ls : List LBlk} {cs : List BlkV} {w : World} (h : CopyB B g n ls cs w) : ∀ c ∈ cs, ItemsAt w c := fun c hc => ⟨(h.items c hc).1.at, (h.items c hc).2.1⟩

set_option maxHeartbeats 2000000 in
set_option maxRecDepth 100000 in
theorem toBlks (a : Option Addr) (len cap : Nat) (ls : List LBlk) (w w0 : World) (h0 : IsBlks w0 a len cap ls) (hw : Below w0.heap.size w0 w) (hn : len ≤ 1048576) (hs : ∀ i, i < len → smallL (ls.getD i default)) :
    Calls Tryz.prog 12 #[.slice a len cap] w fun e w' => ∃ cs, e = .returned (.slice (some ⟨w.heap.size, 0, none⟩) len len) ∧ CopyB w.heap.size w.heap.size len ls cs w' ∧ Below w.heap.size w w' := by
  have hmk := makeL len hn w
  have HP : Hid (IsBlks w0 a len cap ls) := h0
  have HW : Hid (Below w0.heap.size w0 w) := hw
  have HLn : Hid (ls.length = len) := h0.len
  have HSM : Hid (∀ i, i < len → smallL (ls.getD i default)) := hs
  have A0 : Hid (RowL (w.alloc (.cells ((List.replicate len zeroL).flatMap enL).toArray 41)) w.heap.size (([] : List BlkV).map toL ++ List.replicate (len - 0) zeroL)) := heap_alloc_new w _
  have B0 : Hid (Below w.heap.size w (w.alloc (.cells ((List.replicate len zeroL).flatMap enL).toArray 41))) := (Below.refl _ w).alloc (Nat.le_refl _) _
  clear h0 hw hs
  generalize w.alloc (.cells ((List.replicate len zeroL).flatMap enL).toArray 41) = wm at hmk A0 B0
  go_enter Tryz.func12, Tryz.ntmps12
  go_wp2_with fail
  clear hmk
  go_loopw [4] (fun i wr => ∃ (k : Nat) (cs : List BlkV), k ≤ len ∧ i = .int .i64 (k : Int) ∧ Hid (cs.length = k ∧ RowL wr w.heap.size (cs.map toL ++ List.replicate (len - k) zeroL) ∧ cs.map (fun b => (b.h, b.ss)) = ptsL (ls.take k) ∧ ∀ c ∈ cs, RowS wr c.g c.ss ∧ c.n = c.ss.length ∧ c.cap = c.n ∧ w.heap.size < c.g) ∧ Hid (Below w.heap.size w wr)) (fun i _ => len - (intOf i).toNat)
  case atStart => exact ⟨0, [], by omega, rfl, ⟨rfl, A0.out, rfl, fun c hc => by cases hc⟩, B0⟩
  case round =>
    clear A0 B0
    obtain ⟨k, cs, hk, rfl, HR, HB⟩ := hrel
    by_cases hlt : k < len
    · obtain ⟨x, rfl, hp, hwf⟩ := HP.out.at enL_len (HW.out.trans (HB.out.mono HW.out.size)) k hlt
      obtain ⟨c0, c1, c2, c3, c4, c5⟩ := cellsL hp
      have HK : Hid (k + 1 ≤ len) := hlt
      have HPT : Hid (ptsL (ls.take (k + 1)) = ptsL (ls.take k) ++ [((ls.getD k default).h, (ls.getD k default).zs.take (ls.getD k default).n)]) := ptsL_take (by rw [HLn.out]; exact hlt)
      have HKL : Hid (k < (cs.map toL ++ List.replicate (len - k) zeroL).length) := by show _ < _; simp [HR.out.1]; omega
      have hsmk := HSM.out k hlt
      have lk : (k : Int) < (len : Int) := by omega
      have hgl : w.heap.size < wr.heap.size := HR.out.2.1.lt
      clear hp
      generalize ls.getD k default = b at c0 c1 c2 c3 c4 c5 hwf HPT hsmk
      obtain ⟨p, ba, bn, bc, bz⟩ := b
      have htb := toBlock1 p ba bn bc bz wr w0 hwf.2 (HW.out.trans (HB.out.mono HW.out.size)) hsmk.2.1
      have HBL : Hid (bn = (bz.take bn).length) := hwf.2.len
      unfold blockVal at htb
      dsimp only at c0 c1 c2 c3 c4 c5 HPT
      clear hwf hsmk
      go_wp2_with fail
      refine htb.mono ?_
      rintro e w1 ⟨g1, rfl, r1, hg1, b1⟩
      unfold blockVal
      have HR1 : Hid (RowL w1 w.heap.size (cs.map toL ++ List.replicate (len - k) zeroL)) := HR.out.2.1.below b1 HR.out.2.1.lt
      have HB1 : Hid (Below w.heap.size w w1) := HB.out.trans (b1.mono HB.out.size)
      have HI1 : Hid (∀ c ∈ cs ++ [(⟨p, g1, bn, bn, bz.take bn⟩ : BlkV)], RowS w1 c.g c.ss ∧ c.n = c.ss.length ∧ c.cap = c.n ∧ w.heap.size < c.g) := by
        intro c hc
        rcases List.mem_append.1 hc with h' | h'
        · have := HR.out.2.2.2 c h'
          exact ⟨this.1.below b1 this.1.lt, this.2⟩
        · rw [List.mem_singleton.1 h']
          exact ⟨r1, HBL.out, rfl, by show w.heap.size < g1; omega⟩
      have HCL : Hid (cs.length = k) := HR.out.1
      have HCP : Hid ((cs ++ [(⟨p, g1, bn, bn, bz.take bn⟩ : BlkV)]).map (fun b : BlkV => (b.h, b.ss)) = ptsL (ls.take (k + 1))) := by
        show _ = _
        rw [HPT.out, List.map_append, HR.out.2.2.1]
        rfl
      have HSE : Hid ((cs.map toL ++ List.replicate (len - k) zeroL).set k ⟨p, some ⟨g1, 0, none⟩, bn, bn, bz.take bn⟩ = (cs ++ [(⟨p, g1, bn, bn, bz.take bn⟩ : BlkV)]).map toL ++ List.replicate (len - (k + 1)) zeroL) := by
        show _ = _
        have e1 : (cs.map toL).length = k := by rw [List.length_map]; exact HR.out.1
        rw [List.set_append_right _ _ (by omega), e1, Nat.sub_self, show len - k = (len - (k + 1)) + 1 from by omega, List.replicate_succ, List.set_cons_zero, List.map_append, List.append_assoc]
        rfl
      have f0 := HR1.out.frozen (k * 6)
      have f1 := HR1.out.frozen (k * 6 + 1)
      have f2 := HR1.out.frozen (k * 6 + 2)
      have f3 := HR1.out.frozen (k * 6 + 3)
      have f4 := HR1.out.frozen (k * 6 + 4)
      have f5 := HR1.out.frozen (k * 6 + 5)
      have d0 := (HR1.out.at 6 enL_len).2 k 0 HKL.out (by decide)
      have d1 := (HR1.out.at 6 enL_len).2 k 1 HKL.out (by decide)
      have d2 := (HR1.out.at 6 enL_len).2 k 2 HKL.out (by decide)
      have d3 := (HR1.out.at 6 enL_len).2 k 3 HKL.out (by decide)
      have d4 := (HR1.out.at 6 enL_len).2 k 4 HKL.out (by decide)
      have d5 := (HR1.out.at 6 enL_len).2 k 5 HKL.out (by decide)
      have HPU := RowL.put HR1.out k HKL.out ⟨p, some ⟨g1, 0, none⟩, bn, bn, bz.take bn⟩
      dsimp only at HPU
      have HPU2 : Hid _ := HPU
      have HLL : Hid (w.heap.size < w1.heap.size) := by show _ < _; have := b1.size; omega
      clear HPU
      generalize (cs.map toL ++ List.replicate (len - k) zeroL).getD k default = o at d0 d1 d2 d3 d4 d5
      obtain ⟨op, oa, on, oc, oz⟩ := o
      simp only [enL, List.getElem?_cons_zero, List.getElem?_cons_succ, Nat.add_zero] at d0 d1 d2 d3 d4 d5
      have HIK : Hid (∀ (j : Nat) (v : Value) (w2 : World), (∀ c ∈ cs ++ [(⟨p, g1, bn, bn, bz.take bn⟩ : BlkV)], RowS w2 c.g c.ss ∧ c.n = c.ss.length ∧ c.cap = c.n ∧ w.heap.size < c.g) → (∀ c ∈ cs ++ [(⟨p, g1, bn, bn, bz.take bn⟩ : BlkV)], RowS (w2.setCell ⟨w.heap.size, j, none⟩ v) c.g c.ss ∧ c.n = c.ss.length ∧ c.cap = c.n ∧ w.heap.size < c.g)) := fun j v w2 hh c hc => ⟨rowS_other (hh c hc).1 (by have := (hh c hc).2.2.2; omega) j v, (hh c hc).2⟩
      clear b1 c0 c1 c2 c3 c4 c5 htb HR r1
      go_wp2_with fail
      go_roundw
      case rel =>
        refine ⟨k + 1, cs ++ [(⟨p, g1, bn, bn, bz.take bn⟩ : BlkV)], HK.out, by go_num, ⟨by rw [List.length_append, HCL.out]; rfl, ?_, HCP.out, ?_⟩, ((((((HB1.out.setCell (p := ⟨w.heap.size, k * 6, none⟩) (Nat.le_refl _) _).setCell (p := ⟨w.heap.size, k * 6 + 1, none⟩) (Nat.le_refl _) _).setCell (p := ⟨w.heap.size, k * 6 + 2, none⟩) (Nat.le_refl _) _).setCell (p := ⟨w.heap.size, k * 6 + 3, none⟩) (Nat.le_refl _) _).setCell (p := ⟨w.heap.size, k * 6 + 4, none⟩) (Nat.le_refl _) _).setCell (p := ⟨w.heap.size, k * 6 + 5, none⟩) (Nat.le_refl _) _)⟩
        · have := HPU2.out
          rw [HSE.out] at this
          exact this
        · exact HIK.out _ _ _ (HIK.out _ _ _ (HIK.out _ _ _ (HIK.out _ _ _ (HIK.out _ _ _ (HIK.out _ _ _ (HI1.out))))))
      case measure => have := HK.out; simp [intOf]; omega
    · obtain rfl : k = len := by omega
      have HF : Hid (CopyB w.heap.size w.heap.size k ls cs wr) := by
        refine ⟨?_, HR.out.1.symm, ?_, HR.out.2.2.2, Nat.le_refl _⟩
        · have := HR.out.2.1
          rw [Nat.sub_self, List.replicate_zero, List.append_nil] at this
          unfold RowL RowF at this
          rw [toL_flat] at this
          exact this
        · rw [HR.out.2.2.1, List.take_of_length_le (by rw [HLn.out]; exact Nat.le_refl _)]
      go_wp2_with fail
      go_ret
      exact ⟨cs, rfl, HF.out, HB.out⟩

set_option maxHeartbeats 2000000 in
set_option maxRecDepth 100000 in
theorem eqBlks (g1 g2 n c1 c2 : Nat) (xs bs : List BlkV) (w : World) (h1 : AtBlk w g1 xs) (h2 : AtBlk w g2 bs) (i1 : ∀ b ∈ xs, ItemsAt w b) (i2 : ∀ b ∈ bs, ItemsAt w b) (hpt : xs.map (fun b => (b.h, b.ss)) = bs.map (fun b => (b.h, b.ss))) (hn : n = xs.length) (hm : n ≤ 1048576) (hf : ∀ b ∈ xs, b.n ≤ 1073741824) :
    Calls Tryz.prog 15 #[.slice (some ⟨g1, 0, none⟩) n c1, .slice (some ⟨g2, 0, none⟩) n c2] w fun e w' => e = .returned (.bool true) ∧ Below w.heap.size w w' := by
  have hnb : n = bs.length := by
    have := congrArg List.length hpt
    rw [List.length_map, List.length_map] at this
    omega
  have HA : Hid (AtBlk w g1 xs ∧ AtBlk w g2 bs ∧ (∀ b ∈ xs, ItemsAt w b) ∧ (∀ b ∈ bs, ItemsAt w b) ∧ Below w.heap.size w w) := ⟨h1, h2, i1, i2, Below.refl _ w⟩
  have HN : Hid (n = xs.length ∧ n = bs.length) := ⟨hn, hnb⟩
  have HPT : Hid (∀ k, k < n → (xs.getD k default).h = (bs.getD k default).h ∧ (xs.getD k default).ss = (bs.getD k default).ss) := by
    intro k hk
    have e := congrArg (fun l => l[k]?) hpt
    have ha : k < xs.length := by omega
    have hb : k < bs.length := by omega
    simp only [List.getElem?_map, List.getElem?_eq_getElem ha, List.getElem?_eq_getElem hb, Option.map_some, Option.some.injEq, Prod.mk.injEq] at e
    rw [List.getD_eq_getElem?_getD, List.getElem?_eq_getElem ha, List.getD_eq_getElem?_getD, List.getElem?_eq_getElem hb]
    exact e
  have HFW : Hid (∀ b ∈ xs, b.n ≤ 1073741824) := hf
  clear h1 h2 hn i1 i2 hpt hnb hf
  go_enter Tryz.func15, Tryz.ntmps15
  go_wp2_with fail
  go_loopw [5] (fun i wr => ∃ k : Nat, k ≤ n ∧ i = .int .i64 (k : Int) ∧ Hid (AtBlk wr g1 xs ∧ AtBlk wr g2 bs ∧ (∀ b ∈ xs, ItemsAt wr b) ∧ (∀ b ∈ bs, ItemsAt wr b) ∧ Below w.heap.size w wr)) (fun i _ => n - (intOf i).toNat)
  case atStart => exact ⟨0, by omega, rfl, HA⟩
  case round =>
    clear HA
    obtain ⟨k, hk, rfl, HA⟩ := hrel
    by_cases hlt : k < n
    · have hka : k < xs.length := by have := HN.out; omega
      have hkb : k < bs.length := by have := HN.out; omega
      have d0 := AtBlk.c0 HA.out.1 k hka
      have e0 := AtBlk.c0 HA.out.2.1 k hkb
      have d1 := AtBlk.c1 HA.out.1 k hka
      have e1 := AtBlk.c1 HA.out.2.1 k hkb
      have d2 := AtBlk.c2 HA.out.1 k hka
      have e2 := AtBlk.c2 HA.out.2.1 k hkb
      have d3 := AtBlk.c3 HA.out.1 k hka
      have e3 := AtBlk.c3 HA.out.2.1 k hkb
      have d4 := AtBlk.c4 HA.out.1 k hka
      have e4 := AtBlk.c4 HA.out.2.1 k hkb
      have d5 := AtBlk.c5 HA.out.1 k hka
      have e5 := AtBlk.c5 HA.out.2.1 k hkb
      have ma : xs.getD k default ∈ xs := by rw [List.getD_eq_getElem?_getD, List.getElem?_eq_getElem hka]; exact List.getElem_mem hka
      have mb : bs.getD k default ∈ bs := by rw [List.getD_eq_getElem?_getD, List.getElem?_eq_getElem hkb]; exact List.getElem_mem hkb
      have ia := HA.out.2.2.1 _ ma
      have ib := HA.out.2.2.2.1 _ mb
      have hfa := HFW.out _ ma
      have hpt := HPT.out k hlt
      have HK : Hid (k + 1 ≤ n) := hlt
      generalize xs.getD k default = p at d0 d1 d2 d3 d4 d5 ia hpt hfa
      generalize bs.getD k default = q at e0 e1 e2 e3 e4 e5 ib hpt
      obtain ⟨ph, pg, pn, pc, ps⟩ := p
      obtain ⟨qh, qg, qn, qc, qs⟩ := q
      dsimp only at d0 d1 d2 d3 d4 d5 e0 e1 e2 e3 e4 e5 hpt hfa
      obtain ⟨rfl, rfl⟩ := hpt
      obtain ⟨ia1, ia2⟩ := ia
      obtain ⟨ib1, ib2⟩ := ib
      dsimp only at ia1 ia2 ib1 ib2
      obtain rfl : pn = qn := by omega
      have heq := fun (w' : World) (hb : Below wr.heap.size wr w') => eqBlock1 ph pg qg pn pc qc ps w' (ia1.below hb ia1.1) (ib1.below hb ib1.1) ia2 hfa
      have lk : (k : Int) < (n : Int) := by omega
      have hbd : Below wr.heap.size wr wr.drew := (Below.refl _ _).drew
      unfold blockVal at heq
      clear hka hkb ma mb ia1 ib1 ia2 ib2 HPT HFW hfa
      go_wp2_with fail
      go_region_with (go_at_call 52; refine (heq _ hbd).mono ?_; rintro e w1 ⟨rfl, b1⟩)
      all_goals
        have HA1 : Hid (AtBlk w1 g1 xs ∧ AtBlk w1 g2 bs ∧ (∀ b ∈ xs, ItemsAt w1 b) ∧ (∀ b ∈ bs, ItemsAt w1 b) ∧ Below w.heap.size w w1) := ⟨HA.out.1.drew.below b1 HA.out.1.1, HA.out.2.1.drew.below b1 HA.out.2.1.1, fun b hb => ⟨(HA.out.2.2.1 b hb).1.below (hbd.trans b1) (HA.out.2.2.1 b hb).1.1, (HA.out.2.2.1 b hb).2⟩, fun b hb => ⟨(HA.out.2.2.2.1 b hb).1.below (hbd.trans b1) (HA.out.2.2.2.1 b hb).1.1, (HA.out.2.2.2.1 b hb).2⟩, HA.out.2.2.2.2.drew.trans (b1.mono HA.out.2.2.2.2.size)⟩
        clear b1
        go_wp2_with fail
        go_roundw
        case rel => exact ⟨k + 1, HK.out, by go_num, HA1⟩
        case measure => have := HK.out; simp [intOf]; omega
    · go_wp2_with fail
      go_ret
      exact ⟨rfl, HA.out.2.2.2.2⟩

end Go.Proofs.YtpddholoehmjkaaGreatDoor

set_option linter.unusedVariables false
namespace Go.Proofs.YtpddholoehmjkaaGreatDoor
open Go.RowKit

def items12 : List ByteArray := [⟨#[97]⟩, ⟨#[98]⟩, ⟨#[99]⟩, ⟨#[100]⟩, ⟨#[97, 110, 110]⟩, ⟨#[98, 111, 98]⟩, ⟨#[99, 121, 100]⟩, ⟨#[120, 49]⟩, ⟨#[120, 50]⟩, ⟨#[120, 51]⟩, ⟨#[122, 122]⟩, ⟨#[108, 111, 110, 103, 110, 97, 109, 101]⟩]
theorem items12_size : ∀ i : Fin 12, 1 ≤ (items12.getD i.val ByteArray.empty).size ∧ (items12.getD i.val ByteArray.empty).size ≤ 8 := by decide
def sums4 : List ByteArray := [⟨#[]⟩, ⟨#[48, 48]⟩, ⟨#[103, 48, 48, 48, 48, 48, 48, 48, 48, 48, 48, 48, 48, 48, 48, 48]⟩, ⟨#[65, 66, 67, 68, 69, 70, 48, 49, 50, 51, 52, 53, 54, 55, 56, 57]⟩]
theorem sums4_size : ∀ i : Fin 4, (sums4.getD i.val ByteArray.empty).size ≤ 16 := by decide

set_option maxHeartbeats 1000000 in
set_option maxRecDepth 100000 in
theorem drawItem (B b p : Nat) (w : World) (h : Rd B b p w) (hp : p < 1000000000) :
    Calls Tryz.prog 106 #[.pointer (some ⟨b, 0, none⟩)] w fun e w' => ∃ s : ByteArray, e = .returned (.string s) ∧ s ∈ items12 ∧ 1 ≤ s.size ∧ s.size ≤ 8 ∧ Rd B b (p + 1) w' ∧ Below b w w' := by
  have hlt := h.lt
  go_enter Tryz.func106, Tryz.ntmps106
  go_wp2_with fail
  have hbk := heap_alloc_new w (.cells (items12.map Value.string).toArray 9)
  refine (of_walk B b p w.heap.size 12 12 items12 _ (h.keep ((Below.refl _ w).alloc (by omega) _)) hp (by omega) (by omega) (cells_texts hbk rfl 12 (by decide)) (by omega)).mono ?_
  rintro e w2 ⟨x, hx, rfl, hr, ho⟩
  have hsz := items12_size ⟨x, hx⟩
  have hmem : items12.getD x ByteArray.empty ∈ items12 := by
    have : x < items12.length := hx
    simp [List.getElem?_eq_getElem this]
  have hb : Below b w w2 := ((Below.refl b w).alloc (by omega) (.cells (items12.map Value.string).toArray 9)).trans (ho.below (Nat.le_refl _))
  dsimp only at hsz
  generalize items12.getD x ByteArray.empty = s at hsz hmem ⊢
  clear ho hbk
  go_wp2
  go_ret
  exact ⟨s, rfl, hmem, hsz.1, hsz.2, hr, hb⟩

end Go.Proofs.YtpddholoehmjkaaGreatDoor

set_option linter.unusedVariables false
namespace Go.Proofs.YtpddholoehmjkaaGreatDoor
open Go.RowKit

/-- Of what lay there block b alone may have turned. -/
def But (b : Nat) (w w' : World) : Prop := w.heap.size ≤ w'.heap.size ∧ ∀ c, c < w.heap.size → c ≠ b → w'.heap[c]? = w.heap[c]?
theorem But.refl (b : Nat) (w : World) : But b w w := ⟨Nat.le_refl _, fun _ _ _ => rfl⟩
theorem But.trans {b : Nat} {u v w : World} (h : But b u v) (k : But b v w) : But b u w :=
  ⟨Nat.le_trans h.1 k.1, fun c hc hb => (k.2 c (Nat.lt_of_lt_of_le hc h.1) hb).trans (h.2 c hc hb)⟩
theorem Only.but {b : Nat} {w w' : World} (h : Only b w w') : But b w w' := ⟨by rw [h.size]; exact Nat.le_refl _, fun c _ hb => h.block c hb⟩
theorem Below.but {b : Nat} {w w' : World} (h : Below w.heap.size w w') : But b w w' := ⟨h.size, fun c hc _ => h.block c hc⟩
theorem But.alloc (b : Nat) (w : World) (o : Obj) : But b w (w.alloc o) := ⟨by simp, fun c hc _ => Below.heap_alloc _ _ _ hc⟩
theorem SRow.but {B b : Nat} {v : Value} {ss : List ByteArray} {w w' : World} (h : SRow B v ss w) (hk : But b w w') (hb : b < B) : SRow B v ss w' := h.keep (fun g hg hl => hk.2 g hl (by omega))

theorem items12_item : ∀ i : Fin 12, isItem (items12.getD i.val ByteArray.empty).data.toList = true := by decide
set_option maxHeartbeats 1000000 in
set_option maxRecDepth 100000 in
theorem drawItemK (B b p : Nat) (w : World) (h : Rd B b p w) (hp : p < 1000000000) :
    Calls Tryz.prog 106 #[.pointer (some ⟨b, 0, none⟩)] w fun e w' => ∃ s : ByteArray, e = .returned (.string s) ∧ isItem s.data.toList = true ∧ Rd B b (p + 1) w' ∧ Below b w w' ∧ But b w w' := by
  have hlt := h.lt
  go_enter Tryz.func106, Tryz.ntmps106
  go_wp2_with fail
  have hbk := heap_alloc_new w (.cells (items12.map Value.string).toArray 9)
  refine (of_walk B b p w.heap.size 12 12 items12 _ (h.keep ((Below.refl _ w).alloc (by omega) _)) hp (by omega) (by omega) (cells_texts hbk rfl 12 (by decide)) (by omega)).mono ?_
  rintro e w2 ⟨x, hx, rfl, hr, ho⟩
  have hsz := items12_item ⟨x, hx⟩
  have hb : Below b w w2 := ((Below.refl b w).alloc (by omega) (.cells (items12.map Value.string).toArray 9)).trans (ho.below (Nat.le_refl _))
  have hbu : But b w w2 := (But.alloc b w _).trans ho.but
  dsimp only at hsz
  generalize items12.getD x ByteArray.empty = s at hsz ⊢
  clear ho hbk
  go_wp2
  go_ret
  exact ⟨s, rfl, hsz, hr, hb, hbu⟩

def ItemsPost (B b p most : Nat) (w : World) (e : Ending) (w' : World) : Prop := ∃ (v : Value) (ss : List ByteArray) (q : Nat), e = .returned v ∧ SRow w.heap.size v ss w' ∧ ss.length ≤ most ∧ (∀ i, i < ss.length → isItem (ss.getD i ByteArray.empty).data.toList = true) ∧ q ≤ p + 1 + most ∧ Rd B b q w' ∧ Below b w w' ∧ But b w w'
def FilterPost (B b p : Nat) (w : World) (e : Ending) (w' : World) : Prop := ∃ (s key : ByteArray) (v : Value) (ss : List ByteArray) (q : Nat), e = .returned (.tuple #[.string s, .string key, v]) ∧ s.size ≤ 300200 ∧ key.size = 16 ∧ SRow w.heap.size v ss w' ∧ ss.length ≤ 8 ∧ (∀ i, i < ss.length → isItem (ss.getD i ByteArray.empty).data.toList = true) ∧ q ≤ p + 20 ∧ Rd B b q w' ∧ Below b w w'

set_option maxHeartbeats 2000000 in
set_option maxRecDepth 100000 in
theorem drawItems (B b p most : Nat) (w : World) (h : Rd B b p w) (hp : p < 1000000000 - 100) (hm : most ≤ 40) :
    Calls Tryz.prog 58 #[.pointer (some ⟨b, 0, none⟩), .int .i64 (most : Int)] w fun e w' => ItemsPost B b p most w e w' := by
  have hlt := h.lt
  obtain ⟨i0, hi, hz0, hz1, hz2⟩ := info_parts infoStr
  have HR0 : Hid (Rd B b p (w.alloc (.cells #[] 9))) := h.keep ((Below.refl _ w).alloc (by omega) _)
  have HZ0 : Hid (SRow w.heap.size (.slice (some ⟨w.heap.size, 0, none⟩) 0 0) [] (w.alloc (.cells #[] 9))) := srow_new w
  have HB0 : Hid (Below b w (w.alloc (.cells #[] 9)) ∧ But b w (w.alloc (.cells #[] 9))) := ⟨(Below.refl _ w).alloc (by omega) _, But.alloc _ _ _⟩
  have hpk := pick_walk B b p ((most : Int) + 1) _ HR0.out (by omega) (by omega)
  clear h
  go_enter Tryz.func58, Tryz.ntmps58
  go_wp2_with fail
  refine hpk.mono ?_
  rintro e w1 ⟨n0, rfl, hn, _, hr1, ho1⟩
  have hn0 : n0 ≤ most := by have := hn (by omega); omega
  have HR1 : Hid (Rd B b (p + 1) w1) := hr1
  have HZ1 : Hid (SRow w.heap.size (.slice (some ⟨w.heap.size, 0, none⟩) 0 0) [] w1) := HZ0.out.but ho1.but hlt
  have HB1 : Hid (Below b w w1 ∧ But b w w1) := ⟨HB0.out.1.trans (ho1.below (Nat.le_refl _)), HB0.out.2.trans ho1.but⟩
  clear hpk hn hr1 ho1 HR0 HZ0 HB0
  go_wp2_with fail
  go_loopw [5, 6] (fun v n wr => ∃ (ss : List ByteArray) (m q k g c : Nat), n = .int .i64 (m : Int) ∧ v = .slice (some ⟨g, 0, none⟩) k c ∧ k + m ≤ most ∧ q ≤ p + 1 + k ∧ Hid (k = ss.length) ∧ Hid (∀ i, i < ss.length → isItem (ss.getD i ByteArray.empty).data.toList = true) ∧ Hid (SRow w.heap.size v ss wr) ∧ Hid (Rd B b q wr) ∧ Hid (Below b w wr ∧ But b w wr)) (fun _ n _ => (intOf n).toNat)
  case atStart => exact ⟨[], n0, p + 1, 0, w.heap.size, 0, rfl, rfl, by omega, by omega, rfl, (fun i hi => by cases hi), HZ1, HR1, HB1⟩
  case round =>
    clear HZ1 HR1 HB1
    obtain ⟨ss, m, q, k, g, c, rfl, rfl, hkm, hq, HK, HS8, HZ, HR, HB⟩ := hrel
    have hszr : w.heap.size ≤ wr.heap.size := HB.out.2.1
    have hltr := HR.out.lt
    by_cases hm0 : 0 < m
    · have hm0' : (0 : Int) < (m : Int) := by omega
      have HM : Hid (m - 1 + 1 = m) := by show _ = _; omega
      have hit := drawItemK B b q wr HR.out (by omega)
      clear hm0
      go_wp2_with fail
      refine hit.mono ?_
      rintro e w2 ⟨s, rfl, hs8, hr2, bl2, bu2⟩
      have HR2 : Hid (Rd B b (q + 1) w2) := hr2
      have hblt := hr2.lt
      have HOW : Hid (w2.ownsRow w.heap.size 9 1 (.slice (some ⟨g, 0, none⟩) k c) k (ss.map Value.string)) := by
        have h5 := (HZ.out.but bu2 hlt).2
        rw [← HK.out] at h5
        exact h5
      have HB2 : Hid (Below b w w2 ∧ But b w w2) := ⟨HB.out.1.trans bl2, HB.out.2.trans bu2⟩
      have hs2 := HB2.out.2.1
      have HS9 : Hid (∀ i, i < (ss ++ [s]).length → isItem ((ss ++ [s]).getD i ByteArray.empty).data.toList = true) := by
        intro i hi
        rcases Nat.lt_or_ge i ss.length with h' | h'
        · have := HS8.out i h'
          rw [List.getD_eq_getElem?_getD, List.getElem?_append_left h', ← List.getD_eq_getElem?_getD]
          exact this
        · have e : i = ss.length := by simp at hi; omega
          subst e
          simp
          exact hs8
      clear hr2 bl2 bu2 hit
      have hx1 : k + 1 ≤ maxLen := by unfold maxLen; omega
      have hx2 : (k + 1) * 16 ≤ 140737488355328 := by omega
      go_wp2_with (at_builtin; refine wp_app1 rfl _ _ 23 rfl w.heap.size 9 i0 (.string ⟨#[]⟩) 16 Tryz.underlying23 hi hz0 hz1 hz2 rfl _ _ _ rfl HOW.out (.string s) rfl rfl hx1 hx2 hs2 ?_; intro g4 c4 w4 hown4 hb4 hkeep4)
      go_roundw
      case rel =>
        refine ⟨ss ++ [s], m - 1, q + 1, k + 1, g4, c4, ?_, rfl, ?_, by omega, ?_, HS9, ?_, HR2.out.keep (hb4.mono (by omega)), HB2.out.1.trans (hb4.mono (by omega)), ?_⟩
        · have := HM.out
          show Value.int .i64 _ = Value.int .i64 _
          congr 1
          omega
        · have := HM.out; omega
        · show _ = _; rw [List.length_append, ← HK.out]; rfl
        · refine SRow.of ?_ (by rw [List.length_append, ← HK.out]; rfl)
          rw [List.map_append]
          exact hown4
        · refine ⟨Nat.le_trans HB2.out.2.1 hb4.size, fun c' hc' hne => ?_⟩
          rw [hb4.block c' hc']
          exact HB2.out.2.2 c' hc' hne
      case measure => have := HM.out; simp [intOf]; omega
    · have hm0' : ¬ (0 : Int) < (m : Int) := by omega
      clear hm0
      go_wp2_with fail
      go_ret
      exact ⟨_, ss, q, rfl, HZ.out, by rw [← HK.out]; omega, HS8.out, by omega, HR.out, HB.out.1, HB.out.2⟩

theorem filterOf_len (k : List UInt8) (ss : List ByteArray) : (filterOf k ss).length ≤ 300200 := by
  cases h1 : isSum k with
  | false => rw [filterOf_no1 h1]; simp
  | true =>
    cases h2 : itemsOkB ss with
    | false => rw [filterOf_no2 h2]; simp
    | true =>
      rw [filterOf_yes h1 h2, filterB, List.length_append]
      have h3 := (varB_length 4 (setL ss).length).2
      have h4 := ricePut_len (gapsL k ss) 5
      have h5 := gaps_ok h1 h2
      rw [ricePut_yes (riceOk_yes h5.1 (by omega) h5.2)] at h4
      have e : (5 : Int).toNat = 5 := rfl
      rw [e] at h4
      omega

end Go.Proofs.YtpddholoehmjkaaGreatDoor

