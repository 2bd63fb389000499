/-
  Texts that the last part needs, joined.
-/
import Derived.Test.YtcaejndpmagfaaaDoorPart1
import Derived.Test.YtcaejndpmagfaaaDoorProg
import Derived.WalkKit
import Derived.WalkSpells
import Derived.BigQuiet
import Derived.Deep.QuietTactic
import Derived.Below
import Derived.Lib.Builder
import Derived.OpenShut
import Derived.Laws.BitsLemmas
import Derived.BigRegion
import Derived.Shelf.Strings.Builder1
import Derived.Shelf.Small.Strs
import Derived.Shelf.Strings.BuilderF
import Derived.Shelf.Strings.BuilderK
import Derived.Shelf.Strings.Search1
import Derived.Shelf.Strings.BuilderCap
import Derived.Lib.UnsafeStr
import Derived.Lib.FrozenHead2
import Derived.Deep.MidRow
import Derived.Deep.RegionWith
import Derived.Deep.OwnRows
import Derived.OwnWalk
import Derived.Lib.BufferRead
set_option linter.unusedVariables false
namespace Go.Proofs.YtcaejndpmagfaaaDoor
open Go.RowKit

/-- A slice of integers that came in: it is nil; or it leads to a row of cells, the numbers zs. -/
def IsRow (k : IntKind) (w : World) (a : Option Addr) (len cap : Nat) (zs : List Int) : Prop :=
  (a = none ∧ len = 0 ∧ cap = 0 ∧ zs = []) ∨
  ∃ x, a = some x ∧ len ≤ cap ∧ cap ≤ maxLen ∧ zs.length = cap ∧ (∀ i, i < zs.length → w.cell? (x.add i) = some (.int k (zs.getD i 0))) ∧ ∀ n ∈ zs, (Lit.int k n).wf = true

theorem xor_nat (X Y : Int) (hX : 0 ≤ X) (hX' : X < 4611686018427387904) (hY : 0 ≤ Y) (hY' : Y < 4611686018427387904) : ∃ u : Nat, bits .xor .i64 X Y = (u : Int) := by
  obtain ⟨a, rfl⟩ := Int.eq_ofNat_of_zero_le hX
  obtain ⟨b, rfl⟩ := Int.eq_ofNat_of_zero_le hY
  refine ⟨a ^^^ b, ?_⟩
  have hx : a ^^^ b < 2 ^ 62 := Nat.xor_lt_two_pow (by omega) (by omega)
  have h1 : (BitVec.ofInt 64 (a : Int)).toNat = a := by
    rw [BitVec.ofInt_natCast, BitVec.toNat_ofNat]; exact Nat.mod_eq_of_lt (by omega)
  have h2 : (BitVec.ofInt 64 (b : Int)).toNat = b := by
    rw [BitVec.ofInt_natCast, BitVec.toNat_ofNat]; exact Nat.mod_eq_of_lt (by omega)
  show IntKind.i64.wrap ((BitVec.ofInt 64 (a : Int) ^^^ BitVec.ofInt 64 (b : Int)).toNat : Int) = _
  rw [BitVec.toNat_xor, h1, h2, IntKind.wrap_i64]
  omega

/-- The reader: its block b, one of the call's own, the bytes that it reads, which came in, its place p. -/
def Rd (B b p : Nat) (w : World) : Prop :=
  B ≤ b ∧ ∃ (a : Option Addr) (n cap : Nat) (zs : List Int), n ≤ 2000 ∧ w.heap[b]? = some (.cells #[.slice a n cap, .int .i64 p] 60 (0, 0)) ∧
    (n ≠ 0 → ∃ x o, a = some ⟨x, o, none⟩ ∧ x < B ∧ (∀ i, i < n → w.cell? ⟨x, o + i, none⟩ = some (.int .u8 (zs.getD i 0)) ∧ 0 ≤ zs.getD i 0 ∧ zs.getD i 0 ≤ 255))

/-- Block b alone has turned. -/
structure Only (b : Nat) (w w' : World) : Prop where
  os : w'.os = w.os
  tape : w'.tape = w.tape
  output : w'.output = w.output
  size : w'.heap.size = w.heap.size
  block : ∀ c, c ≠ b → w'.heap[c]? = w.heap[c]?
theorem Only.below {B b : Nat} {w w' : World} (h : Only b w w') (hb : B ≤ b) : Below B w w' :=
  ⟨h.os, h.tape, h.output, by rw [h.size]; exact Nat.le_refl _, fun k hk => h.block k (by omega)⟩
theorem Only.refl (b : Nat) (w : World) : Only b w w := ⟨rfl, rfl, rfl, rfl, fun _ _ => rfl⟩
theorem Only.trans {b : Nat} {u v w : World} (h : Only b u v) (k : Only b v w) : Only b u w :=
  ⟨k.os.trans h.os, k.tape.trans h.tape, k.output.trans h.output, k.size.trans h.size, fun c hc => (k.block c hc).trans (h.block c hc)⟩
theorem Only.setCell (b o : Nat) (v : Value) (w : World) : Only b w (w.setCell ⟨b, o, none⟩ v) :=
  ⟨rfl, rfl, rfl, by simp [World.setCell], fun c hc => Below.heap_setCell _ _ _ _ hc⟩
theorem Only.drew {b : Nat} {w w' : World} (h : Only b w w') : Only b w w'.drew := ⟨h.os, h.tape, h.output, h.size, h.block⟩
theorem Only.drewN {b : Nat} {w w' : World} (h : Only b w w') (n : Nat) : Only b w (w'.drewN n) := ⟨h.os, h.tape, h.output, h.size, h.block⟩

/-- What a step leaves below block b and in b leaves the reader. -/
theorem Rd.keep {B b p : Nat} {w w' : World} (h : Rd B b p w) (hk : Below (b + 1) w w') : Rd B b p w' := by
  obtain ⟨hB, a, n, cap, zs, hn, hb, hc⟩ := h
  refine ⟨hB, a, n, cap, zs, hn, by rw [hk.block b (by omega)]; exact hb, fun h0 => ?_⟩
  obtain ⟨x, o, ha, hx, hcs⟩ := hc h0
  exact ⟨x, o, ha, hx, fun i hi => ⟨by rw [hk.cell (show (⟨x, o + i, none⟩ : Addr).block < b + 1 by show x < b + 1; omega)]; exact (hcs i hi).1, (hcs i hi).2⟩⟩
theorem Rd.lt {B b p : Nat} {w : World} (h : Rd B b p w) : b < w.heap.size := by
  obtain ⟨_, a, n, cap, zs, _, hb, _⟩ := h
  rcases Nat.lt_or_ge b w.heap.size with h' | h'
  · exact h'
  · simp [Array.getElem?_eq_none h'] at hb

set_option maxHeartbeats 2000000 in
set_option maxRecDepth 100000 in
theorem open_walk (a : Option Addr) (len cap : Nat) (zs : List Int) (w : World) (h : IsRow .u8 w a len cap zs) :
    Calls Tryd.prog 26 #[.slice a len cap] w fun e w' => e = .returned (.pointer (some ⟨w.heap.size, 0, none⟩)) ∧ Rd w.heap.size w.heap.size 0 w' ∧ Below w.heap.size w w' ∧ w'.heap.size = w.heap.size + 1 := by
  rcases h with ⟨rfl, rfl, rfl, rfl⟩ | ⟨x, rfl, hl, hm, hz, hcell, hwz⟩
  · go_enter Tryd.func26, Tryd.ntmps26
    go_wp2
    go_ret
    exact ⟨rfl, ⟨Nat.le_refl _, none, 0, 0, [], by omega, heap_alloc_new w _, fun h => absurd rfl h⟩, (Below.refl _ w).alloc (Nat.le_refl _) _, by simp⟩
  · have hrd : ∀ n, n ≤ len → n ≤ 2000 → Rd w.heap.size w.heap.size 0 (w.alloc (.cells #[.slice (some x) n cap, .int .i64 0] 60)) := by
      intro n hn hn2
      refine ⟨Nat.le_refl _, some x, n, cap, zs, hn2, heap_alloc_new w _, fun h0 => ?_⟩
      obtain ⟨b, o, spot⟩ := x
      have hc0 := hcell 0 (by omega)
      have hspot : spot = none := by simpa [Addr.add] using World.cell?_spot hc0
      subst hspot
      have hlt : b < w.heap.size := World.block_lt_of_cell? w _ hc0
      refine ⟨b, o, rfl, hlt, fun i hi => ?_⟩
      have hci := hcell i (by omega)
      refine ⟨?_, ?_⟩
      · rw [World.cell?_of_block (w := w) (a := ⟨b, o + i, none⟩) (Below.heap_alloc w _ b hlt)]
        by_cases h0 : i = 0
        · subst h0; simpa [Addr.add] using hci
        · simpa [Addr.add, h0] using hci
      · have hmem : zs.getD i 0 ∈ zs := by
          have hi' : i < zs.length := by omega
          simp [List.getElem?_eq_getElem hi']
        have := hwz _ hmem
        exact bounds_u8 this
    by_cases h2 : (2000 : Int) < (len : Int)
    · go_enter Tryd.func26, Tryd.ntmps26
      go_wp2
      go_ret
      exact ⟨rfl, hrd 2000 (by omega) (by omega), (Below.refl _ w).alloc (Nat.le_refl _) _, by simp⟩
    · go_enter Tryd.func26, Tryd.ntmps26
      go_wp2
      go_ret
      exact ⟨rfl, hrd len (by omega) (by omega), (Below.refl _ w).alloc (Nat.le_refl _) _, by simp⟩

theorem Rd.next {B b p : Nat} {w : World} (h : Rd B b p w) : Rd B b (p + 1) (w.setCell ⟨b, 1, none⟩ (.int .i64 (p + 1))) := by
  obtain ⟨hB, a, n, cap, zs, hn, hb, hc⟩ := h
  refine ⟨hB, a, n, cap, zs, hn, by simp [World.setCell, Array.getElem?_modify, hb], fun h0 => ?_⟩
  obtain ⟨x, o, ha, hx, hcs⟩ := hc h0
  refine ⟨x, o, ha, hx, fun i hi => ⟨?_, (hcs i hi).2⟩⟩
  rw [World.cell?_of_block (w := w) (a := ⟨x, o + i, none⟩) (Below.heap_setCell w ⟨b, 1, none⟩ _ x (by show x ≠ b; omega))]
  exact (hcs i hi).1

set_option maxHeartbeats 2000000 in
set_option maxRecDepth 100000 in
theorem pick_walk (B b p : Nat) (n : Int) (w : World) (h : Rd B b p w) (hp : p < 1000000000) (hn31 : n ≤ 1000000000) :
    Calls Tryd.prog 28 #[.pointer (some ⟨b, 0, none⟩), .int .i64 n] w fun e w' => ∃ x : Nat, e = .returned (.int .i64 x) ∧ (1 ≤ n → (x : Int) < n) ∧ (n < 1 → x = 0) ∧ Rd B b (p + 1) w' ∧ Only b w w' := by
  have hnext := h.next
  obtain ⟨hB, a, len, cap, zs, hlen, hb, hc⟩ := h
  have c0 : w.cell? ⟨b, 0, none⟩ = some (.slice a len cap) := by rw [Lib.cell_of_heap hb]; rfl
  have c1 : w.cell? ⟨b, 1, none⟩ = some (.int .i64 p) := by rw [Lib.cell_of_heap hb]; rfl
  have f1 : w.frozen? ⟨b, 1, none⟩ = false := Lib.frozen_of_heap hb 1
  have HO := Only.setCell b 1 (.int .i64 ((p : Int) + 1)) w
  by_cases hn : n < 1
  · go_enter Tryd.func28, Tryd.ntmps28
    go_wp2
    go_ret
    exact ⟨0, rfl, fun h => by omega, fun _ => rfl, hnext, HO⟩
  · by_cases hl0 : len = 0
    · subst hl0
      go_enter Tryd.func28, Tryd.ntmps28
      go_wp2
      go_ret
      exact ⟨0, rfl, by omega, by omega, hnext, HO⟩
    · obtain ⟨x, o, rfl, hxB, hcs⟩ := hc hl0
      have hcx : ∀ i, i < len → (w.setCell ⟨b, 1, none⟩ (.int .i64 ((p : Int) + 1))).cell? ⟨x, o + i, none⟩ = some (.int .u8 (zs.getD i 0)) := by
        intro i hi
        rw [World.cell?_of_block (w := w) (a := ⟨x, o + i, none⟩) (Below.heap_setCell w ⟨b, 1, none⟩ _ x (by show x ≠ b; omega))]
        exact (hcs i hi).1
      have hl0' : ((len : Int) == 0) = false := by simp; omega
      by_cases hpl : p < len
      · have hcp := hcx p hpl
        have hz := (hcs p hpl).2
        obtain ⟨z, hzz⟩ : ∃ z, z = zs.getD p 0 := ⟨_, rfl⟩
        rw [← hzz] at hcp hz
        clear hcx hcs hc hzz
        obtain ⟨hz0, hz1⟩ := hz
        go_enter Tryd.func28, Tryd.ntmps28
        go_wp2
        go_ret
        obtain ⟨y, hy⟩ := Int.eq_ofNat_of_zero_le (Int.emod_nonneg z (show n ≠ 0 by omega))
        have hyl : (y : Int) < n := by rw [← hy]; exact Int.emod_lt_of_pos _ (by omega)
        exact ⟨y, congrArg (fun t => Ending.returned (Value.int .i64 t)) hy, by first | exact fun _ => hyl | exact hyl, by omega, hnext, HO⟩
      · clear hc
        obtain ⟨q1, hq1⟩ : ∃ q : Nat, (p : Int) % (len : Int) = (q : Int) := ⟨p % len, by simp⟩
        have hq1l : (q1 : Int) < (len : Int) := by rw [← hq1]; exact Int.emod_lt_of_pos _ (by omega)
        obtain ⟨q2, hq2⟩ : ∃ q : Nat, ((p : Int) * 7 + 3) % (len : Int) = (q : Int) := ⟨(p * 7 + 3) % len, by simp⟩
        have hq2l : (q2 : Int) < (len : Int) := by rw [← hq2]; exact Int.emod_lt_of_pos _ (by omega)
        obtain ⟨q3, hq3⟩ : ∃ q : Nat, (p : Int) / (len : Int) = (q : Int) := ⟨p / len, by simp⟩
        have hq3l : q3 ≤ p := by
          have : p / len ≤ p := Nat.div_le_self _ _
          have h2 : ((p / len : Nat) : Int) = (q3 : Int) := by rw [← hq3]; simp
          omega
        have hc1 := hcx q1 (by omega)
        have hz1 := (hcs q1 (by omega)).2
        have hc2 := hcx q2 (by omega)
        have hz2 := (hcs q2 (by omega)).2
        obtain ⟨z1, hzz1⟩ : ∃ z, z = zs.getD q1 0 := ⟨_, rfl⟩
        obtain ⟨z2, hzz2⟩ : ∃ z, z = zs.getD q2 0 := ⟨_, rfl⟩
        rw [← hzz1] at hc1 hz1
        rw [← hzz2] at hc2 hz2
        clear hcx hcs hzz1 hzz2
        obtain ⟨hz10, hz11⟩ := hz1
        obtain ⟨hz20, hz21⟩ := hz2
        go_enter Tryd.func28, Tryd.ntmps28
        go_wp2_with fail
        go_quiet (fail)
        go_wp2
        go_ret
        obtain ⟨u, hu⟩ := xor_nat (z1 * 131 + z2 * 1117 + (p : Int) * 29 + (q3 : Int) * 53) ((z1 * 131 + z2 * 1117 + (p : Int) * 29 + (q3 : Int) * 53) / 64) (by omega) (by omega) (by omega) (by omega)
        obtain ⟨y, hy⟩ := Int.eq_ofNat_of_zero_le (Int.emod_nonneg (u : Int) (show n ≠ 0 by omega))
        have hyl : (y : Int) < n := by rw [← hy]; exact Int.emod_lt_of_pos _ (by omega)
        have ht : (bits .xor .i64 (z1 * 131 + z2 * 1117 + (p : Int) * 29 + (q3 : Int) * 53) ((z1 * 131 + z2 * 1117 + (p : Int) * 29 + (q3 : Int) * 53) / 64)).tmod n = (y : Int) := by
          rw [hu, Int.tmod_eq_emod_of_nonneg (by omega)]; exact hy
        exact ⟨y, congrArg (fun t => Ending.returned (Value.int .i64 t)) ht, by first | exact fun _ => hyl | exact hyl, by omega, hnext.keep ⟨rfl, rfl, rfl, Nat.le_refl _, fun _ _ => rfl⟩, HO.drewN nq⟩

/-- One of a list of texts that the call has just laid. -/
theorem of_walk (B b p : Nat) (g n cap : Nat) (ss : List ByteArray) (w : World) (h : Rd B b p w) (hp : p < 1000000000) (hn0 : 1 ≤ n) (hn31 : n ≤ 1000000000) (hcell : ∀ i, i < n → w.cell? ⟨g, i, none⟩ = some (.string (ss.getD i ByteArray.empty))) (hgb : g ≠ b) :
    Calls Tryd.prog 46 #[.pointer (some ⟨b, 0, none⟩), .slice (some ⟨g, 0, none⟩) n cap] w fun e w' => ∃ x : Nat, x < n ∧ e = .returned (.string (ss.getD x ByteArray.empty)) ∧ Rd B b (p + 1) w' ∧ Only b w w' := by
  go_enter Tryd.func46, Tryd.ntmps46
  go_wp2_with (go_at_call 28; refine (pick_walk B b p _ _ h hp (by omega)).mono ?_)
  rintro e w1 ⟨x, rfl, hx, _, hr, ho⟩
  have hxn : (x : Int) < (n : Int) := hx (by omega)
  have hc : w1.cell? ⟨g, x, none⟩ = some (.string (ss.getD x ByteArray.empty)) := by
    rw [World.cell?_of_block (w := w) (a := ⟨g, x, none⟩) (ho.block g hgb)]
    exact hcell x (by omega)
  obtain ⟨z, hz⟩ : ∃ z, z = ss.getD x ByteArray.empty := ⟨_, rfl⟩
  rw [← hz] at hc
  have HZ : Hid (z = ss.getD x ByteArray.empty) := hz
  clear hz hx hcell
  go_wp2
  go_ret
  exact ⟨x, by omega, by rw [← HZ.out]; rfl, hr, ho⟩

/-- The cells of a list of numbers, of texts, that lies whole in a block. -/
theorem cells_ints {w : World} {g : Nat} {zs : List Int} {cs : Array Value} {T : TypeId} {fr : Nat × Nat} (h : w.heap[g]? = some (.cells cs T fr)) (he : cs = (zs.map (Value.int .i64)).toArray) (n : Nat) (hn : n ≤ zs.length) :
    ∀ i, i < n → w.cell? ⟨g, i, none⟩ = some (.int .i64 (zs.getD i 0)) := by
  intro i hi
  rw [Lib.cell_of_heap h, he]
  have : i < zs.length := by omega
  simp [List.getElem?_eq_getElem this]
theorem cells_texts {w : World} {g : Nat} {ss : List ByteArray} {cs : Array Value} {T : TypeId} {fr : Nat × Nat} (h : w.heap[g]? = some (.cells cs T fr)) (he : cs = (ss.map Value.string).toArray) (n : Nat) (hn : n ≤ ss.length) :
    ∀ i, i < n → w.cell? ⟨g, i, none⟩ = some (.string (ss.getD i ByteArray.empty)) := by
  intro i hi
  rw [Lib.cell_of_heap h, he]
  have : i < ss.length := by omega
  simp [List.getElem?_eq_getElem this]

end Go.Proofs.YtcaejndpmagfaaaDoor

set_option linter.unusedVariables false
namespace Go.Proofs.YtcaejndpmagfaaaDoor
open Go.RowKit

def RR (b k : Nat) (st : Nat × Bool × Nat) (w : World) : Prop := w.heap[b]? = some (.cells #[.int .i64 (k : Int), .int .i64 (st.1 : Int), .bool st.2.1, .int .i64 (st.2.2 : Int)] 84 (0, 0))
theorem RR.c0 {b k : Nat} {st : Nat × Bool × Nat} {w : World} (h : RR b k st w) : w.cell? ⟨b, 0, none⟩ = some (.int .i64 (k : Int)) := by rw [Lib.cell_of_heap h]; rfl
theorem RR.c1 {b k : Nat} {st : Nat × Bool × Nat} {w : World} (h : RR b k st w) : w.cell? ⟨b, 1, none⟩ = some (.int .i64 (st.1 : Int)) := by rw [Lib.cell_of_heap h]; rfl
theorem RR.c2 {b k : Nat} {st : Nat × Bool × Nat} {w : World} (h : RR b k st w) : w.cell? ⟨b, 2, none⟩ = some (.bool st.2.1) := by rw [Lib.cell_of_heap h]; rfl
theorem RR.c3 {b k : Nat} {st : Nat × Bool × Nat} {w : World} (h : RR b k st w) : w.cell? ⟨b, 3, none⟩ = some (.int .i64 (st.2.2 : Int)) := by rw [Lib.cell_of_heap h]; rfl
theorem RR.fz {b k : Nat} {st : Nat × Bool × Nat} {w : World} (h : RR b k st w) (i : Nat) : w.frozen? ⟨b, i, none⟩ = false := Lib.frozen_of_heap h i
def R4 (b : Nat) (x0 x1 x2 x3 : Value) (w : World) : Prop := w.heap[b]? = some (.cells #[x0, x1, x2, x3] 84 (0, 0))
theorem R4.set0 {b : Nat} {x0 x1 x2 x3 : Value} {w : World} (h : R4 b x0 x1 x2 x3 w) (v : Value) : R4 b v x1 x2 x3 (w.setCell ⟨b, 0, none⟩ v) := by
  unfold R4 at h ⊢
  simp only [World.setCell, Array.getElem?_modify, h]
  simp
theorem R4.set1 {b : Nat} {x0 x1 x2 x3 : Value} {w : World} (h : R4 b x0 x1 x2 x3 w) (v : Value) : R4 b x0 v x2 x3 (w.setCell ⟨b, 1, none⟩ v) := by
  unfold R4 at h ⊢
  simp only [World.setCell, Array.getElem?_modify, h]
  simp
theorem R4.set2 {b : Nat} {x0 x1 x2 x3 : Value} {w : World} (h : R4 b x0 x1 x2 x3 w) (v : Value) : R4 b x0 x1 v x3 (w.setCell ⟨b, 2, none⟩ v) := by
  unfold R4 at h ⊢
  simp only [World.setCell, Array.getElem?_modify, h]
  simp
theorem R4.set3 {b : Nat} {x0 x1 x2 x3 : Value} {w : World} (h : R4 b x0 x1 x2 x3 w) (v : Value) : R4 b x0 x1 x2 v (w.setCell ⟨b, 3, none⟩ v) := by
  unfold R4 at h ⊢
  simp only [World.setCell, Array.getElem?_modify, h]
  simp
theorem or1 (n b : Nat) (hn : n < 1000000000000) (hb : b ≤ 1) : bits .or .i64 ((n : Int) * 2) (b : Int) = ((n * 2 + b : Nat) : Int) := by
  have e : (n : Int) * 2 = ((n * 2 : Nat) : Int) := by omega
  rw [e, (bits_nat .i64 63 (by decide) (fun m h0 h1 => by rw [IntKind.wrap_i64]; omega) (n * 2) b (by omega) (by omega)).2]
  have := (Nat.two_pow_add_eq_or_of_lt (i := 1) (by omega : b < 2 ^ 1) n).symm
  rw [show (2 : Nat) ^ 1 * n = n * 2 from by omega] at this
  rw [this]

set_option maxHeartbeats 1000000 in
set_option maxRecDepth 100000 in
theorem takeI (b k n left bit : Nat) (rest : Bool) (w : World) (h : RR b k (n, rest, left) w) (hb : bit ≤ 1) (hn : n < 1000000000000) (hk : k ≤ 8) (hl : left ≤ 8) (h1 : rest = true → 1 ≤ left) :
    Calls Tryd.prog 65 #[.pointer (some ⟨b, 0, none⟩), .int .i64 (bit : Int)] w fun e w' =>
      e = .returned (.tuple #[.int .i64 (((takeM k (n, rest, left) bit).2.getD 0 : Nat) : Int), .bool (takeM k (n, rest, left) bit).2.isSome]) ∧ RR b k (takeM k (n, rest, left) bit).1 w' ∧ Only b w w' := by
  have HR : Hid (RR b k (n, rest, left) w) := h
  have c0 := h.c0
  have c1 := h.c1
  have c2 := h.c2
  have c3 := h.c3
  have f0 := h.fz 0
  have f1 := h.fz 1
  have f2 := h.fz 2
  have f3 := h.fz 3
  have ror := or1 n bit hn hb
  clear h
  have H4 : Hid (R4 b (.int .i64 (k : Int)) (.int .i64 (n : Int)) (.bool rest) (.int .i64 (left : Int)) w) := HR.out
  cases rest with
  | true =>
    have hl1 := h1 rfl
    have en : ((n * 2 + bit : Nat) : Int) = (n : Int) * 2 + (bit : Int) := by omega
    by_cases hl2 : 1 < left
    · have hgt : (0 : Int) < (left : Int) - 1 := by omega
      have el : ((left - 1 : Nat) : Int) = (left : Int) - 1 := by omega
      have HM : Hid (takeM k (n, true, left) bit = ((n * 2 + bit, true, left - 1), none)) := by show _ = _; simp [takeM, hl2]
      have HEN : Hid (_ ∧ _) := And.intro en el
      rw [HM.out]
      clear en el
      go_enter Tryd.func65, Tryd.ntmps65
      go_wp2_with fail
      go_ret2
      refine ⟨rfl, ?_, (Only.setCell b 1 _ w).trans (Only.setCell b 3 _ _)⟩
      show R4 b (.int .i64 (k : Int)) (.int .i64 ((n * 2 + bit : Nat) : Int)) (.bool true) (.int .i64 ((left - 1 : Nat) : Int)) _
      rw [HEN.out.1, HEN.out.2]
      exact (H4.out.set1 _).set3 _
    · have hgt : ¬ (0 : Int) < (left : Int) - 1 := by omega
      have HM : Hid (takeM k (n, true, left) bit = ((0, false, 0), some (n * 2 + bit))) := by show _ = _; simp [takeM, hl2]
      have HEN : Hid (((n * 2 + bit : Nat) : Int) = (n : Int) * 2 + (bit : Int)) := en
      rw [HM.out]
      clear en
      go_enter Tryd.func65, Tryd.ntmps65
      go_wp2_with fail
      go_ret2
      refine ⟨?_, ?_, ?_⟩
      · simp
      · exact (((((H4.out.set1 _).set3 _).set0 _).set1 _).set2 _).set3 _
      · exact (((((Only.setCell b 1 _ w).trans (Only.setCell b 3 _ _)).trans (Only.setCell b 0 _ _)).trans (Only.setCell b 1 _ _)).trans (Only.setCell b 2 _ _)).trans (Only.setCell b 3 _ _)
  | false =>
    by_cases hb1 : bit = 1
    · subst hb1
      have HM : Hid (takeM k (n, false, left) 1 = ((n + 1, false, left), none)) := by show _ = _; simp [takeM]
      have HEN : Hid (((n + 1 : Nat) : Int) = (n : Int) + 1) := by show _ = _; omega
      rw [HM.out]
      go_enter Tryd.func65, Tryd.ntmps65
      go_wp2_with fail
      go_ret2
      refine ⟨rfl, ?_, Only.setCell b 1 _ w⟩
      show R4 b (.int .i64 (k : Int)) (.int .i64 ((n + 1 : Nat) : Int)) (.bool false) (.int .i64 (left : Int)) _
      rw [HEN.out]
      exact H4.out.set1 _
    · obtain rfl : bit = 0 := by omega
      by_cases hk0 : 0 < k
      · have hgt : (0 : Int) < (k : Int) := by omega
        have HM : Hid (takeM k (n, false, left) 0 = ((n, true, k), none)) := by show _ = _; simp [takeM, hk0]
        rw [HM.out]
        go_enter Tryd.func65, Tryd.ntmps65
        go_wp2_with fail
        go_ret2
        refine ⟨rfl, ?_, (Only.setCell b 2 _ w).trans (Only.setCell b 3 _ _)⟩
        exact (H4.out.set2 _).set3 _
      · have hgt : ¬ (0 : Int) < (k : Int) := by omega
        have HM : Hid (takeM k (n, false, left) 0 = ((0, false, 0), some n)) := by show _ = _; simp [takeM, hk0]
        rw [HM.out]
        go_enter Tryd.func65, Tryd.ntmps65
        go_wp2_with fail
        go_ret2
        refine ⟨?_, ?_, ?_⟩
        · simp
        · exact (((((H4.out.set2 _).set3 _).set0 _).set1 _).set2 _).set3 _
        · exact (((((Only.setCell b 2 _ w).trans (Only.setCell b 3 _ _)).trans (Only.setCell b 0 _ _)).trans (Only.setCell b 1 _ _)).trans (Only.setCell b 2 _ _)).trans (Only.setCell b 3 _ _)

end Go.Proofs.YtcaejndpmagfaaaDoor

namespace Go.Proofs
open Go.Shelf
def Tryd.lays169_ren : Go.Shelf.Ren := ⟨fun | 169 => 63 | n => n, fun | 70 => 77 | 9 => 9 | 0 => 0 | 72 => 79 | 37 => 28 | 127 => 102 | 3 => 3 | 5 => 5 | n => n, fun | n => n⟩
theorem Tryd.lays169 : Go.Proofs.Lays.n169 Tryd.prog Tryd.lays169_ren := {
  mixed := by kernel_rfl
  f169 := Tryd.func63.trans (congrArg some (by kernel_rfl))
  t0 := Tryd.underlying0
  a0 := Tryd.isAgg0
  z0 := Tryd.sizeOf0
  v0 := Tryd.zeroValue0
  t3 := Tryd.underlying3
  a3 := Tryd.isAgg3
  z3 := Tryd.sizeOf3
  v3 := Tryd.zeroValue3
  t9 := Tryd.underlying9
  a9 := Tryd.isAgg9
  z9 := Tryd.sizeOf9
  v9 := Tryd.zeroValue9
  t37 := Tryd.underlying28
  a37 := Tryd.isAgg28
  z37 := Tryd.sizeOf28
  v37 := Tryd.zeroValue28
  t70 := Tryd.underlying77
  a70 := Tryd.isAgg77
  z70 := Tryd.sizeOf77
  v70 := Tryd.zeroValue77
  t72 := Tryd.underlying79
  a72 := Tryd.isAgg79
  z72 := Tryd.sizeOf79
  v72 := Tryd.zeroValue79
  t127 := Tryd.underlying102
  a127 := Tryd.isAgg102
  z127 := Tryd.sizeOf102
  v127 := Tryd.zeroValue102 }
theorem Tryd.Builder_Extra_169 : Builder.Extra Tryd.prog Tryd.lays169_ren := {
  sizeBuilder := by kernel_rfl
  liesBuilder := by kernel_rfl
  t5 := Tryd.underlying5
  a5 := Tryd.isAgg5
  z5 := Tryd.sizeOf5
  v5 := Tryd.zeroValue5
  infoByte := by kernel_rfl
  cellsByte := by kernel_rfl
  sizeByte := by kernel_rfl
  neB5 := by decide }
open Go.RowKit in
theorem Tryd.Builder_String (B b : Nat) (l : List UInt8) (w : World) (h : Lib.IsBuilder 79 5 B b (Lib.byteCells l) w) (h0 : l ≠ []) :
    Calls Tryd.prog 63 #[.pointer (some ⟨b, 0, none⟩)] w fun e w' => e = .returned (.string ⟨l.toArray⟩) ∧ Below B w w' := Any.Builder_String Tryd.lays169 Tryd.Builder_Extra_169 B b l w h h0
open Go.RowKit in
theorem Tryd.Builder_String_empty (B b : Nat) (w : World) (h : Lib.IsBuilder 79 5 B b [] w) (hBw : B ≤ w.heap.size) :
    Calls Tryd.prog 63 #[.pointer (some ⟨b, 0, none⟩)] w fun e w' => e = .returned (.string ⟨#[]⟩) ∧ Below B w w' := Any.Builder_String_empty Tryd.lays169 Tryd.Builder_Extra_169 B b w h hBw
open Go.RowKit in
theorem Tryd.Builder_String_any (B b : Nat) (l : List UInt8) (w : World) (h : Lib.IsBuilder 79 5 B b (Lib.byteCells l) w) (hBw : B ≤ w.heap.size) :
    Calls Tryd.prog 63 #[.pointer (some ⟨b, 0, none⟩)] w fun e w' => e = .returned (.string ⟨l.toArray⟩) ∧ Below B w w' := Any.Builder_String_any Tryd.lays169 Tryd.Builder_Extra_169 B b l w h hBw
def Tryd.lays137_ren : Go.Shelf.Ren := ⟨fun | 137 => 41 | 217 => 58 | 266 => 77 | n => n, fun | 9 => 9 | 5 => 5 | 3 => 3 | n => n, fun | n => n⟩
theorem Tryd.lays137 : Go.Proofs.Lays.n137 Tryd.prog Tryd.lays137_ren := {
  mixed := by kernel_rfl
  f137 := Tryd.func41.trans (congrArg some (by kernel_rfl))
  f217 := Tryd.func58.trans (congrArg some (by kernel_rfl))
  f266 := Tryd.func77.trans (congrArg some (by kernel_rfl))
  t3 := Tryd.underlying3
  a3 := Tryd.isAgg3
  z3 := Tryd.sizeOf3
  v3 := Tryd.zeroValue3
  t5 := Tryd.underlying5
  a5 := Tryd.isAgg5
  z5 := Tryd.sizeOf5
  v5 := Tryd.zeroValue5
  t9 := Tryd.underlying9
  a9 := Tryd.isAgg9
  z9 := Tryd.sizeOf9
  v9 := Tryd.zeroValue9 }
open Go.RowKit in
theorem Tryd.strings_IndexByte (s : ByteArray) (c : Int) (w : World) :
    Calls Tryd.prog 41 #[.string s, .int .u8 c] w fun e w' => e = .returned (.int .i64 (Lib.indexByte s.data.toList c.toNat.toUInt8)) ∧ w' = w := Any.strings_IndexByte Tryd.lays137 s c w
open Go.RowKit in
theorem Tryd.Builder_String_f (B b : Nat) (l : List UInt8) (w : World) (h : Lib.IsBuilderF 79 5 B b (Lib.byteCells l) w) (h0 : l ≠ []) :
    Calls Tryd.prog 63 #[.pointer (some ⟨b, 0, none⟩)] w fun e w' => e = .returned (.string ⟨l.toArray⟩) ∧ (Lib.IsBuilderF 79 5 B b (Lib.byteCells l) w' ∧ Below B w w') := Any.Builder_String_f Tryd.lays169 Tryd.Builder_Extra_169 B b l w h h0
open Go.RowKit in
theorem Tryd.Builder_String_empty_f (B b : Nat) (w : World) (h : Lib.IsBuilderF 79 5 B b [] w) (hBw : B ≤ w.heap.size) :
    Calls Tryd.prog 63 #[.pointer (some ⟨b, 0, none⟩)] w fun e w' => e = .returned (.string ⟨#[]⟩) ∧ (Lib.IsBuilderF 79 5 B b [] w' ∧ Below B w w') := Any.Builder_String_empty_f Tryd.lays169 Tryd.Builder_Extra_169 B b w h hBw
open Go.RowKit in
theorem Tryd.Builder_String_any_f (B b : Nat) (l : List UInt8) (w : World) (h : Lib.IsBuilderF 79 5 B b (Lib.byteCells l) w) (hBw : B ≤ w.heap.size) :
    Calls Tryd.prog 63 #[.pointer (some ⟨b, 0, none⟩)] w fun e w' => e = .returned (.string ⟨l.toArray⟩) ∧ (Lib.IsBuilderF 79 5 B b (Lib.byteCells l) w' ∧ Below B w w') := Any.Builder_String_any_f Tryd.lays169 Tryd.Builder_Extra_169 B b l w h hBw
open Go.RowKit in
theorem Tryd.Builder_String_k (B b : Nat) (l : List UInt8) (w : World) (h : Lib.IsBuilderF 79 5 B b (Lib.byteCells l) w) (h0 : l ≠ []) :
    Calls Tryd.prog 63 #[.pointer (some ⟨b, 0, none⟩)] w fun e w' => e = .returned (.string ⟨l.toArray⟩) ∧ (Lib.IsBuilderF 79 5 B b (Lib.byteCells l) w' ∧ Below B w w' ∧ Lib.OthersKept 5 (some b) w w') := Any.Builder_String_k Tryd.lays169 Tryd.Builder_Extra_169 B b l w h h0
open Go.RowKit in
theorem Tryd.Builder_String_empty_k (B b : Nat) (w : World) (h : Lib.IsBuilderF 79 5 B b [] w) (hBw : B ≤ w.heap.size) :
    Calls Tryd.prog 63 #[.pointer (some ⟨b, 0, none⟩)] w fun e w' => e = .returned (.string ⟨#[]⟩) ∧ (Lib.IsBuilderF 79 5 B b [] w' ∧ Below B w w' ∧ Lib.OthersKept 5 (some b) w w') := Any.Builder_String_empty_k Tryd.lays169 Tryd.Builder_Extra_169 B b w h hBw
open Go.RowKit in
theorem Tryd.Builder_String_any_k (B b : Nat) (l : List UInt8) (w : World) (h : Lib.IsBuilderF 79 5 B b (Lib.byteCells l) w) (hBw : B ≤ w.heap.size) :
    Calls Tryd.prog 63 #[.pointer (some ⟨b, 0, none⟩)] w fun e w' => e = .returned (.string ⟨l.toArray⟩) ∧ (Lib.IsBuilderF 79 5 B b (Lib.byteCells l) w' ∧ Below B w w' ∧ Lib.OthersKept 5 (some b) w w') := Any.Builder_String_any_k Tryd.lays169 Tryd.Builder_Extra_169 B b l w h hBw
def Tryd.lays217_ren : Go.Shelf.Ren := ⟨fun | 217 => 58 | 266 => 77 | n => n, fun | 9 => 9 | 5 => 5 | 3 => 3 | n => n, fun | n => n⟩
theorem Tryd.lays217 : Go.Proofs.Lays.n217 Tryd.prog Tryd.lays217_ren := {
  mixed := by kernel_rfl
  f217 := Tryd.func58.trans (congrArg some (by kernel_rfl))
  f266 := Tryd.func77.trans (congrArg some (by kernel_rfl))
  t3 := Tryd.underlying3
  a3 := Tryd.isAgg3
  z3 := Tryd.sizeOf3
  v3 := Tryd.zeroValue3
  t5 := Tryd.underlying5
  a5 := Tryd.isAgg5
  z5 := Tryd.sizeOf5
  v5 := Tryd.zeroValue5
  t9 := Tryd.underlying9
  a9 := Tryd.isAgg9
  z9 := Tryd.sizeOf9
  v9 := Tryd.zeroValue9 }
open Go.RowKit Go.Lib in
theorem Tryd.stringslite_IndexByte (s : ByteArray) (c : Int) (w : World) :
    Calls Tryd.prog 58 #[.string s, .int .u8 c] w fun e w' => e = .returned (.int .i64 (Lib.indexByte s.data.toList c.toNat.toUInt8)) ∧ w' = w := Any.stringslite_IndexByte Tryd.lays217 s c w
end Go.Proofs

set_option linter.unusedVariables false
namespace Go.Proofs.YtcaejndpmagfaaaDoor
open Go.Shelf Go.RowKit

theorem infoIntB : (Tryd.prog.info? 3).map (fun i => (i.zero, i.size, i.bytes)) = some (some (.int .i64 0), 1, 8) := by kernel_rfl
theorem infoByteB : (Tryd.prog.info? 5).map (fun i => (i.zero, i.size, i.bytes)) = some (some (.int .u8 0), 1, 1) := by kernel_rfl
def intCells (l : List Nat) : List Value := l.map fun n : Nat => Value.int .i64 (n : Int)
def SAt (b : Nat) (v u : Value) (w : World) : Prop := w.heap[b]? = some (.cells #[v, u] 110 (0, 0))
theorem SAt.c0 {b : Nat} {v u : Value} {w : World} (h : SAt b v u w) : w.cell? ⟨b, 0, none⟩ = some v := by rw [Lib.cell_of_heap h]; rfl
theorem SAt.c1 {b : Nat} {v u : Value} {w : World} (h : SAt b v u w) : w.cell? ⟨b, 1, none⟩ = some u := by rw [Lib.cell_of_heap h]; rfl
theorem SAt.fz {b : Nat} {v u : Value} {w : World} (h : SAt b v u w) (i : Nat) : w.frozen? ⟨b, i, none⟩ = false := Lib.frozen_of_heap h i
theorem SAt.lt {b : Nat} {v u : Value} {w : World} (h : SAt b v u w) : b < w.heap.size := by
  rcases Nat.lt_or_ge b w.heap.size with h' | h'
  · exact h'
  · simp [SAt, Array.getElem?_eq_none h'] at h
theorem SAt.set0 {b : Nat} {v u : Value} {w : World} (h : SAt b v u w) (x : Value) : SAt b x u (w.setCell ⟨b, 0, none⟩ x) := by
  unfold SAt at h ⊢
  simp only [World.setCell, Array.getElem?_modify, h]
  simp
theorem SAt.set1 {b : Nat} {v u : Value} {w : World} (h : SAt b v u w) (x : Value) : SAt b v x (w.setCell ⟨b, 1, none⟩ x) := by
  unfold SAt at h ⊢
  simp only [World.setCell, Array.getElem?_modify, h]
  simp
/-- A row that the call has made stands if its block stands. -/
theorem ownsRow_keep {base : Nat} {e : TypeId} {v : Value} {n : Nat} {xs : List Value} {w w' : World} (h : w.ownsRow base e 1 v n xs) (hk : ∀ g, v.ownBlock = some g → w'.heap[g]? = w.heap[g]?) : w'.ownsRow base e 1 v n xs := by
  refine ⟨h.1, ?_⟩
  rcases h.2 with h2 | ⟨g, cap, cur, hv, h2⟩
  · exact .inl h2
  · refine .inr ⟨g, cap, cur, hv, h2.1, ?_, h2.2.2⟩
    rw [hk g (by rw [hv]; rfl)]
    exact h2.2.1
theorem ownsRow_type {base : Nat} {e : TypeId} {v : Value} {n : Nat} {xs : List Value} {w : World} (h : w.ownsRow base e 1 v n xs) (g : Nat) (hg : v.ownBlock = some g) : ∃ cur, w.heap[g]? = some (.cells cur e (0, 0)) ∧ g < w.heap.size := by
  rcases h.2 with ⟨h2, _⟩ | ⟨g', cap, cur, hv, h2⟩
  · rw [h2] at hg; cases hg
  · rw [hv] at hg
    obtain rfl : g' = g := by simpa [Value.ownBlock] using hg
    refine ⟨cur, h2.2.1, ?_⟩
    rcases Nat.lt_or_ge g' w.heap.size with h' | h'
    · exact h'
    · have := h2.2.1
      simp [Array.getElem?_eq_none h'] at this
theorem intCell_at {base : Nat} {e : TypeId} {g n cap : Nat} {m : List Nat} {w : World} (h : w.ownsRow base e 1 (.slice (some ⟨g, 0, none⟩) n cap) n (intCells m)) (i : Nat) (hi : i < m.length) : w.cell? ⟨g, i, none⟩ = some (.int .i64 ((m.getD i 0 : Nat) : Int)) := by
  have hl : m.length = n := by have := h.1; simpa [intCells] using this
  rcases h.2 with ⟨h2, _⟩ | ⟨g', cap', cur, hv, _, hc, _, _, _, ht⟩
  · cases h2
  · simp only [Value.slice.injEq, Option.some.injEq, Addr.mk.injEq, and_true, true_and] at hv
    obtain ⟨rfl, rfl⟩ := hv
    rw [Lib.cell_of_heap hc, ← Array.getElem?_toList]
    have h3 : cur.toList[i]? = (intCells m)[i]? := by rw [← ht, List.getElem?_take]; simp [← hl, hi]
    rw [h3]
    simp [intCells, List.getElem?_eq_getElem hi]
theorem take_valB (m : List Nat) (j : Nat) (hj : j < m.length) : valB (m.take (j + 1)) = valB (m.take j) * 2 + m.getD j 0 := by
  have : m.take (j + 1) = m.take j ++ [m.getD j 0] := by
    rw [List.take_add_one, List.getElem?_eq_getElem hj]
    simp [List.getElem?_eq_getElem hj]
  rw [this, valB_snoc]
/-- The writer: its full bytes, and the bits that wait. -/
def SB (B b : Nat) (s : List UInt8 × List Nat) (w : World) : Prop :=
  B ≤ b ∧ ∃ v u, SAt b v u w ∧ w.ownsRow B 5 1 v s.1.length (Lib.byteCells s.1) ∧ w.ownsRow B 3 1 u s.2.length (intCells s.2)

set_option maxHeartbeats 1000000 in
set_option maxRecDepth 100000 in
theorem putS (B b : Nat) (s : List UInt8 × List Nat) (bit : Nat) (w : World) (h : SB B b s w) (hok : okB s) (hb : bit ≤ 1) (hlen : s.1.length + 1 ≤ 1000000000) :
    Calls Tryd.prog 90 #[.pointer (some ⟨b, 0, none⟩), .int .i64 (bit : Int)] w fun e w' => e = .returned (.tuple #[]) ∧ SB B b (stepB s bit) w' ∧ Below B w w' := by
  obtain ⟨o, l⟩ := s
  obtain ⟨i1, hi1, hz1, hz2, hz3⟩ := info_parts infoIntB
  obtain ⟨i0, hi0, hy1, hy2, hy3⟩ := info_parts infoByteB
  obtain ⟨hB, v, u, hs, ho, hl⟩ := h
  have c0 := hs.c0
  have c1 := hs.c1
  have HSS : Hid (SAt b v u w) := hs
  have hlt := hs.lt
  have HO : Hid (w.ownsRow B 5 1 v o.length (Lib.byteCells o)) := ho
  clear hs ho
  go_enter Tryd.func90, Tryd.ntmps90
  go_wp2_with (at_builtin; refine wp_app1 rfl _ _ 31 rfl B 3 i1 (.int .i64 0) 8 Tryd.underlying31 hi1 hz1 hz2 hz3 rfl _ l.length (intCells l) rfl hl (.int .i64 (bit : Int)) rfl rfl ?c3 ?c4 ?c5 ?_)
  case c3 => have := hok.1; unfold maxLen; dsimp only at this; omega
  case c4 => have := hok.1; dsimp only at this; omega
  case c5 => omega
  intro g cap w2 hown hb2 hoth
  have hub : u.ownBlock ≠ some b := by
    intro he
    obtain ⟨cur, hc, _⟩ := ownsRow_type hl b he
    rw [HSS.out] at hc
    simp only [Option.some.injEq, Obj.cells.injEq] at hc
    exact absurd hc.2.1 (by decide)
  have hs2 : SAt b v u w2 := by
    unfold SAt
    rw [hoth b hlt hub]
    exact HSS.out
  have HO2 : Hid (w2.ownsRow B 5 1 v o.length (Lib.byteCells o)) := by
    refine ownsRow_keep HO.out (fun g' hg' => ?_)
    obtain ⟨cur, hc, hlt'⟩ := ownsRow_type HO.out g' hg'
    refine hoth g' hlt' (fun he => ?_)
    obtain ⟨cur2, hc2, _⟩ := ownsRow_type hl g' he
    rw [hc] at hc2
    simp only [Option.some.injEq, Obj.cells.injEq] at hc2
    exact absurd hc2.2.1 (by decide)
  have hgb : g ≠ b := by
    intro he
    obtain ⟨cur, hc, _⟩ := ownsRow_type hown g rfl
    rw [he, hs2] at hc
    simp only [Option.some.injEq, Obj.cells.injEq] at hc
    exact absurd hc.2.1 (by decide)
  have hvb : v.ownBlock ≠ some b := by
    intro he
    obtain ⟨cur, hc, _⟩ := ownsRow_type HO2.out b he
    rw [hs2] at hc
    simp only [Option.some.injEq, Obj.cells.injEq] at hc
    exact absurd hc.2.1 (by decide)
  have d0 := hs2.c0
  have d1 := hs2.c1
  have f0 := hs2.fz 0
  have f1 := hs2.fz 1
  obtain ⟨w3, hw3⟩ : ∃ w3, w3 = w2.setCell ⟨b, 1, none⟩ (.slice (some ⟨g, 0, none⟩) (l.length + 1) cap) := ⟨_, rfl⟩
  have HW3 : Hid (w3 = w2.setCell ⟨b, 1, none⟩ (.slice (some ⟨g, 0, none⟩) (l.length + 1) cap)) := hw3
  have HS3 : Hid (SAt b v (.slice (some ⟨g, 0, none⟩) (l.length + 1) cap) w3) := by rw [hw3]; exact hs2.set1 _
  have HO3 : Hid (w3.ownsRow B 5 1 v o.length (Lib.byteCells o)) := by
    rw [hw3]
    exact ownsRow_keep HO2.out (fun g' hg' => Below.heap_setCell w2 ⟨b, 1, none⟩ _ g' (fun e => hvb (by rw [hg', e])))
  have HL3 : Hid (w3.ownsRow B 3 1 (.slice (some ⟨g, 0, none⟩) (l.length + 1) cap) (l.length + 1) (intCells (l ++ [bit]))) := by
    rw [hw3]
    have : intCells (l ++ [bit]) = intCells l ++ [.int .i64 (bit : Int)] := by simp [intCells]
    rw [this]
    exact ownsRow_keep hown (fun g' hg' => Below.heap_setCell w2 ⟨b, 1, none⟩ _ g' (fun e => hgb (by simpa [Value.ownBlock, e] using hg')))
  have HB3 : Hid (Below B w w3) := by rw [hw3]; exact hb2.setCell (p := ⟨b, 1, none⟩) hB _
  clear hw3 hl hown hoth hb2 hs2 HO HO2 HSS c0 c1
  by_cases h7 : l.length = 7
  · have HS : Hid (stepB (o, l) bit = (o ++ [UInt8.ofNat (valB (l ++ [bit]))], [])) := by
      show _ = _
      simp [stepB, h7]
    rw [h7] at HS3 HL3 HW3
    have HW8 : Hid (w2.setCell ⟨b, 1, none⟩ (.slice (some ⟨g, 0, none⟩) 8 cap) = w3) := by show _ = _; rw [HW3.out]
    have h8 : ((l.length + 1 : Nat) : Int) = 8 := by omega
    have hbl : ∀ x ∈ l ++ [bit], x ≤ 1 := by
      intro x hx
      rcases List.mem_append.1 hx with hx | hx
      · exact hok.2 x hx
      · simp at hx; omega
    have hml : (l ++ [bit]).length = 8 := by simp [h7]
    go_wp2_with fail
    rw [HW8.out]
    have c1 : w3.cell? ⟨b, 1, none⟩ = some (.slice (some ⟨g, 0, none⟩) 8 cap) := HS3.out.c1
    have HBL : Hid (∀ x ∈ l ++ [bit], x ≤ 1) := hbl
    have HML : Hid ((l ++ [bit]).length = 8) := hml
    obtain ⟨m, hm⟩ : ∃ m, m = l ++ [bit] := ⟨_, rfl⟩
    rw [← hm] at HL3 HS HBL HML
    have g0 := HS3.out.fz 0
    have g1 := HS3.out.fz 1
    have c0 := HS3.out.c0
    have hlt3 := HS3.out.lt
    clear hm hbl hml d0 d1 f0 f1 HW8 HW3 h8 h7
    go_loop [4, 5] (fun n i => ∃ j x : Nat, j ≤ 8 ∧ i = .int .i64 (j : Int) ∧ n = .int .i64 (x : Int) ∧ x < 256 ∧ Hid (x = valB (m.take j))) (fun _ i => 8 - (intOf i).toNat)
    case atStart => exact ⟨0, 0, by omega, rfl, rfl, by omega, rfl⟩
    case round =>
      obtain ⟨j, x, hj, rfl, rfl, hx, HX⟩ := hrel
      by_cases hj8 : j < 8
      · have hjm : j < m.length := by rw [HML.out]; exact hj8
        have cj := intCell_at HL3.out j hjm
        have HX2 : Hid (x * 2 + m.getD j 0 = valB (m.take (j + 1))) := by show _ = _; rw [take_valB m j hjm, ← HX.out]
        have hy : m.getD j 0 ≤ 1 := by
          rw [List.getD_eq_getElem?_getD, List.getElem?_eq_getElem hjm]
          exact HBL.out _ (List.getElem_mem hjm)
        have hxx : x * 2 + m.getD j 0 < 256 := by
          have h1 := valB_lt (m.take (j + 1)) (fun y hy => HBL.out y (List.mem_of_mem_take hy))
          have h2 : (m.take (j + 1)).length ≤ 8 := by simp [HML.out]; omega
          have h3 : 2 ^ (m.take (j + 1)).length ≤ 2 ^ 8 := Nat.pow_le_pow_right (by decide) h2
          rw [HX2.out]
          omega
        generalize m.getD j 0 = y at cj HX2 hy hxx
        have lj : (j : Int) < 8 := by omega
        have HJ : Hid (j + 1 ≤ 8) := hj8
        clear hjm HX
        go_wp2_with fail
        go_round
        case rel => exact ⟨j + 1, x * 2 + y, HJ.out, by go_num, by go_num, hxx, HX2⟩
        case measure => simp [intOf]; omega
      · have HX2 : Hid (x = valB m) := by
          show _ = _
          rw [HX.out, List.take_of_length_le (by rw [HML.out]; omega)]
        have rx : (x : Int) % 256 = (x : Int) := by omega
        go_wp2_with (at_builtin; refine wp_app1 rfl _ _ 28 rfl B 5 i0 (.int .u8 0) 1 Tryd.underlying28 hi0 hy1 hy2 hy3 rfl _ o.length (Lib.byteCells o) rfl HO3.out (.int .u8 (x : Int)) rfl rfl ?c3 ?c4 ?c5 ?_)
        case c3 => unfold maxLen; omega
        case c4 => omega
        case c5 => omega
        intro g4 cap4 w4 hown4 hb4 hoth4
        have hs4 : SAt b v (.slice (some ⟨g, 0, none⟩) (7 + 1) cap) w4 := by
          unfold SAt
          rw [hoth4 b hlt3 hvb]
          exact HS3.out
        have e0 := hs4.fz 0
        have e1 := hs4.fz 1
        have k0 := hs4.c0
        have k1 := hs4.c1
        have HS4 : Hid (SAt b v (.slice (some ⟨g, 0, none⟩) (7 + 1) cap) w4) := hs4
        have HO4 : Hid (w4.ownsRow B 5 1 (.slice (some ⟨g4, 0, none⟩) (o.length + 1) cap4) (o.length + 1) (Lib.byteCells o ++ [.int .u8 (x : Int)])) := hown4
        have HB4 : Hid (Below B w3 w4) := hb4
        have hg4 : g4 ≠ b := by
          intro he
          obtain ⟨cur, hc, _⟩ := ownsRow_type hown4 g4 rfl
          rw [he, hs4] at hc
          simp only [Option.some.injEq, Obj.cells.injEq] at hc
          exact absurd hc.2.1 (by decide)
        clear hs4 hown4 hb4 hoth4 c0 c1 g0 g1
        go_wp2_with fail
        go_end0
        rw [HS.out]
        refine ⟨rfl, ⟨hB, _, _, (HS4.out.set0 _).set1 _, ?_, ⟨rfl, .inl ⟨rfl, rfl⟩⟩⟩, ((HB3.out.trans HB4.out).setCell (p := ⟨b, 0, none⟩) hB _).setCell (p := ⟨b, 1, none⟩) hB _⟩
        have hbc : Lib.byteCells (o ++ [UInt8.ofNat (valB m)]) = Lib.byteCells o ++ [.int .u8 (x : Int)] := by
          rw [← HX2.out]
          have : ((UInt8.ofNat x).toNat : Int) = (x : Int) := by simp; omega
          simp only [Lib.byteCells, List.map_append, List.map_cons, List.map_nil, this]
        show World.ownsRow _ _ _ _ _ (o ++ [UInt8.ofNat (valB m)]).length _
        rw [hbc, List.length_append]
        exact ownsRow_keep HO4.out (fun g' hg' => by
          have : g' ≠ b := by
            intro e
            exact hg4 (by simpa [Value.ownBlock, e] using hg')
          rw [Below.heap_setCell _ ⟨b, 1, none⟩ _ g' this, Below.heap_setCell _ ⟨b, 0, none⟩ _ g' this])
  · have HS : Hid (stepB (o, l) bit = (o, l ++ [bit])) := by
      show _ = _
      simp [stepB, h7]
    have h8 : ((l.length : Int) + 1 == 8) = false := by simp; omega
    have HL1 : Hid (l.length + 1 = (l ++ [bit]).length) := by show _ = _; simp
    go_wp2_with fail
    go_end0
    rw [HS.out, ← HW3.out]
    refine ⟨rfl, ⟨hB, v, _, HS3.out, HO3.out, ?_⟩, HB3.out⟩
    have := HL3.out
    rw [HL1.out] at this ⊢
    exact this

end Go.Proofs.YtcaejndpmagfaaaDoor

set_option linter.unusedVariables false
namespace Go.Proofs.YtcaejndpmagfaaaDoor
open Go.RowKit Go.Shelf
attribute [local go_sem] Oper.semAt_some

theorem infoIntG : (Tryd.prog.info? 3).map (fun i => (i.zero, i.size, i.bytes)) = some (some (.int .i64 0), 1, 8) := by kernel_rfl
theorem makeCap (n : Nat) (hn : n ≤ 1099511627776) (w : World) : (Instr.makeSlice 31 (.int .i64 0) (.int .i64 (n : Int))).run Tryd.prog w = .ok (.slice (some ⟨w.heap.size, 0, none⟩) 0 n) (w.alloc (.cells (madeCells #[.int .i64 0] n) 3)) := by
  obtain ⟨i, hi, hz, hs, hb⟩ := info_parts infoIntG
  have hb' : (i.bytes : Int) * (n : Int) ≤ 281474976710656 := by rw [hb]; omega
  have hr := run_make (P := Tryd.prog) w 31 3 i (.int .i64 0) Tryd.underlying31 hi hz .i64 .i64 0 (n : Int) (by omega) (by omega) hb' (by omega)
  simp only [Int.toNat_natCast, hs, Nat.mul_one, Value.cells, Int.toNat_zero] at hr
  exact hr

end Go.Proofs.YtcaejndpmagfaaaDoor

namespace Go.Proofs.YtcaejndpmagfaaaDoor
open Go.RowKit

def numOk (z : Int) : Bool := decide (0 ≤ z ∧ z ≤ 60000)
def bitsOk (k : Int) : Bool := decide (0 ≤ k ∧ k ≤ 8)
def riceOkB (zs : List Int) (k : Int) : Bool := decide (zs.length ≤ 40) && bitsOk k && zs.all numOk
def ricePut (zs : List Int) (k : Int) : List UInt8 := if riceOkB zs k = true then riceB k.toNat (zs.map Int.toNat) else []
/-- The numbers lie there. -/
def At (w : World) (g : Nat) (zs : List Int) : Prop := g < w.heap.size ∧ ∀ i, i < zs.length → w.cell? ⟨g, i, none⟩ = some (.int .i64 (zs.getD i 0))
theorem At.below {w w' : World} {g B : Nat} {zs : List Int} (h : At w g zs) (hb : Below B w w') (hg : g < B) : At w' g zs :=
  ⟨Nat.lt_of_lt_of_le h.1 hb.size, fun i hi => by rw [hb.cell (p := ⟨g, i, none⟩) hg]; exact h.2 i hi⟩
theorem At.drew {w : World} {g : Nat} {zs : List Int} (h : At w g zs) : At w.drew g zs := h
theorem riceOk_len {zs : List Int} {k : Int} (h : riceOkB zs k = true) : zs.length ≤ 40 := by
  simp only [riceOkB, Bool.and_eq_true] at h
  exact of_decide_eq_true h.1.1
theorem riceOk_bits {zs : List Int} {k : Int} (h : riceOkB zs k = true) : 0 ≤ k ∧ k ≤ 8 := by
  simp only [riceOkB, Bool.and_eq_true] at h
  exact of_decide_eq_true h.1.2
theorem riceOk_at {zs : List Int} {k : Int} (h : riceOkB zs k = true) (i : Nat) (hi : i < zs.length) : 0 ≤ zs.getD i 0 ∧ zs.getD i 0 ≤ 60000 := by
  simp only [riceOkB, Bool.and_eq_true, List.all_eq_true] at h
  have := h.2 (zs.getD i 0) (by simp [List.getElem?_eq_getElem hi])
  exact of_decide_eq_true this
theorem riceOk_no {zs : List Int} {k : Int} (i : Nat) (hi : i < zs.length) (h : ¬ (0 ≤ zs.getD i 0 ∧ zs.getD i 0 ≤ 60000)) : riceOkB zs k = false := by
  cases hh : riceOkB zs k with
  | false => rfl
  | true => exact absurd (riceOk_at hh i hi) h
theorem riceOk_yes {zs : List Int} {k : Int} (h1 : zs.length ≤ 40) (h2 : 0 ≤ k ∧ k ≤ 8) (h3 : ∀ i, i < zs.length → 0 ≤ zs.getD i 0 ∧ zs.getD i 0 ≤ 60000) : riceOkB zs k = true := by
  have e1 : decide (zs.length ≤ 40) = true := decide_eq_true h1
  have e2 : bitsOk k = true := decide_eq_true h2
  simp only [riceOkB, e1, e2, Bool.true_and, List.all_eq_true]
  intro z hz
  obtain ⟨i, hi, rfl⟩ := List.mem_iff_getElem.1 hz
  have := h3 i hi
  rw [List.getD_eq_getElem?_getD, List.getElem?_eq_getElem hi] at this
  exact decide_eq_true this
theorem ricePut_yes {zs : List Int} {k : Int} (h : riceOkB zs k = true) : ricePut zs k = riceB k.toNat (zs.map Int.toNat) := by
  rw [ricePut, if_pos h]
theorem ricePut_no {zs : List Int} {k : Int} (h : riceOkB zs k = false) : ricePut zs k = [] := by
  rw [ricePut, if_neg (by rw [h]; decide)]
/-- The first so many numbers written. -/
def upTo (k : Nat) (zs : List Int) (i : Nat) : List UInt8 × List Nat := runB ([], []) (bitsOf k ((zs.map Int.toNat).take i))
theorem upTo_zero (k : Nat) (zs : List Int) : upTo k zs 0 = ([], []) := by simp [upTo, bitsOf, runB]
theorem upTo_succ (k : Nat) (zs : List Int) (i : Nat) (hi : i < zs.length) : upTo k zs (i + 1) = runB (upTo k zs i) (numB k (zs.getD i 0).toNat) := by
  have h : (zs.map Int.toNat).take (i + 1) = (zs.map Int.toNat).take i ++ [(zs.getD i 0).toNat] := by
    rw [List.take_add_one, List.getElem?_map, List.getElem?_eq_getElem hi]
    simp [List.getElem?_eq_getElem hi]
  rw [upTo, h, bitsOf_snoc, runB_append]
  rfl
theorem upTo_ok (k : Nat) (zs : List Int) (i : Nat) : okB (upTo k zs i) := runB_ok ⟨by simp, by simp⟩ (bitsOf_ok _ _)
theorem upTo_len {k : Nat} {zs : List Int} (hk : k ≤ 8) (hl : zs.length ≤ 40) (h : ∀ i, i < zs.length → 0 ≤ zs.getD i 0 ∧ zs.getD i 0 ≤ 60000) (i : Nat) : (upTo k zs i).1.length ≤ 10000000 := by
  have h1 := runB_len ([], []) (bitsOf k ((zs.map Int.toNat).take i))
  have h2 := bitsOf_length k ((zs.map Int.toNat).take i) hk (by
    intro x hx
    have hx' := List.mem_of_mem_take hx
    obtain ⟨z, hz, rfl⟩ := List.mem_map.1 hx'
    obtain ⟨j, hj, rfl⟩ := List.mem_iff_getElem.1 hz
    have := h j hj
    rw [List.getD_eq_getElem?_getD, List.getElem?_eq_getElem hj] at this
    simp at this
    omega)
  have h3 : ((zs.map Int.toNat).take i).length ≤ 40 := by simp; omega
  have h4 : ((zs.map Int.toNat).take i).length * 60009 ≤ 40 * 60009 := Nat.mul_le_mul_right _ h3
  simp only [List.length_nil] at h1
  show (runB ([], []) (bitsOf k ((zs.map Int.toNat).take i))).1.length ≤ _
  omega
theorem upTo_end (k : Nat) (zs : List Int) : fillB (upTo k zs zs.length) = riceB k (zs.map Int.toNat) := by
  rw [upTo, riceB, List.take_of_length_le (by simp)]

end Go.Proofs.YtcaejndpmagfaaaDoor

set_option linter.unusedVariables false
namespace Go.Proofs.YtcaejndpmagfaaaDoor
open Go.RowKit

def bitAt (o : List UInt8) (p : Nat) : Int := if p < 8 * o.length then (((o.getD (p / 8) 0).toNat / 2 ^ (7 - p % 8) % 2 : Nat) : Int) else -1
theorem byteBits_at (c : UInt8) (p : Nat) (hp : p < 8) : (byteBits c).getD p 0 = c.toNat / 2 ^ (7 - p) % 2 := by
  match p, hp with
  | 0, _ | 1, _ | 2, _ | 3, _ | 4, _ | 5, _ | 6, _ => rfl
  | 7, _ => simp [byteBits]
theorem unpack_at (o : List UInt8) : ∀ p, p < 8 * o.length → (unpack o).getD p 0 = (o.getD (p / 8) 0).toNat / 2 ^ (7 - p % 8) % 2 := by
  induction o with
  | nil => intro p hp; simp at hp
  | cons c r ih =>
    intro p hp
    have hu : unpack (c :: r) = byteBits c ++ unpack r := rfl
    have hl : (byteBits c).length = 8 := rfl
    rw [hu]
    rcases Nat.lt_or_ge p 8 with h | h
    · have e : p / 8 = 0 := by omega
      rw [List.getD_eq_getElem?_getD, List.getElem?_append_left (by omega), ← List.getD_eq_getElem?_getD, byteBits_at c p h, e, show p % 8 = p from by omega]
      rfl
    · have e : p / 8 = (p - 8) / 8 + 1 := by omega
      have hp' : p - 8 < 8 * r.length := by simp at hp; omega
      rw [List.getD_eq_getElem?_getD, List.getElem?_append_right (by omega), hl, ← List.getD_eq_getElem?_getD, ih (p - 8) hp', e, show (p - 8) % 8 = p % 8 from by omega]
      rfl
theorem bitAt_in {o : List UInt8} {p : Nat} (hp : p < 8 * o.length) : bitAt o p = (((unpack o).getD p 0 : Nat) : Int) := by
  rw [bitAt, if_pos hp, unpack_at o p hp]
theorem bitAt_out {o : List UInt8} {p : Nat} (hp : ¬ p < 8 * o.length) : bitAt o p = -1 := by rw [bitAt, if_neg hp]
theorem bitAt_range (o : List UInt8) (p : Nat) : -1 ≤ bitAt o p ∧ bitAt o p ≤ 1 := by
  unfold bitAt
  split <;> omega

set_option maxHeartbeats 1000000 in
set_option maxRecDepth 100000 in
theorem specBit (s : ByteArray) (p : Nat) (w : World) (hs : s.size ≤ 600) (hp : p ≤ 1000000) :
    Calls Tryd.prog 89 #[.string s, .int .i64 (p : Int)] w fun e w' => e = .returned (.int .i64 (bitAt s.data.toList p)) ∧ w = w' := by
  by_cases h : p < 8 * s.size
  · have hq : p / 8 < s.size := by omega
    obtain ⟨q, hqe⟩ : ∃ q : Nat, q = p / 8 := ⟨_, rfl⟩
    obtain ⟨r, hre⟩ : ∃ r : Nat, r = 7 - p % 8 := ⟨_, rfl⟩
    have rq : (p : Int) / 8 = (q : Int) := by rw [hqe]; simp
    have rr : 7 - (p : Int) % 8 = (r : Int) := by omega
    have hq2 : q < s.size := by omega
    have lq : (q : Int) < (s.size : Int) := by omega
    have HB : Hid (bitAt s.data.toList p = (((s[q].toNat / 2 ^ r % 2 : Nat)) : Int)) := by
      show _ = _
      rw [bitAt, if_pos (by simpa using h), ← hqe, ← hre]
      have : s.data.toList.getD q 0 = s[q] := by
        rw [List.getD_eq_getElem?_getD, List.getElem?_eq_getElem (by simpa using hq2)]
        rfl
      rw [this]
    have hby : (s[q].toNat : Int) < 256 := by have := s[q].toNat_lt; omega
    obtain ⟨x, hx⟩ : ∃ x : Nat, x = s[q].toNat / 2 ^ r := ⟨_, rfl⟩
    have rx : (s[q].toNat : Int) / 2 ^ r = (x : Int) := by rw [hx]; simp
    rw [← hx] at HB
    have hr7 : r ≤ 7 := by omega
    have hr0 : (0 : Int) ≤ (r : Int) := by omega
    clear hqe hre hx hq h
    go_enter Tryd.func89, Tryd.ntmps89
    go_wp2
    go_ret
    rw [HB.out]
    refine ⟨?_, rfl⟩
    simp
  · have HB : Hid (bitAt s.data.toList p = -1) := bitAt_out (by simpa using h)
    have hge : (s.size : Int) ≤ (p : Int) / 8 := by omega
    go_enter Tryd.func89, Tryd.ntmps89
    go_wp2
    go_ret
    rw [HB.out]
    exact ⟨rfl, rfl⟩

end Go.Proofs.YtcaejndpmagfaaaDoor

set_option linter.unusedVariables false
namespace Go.Proofs.YtcaejndpmagfaaaDoor
open Go.Shelf Go.RowKit

/-- A list that is written just so. -/
def Writes (k many : Nat) (o : List UInt8) (l : List Nat) : Prop := l.length = many ∧ (∀ x ∈ l, x ≤ 60000) ∧ riceB k l = o
theorem writes_one {k many : Nat} {o : List UInt8} {l : List Nat} (h : Writes k many o l) : readT k many (unpack o) (0, false, 0) [] = l := by
  rw [← h.2.2, ← h.1]
  exact readT_rice k l
/-- The place at which the j-th number begins. -/
def placeOf (k : Nat) (l : List Nat) (j : Nat) : Nat := (bitsOf k (l.take j)).length
theorem placeOf_zero (k : Nat) (l : List Nat) : placeOf k l 0 = 0 := by simp [placeOf, bitsOf]
theorem placeOf_succ (k : Nat) (l : List Nat) (j : Nat) (hj : j < l.length) : placeOf k l (j + 1) = placeOf k l j + (numB k (l.getD j 0)).length := by
  have : l.take (j + 1) = l.take j ++ [l.getD j 0] := by
    rw [List.take_add_one, List.getElem?_eq_getElem hj]
    simp [List.getElem?_eq_getElem hj]
  rw [placeOf, this, bitsOf_snoc, List.length_append]
  rfl
theorem num_at {k many : Nat} {o : List UInt8} {l : List Nat} (h : Writes k many o l) (j : Nat) (hj : j < many) (q : Nat) (hq : q < (numB k (l.getD j 0)).length) :
    placeOf k l j + q < 8 * o.length ∧ bitAt o (placeOf k l j + q) = (((numB k (l.getD j 0)).getD q 0 : Nat) : Int) := by
  obtain ⟨z, _, hu⟩ := unpack_rice k l
  rw [h.2.2] at hu
  have hjl : j < l.length := by rw [h.1]; exact hj
  have hsplit : bitsOf k l = bitsOf k (l.take j) ++ (numB k (l.getD j 0) ++ bitsOf k (l.drop (j + 1))) := by
    have e : l = l.take j ++ (l.getD j 0 :: l.drop (j + 1)) := by
      have e2 : l.getD j 0 = l[j] := by rw [List.getD_eq_getElem?_getD, List.getElem?_eq_getElem hjl]; rfl
      rw [e2, ← List.drop_eq_getElem_cons hjl, List.take_append_drop]
    conv => lhs; rw [e]
    simp [bitsOf]
  have hul : (unpack o).length = 8 * o.length := unpack_length o
  rw [hsplit] at hu
  have hlen : placeOf k l j + q < (unpack o).length := by
    rw [hu]
    simp only [List.length_append, placeOf]
    omega
  refine ⟨by omega, ?_⟩
  rw [bitAt_in (by omega), hu]
  congr 1
  rw [List.append_assoc, List.getD_eq_getElem?_getD, List.getElem?_append_right (by simp only [placeOf]; omega)]
  rw [show placeOf k l j + q - (bitsOf k (l.take j)).length = q from by simp only [placeOf]; omega]
  rw [List.append_assoc, List.getElem?_append_left hq, ← List.getD_eq_getElem?_getD]
theorem numB_one (k x q : Nat) (h : q < x / 2 ^ k) : (numB k x).getD q 0 = 1 := by
  rw [numB, List.getD_eq_getElem?_getD, List.getElem?_append_left (by simpa using h)]
  simp [h]
theorem numB_nought (k x : Nat) : (numB k x).getD (x / 2 ^ k) 0 = 0 := by
  rw [numB, List.getD_eq_getElem?_getD, List.getElem?_append_right (by simp)]
  simp
theorem lowB_at (x : Nat) : ∀ (k i : Nat), i < k → (lowB x k).getD i 0 = x / 2 ^ (k - 1 - i) % 2 := by
  intro k
  induction k with
  | zero => intro i hi; omega
  | succ k ih =>
    intro i hi
    cases i with
    | zero => rfl
    | succ i =>
      have := ih i (by omega)
      rw [show lowB x (k + 1) = (x / 2 ^ k % 2) :: lowB x k from rfl]
      rw [List.getD_cons_succ, this, show k + 1 - 1 - (i + 1) = k - 1 - i from by omega]
theorem numB_low (k x i : Nat) (h : i < k) : (numB k x).getD (x / 2 ^ k + 1 + i) 0 = x / 2 ^ (k - 1 - i) % 2 := by
  rw [numB, List.getD_eq_getElem?_getD, List.getElem?_append_right (by simp; omega)]
  rw [show x / 2 ^ k + 1 + i - (List.replicate (x / 2 ^ k) 1).length = i + 1 from by simp; omega]
  rw [List.getElem?_cons_succ, ← List.getD_eq_getElem?_getD, lowB_at x k i h]
/-- So many ones from a place on, then none: the number's first part. -/
theorem ones_end {k many : Nat} {o : List UInt8} {l : List Nat} (h : Writes k many o l) (j : Nat) (hj : j < many) (n : Nat) (h1 : ∀ q, q < n → bitAt o (placeOf k l j + q) = 1) (h2 : bitAt o (placeOf k l j + n) ≠ 1) : n = l.getD j 0 / 2 ^ k := by
  have hl := numB_length k (l.getD j 0)
  rcases Nat.lt_trichotomy n (l.getD j 0 / 2 ^ k) with hh | hh | hh
  · have := (num_at h j hj n (by omega)).2
    rw [numB_one k _ n hh] at this
    exact absurd this h2
  · exact hh
  · have a := (num_at h j hj (l.getD j 0 / 2 ^ k) (by omega)).2
    rw [numB_nought, h1 _ hh] at a
    simp at a
theorem low_step {k many : Nat} {o : List UInt8} {l : List Nat} (h : Writes k many o l) (j : Nat) (hj : j < many) (i : Nat) (hi : i < k) (v : Int) (hv : v = ((l.getD j 0 / 2 ^ (k - i) : Nat) : Int)) :
    v * 2 + bitAt o (placeOf k l j + l.getD j 0 / 2 ^ k + 1 + i) = ((l.getD j 0 / 2 ^ (k - (i + 1)) : Nat) : Int) := by
  have hl := numB_length k (l.getD j 0)
  have a := (num_at h j hj (l.getD j 0 / 2 ^ k + 1 + i) (by omega)).2
  rw [numB_low k _ i hi] at a
  rw [show placeOf k l j + l.getD j 0 / 2 ^ k + 1 + i = placeOf k l j + (l.getD j 0 / 2 ^ k + 1 + i) from by omega, a, hv]
  have e : l.getD j 0 / 2 ^ (k - i) = l.getD j 0 / 2 ^ (k - (i + 1)) / 2 := by
    rw [show k - i = k - (i + 1) + 1 from by omega, Nat.pow_succ, Nat.div_div_eq_div_mul]
  rw [e, show k - 1 - i = k - (i + 1) from by omega]
  omega

end Go.Proofs.YtcaejndpmagfaaaDoor

namespace Go.Proofs.YtcaejndpmagfaaaDoor
open Go.RowKit

def getOk (o : List UInt8) (many k : Int) : Bool := decide (0 ≤ many ∧ many ≤ 40) && decide (0 ≤ k ∧ k ≤ 8) && decide (o.length ≤ 600)
def readAll (o : List UInt8) (many k : Int) : List Nat := readT k.toNat many.toNat (unpack o) (0, false, 0) []
open Classical in
/-- The list that is written just so, if there is one. -/
noncomputable def riceGet (o : List UInt8) (many k : Int) : Option (List Nat) :=
  if getOk o many k = true ∧ Writes k.toNat many.toNat o (readAll o many k) then some (readAll o many k) else none
theorem riceGet_bad {o : List UInt8} {many k : Int} (h : getOk o many k = false) : riceGet o many k = none := by
  rw [riceGet, if_neg (fun hh => by rw [h] at hh; cases hh.1)]
theorem riceGet_yes {o : List UInt8} {many k : Int} {l : List Nat} (h : getOk o many k = true) (hw : Writes k.toNat many.toNat o l) : riceGet o many k = some l := by
  have e : readAll o many k = l := writes_one hw
  rw [riceGet, e, if_pos ⟨h, hw⟩]
theorem riceGet_no {o : List UInt8} {many k : Int} (h : ∀ l, ¬ Writes k.toNat many.toNat o l) : riceGet o many k = none := by
  rw [riceGet, if_neg (fun hh => h _ hh.2)]
theorem riceGet_some {o : List UInt8} {many k : Int} {l : List Nat} (h : riceGet o many k = some l) : getOk o many k = true ∧ Writes k.toNat many.toNat o l := by
  unfold riceGet at h
  split at h
  · rename_i hh
    obtain rfl : readAll o many k = l := by simpa using h
    exact hh
  · cases h

end Go.Proofs.YtcaejndpmagfaaaDoor

set_option linter.unusedVariables false
namespace Go.Proofs.YtcaejndpmagfaaaDoor
open Go.RowKit

def stepT (k : Nat) (s : (Nat × Bool × Nat) × List Nat) (b : Nat) : (Nat × Bool × Nat) × List Nat := ((takeM k s.1 b).1, s.2 ++ (takeM k s.1 b).2.toList)
def runT (k : Nat) (bs : List Bit) : (Nat × Bool × Nat) × List Nat := bs.foldl (fun s b => stepT k s b.1) ((0, false, 0), [])
theorem runT_snoc (k : Nat) (bs : List Bit) (b : Bit) : runT k (bs ++ [b]) = stepT k (runT k bs) b.1 := by simp [runT]
/-- What a number that is read in part can be. -/
def okT (k q : Nat) (st : Nat × Bool × Nat) : Prop := (st.2.1 = false ∧ st.1 ≤ q ∧ st.2.2 = 0) ∨ (st.2.1 = true ∧ 1 ≤ st.2.2 ∧ st.2.2 ≤ k ∧ st.1 < (q + 1) * 2 ^ (k - st.2.2))
theorem okT_step {k q b : Nat} {st : Nat × Bool × Nat} (h : okT k q st) (hb : b ≤ 1) : okT k (q + 1) (takeM k st b).1 := by
  obtain ⟨n, r, left⟩ := st
  rcases h with ⟨h1, h2, h3⟩ | ⟨h1, h2, h3, h4⟩
  · obtain rfl : r = false := h1
    have h2' : n ≤ q := h2
    have h3' : left = 0 := h3
    by_cases hb1 : b = 1
    · have e : (takeM k (n, false, left) b).1 = (n + 1, false, left) := by simp [takeM, hb1]
      rw [e]
      exact .inl ⟨rfl, by show n + 1 ≤ q + 1; omega, h3⟩
    · by_cases hk : 0 < k
      · have e : (takeM k (n, false, left) b).1 = (n, true, k) := by simp [takeM, hb1, hk]
        rw [e]
        exact .inr ⟨rfl, by show 1 ≤ k; omega, Nat.le_refl _, by show n < (q + 1 + 1) * 2 ^ (k - k); rw [Nat.sub_self]; omega⟩
      · have e : (takeM k (n, false, left) b).1 = (0, false, 0) := by simp [takeM, hb1, hk]
        rw [e]
        exact .inl ⟨rfl, Nat.zero_le _, rfl⟩
  · obtain rfl : r = true := h1
    have h3' : left ≤ k := h3
    have h4' : n < (q + 1) * 2 ^ (k - left) := h4
    by_cases hl : 1 < left
    · have e : (takeM k (n, true, left) b).1 = (n * 2 + b, true, left - 1) := by simp [takeM, hl]
      rw [e]
      refine .inr ⟨rfl, by show 1 ≤ left - 1; omega, by show left - 1 ≤ k; omega, ?_⟩
      show n * 2 + b < (q + 1 + 1) * 2 ^ (k - (left - 1))
      rw [show k - (left - 1) = k - left + 1 from by omega, Nat.pow_succ, ← Nat.mul_assoc, Nat.add_mul (q + 1) 1]
      omega
    · have e : (takeM k (n, true, left) b).1 = (0, false, 0) := by simp [takeM, hl]
      rw [e]
      exact .inl ⟨rfl, Nat.zero_le _, rfl⟩
theorem okT_small {k q : Nat} {st : Nat × Bool × Nat} (h : okT k q st) (hk : k ≤ 8) (hq : q ≤ 4800) : st.1 < 1000000000000 ∧ st.2.2 ≤ 8 ∧ (st.2.1 = true → 1 ≤ st.2.2) := by
  rcases h with ⟨h1, h2, h3⟩ | ⟨h1, h2, h3, h4⟩
  · exact ⟨by omega, by omega, fun e => by rw [h1] at e; cases e⟩
  · have hp : 2 ^ (k - st.2.2) ≤ 2 ^ 8 := Nat.pow_le_pow_right (by omega) (by omega)
    have hm : (q + 1) * 2 ^ (k - st.2.2) ≤ 4801 * 2 ^ 8 := Nat.mul_le_mul (by omega) hp
    exact ⟨by omega, by omega, fun _ => h2⟩
/-- Reading goes on behind these bits. -/
def OpenT (k many : Nat) (bs : List Bit) : Prop := (∀ rest, readT k many (bs.map (fun b => b.1) ++ rest) (0, false, 0) [] = readT k many rest (runT k bs).1 (runT k bs).2) ∧ (runT k bs).2.length ≤ many ∧ okT k bs.length (runT k bs).1
theorem openT_nil (k many : Nat) : OpenT k many [] := ⟨fun _ => rfl, Nat.zero_le _, .inl ⟨rfl, Nat.le_refl _, rfl⟩⟩
theorem openT_snoc {k many : Nat} {bs : List Bit} (h : OpenT k many bs) (hne : (runT k bs).2.length ≠ many) (b : Bit) : OpenT k many (bs ++ [b]) := by
  refine ⟨fun rest => ?_, ?_, ?_⟩
  · rw [List.map_append, List.append_assoc, h.1, List.map_cons, List.map_nil, List.cons_append, List.nil_append, readT, if_neg hne, runT_snoc]
    rfl
  · rw [runT_snoc]
    have h2 := h.2.1
    simp only [stepT, List.length_append]
    have : (takeM k (runT k bs).1 b.1).2.toList.length ≤ 1 := by cases (takeM k (runT k bs).1 b.1).2 <;> simp
    omega
  · rw [runT_snoc, List.length_append]
    exact okT_step h.2.2 b.2
theorem openT_full {k many : Nat} {bs : List Bit} (h : OpenT k many bs) (he : (runT k bs).2.length = many) (rest : List Nat) : readT k many (bs.map (fun b => b.1) ++ rest) (0, false, 0) [] = (runT k bs).2 := by
  rw [h.1]
  cases rest with
  | nil => rfl
  | cons b r => rw [readT, if_pos he]
theorem openT_end {k many : Nat} {bs : List Bit} (h : OpenT k many bs) : readT k many (bs.map (fun b => b.1)) (0, false, 0) [] = (runT k bs).2 := by
  have := h.1 []
  rw [List.append_nil] at this
  rw [this]
  rfl

theorem unpack_map (o : List UInt8) : unpack o = (List.range (8 * o.length)).map fun q => (o.getD (q / 8) 0).toNat / 2 ^ (7 - q % 8) % 2 := by
  induction o with
  | nil => rfl
  | cons c r ih =>
    have e : unpack (c :: r) = byteBits c ++ unpack r := rfl
    rw [e, ih, List.length_cons, show 8 * (r.length + 1) = 8 + 8 * r.length from by omega, List.range_add, List.map_append, List.map_map]
    congr 1
    · simp [byteBits, List.range, List.range.loop]
    · apply List.map_congr_left
      intro q _
      show _ = ((c :: r).getD ((8 + q) / 8) 0).toNat / 2 ^ (7 - (8 + q) % 8) % 2
      rw [show (8 + q) / 8 = q / 8 + 1 from by omega, show (8 + q) % 8 = q % 8 from by omega]
      simp
theorem unpack_bits (s : ByteArray) : unpack s.data.toList = (bitsTo s (8 * s.size)).map (fun b => b.1) := by
  rw [unpack_map, bitsTo, List.map_map]
  have : s.data.toList.length = s.size := by simp
  rw [this]
  rfl
theorem bitsTo_split (s : ByteArray) (q : Nat) (h : q ≤ 8 * s.size) : ∃ rest, unpack s.data.toList = (bitsTo s q).map (fun b => b.1) ++ rest := by
  refine ⟨((List.range (8 * s.size - q)).map (fun i => bitOf s (q + i))).map (fun b => b.1), ?_⟩
  have e : bitsTo s (8 * s.size) = bitsTo s q ++ (List.range (8 * s.size - q)).map (fun i => bitOf s (q + i)) := by
    rw [bitsTo, show 8 * s.size = q + (8 * s.size - q) from by omega, List.range_add, List.map_append, List.map_map, show q + (8 * s.size - q) - q = 8 * s.size - q from by omega]
    rfl
  rw [unpack_bits, e, List.map_append]

end Go.Proofs.YtcaejndpmagfaaaDoor

set_option linter.unusedVariables false
namespace Go.Proofs.YtcaejndpmagfaaaDoor
open Go.Shelf Go.RowKit

/-- What has been read: so many numbers, and for every list that is written just so: its first ones, and its next place. -/
def ReadTo (k many : Nat) (o : List UInt8) (out : List Nat) (p : Nat) : Prop :=
  (∀ x ∈ out, x ≤ 60000) ∧ ∀ l, Writes k many o l → l.take out.length = out ∧ placeOf k l out.length = p
def OutRow (B : Nat) (v : Value) (out : List Nat) (w : World) : Prop := (∃ g cap, v = .slice (some ⟨g, 0, none⟩) out.length cap) ∧ w.ownsRow B 3 1 v out.length (intCells out)

def sliceLen : Value → Nat
  | .slice _ n _ => n
  | _ => 0
theorem newRow (w : World) : OutRow w.heap.size (.slice (some ⟨w.heap.size, 0, none⟩) 0 0) [] (w.alloc (.cells #[] 3)) :=
  ⟨⟨_, _, rfl⟩, rfl, .inr ⟨_, _, #[], rfl, Nat.le_refl _, heap_alloc_new w _, Nat.le_refl _, by unfold maxLen; omega, rfl, rfl⟩⟩
theorem readTo_start (k many : Nat) (o : List UInt8) : ReadTo k many o [] 0 :=
  ⟨by simp, fun l _ => ⟨by simp, by simp [placeOf_zero]⟩⟩
theorem bitAt_nonneg {o : List UInt8} {p : Nat} (h : p < 8 * o.length) : 0 ≤ bitAt o p := by rw [bitAt_in h]; omega
theorem readTo_none {k many : Nat} {o : List UInt8} {out : List Nat} {p m : Nat} {v : Int} (h : ReadTo k many o out p) (hj : out.length < many) (hv : ∀ l, Writes k many o l → v = ((l.getD out.length 0 : Nat) : Int) ∧ m = placeOf k l (out.length + 1)) (hbad : 8 * o.length < m ∨ 60000 < v) : ∀ l, ¬ Writes k many o l := by
  intro l hl
  obtain ⟨h1, h2⟩ := hv l hl
  have hjl : out.length < l.length := by rw [hl.1]; exact hj
  rcases hbad with hb | hb
  · have hn := numB_length k (l.getD out.length 0)
    have hpos : 0 < (numB k (l.getD out.length 0)).length := by rw [hn]; exact Nat.add_pos_left (Nat.succ_pos _) _
    have h3 := (num_at hl out.length hj ((numB k (l.getD out.length 0)).length - 1) (Nat.sub_lt hpos Nat.one_pos)).1
    rw [placeOf_succ k l out.length hjl] at h2
    generalize (numB k (l.getD out.length 0)).length = N at *
    omega
  · have h3 : l.getD out.length 0 ≤ 60000 := by
      refine hl.2.1 _ ?_
      simp [List.getElem?_eq_getElem hjl]
    omega
theorem readTo_next {k many : Nat} {o : List UInt8} {out : List Nat} {p m vn : Nat} (h : ReadTo k many o out p) (hj : out.length < many) (hv : ∀ l, Writes k many o l → (vn : Int) = ((l.getD out.length 0 : Nat) : Int) ∧ m = placeOf k l (out.length + 1)) (hs : vn ≤ 60000) : ReadTo k many o (out ++ [vn]) m := by
  refine ⟨?_, ?_⟩
  · intro x hx
    rcases List.mem_append.1 hx with hx | hx
    · exact h.1 x hx
    · simp at hx; omega
  · intro l hl
    obtain ⟨h1, h2⟩ := hv l hl
    have hjl : out.length < l.length := by rw [hl.1]; exact hj
    refine ⟨?_, by rw [List.length_append]; exact h2.symm⟩
    rw [List.length_append, List.length_singleton, List.take_add_one, (h.2 l hl).1, List.getElem?_eq_getElem hjl]
    have e : l.getD out.length 0 = l[out.length] := by rw [List.getD_eq_getElem?_getD, List.getElem?_eq_getElem hjl]; rfl
    rw [e] at h1
    have : vn = l[out.length] := by omega
    simp [this]

set_option maxHeartbeats 1000000 in
set_option maxRecDepth 100000 in
theorem specRead (s : ByteArray) (many k : Nat) (w : World) (hs : s.size ≤ 600) (hm : many ≤ 40) (hk : k ≤ 8) :
    Calls Tryd.prog 75 #[.string s, .int .i64 (many : Int), .int .i64 (k : Int)] w fun e w' =>
      ((e = .returned (.tuple #[.slice none 0 0, .int .i64 (-1)]) ∧ ∀ l, ¬ Writes k many s.data.toList l) ∨
       ∃ (v : Value) (out : List Nat) (p : Nat), e = .returned (.tuple #[v, .int .i64 (p : Int)]) ∧ OutRow w.heap.size v out w' ∧ out.length = many ∧ ReadTo k many s.data.toList out p) ∧ Below w.heap.size w w' := by
  obtain ⟨i1, hi1, hz1, hz2, hz3⟩ := info_parts infoIntB
  have HW0 : Hid (OutRow w.heap.size (.slice (some ⟨w.heap.size, 0, none⟩) 0 0) [] (w.alloc (.cells #[] 3))) := newRow w
  have HB0 : Hid (Below w.heap.size w (w.alloc (.cells #[] 3))) := (Below.refl _ w).alloc (Nat.le_refl _) _
  have ho : s.data.toList.length = s.size := by simp
  obtain ⟨S8, hS8⟩ : ∃ S8 : Nat, S8 = 8 * s.size := ⟨_, rfl⟩
  have hS : S8 ≤ 4800 := by omega
  have HS8 : Hid (8 * s.data.toList.length = S8) := by show _ = _; rw [ho, hS8]
  have rS : (s.size : Int) * 8 = (S8 : Int) := by omega
  have HBI : Hid (∀ q, Calls Tryd.prog 89 #[.string s, .int .i64 ((q : Nat) : Int)] w (fun e w' => True) → True) := fun _ _ => trivial
  clear HBI ho hS8
  go_enter Tryd.func75, Tryd.ntmps75
  go_wp2_with fail
  go_loopw [8, 9] (fun v a wr => ∃ (out : List Nat) (p : Nat), out.length ≤ many ∧ p ≤ S8 ∧ a = .int .i64 (p : Int) ∧ Hid (OutRow w.heap.size v out wr) ∧ Hid (ReadTo k many s.data.toList out p) ∧ Hid (Below w.heap.size w wr)) (fun v _ _ => many - sliceLen v)
  case atStart => exact ⟨[], 0, by simp, by omega, rfl, HW0, readTo_start _ _ _, HB0⟩
  case round =>
    clear HW0 HB0
    obtain ⟨out, p, hol, hp, rfl, HR, HT, HB⟩ := hrel
    obtain ⟨⟨g, cap, rfl⟩, hrow⟩ := HR.out
    obtain ⟨j, hj⟩ : ∃ j, j = out.length := ⟨_, rfl⟩
    have HJ : Hid (j = out.length) := hj
    rw [← hj] at hol HR hrow ⊢
    by_cases hlt : j < many
    · have hcl : (j : Int) < (many : Int) := by omega
      clear hj hrow
      go_wp2_with fail
      go_loop [9, 10] (fun a x => ∃ n m : Nat, m ≤ S8 ∧ a = .int .i64 (m : Int) ∧ x = .int .i64 (n : Int) ∧ n ≤ S8 ∧ Hid (m = p + n) ∧ Hid (∀ q, q < n → bitAt s.data.toList (p + q) = 1)) (fun a _ => S8 + 1 - (intOf a).toNat)
      case atStart => exact ⟨0, p, hp, rfl, rfl, by omega, rfl, fun q hq => by omega⟩
      case round =>
        obtain ⟨n, m, hm8, rfl, rfl, hn8, HM, HA⟩ := hrel
        have hm6 : m ≤ 1000000 := by omega
        by_cases hb1 : bitAt s.data.toList m = 1
        · have hmS : m < S8 := by
            rcases Nat.lt_or_ge m S8 with h' | h'
            · exact h'
            · rw [bitAt_out (by rw [HS8.out]; omega)] at hb1
              cases hb1
          have HA2 : Hid (∀ q, q < n + 1 → bitAt s.data.toList (p + q) = 1) := by
            intro q hq
            rcases Nat.lt_or_ge q n with h' | h'
            · exact HA.out q h'
            · rw [show q = n from by omega, ← HM.out]; exact hb1
          have HMS : Hid (m < S8 ∧ n < S8) := ⟨hmS, by have := HM.out; omega⟩
          go_wp2_with (go_at_call 89; refine (specBit s m _ hs hm6).mono ?_; rintro e w1 ⟨rfl, rfl⟩)
          go_round
          case rel => exact ⟨n + 1, m + 1, HMS.out.1, by go_num, by go_num, HMS.out.2, by show _ = _; have := HM.out; omega, HA2⟩
          case measure => have := HMS.out.1; simp [intOf]; omega
        · have hbf : (bitAt s.data.toList m == 1) = false := by simpa using hb1
          have HNE : Hid (bitAt s.data.toList (p + n) ≠ 1) := by show _ ≠ _; rw [← HM.out]; exact hb1
          clear hb1
          go_wp2_with (go_at_call 89; refine (specBit s m _ hs hm6).mono ?_; rintro e w1 ⟨rfl, rfl⟩)
          have HPL : Hid (∀ l, Writes k many s.data.toList l → placeOf k l j = p) := fun l hl => by rw [HJ.out]; exact (HT.out.2 l hl).2
          have HN1 : Hid (∀ l, Writes k many s.data.toList l → n = l.getD j 0 / 2 ^ k) := by
            intro l hl
            have e := HPL.out l hl
            exact ones_end hl j hlt n (fun q hq => by rw [e]; exact HA.out q hq) (by rw [e]; exact HNE.out)
          go_loop [9, 10, 11] (fun a x i => ∃ (t m2 P : Nat) (v : Int), t ≤ k ∧ m2 ≤ 4900 ∧ P ≤ 256 ∧ a = .int .i64 (m2 : Int) ∧ x = .int .i64 v ∧ i = .int .i64 (t : Int) ∧ 1 - (P : Int) ≤ v ∧ v ≤ 5000 * (P : Int) - 1 ∧ Hid (m2 = p + n + 1 + t) ∧ Hid (P = 2 ^ t) ∧ Hid (m2 ≤ S8 → 0 ≤ v) ∧ Hid (∀ l, Writes k many s.data.toList l → v = ((l.getD j 0 / 2 ^ (k - t) : Nat) : Int))) (fun _ _ i => k - (intOf i).toNat)
          case atStart => exact ⟨0, m + 1, 1, (n : Int), by omega, by omega, by omega, by go_num, rfl, rfl, by omega, by omega, by show _ = _; have := HM.out; omega, rfl, fun _ => by omega, fun l hl => by rw [HN1.out l hl]; rfl⟩
          case round =>
            obtain ⟨t, m2, P, v, ht, hm2, hP, rfl, rfl, rfl, hv1, hv2, HM2, HP, HV0, HV⟩ := hrel
            have hm26 : m2 ≤ 1000000 := by omega
            by_cases htk : t < k
            · have hbr := bitAt_range s.data.toList m2
              have HTK : Hid (t + 1 ≤ k ∧ m2 + 1 ≤ 4900) := by
                have := HM2.out
                have := HM.out
                exact ⟨htk, by omega⟩
              have HP2 : Hid (2 * P = 2 ^ (t + 1)) := by show _ = _; rw [HP.out, Nat.pow_succ]; omega
              have HP3 : Hid (2 * P ≤ 256) := by
                show _ ≤ _
                rw [HP2.out]
                exact Nat.pow_le_pow_right (n := 2) (by decide) (show t + 1 ≤ 8 by omega)
              have HV2 : Hid (∀ l, Writes k many s.data.toList l → v * 2 + bitAt s.data.toList m2 = ((l.getD j 0 / 2 ^ (k - (t + 1)) : Nat) : Int)) := by
                intro l hl
                have := low_step hl j hlt t htk v (HV.out l hl)
                rw [HPL.out l hl, ← HN1.out l hl, ← HM2.out] at this
                exact this
              have HV3 : Hid (m2 + 1 ≤ S8 → 0 ≤ v * 2 + bitAt s.data.toList m2) := by
                intro h
                have h1 := HV0.out (by omega)
                have h2 := bitAt_nonneg (o := s.data.toList) (p := m2) (by rw [HS8.out]; omega)
                omega
              have hnext : 1 - ((2 * P : Nat) : Int) ≤ v * 2 + bitAt s.data.toList m2 ∧ v * 2 + bitAt s.data.toList m2 ≤ 5000 * ((2 * P : Nat) : Int) - 1 := by omega
              generalize hbb : bitAt s.data.toList m2 = bt at hbr HV2 HV3 hnext
              have HBB : Hid (bitAt s.data.toList m2 = bt) := hbb
              clear hbb
              go_wp2_with (go_at_call 89; refine (specBit s m2 _ hs hm26).mono ?_; rw [HBB.out]; rintro e w1 ⟨rfl, rfl⟩)
              go_round
              case rel => exact ⟨t + 1, m2 + 1, 2 * P, v * 2 + bt, HTK.out.1, HTK.out.2, HP3.out, by go_num, by go_num, by go_num, hnext.1, hnext.2, by show _ = _; have := HM2.out; omega, HP2, HV3, HV2⟩
              case measure => have := HTK.out.1; simp [intOf]; omega
            · have HVE : Hid (∀ l, Writes k many s.data.toList l → v = ((l.getD out.length 0 : Nat) : Int) ∧ m2 = placeOf k l (out.length + 1)) := by
                intro l hl
                have h1 := HV.out l hl
                have hjl : out.length < l.length := by rw [hl.1, ← HJ.out]; exact hlt
                rw [show k - t = 0 from by omega] at h1
                refine ⟨by rw [h1, ← HJ.out]; simp, ?_⟩
                rw [placeOf_succ k l out.length hjl, numB_length, ← HJ.out, HPL.out l hl, ← HN1.out l hl, HM2.out]
                omega
              have HJM : Hid (out.length < many) := by show _ < _; rw [← HJ.out]; exact hlt
              by_cases hbad : S8 < m2 ∨ 60000 < v
              · have HNO : Hid (∀ l, ¬ Writes k many s.data.toList l) := readTo_none HT.out HJM.out HVE.out (by rw [HS8.out]; exact hbad)
                by_cases hb2 : (S8 : Int) < (m2 : Int)
                · go_wp2_with fail
                  go_ret2
                  exact ⟨.inl ⟨rfl, HNO.out⟩, HB.out⟩
                · have hb3 : 60000 < v := by omega
                  go_wp2_with fail
                  go_ret2
                  exact ⟨.inl ⟨rfl, HNO.out⟩, HB.out⟩
              · have hv0 : 0 ≤ v := HV0.out (by omega)
                obtain ⟨vn, rfl⟩ := Int.eq_ofNat_of_zero_le hv0
                have hb2 : ¬ (S8 : Int) < (m2 : Int) := by omega
                have hb3 : ¬ (60000 : Int) < (vn : Int) := by omega
                have HNX : Hid (ReadTo k many s.data.toList (out ++ [vn]) m2) := readTo_next HT.out HJM.out HVE.out (by omega)
                have hrow := HR.out.2
                have HM28 : Hid (m2 ≤ S8) := by show _ ≤ _; omega
                clear hbad
                go_wp2_with (at_builtin; refine wp_app1 rfl _ _ 31 rfl w.heap.size 3 i1 (.int .i64 0) 8 Tryd.underlying31 hi1 hz1 hz2 hz3 rfl _ out.length (intCells out) ?ca hrow (.int .i64 (vn : Int)) rfl rfl ?c3 ?c4 ?c5 ?_)
                case c3 => have := HJM.out; unfold maxLen; omega
                case c4 => have := HJM.out; omega
                case c5 => exact HB.out.size
                intro g2 cap2 w2 hown2 hb4 hoth
                have HJ2 : Hid (out.length + 1 = (out ++ [vn]).length) := by show _ = _; simp
                have HR2 : Hid (OutRow w.heap.size (.slice (some ⟨g2, 0, none⟩) (out.length + 1) cap2) (out ++ [vn]) w2) := by
                  refine ⟨⟨g2, cap2, by rw [HJ2.out]⟩, ?_⟩
                  have e : intCells (out ++ [vn]) = intCells out ++ [.int .i64 (vn : Int)] := by simp [intCells]
                  rw [e, ← HJ2.out]
                  exact hown2
                have HB2 : Hid (Below w.heap.size w w2) := HB.out.trans hb4
                clear hown2 hb4 hoth hrow
                go_wp2_with fail
                go_roundw
                case rel => exact ⟨out ++ [vn], m2, by rw [← HJ2.out]; exact HJM.out, HM28.out, rfl, HR2, HNX, HB2⟩
                case measure => have h1 := HJM.out; have h2 := HJ.out; simp only [sliceLen]; omega
    · have HE : Hid (out.length = many) := by have := HJ.out; show _ = _; omega
      go_wp2_with fail
      go_ret2
      refine ⟨.inr ⟨_, out, p, rfl, ?_, HE.out, HT.out⟩, HB.out⟩
      have := HR.out
      exact this

end Go.Proofs.YtcaejndpmagfaaaDoor

set_option linter.unusedVariables false
namespace Go.Proofs.YtcaejndpmagfaaaDoor
open Go.RowKit
def inB (n lo hi : Int) : Bool := decide (lo ≤ n ∧ n ≤ hi)
theorem inB_yes {n lo hi : Int} (h : lo ≤ n ∧ n ≤ hi) : inB n lo hi = true := decide_eq_true h
theorem inB_no {n lo hi : Int} (h : ¬ (lo ≤ n ∧ n ≤ hi)) : inB n lo hi = false := decide_eq_false h

theorem specIn (n lo hi : Int) (w : World) :
    Calls Tryd.prog 38 #[.int .i64 n, .int .i64 lo, .int .i64 hi] w fun e w' => e = .returned (.bool (inB n lo hi)) ∧ w = w' := by
  by_cases h1 : lo ≤ n
  · by_cases h2 : n ≤ hi
    · have h3 : decide (n ≤ hi) = true := decide_eq_true h2
      rw [inB_yes ⟨h1, h2⟩]
      go_enter Tryd.func38, Tryd.ntmps38
      go_wp2
      go_ret
      exact ⟨rfl, rfl⟩
    · have h3 : decide (n ≤ hi) = false := decide_eq_false h2
      rw [inB_no (fun h => h2 h.2)]
      go_enter Tryd.func38, Tryd.ntmps38
      go_wp2
      go_ret
      exact ⟨rfl, rfl⟩
  · have h3 : decide (lo ≤ n) = false := decide_eq_false h1
    rw [inB_no (fun h => h1 h.1)]
    go_enter Tryd.func38, Tryd.ntmps38
    go_wp2
    go_ret
    exact ⟨rfl, rfl⟩

end Go.Proofs.YtcaejndpmagfaaaDoor

set_option linter.unusedVariables false
namespace Go.Proofs.YtcaejndpmagfaaaDoor
open Go.RowKit

theorem SB.lt {B b : Nat} {s : List UInt8 × List Nat} {w : World} (h : SB B b s w) : b < w.heap.size := by
  obtain ⟨_, v, u, h, _⟩ := h; exact h.lt

set_option maxHeartbeats 1000000 in
set_option maxRecDepth 100000 in
theorem numberS (B b : Nat) (s : List UInt8 × List Nat) (n k : Nat) (w : World) (h : SB B b s w) (hok : okB s) (hn : n ≤ 60000) (hk : k ≤ 8) (hlen : s.1.length ≤ 100000000) :
    Calls Tryd.prog 91 #[.pointer (some ⟨b, 0, none⟩), .int .i64 (n : Int), .int .i64 (k : Int)] w fun e w' => e = .returned (.tuple #[]) ∧ SB B b (runB s (lowB n k)) w' ∧ Below B w w' := by
  obtain ⟨F, hF⟩ : ∃ F, F = runB s (lowB n k) := ⟨_, rfl⟩
  rw [← hF]
  have HF1 : Hid (runB s (lowB n k) = F) := hF.symm
  have HS : Hid (SB B b s w ∧ okB s ∧ s.1.length ≤ 100000000) := ⟨h, hok, hlen⟩
  clear hF h hok hlen
  go_enter Tryd.func91, Tryd.ntmps91
  go_wp2_with fail
  go_loopw [6] (fun i wr => ∃ (r : Nat) (x : Int) (c : List UInt8 × List Nat), r ≤ k ∧ i = .int .i64 x ∧ Hid (x = (r : Int) - 1) ∧ Hid (runB c (lowB n r) = F) ∧ Hid (okB c) ∧ Hid (c.1.length ≤ 100000010 - r) ∧ Hid (SB B b c wr) ∧ Hid (Below B w wr)) (fun i _ => (intOf i + 1).toNat)
  case atStart => exact ⟨k, _, s, by omega, rfl, rfl, HF1, HS.out.2.1, by have := HS.out.2.2; show _ ≤ _; omega, HS.out.1, Below.refl B w⟩
  case round =>
    clear HF1 HS
    obtain ⟨r, x, c, hr, rfl, HX, HF, HO, HL, HW, HB⟩ := hrel
    rcases r with _ | m
    · have hx : ¬ (0 : Int) ≤ x := by have := HX.out; omega
      have HE : Hid (c = F) := HF.out
      go_wp2_with fail
      go_end0
      rw [← HE.out]
      exact ⟨rfl, HW.out, HB.out⟩
    · obtain rfl : x = (m : Int) := by have := HX.out; omega
      obtain ⟨q, hq⟩ : ∃ q : Nat, q = n / 2 ^ m := ⟨_, rfl⟩
      have rq : (n : Int) / 2 ^ m = (q : Int) := by rw [hq]; simp
      have hqn : q ≤ 60000 := by rw [hq]; exact Nat.le_trans (Nat.div_le_self _ _) hn
      obtain ⟨bt, hbt⟩ : ∃ bt : Nat, bt = q % 2 := ⟨_, rfl⟩
      have hb1 : bt ≤ 1 := by omega
      have rb2 : (q : Int) % 2 = (bt : Int) := by omega
      have HF2 : Hid (runB (stepB c bt) (lowB n m) = F) := by
        show _ = _
        rw [← HF.out, hbt, hq]
        rfl
      have hm0 : (0 : Int) ≤ (m : Int) := by omega
      clear hq hbt HX
      go_wp2_with fail
      refine (putS B b c bt _ HW.out HO.out hb1 (by have := HL.out; omega)).mono ?_
      rintro e w2 ⟨rfl, hw2, hb2⟩
      have HW2 : Hid (SB B b (stepB c bt) w2) := hw2
      have HB2 : Hid (Below B w w2) := HB.out.trans hb2
      clear hw2 hb2
      go_wp2_with fail
      go_roundw
      case rel =>
        refine ⟨m, _, stepB c bt, by omega, rfl, ?_, HF2, stepB_ok HO.out hb1, ?_, HW2, HB2⟩
        · show _ = _
          first | rfl | omega
        · have h1 := stepB_len c bt
          have h2 := HL.out
          show _ ≤ _
          omega
      case measure => simp [intOf]

theorem convBack {B : Nat} {v : Value} {l : List UInt8} {w : World} (h : w.ownsRow B 5 1 v l.length (Lib.byteCells l)) : (convert 28 9 v).run Tryd.prog w = .ok (.string ⟨l.toArray⟩) w := by
  rcases h.2 with ⟨h1, h2⟩ | ⟨g, cap, cur, hv, _, hc, _, _, _, ht⟩
  · obtain rfl : l = [] := List.length_eq_zero_iff.1 h2
    rw [h1]
    exact Lib.run_convert_nil_bytes w 28 9 5 0 Tryd.underlying28 Tryd.underlying5 Tryd.underlying9
  · rw [hv]
    refine run_convert_bytes_back (P := Tryd.prog) w 28 9 5 ⟨g, 0, none⟩ cap l Tryd.underlying28 Tryd.underlying5 Tryd.underlying9 ?_
    intro j hj
    rw [Addr.add_mid, Nat.zero_add, Lib.cell_of_heap hc, ← Array.getElem?_toList]
    have h3 : cur.toList[j]? = (Lib.byteCells l)[j]? := by rw [← ht, List.getElem?_take]; simp [hj]
    rw [h3]
    simp [Lib.byteCells, List.getElem?_eq_getElem hj]
/-- How many bits wait, out of the block. -/
def waits (b : Nat) (w : World) : Nat := match w.cell? ⟨b, 1, none⟩ with
  | some (.slice _ n _) => if n = 0 then 0 else 8 - n
  | _ => 0
theorem SB.c1 {B b : Nat} {s : List UInt8 × List Nat} {w : World} (h : SB B b s w) : ∃ a cap, w.cell? ⟨b, 1, none⟩ = some (.slice a s.2.length cap) := by
  obtain ⟨_, v, u, hs, _, hl⟩ := h
  rcases hl.2 with ⟨h1, h2⟩ | ⟨g, cap, cur, hv, _⟩
  · exact ⟨none, 0, by rw [hs.c1, h1, h2]⟩
  · exact ⟨_, cap, by rw [hs.c1, hv]⟩
theorem waits_eq {B b : Nat} {s : List UInt8 × List Nat} {w : World} (h : SB B b s w) : waits b w = if s.2.length = 0 then 0 else 8 - s.2.length := by
  obtain ⟨a, cap, hc⟩ := h.c1
  simp only [waits, hc]

set_option maxHeartbeats 1000000 in
set_option maxRecDepth 100000 in
theorem endS (B b : Nat) (s : List UInt8 × List Nat) (w : World) (h : SB B b s w) (hok : okB s) (hlen : s.1.length ≤ 100000000) :
    Calls Tryd.prog 92 #[.pointer (some ⟨b, 0, none⟩)] w fun e w' => e = .returned (.string ⟨(fillB s).toArray⟩) ∧ Below B w w' := by
  have HS : Hid (SB B b s w ∧ okB s ∧ s.1.length ≤ 100000000) := ⟨h, hok, hlen⟩
  clear h hok hlen
  go_enter Tryd.func92, Tryd.ntmps92
  go_wp2_with fail
  go_loopw [] (fun wr => ∃ c : List UInt8 × List Nat, Hid (fillB c = fillB s) ∧ Hid (okB c) ∧ Hid (c.1.length ≤ 100000009 - waits b wr) ∧ Hid (SB B b c wr) ∧ Hid (Below B w wr)) (fun wr => waits b wr)
  case atStart =>
    refine ⟨s, rfl, HS.out.2.1, ?_, HS.out.1, Below.refl B w⟩
    have h1 := waits_eq HS.out.1
    have h2 := HS.out.2.2
    show _ ≤ _
    split at h1 <;> omega
  case round =>
    obtain ⟨c, HF, HO, HL, HW, HB⟩ := hrel
    obtain ⟨a1, cap1, c1⟩ := HW.out.c1
    have Hm := waits_eq HW.out
    by_cases h0 : c.2.length = 0
    · have hx : ¬ (0 : Int) < (c.2.length : Int) := by omega
      have HE : Hid (fillB s = c.1) := by
        show _ = _
        rw [← HF.out, fillB_end (List.length_eq_zero_iff.1 h0)]
      clear h0 Hm
      obtain ⟨hB, v, u, hs, ho, hl⟩ := HW.out
      have c0 := hs.c0
      have HO2 : Hid (wr.ownsRow B 5 1 v c.1.length (Lib.byteCells c.1)) := ho
      have hcv := convBack ho
      clear hs ho hl
      go_wp2_with fail
      go_ret
      rw [HE.out]
      exact ⟨rfl, HB.out⟩
    · have hx : (0 : Int) < (c.2.length : Int) := by omega
      have HM : Hid (waits b wr = 8 - c.2.length) := by show _ = _; rw [Hm, if_neg h0]
      have HN : Hid (¬ c.2.length = 0) := h0
      clear h0 Hm
      go_wp2_with fail
      refine (putS B b c 0 _ HW.out HO.out (by omega) (by have := HL.out; omega)).mono ?_
      rintro e w1 ⟨rfl, hw1, hb1⟩
      have HW1 : Hid (SB B b (stepB c 0) w1) := hw1
      have HB1 : Hid (Below B w w1) := HB.out.trans hb1
      have HM1 : Hid (waits b w1 < 8 - c.2.length) := by
        show _ < _
        have h8 := HO.out.1
        have hn := HN.out
        rw [waits_eq hw1]
        unfold stepB
        split
        · simp; omega
        · simp; omega
      have HL1 : Hid ((stepB c 0).1.length ≤ 100000009 - waits b w1) := by
        have h1 := stepB_len c 0
        have h2 := HL.out
        have h3 := HM.out
        have h4 := HM1.out
        show _ ≤ _
        omega
      clear hw1 hb1 c1 hx
      go_wp2_with fail
      go_roundw
      case rel =>
        refine ⟨stepB c 0, ?_, stepB_ok HO.out (by omega), HL1, HW1, HB1⟩
        show _ = _
        rw [← HF.out]
        exact fillB_step HO.out.1 (fun e => HN.out (by rw [e]; rfl))
      case measure => rw [HM.out]; exact HM1.out

end Go.Proofs.YtcaejndpmagfaaaDoor

set_option linter.unusedVariables false
namespace Go.Proofs.YtcaejndpmagfaaaDoor
open Go.RowKit

theorem bitsNew (w : World) : SB w.heap.size w.heap.size ([], []) (w.alloc (.cells #[.slice none 0 0, .slice none 0 0] 110)) :=
  ⟨Nat.le_refl _, _, _, heap_alloc_new w _, ⟨rfl, .inl ⟨rfl, rfl⟩⟩, ⟨rfl, .inl ⟨rfl, rfl⟩⟩⟩

set_option maxHeartbeats 1000000 in
set_option maxRecDepth 100000 in
theorem specRice (g n cap : Nat) (zs : List Int) (kn : Nat) (w : World) (h : At w g zs) (hn : n = zs.length) (hk8 : kn ≤ 8) (hl40 : zs.length ≤ 40) (hz : ∀ i, i < zs.length → 0 ≤ zs.getD i 0 ∧ zs.getD i 0 ≤ 60000) :
    Calls Tryd.prog 76 #[.slice (some ⟨g, 0, none⟩) n cap, .int .i64 (kn : Int)] w fun e w' => e = .returned (.string ⟨(riceB kn (zs.map Int.toNat)).toArray⟩) ∧ Below w.heap.size w w' := by
  have HA : Hid (At w g zs) := h
  have HN : Hid (n = zs.length) := hn
  have hn40 : n ≤ 40 := by rw [hn]; exact hl40
  have HZ : Hid (∀ i, i < zs.length → 0 ≤ zs.getD i 0 ∧ zs.getD i 0 ≤ 60000) := hz
  have HL : Hid (∀ i, (upTo kn zs i).1.length ≤ 10000000) := fun i => upTo_len hk8 hl40 HZ.out i
  have HE : Hid (fillB (upTo kn zs zs.length) = riceB kn (zs.map Int.toNat)) := upTo_end kn zs
  have HW0 : Hid (SB w.heap.size w.heap.size (upTo kn zs 0) (w.alloc (.cells #[.slice none 0 0, .slice none 0 0] 110))) := by rw [upTo_zero]; exact bitsNew w
  have HB0 : Hid (Below w.heap.size w (w.alloc (.cells #[.slice none 0 0, .slice none 0 0] 110))) := (Below.refl _ w).alloc (Nat.le_refl _) _
  obtain ⟨R, hR⟩ : ∃ R, R = riceB kn (zs.map Int.toNat) := ⟨_, rfl⟩
  rw [← hR] at HE ⊢
  have hgs := h.1
  clear h hn hz hR hl40
  go_enter Tryd.func76, Tryd.ntmps76
  go_wp2_with fail
  go_loopw [6] (fun i wr => ∃ j : Nat, j ≤ n ∧ i = .int .i64 (j : Int) ∧ Hid (SB w.heap.size w.heap.size (upTo kn zs j) wr) ∧ Hid (Below w.heap.size w wr)) (fun i _ => n - (intOf i).toNat)
  case atStart => exact ⟨0, by omega, rfl, HW0, HB0⟩
  case round =>
    clear HW0 HB0
    obtain ⟨j, hj, rfl, HW, HB⟩ := hrel
    by_cases hlt : j < n
    · have hjz : j < zs.length := by rw [← HN.out]; exact hlt
      have HJN : Hid (j + 1 ≤ n) := hlt
      have HAT : Hid (∀ w', Below w.heap.size w w' → w'.cell? ⟨g, j, none⟩ = some (.int .i64 (zs.getD j 0))) := fun w' hb' => (HA.out.below hb' hgs).2 j hjz
      have hz := HZ.out j hjz
      have HS : Hid (upTo kn zs (j + 1) = runB (upTo kn zs j) (numB kn (zs.getD j 0).toNat)) := upTo_succ kn zs j hjz
      generalize zs.getD j 0 = z at HAT hz HS
      obtain ⟨zn, rfl⟩ := Int.eq_ofNat_of_zero_le hz.1
      rw [Int.toNat_natCast] at HS
      have hzn : zn ≤ 60000 := by omega
      have cj := HAT.out wr HB.out
      obtain ⟨N, hN⟩ : ∃ N : Nat, N = zn / 2 ^ kn := ⟨_, rfl⟩
      have hNn : N ≤ 60000 := by rw [hN]; exact Nat.le_trans (Nat.div_le_self _ _) hzn
      have rsh : (zn : Int) / 2 ^ kn = (N : Int) := by rw [hN]; simp
      obtain ⟨F, hF⟩ : ∃ F, F = upTo kn zs (j + 1) := ⟨_, rfl⟩
      rw [← hF] at HS
      have HF0 : Hid (runB (upTo kn zs j) (List.replicate N 1 ++ 0 :: lowB zn kn) = F) := by show _ = _; rw [HS.out, hN]; rfl
      have HFF : Hid (F = upTo kn zs (j + 1)) := hF
      have HO0 : Hid (okB (upTo kn zs j)) := upTo_ok _ _ _
      have HL0 : Hid ((upTo kn zs j).1.length ≤ 10000000) := HL.out j
      obtain ⟨c0, hc0⟩ : ∃ c0, c0 = upTo kn zs j := ⟨_, rfl⟩
      rw [← hc0] at HF0 HO0 HL0 HW
      clear hz hjz hN hF HS hc0
      go_wp2_with fail
      go_loopw [7] (fun i wr => ∃ (t : Nat) (c : List UInt8 × List Nat), t ≤ N ∧ i = .int .i64 (t : Int) ∧ Hid (runB c (List.replicate t 1 ++ 0 :: lowB zn kn) = F) ∧ Hid (okB c) ∧ Hid (c.1.length ≤ 10060000 - t) ∧ Hid (SB w.heap.size w.heap.size c wr) ∧ Hid (Below w.heap.size w wr)) (fun i _ => (intOf i).toNat)
      case atStart => exact ⟨N, c0, by omega, rfl, HF0, HO0, by have := HL0.out; show _ ≤ _; omega, HW, HB⟩
      case round =>
        clear HF0 HO0 HL0 HW HB cj
        obtain ⟨t, c, ht, rfl, HF, HO, HLc, HW, HB⟩ := hrel
        rcases t with _ | t
        · have HF1 : Hid (runB (stepB c 0) (lowB zn kn) = F) := HF.out
          go_wp2_with fail
          refine (putS w.heap.size w.heap.size c 0 _ HW.out HO.out (by omega) (by have := HLc.out; omega)).mono ?_
          rintro e w2 ⟨rfl, hw2, hb2⟩
          have HW2 : Hid (SB w.heap.size w.heap.size (stepB c 0) w2) := hw2
          have HB2 : Hid (Below w.heap.size w w2) := HB.out.trans hb2
          have cj2 : w2.cell? ⟨g, j, none⟩ = some (.int .i64 (zn : Int)) := HAT.out w2 HB2.out
          have cj3 : w2.drew.cell? ⟨g, j, none⟩ = some (.int .i64 (zn : Int)) := cj2
          obtain ⟨P2, hP2⟩ : ∃ P2 : Nat, P2 = 2 ^ kn := ⟨_, rfl⟩
          have hP0 : 0 < P2 := by rw [hP2]; exact Nat.pow_pos (by decide)
          have hP8 : P2 ≤ 256 := by rw [hP2]; exact Nat.pow_le_pow_right (n := 2) (by decide) hk8
          have rp : (2 : Int) ^ kn = (P2 : Int) := by rw [hP2]; simp
          have HRM : Hid (lowB (zn % P2) kn = lowB zn kn) := by show _ = _; rw [hP2]; exact lowB_mod zn kn kn (Nat.le_refl _)
          obtain ⟨r, hr⟩ : ∃ r : Nat, r = zn % P2 := ⟨_, rfl⟩
          have hrn : r ≤ 60000 := by rw [hr]; exact Nat.le_trans (Nat.mod_le _ _) hzn
          have rr : (zn : Int) % (P2 : Int) = (r : Int) := by rw [hr]; simp
          have rt : Int.tmod (zn : Int) (P2 : Int) = (r : Int) := by rw [Int.tmod_eq_emod_of_nonneg (by omega)]; exact rr
          rw [← hr] at HRM
          have hPne : ¬ (P2 : Int) = 0 := by omega
          have hPw : IntKind.i64.wrap (P2 : Int) = (P2 : Int) := by rw [IntKind.wrap_i64]; omega
          have lj : (j : Int) < (n : Int) := by have := HJN.out; omega
          have HF2 : Hid (runB (stepB c 0) (lowB r kn) = F) := by show _ = _; rw [HRM.out]; exact HF1.out
          have HO2 : Hid (okB (stepB c 0)) := stepB_ok HO.out (by omega)
          have HL2 : Hid ((stepB c 0).1.length ≤ 100000000) := by
            have h1 := stepB_len c 0
            have h2 := HLc.out
            show _ ≤ _
            omega
          clear hw2 hb2 hP2 rsh hr
          go_wp2_with fail
          go_region_with (go_at_call 91; refine (numberS w.heap.size w.heap.size (stepB c 0) r kn _ ?_ HO2.out hrn hk8 HL2.out).mono ?_; exact HW2.out; rintro e w3 ⟨rfl, hw3, hb3⟩)
          all_goals
            have HW3 : Hid (SB w.heap.size w.heap.size (upTo kn zs (j + 1)) w3) := by rw [← HFF.out, ← HF2.out]; exact hw3
            have HB3 : Hid (Below w.heap.size w w3) := HB2.out.drew.trans hb3
            clear hw3 hb3
            go_wp2_with fail
            go_roundw
            case rel => exact ⟨j + 1, HJN.out, by go_num, HW3, HB3⟩
            case measure => have := HJN.out; simp [intOf]; omega
        · have HF1 : Hid (runB (stepB c 1) (List.replicate t 1 ++ 0 :: lowB zn kn) = F) := HF.out
          have hpos : (0 : Int) < ((t + 1 : Nat) : Int) := by omega
          go_wp2_with fail
          refine (putS w.heap.size w.heap.size c 1 _ HW.out HO.out (by omega) (by have := HLc.out; omega)).mono ?_
          rintro e w2 ⟨rfl, hw2, hb2⟩
          have HW2 : Hid (SB w.heap.size w.heap.size (stepB c 1) w2) := hw2
          have HB2 : Hid (Below w.heap.size w w2) := HB.out.trans hb2
          clear hw2 hb2
          go_wp2_with fail
          go_roundw
          case rel =>
            refine ⟨t, stepB c 1, by omega, by go_num, HF1, stepB_ok HO.out (by omega), ?_, HW2, HB2⟩
            have h1 := stepB_len c 1
            have h2 := HLc.out
            show _ ≤ _
            omega
          case measure => simp [intOf]
    · have HJ : Hid (upTo kn zs j = upTo kn zs zs.length) := by
        show _ = _
        rw [show j = zs.length from by rw [← HN.out]; omega]
      go_wp2_with fail
      refine (endS w.heap.size w.heap.size (upTo kn zs j) _ HW.out (upTo_ok _ _ _) (by have := HL.out j; omega)).mono ?_
      rintro e w2 ⟨rfl, hb2⟩
      rw [HJ.out, HE.out]
      go_wp2_with fail
      go_ret
      exact ⟨rfl, HB.out.trans hb2⟩

end Go.Proofs.YtcaejndpmagfaaaDoor

set_option linter.unusedVariables false
namespace Go.Proofs.YtcaejndpmagfaaaDoor
open Go.Shelf Go.RowKit

/-- What comes back: nothing, or a row of the call's own that holds the numbers. -/
def GotRow (B : Nat) (v : Value) (w : World) : Option (List Nat) → Prop
  | none => v = .slice none 0 0
  | some l => OutRow B v l w
theorem toNat_map (l : List Nat) : (l.map fun n : Nat => (n : Int)).map Int.toNat = l := by
  rw [List.map_map]
  conv => rhs; rw [← List.map_id l]
  apply List.map_congr_left
  intro x _
  simp
theorem outRow_at {B : Nat} {g n cap : Nat} {l : List Nat} {w : World} (h : OutRow B (.slice (some ⟨g, 0, none⟩) n cap) l w) : At w g (l.map fun n : Nat => (n : Int)) := by
  obtain ⟨⟨g', cap', hv⟩, hrow⟩ := h
  simp only [Value.slice.injEq, Option.some.injEq, Addr.mk.injEq, and_true] at hv
  obtain ⟨rfl, rfl, rfl⟩ := hv
  obtain ⟨cur, hc, hlt⟩ := ownsRow_type hrow g rfl
  refine ⟨hlt, fun i hi => ?_⟩
  have hil : i < l.length := by simpa using hi
  rw [intCell_at hrow i hil]
  simp [List.getElem?_eq_getElem hil]

set_option maxHeartbeats 1000000 in
set_option maxRecDepth 100000 in
theorem specRiceGet (s : ByteArray) (many k : Int) (w : World) (hsm : s.size ≤ 1048576) :
    Calls Tryd.prog 56 #[.string s, .int .i64 many, .int .i64 k] w fun e w' => ∃ v, e = .returned (.tuple #[v, .bool (riceGet s.data.toList many k).isSome]) ∧ GotRow w.heap.size v w' (riceGet s.data.toList many k) ∧ Below w.heap.size w w' := by
  cases h1 : inB many 0 40 with
  | false =>
    have HG : Hid (riceGet s.data.toList many k = none) := riceGet_bad (by
      have : decide (0 ≤ many ∧ many ≤ 40) = false := h1
      simp only [getOk, this, Bool.false_and])
    rw [HG.out]
    go_enter Tryd.func56, Tryd.ntmps56
    go_wp2_with (go_at_call 38; refine (specIn _ _ _ _).mono ?_; rintro e w1 ⟨rfl, rfl⟩)
    go_ret2
    exact ⟨_, rfl, rfl, Below.refl _ _⟩
  | true =>
    cases h2 : inB k 0 8 with
    | false =>
      have HG : Hid (riceGet s.data.toList many k = none) := riceGet_bad (by
        have : decide (0 ≤ k ∧ k ≤ 8) = false := h2
        simp only [getOk, this, Bool.and_false, Bool.false_and])
      rw [HG.out]
      go_enter Tryd.func56, Tryd.ntmps56
      go_wp2_with (go_at_call 38; refine (specIn _ _ _ _).mono ?_; rintro e w1 ⟨rfl, rfl⟩)
      go_ret2
      exact ⟨_, rfl, rfl, Below.refl _ _⟩
    | true =>
      by_cases h3 : (600 : Int) < (s.size : Int)
      · have HG : Hid (riceGet s.data.toList many k = none) := riceGet_bad (by
          have : decide (s.data.toList.length ≤ 600) = false := decide_eq_false (by simp; omega)
          simp only [getOk, this, Bool.and_false])
        rw [HG.out]
        go_enter Tryd.func56, Tryd.ntmps56
        go_wp2_with (go_at_call 38; refine (specIn _ _ _ _).mono ?_; rintro e w1 ⟨rfl, rfl⟩)
        go_ret2
        exact ⟨_, rfl, rfl, Below.refl _ _⟩
      · have hm := of_decide_eq_true h1
        have hk := of_decide_eq_true h2
        obtain ⟨mn, rfl⟩ := Int.eq_ofNat_of_zero_le hm.1
        obtain ⟨kn, rfl⟩ := Int.eq_ofNat_of_zero_le hk.1
        have hs6 : s.size ≤ 600 := by omega
        have hok : getOk s.data.toList (mn : Int) (kn : Int) = true := by
          have e1 : decide (0 ≤ (mn : Int) ∧ (mn : Int) ≤ 40) = true := h1
          have e2 : decide (0 ≤ (kn : Int) ∧ (kn : Int) ≤ 8) = true := h2
          have e3 : decide (s.data.toList.length ≤ 600) = true := decide_eq_true (by simp; omega)
          simp only [getOk, e1, e2, e3, Bool.and_self]
        have HOK : Hid (getOk s.data.toList (mn : Int) (kn : Int) = true) := hok
        have hm40 : mn ≤ 40 := by omega
        have hk8 : kn ≤ 8 := by omega
        clear hok hm hk
        go_enter Tryd.func56, Tryd.ntmps56
        go_wp2_with (go_at_call 38; refine (specIn _ _ _ _).mono ?_; rintro e w1 ⟨rfl, rfl⟩)
        refine (specRead s mn kn _ hs6 hm40 hk8).mono ?_
        rintro e w1 ⟨⟨rfl, hno⟩ | ⟨v, out, p, rfl, hrow, hlen, hrd⟩, hb1⟩
        · have HG : Hid (riceGet s.data.toList (mn : Int) (kn : Int) = none) := riceGet_no (fun l => by simpa using hno l)
          have HB1 : Hid (Below w.heap.size w w1) := hb1
          clear hno hb1
          go_wp2_with fail
          go_ret2
          rw [HG.out]
          exact ⟨_, rfl, rfl, HB1.out⟩
        · obtain ⟨g, cap, rfl⟩ := hrow.1
          have HR : Hid (OutRow w.heap.size (.slice (some ⟨g, 0, none⟩) out.length cap) out w1) := hrow
          have HB1 : Hid (Below w.heap.size w w1) := hb1
          have HRD : Hid (ReadTo kn mn s.data.toList out p) := hrd
          have HLN : Hid (out.length = mn) := hlen
          have HAT : Hid (At w1 g (out.map fun n : Nat => (n : Int))) := outRow_at hrow
          clear hrow hb1 hrd hlen
          go_wp2_with fail
          refine (specRice g out.length cap (out.map fun n : Nat => (n : Int)) kn _ HAT.out (by simp) hk8 (by simp [HLN.out]; exact hm40) (by
            intro i hi
            have hil : i < out.length := by simpa using hi
            have := HRD.out.1 (out[i]) (List.getElem_mem hil)
            simp [List.getElem?_eq_getElem hil]
            omega)).mono ?_
          rintro e w2 ⟨rfl, hb2⟩
          rw [toNat_map]
          have HB2 : Hid (Below w.heap.size w w2) := HB1.out.trans (hb2.mono HB1.out.size)
          have HR2 : Hid (OutRow w.heap.size (.slice (some ⟨g, 0, none⟩) out.length cap) out w2) := by
            refine ⟨HR.out.1, ownsRow_keep HR.out.2 (fun g' hg' => ?_)⟩
            obtain ⟨cur, hc, hlt⟩ := ownsRow_type HR.out.2 g' hg'
            exact hb2.block g' hlt
          clear hb2
          by_cases he : riceB kn out = s.data.toList
          · have HG : Hid (riceGet s.data.toList (mn : Int) (kn : Int) = some out) := riceGet_yes HOK.out ⟨HLN.out, HRD.out.1, he⟩
            go_wp2_with fail
            go_ret2
            rw [HG.out]
            exact ⟨_, rfl, HR2.out, HB2.out⟩
          · have HG : Hid (riceGet s.data.toList (mn : Int) (kn : Int) = none) := riceGet_no (fun l hl => by
              have hl' : Writes kn mn s.data.toList l := hl
              have h1 := (HRD.out.2 l hl').1
              rw [HLN.out, ← hl'.1, List.take_length] at h1
              exact he (by rw [← h1]; exact hl'.2.2))
            have hne : (riceB kn out == s.toList) = false := by
              rw [ByteArray.toList_eq]
              simpa using he
            clear he
            go_wp2_with fail
            go_ret2
            rw [HG.out]
            exact ⟨_, rfl, rfl, HB2.out⟩

end Go.Proofs.YtcaejndpmagfaaaDoor

set_option linter.unusedVariables false
namespace Go.Proofs.YtcaejndpmagfaaaDoor
open Go.RowKit

theorem ownsRow_mono {B C : Nat} {e : TypeId} {v : Value} {n : Nat} {xs : List Value} {w : World} (h : w.ownsRow C e 1 v n xs) (hB : B ≤ C) : w.ownsRow B e 1 v n xs := by
  refine ⟨h.1, ?_⟩
  rcases h.2 with h2 | ⟨g, cap, cur, hv, h2, h3⟩
  · exact .inl h2
  · exact .inr ⟨g, cap, cur, hv, by omega, h3⟩

theorem OutRow.keep {B g n cap C : Nat} {l : List Nat} {w w' : World} (h : OutRow B (.slice (some ⟨g, 0, none⟩) n cap) l w) (hb : Below C w w') (hg : g < C) : OutRow B (.slice (some ⟨g, 0, none⟩) n cap) l w' :=
  ⟨h.1, ownsRow_keep h.2 (fun g' hg' => by obtain rfl : g = g' := by simpa [Value.ownBlock] using hg'
                                           exact hb.block g hg)⟩
theorem OutRow.lt {B g n cap : Nat} {l : List Nat} {w : World} (h : OutRow B (.slice (some ⟨g, 0, none⟩) n cap) l w) : B ≤ g ∧ g < w.heap.size := by
  obtain ⟨⟨g', cap', hv⟩, hrow⟩ := h
  simp only [Value.slice.injEq, Option.some.injEq, Addr.mk.injEq, and_true] at hv
  obtain ⟨rfl, rfl, rfl⟩ := hv
  obtain ⟨cur, hc, hlt⟩ := ownsRow_type hrow g rfl
  refine ⟨?_, hlt⟩
  rcases hrow.2 with ⟨h2, _⟩ | ⟨g', cap', cur, hv, h2, _⟩
  · cases h2
  · simp only [Value.slice.injEq, Option.some.injEq, Addr.mk.injEq, and_true] at hv
    rw [hv.1]
    exact h2

end Go.Proofs.YtcaejndpmagfaaaDoor

