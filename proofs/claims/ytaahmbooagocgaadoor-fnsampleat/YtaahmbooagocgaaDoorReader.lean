/-
  The specification's reader of drawn codes: it opens, and picks numbers below a bound.
-/
import Derived.Test.YtaahmbooagocgaaDoorProg
import Derived.WalkKit
import Derived.WalkSpells
import Derived.BigQuiet
import Derived.Deep.QuietTactic
import Derived.Below
import Derived.Lib.Builder
import Derived.OpenShut
import Derived.Laws.BitsLemmas
set_option linter.unusedVariables false
namespace Go.Proofs.YtaahmbooagocgaaDoor
open Go.RowKit

/-- A slice of integers that came in: it is nil; or it leads to a row of cells, the numbers zs. -/
def IsRow (k : IntKind) (w : World) (a : Option Addr) (len cap : Nat) (zs : List Int) : Prop :=
  (a = none ∧ len = 0 ∧ cap = 0 ∧ zs = []) ∨
  ∃ x, a = some x ∧ len ≤ cap ∧ cap ≤ maxLen ∧ zs.length = cap ∧ (∀ i, i < zs.length → w.cell? (x.add i) = some (.int k (zs.getD i 0))) ∧ ∀ n ∈ zs, (Lit.int k n).wf = true

theorem xor_nat (X Y : Int) (hX : 0 ≤ X) (hX' : X < 4611686018427387904) (hY : 0 ≤ Y) (hY' : Y < 4611686018427387904) : ∃ u : Nat, bits .xor .i64 X Y = (u : Int) := by
  obtain ⟨a, rfl⟩ := Int.eq_ofNat_of_zero_le hX
  obtain ⟨b, rfl⟩ := Int.eq_ofNat_of_zero_le hY
  refine ⟨a ^^^ b, ?_⟩
  have hx : a ^^^ b < 2 ^ 62 := Nat.xor_lt_two_pow (by omega) (by omega)
  have h1 : (BitVec.ofInt 64 (a : Int)).toNat = a := by
    rw [BitVec.ofInt_natCast, BitVec.toNat_ofNat]; exact Nat.mod_eq_of_lt (by omega)
  have h2 : (BitVec.ofInt 64 (b : Int)).toNat = b := by
    rw [BitVec.ofInt_natCast, BitVec.toNat_ofNat]; exact Nat.mod_eq_of_lt (by omega)
  show IntKind.i64.wrap ((BitVec.ofInt 64 (a : Int) ^^^ BitVec.ofInt 64 (b : Int)).toNat : Int) = _
  rw [BitVec.toNat_xor, h1, h2, IntKind.wrap_i64]
  omega

/-- The reader: its block b, one of the call's own, the bytes that it reads, which came in, its place p. -/
def Rd (B b p : Nat) (w : World) : Prop :=
  B ≤ b ∧ ∃ (a : Option Addr) (n cap : Nat) (zs : List Int), n ≤ 2000 ∧ w.heap[b]? = some (.cells #[.slice a n cap, .int .i64 p] 62 (0, 0)) ∧
    (n ≠ 0 → ∃ x o, a = some ⟨x, o, none⟩ ∧ x < B ∧ (∀ i, i < n → w.cell? ⟨x, o + i, none⟩ = some (.int .u8 (zs.getD i 0)) ∧ 0 ≤ zs.getD i 0 ∧ zs.getD i 0 ≤ 255))

/-- Block b alone has turned. -/
structure Only (b : Nat) (w w' : World) : Prop where
  os : w'.os = w.os
  tape : w'.tape = w.tape
  output : w'.output = w.output
  size : w'.heap.size = w.heap.size
  block : ∀ c, c ≠ b → w'.heap[c]? = w.heap[c]?
theorem Only.below {B b : Nat} {w w' : World} (h : Only b w w') (hb : B ≤ b) : Below B w w' :=
  ⟨h.os, h.tape, h.output, by rw [h.size]; exact Nat.le_refl _, fun k hk => h.block k (by omega)⟩
theorem Only.refl (b : Nat) (w : World) : Only b w w := ⟨rfl, rfl, rfl, rfl, fun _ _ => rfl⟩
theorem Only.trans {b : Nat} {u v w : World} (h : Only b u v) (k : Only b v w) : Only b u w :=
  ⟨k.os.trans h.os, k.tape.trans h.tape, k.output.trans h.output, k.size.trans h.size, fun c hc => (k.block c hc).trans (h.block c hc)⟩
theorem Only.setCell (b o : Nat) (v : Value) (w : World) : Only b w (w.setCell ⟨b, o, none⟩ v) :=
  ⟨rfl, rfl, rfl, by simp [World.setCell], fun c hc => Below.heap_setCell _ _ _ _ hc⟩
theorem Only.drew {b : Nat} {w w' : World} (h : Only b w w') : Only b w w'.drew := ⟨h.os, h.tape, h.output, h.size, h.block⟩
theorem Only.drewN {b : Nat} {w w' : World} (h : Only b w w') (n : Nat) : Only b w (w'.drewN n) := ⟨h.os, h.tape, h.output, h.size, h.block⟩

/-- What a step leaves below block b and in b leaves the reader. -/
theorem Rd.keep {B b p : Nat} {w w' : World} (h : Rd B b p w) (hk : Below (b + 1) w w') : Rd B b p w' := by
  obtain ⟨hB, a, n, cap, zs, hn, hb, hc⟩ := h
  refine ⟨hB, a, n, cap, zs, hn, by rw [hk.block b (by omega)]; exact hb, fun h0 => ?_⟩
  obtain ⟨x, o, ha, hx, hcs⟩ := hc h0
  exact ⟨x, o, ha, hx, fun i hi => ⟨by rw [hk.cell (show (⟨x, o + i, none⟩ : Addr).block < b + 1 by show x < b + 1; omega)]; exact (hcs i hi).1, (hcs i hi).2⟩⟩
theorem Rd.lt {B b p : Nat} {w : World} (h : Rd B b p w) : b < w.heap.size := by
  obtain ⟨_, a, n, cap, zs, _, hb, _⟩ := h
  rcases Nat.lt_or_ge b w.heap.size with h' | h'
  · exact h'
  · simp [Array.getElem?_eq_none h'] at hb

set_option maxHeartbeats 2000000 in
set_option maxRecDepth 100000 in
theorem open_walk (a : Option Addr) (len cap : Nat) (zs : List Int) (w : World) (h : IsRow .u8 w a len cap zs) :
    Calls Tryd.prog 23 #[.slice a len cap] w fun e w' => e = .returned (.pointer (some ⟨w.heap.size, 0, none⟩)) ∧ Rd w.heap.size w.heap.size 0 w' ∧ Below w.heap.size w w' ∧ w'.heap.size = w.heap.size + 1 := by
  rcases h with ⟨rfl, rfl, rfl, rfl⟩ | ⟨x, rfl, hl, hm, hz, hcell, hwz⟩
  · go_enter Tryd.func23, Tryd.ntmps23
    go_wp2
    go_ret
    exact ⟨rfl, ⟨Nat.le_refl _, none, 0, 0, [], by omega, heap_alloc_new w _, fun h => absurd rfl h⟩, (Below.refl _ w).alloc (Nat.le_refl _) _, by simp⟩
  · have hrd : ∀ n, n ≤ len → n ≤ 2000 → Rd w.heap.size w.heap.size 0 (w.alloc (.cells #[.slice (some x) n cap, .int .i64 0] 62)) := by
      intro n hn hn2
      refine ⟨Nat.le_refl _, some x, n, cap, zs, hn2, heap_alloc_new w _, fun h0 => ?_⟩
      obtain ⟨b, o, spot⟩ := x
      have hc0 := hcell 0 (by omega)
      have hspot : spot = none := by simpa [Addr.add] using World.cell?_spot hc0
      subst hspot
      have hlt : b < w.heap.size := World.block_lt_of_cell? w _ hc0
      refine ⟨b, o, rfl, hlt, fun i hi => ?_⟩
      have hci := hcell i (by omega)
      refine ⟨?_, ?_⟩
      · rw [World.cell?_of_block (w := w) (a := ⟨b, o + i, none⟩) (Below.heap_alloc w _ b hlt)]
        by_cases h0 : i = 0
        · subst h0; simpa [Addr.add] using hci
        · simpa [Addr.add, h0] using hci
      · have hmem : zs.getD i 0 ∈ zs := by
          have hi' : i < zs.length := by omega
          simp [List.getElem?_eq_getElem hi']
        have := hwz _ hmem
        exact bounds_u8 this
    by_cases h2 : (2000 : Int) < (len : Int)
    · go_enter Tryd.func23, Tryd.ntmps23
      go_wp2
      go_ret
      exact ⟨rfl, hrd 2000 (by omega) (by omega), (Below.refl _ w).alloc (Nat.le_refl _) _, by simp⟩
    · go_enter Tryd.func23, Tryd.ntmps23
      go_wp2
      go_ret
      exact ⟨rfl, hrd len (by omega) (by omega), (Below.refl _ w).alloc (Nat.le_refl _) _, by simp⟩

theorem Rd.next {B b p : Nat} {w : World} (h : Rd B b p w) : Rd B b (p + 1) (w.setCell ⟨b, 1, none⟩ (.int .i64 (p + 1))) := by
  obtain ⟨hB, a, n, cap, zs, hn, hb, hc⟩ := h
  refine ⟨hB, a, n, cap, zs, hn, by simp [World.setCell, Array.getElem?_modify, hb], fun h0 => ?_⟩
  obtain ⟨x, o, ha, hx, hcs⟩ := hc h0
  refine ⟨x, o, ha, hx, fun i hi => ⟨?_, (hcs i hi).2⟩⟩
  rw [World.cell?_of_block (w := w) (a := ⟨x, o + i, none⟩) (Below.heap_setCell w ⟨b, 1, none⟩ _ x (by show x ≠ b; omega))]
  exact (hcs i hi).1

set_option maxHeartbeats 2000000 in
set_option maxRecDepth 100000 in
theorem pick_walk (B b p : Nat) (n : Int) (w : World) (h : Rd B b p w) (hp : p < 1000000000) (hn31 : n ≤ 1000000000) :
    Calls Tryd.prog 42 #[.pointer (some ⟨b, 0, none⟩), .int .i64 n] w fun e w' => ∃ x : Nat, e = .returned (.int .i64 x) ∧ (1 ≤ n → (x : Int) < n) ∧ (n < 1 → x = 0) ∧ Rd B b (p + 1) w' ∧ Only b w w' := by
  have hnext := h.next
  obtain ⟨hB, a, len, cap, zs, hlen, hb, hc⟩ := h
  have c0 : w.cell? ⟨b, 0, none⟩ = some (.slice a len cap) := by rw [Lib.cell_of_heap hb]; rfl
  have c1 : w.cell? ⟨b, 1, none⟩ = some (.int .i64 p) := by rw [Lib.cell_of_heap hb]; rfl
  have f1 : w.frozen? ⟨b, 1, none⟩ = false := Lib.frozen_of_heap hb 1
  have HO := Only.setCell b 1 (.int .i64 ((p : Int) + 1)) w
  by_cases hn : n < 1
  · go_enter Tryd.func42, Tryd.ntmps42
    go_wp2
    go_ret
    exact ⟨0, rfl, fun h => by omega, fun _ => rfl, hnext, HO⟩
  · by_cases hl0 : len = 0
    · subst hl0
      go_enter Tryd.func42, Tryd.ntmps42
      go_wp2
      go_ret
      exact ⟨0, rfl, by omega, by omega, hnext, HO⟩
    · obtain ⟨x, o, rfl, hxB, hcs⟩ := hc hl0
      have hcx : ∀ i, i < len → (w.setCell ⟨b, 1, none⟩ (.int .i64 ((p : Int) + 1))).cell? ⟨x, o + i, none⟩ = some (.int .u8 (zs.getD i 0)) := by
        intro i hi
        rw [World.cell?_of_block (w := w) (a := ⟨x, o + i, none⟩) (Below.heap_setCell w ⟨b, 1, none⟩ _ x (by show x ≠ b; omega))]
        exact (hcs i hi).1
      have hl0' : ((len : Int) == 0) = false := by simp; omega
      by_cases hpl : p < len
      · have hcp := hcx p hpl
        have hz := (hcs p hpl).2
        obtain ⟨z, hzz⟩ : ∃ z, z = zs.getD p 0 := ⟨_, rfl⟩
        rw [← hzz] at hcp hz
        clear hcx hcs hc hzz
        obtain ⟨hz0, hz1⟩ := hz
        go_enter Tryd.func42, Tryd.ntmps42
        go_wp2
        go_ret
        obtain ⟨y, hy⟩ := Int.eq_ofNat_of_zero_le (Int.emod_nonneg z (show n ≠ 0 by omega))
        have hyl : (y : Int) < n := by rw [← hy]; exact Int.emod_lt_of_pos _ (by omega)
        exact ⟨y, congrArg (fun t => Ending.returned (Value.int .i64 t)) hy, by first | exact fun _ => hyl | exact hyl, by omega, hnext, HO⟩
      · clear hc
        obtain ⟨q1, hq1⟩ : ∃ q : Nat, (p : Int) % (len : Int) = (q : Int) := ⟨p % len, by simp⟩
        have hq1l : (q1 : Int) < (len : Int) := by rw [← hq1]; exact Int.emod_lt_of_pos _ (by omega)
        obtain ⟨q2, hq2⟩ : ∃ q : Nat, ((p : Int) * 7 + 3) % (len : Int) = (q : Int) := ⟨(p * 7 + 3) % len, by simp⟩
        have hq2l : (q2 : Int) < (len : Int) := by rw [← hq2]; exact Int.emod_lt_of_pos _ (by omega)
        obtain ⟨q3, hq3⟩ : ∃ q : Nat, (p : Int) / (len : Int) = (q : Int) := ⟨p / len, by simp⟩
        have hq3l : q3 ≤ p := by
          have : p / len ≤ p := Nat.div_le_self _ _
          have h2 : ((p / len : Nat) : Int) = (q3 : Int) := by rw [← hq3]; simp
          omega
        have hc1 := hcx q1 (by omega)
        have hz1 := (hcs q1 (by omega)).2
        have hc2 := hcx q2 (by omega)
        have hz2 := (hcs q2 (by omega)).2
        obtain ⟨z1, hzz1⟩ : ∃ z, z = zs.getD q1 0 := ⟨_, rfl⟩
        obtain ⟨z2, hzz2⟩ : ∃ z, z = zs.getD q2 0 := ⟨_, rfl⟩
        rw [← hzz1] at hc1 hz1
        rw [← hzz2] at hc2 hz2
        clear hcx hcs hzz1 hzz2
        obtain ⟨hz10, hz11⟩ := hz1
        obtain ⟨hz20, hz21⟩ := hz2
        go_enter Tryd.func42, Tryd.ntmps42
        go_wp2_with fail
        go_quiet (fail)
        go_wp2
        go_ret
        obtain ⟨u, hu⟩ := xor_nat (z1 * 131 + z2 * 1117 + (p : Int) * 29 + (q3 : Int) * 53) ((z1 * 131 + z2 * 1117 + (p : Int) * 29 + (q3 : Int) * 53) / 64) (by omega) (by omega) (by omega) (by omega)
        obtain ⟨y, hy⟩ := Int.eq_ofNat_of_zero_le (Int.emod_nonneg (u : Int) (show n ≠ 0 by omega))
        have hyl : (y : Int) < n := by rw [← hy]; exact Int.emod_lt_of_pos _ (by omega)
        have ht : (bits .xor .i64 (z1 * 131 + z2 * 1117 + (p : Int) * 29 + (q3 : Int) * 53) ((z1 * 131 + z2 * 1117 + (p : Int) * 29 + (q3 : Int) * 53) / 64)).tmod n = (y : Int) := by
          rw [hu, Int.tmod_eq_emod_of_nonneg (by omega)]; exact hy
        exact ⟨y, congrArg (fun t => Ending.returned (Value.int .i64 t)) ht, by first | exact fun _ => hyl | exact hyl, by omega, hnext.keep ⟨rfl, rfl, rfl, Nat.le_refl _, fun _ _ => rfl⟩, HO.drewN nq⟩

/-- One of a list of numbers that the call has just laid. -/
theorem one_walk (B b p : Nat) (g n cap : Nat) (zs : List Int) (w : World) (h : Rd B b p w) (hp : p < 1000000000) (hn0 : 1 ≤ n) (hn31 : n ≤ 1000000000) (hcell : ∀ i, i < n → w.cell? ⟨g, i, none⟩ = some (.int .i64 (zs.getD i 0))) (hgb : g ≠ b) :
    Calls Tryd.prog 25 #[.pointer (some ⟨b, 0, none⟩), .slice (some ⟨g, 0, none⟩) n cap] w fun e w' => ∃ x : Nat, x < n ∧ e = .returned (.int .i64 (zs.getD x 0)) ∧ Rd B b (p + 1) w' ∧ Only b w w' := by
  go_enter Tryd.func25, Tryd.ntmps25
  go_wp2_with (go_at_call 42; refine (pick_walk B b p _ _ h hp (by omega)).mono ?_)
  rintro e w1 ⟨x, rfl, hx, _, hr, ho⟩
  have hxn : (x : Int) < (n : Int) := hx (by omega)
  have hc : w1.cell? ⟨g, x, none⟩ = some (.int .i64 (zs.getD x 0)) := by
    rw [World.cell?_of_block (w := w) (a := ⟨g, x, none⟩) (ho.block g hgb)]
    exact hcell x (by omega)
  obtain ⟨z, hz⟩ : ∃ z, z = zs.getD x 0 := ⟨_, rfl⟩
  rw [← hz] at hc
  have HZ : Hid (z = zs.getD x 0) := hz
  clear hz hx hcell
  go_wp2
  go_ret
  exact ⟨x, by omega, by rw [← HZ.out]; rfl, hr, ho⟩

/-- One of a list of texts that the call has just laid. -/
theorem of_walk (B b p : Nat) (g n cap : Nat) (ss : List ByteArray) (w : World) (h : Rd B b p w) (hp : p < 1000000000) (hn0 : 1 ≤ n) (hn31 : n ≤ 1000000000) (hcell : ∀ i, i < n → w.cell? ⟨g, i, none⟩ = some (.string (ss.getD i ByteArray.empty))) (hgb : g ≠ b) :
    Calls Tryd.prog 43 #[.pointer (some ⟨b, 0, none⟩), .slice (some ⟨g, 0, none⟩) n cap] w fun e w' => ∃ x : Nat, x < n ∧ e = .returned (.string (ss.getD x ByteArray.empty)) ∧ Rd B b (p + 1) w' ∧ Only b w w' := by
  go_enter Tryd.func43, Tryd.ntmps43
  go_wp2_with (go_at_call 42; refine (pick_walk B b p _ _ h hp (by omega)).mono ?_)
  rintro e w1 ⟨x, rfl, hx, _, hr, ho⟩
  have hxn : (x : Int) < (n : Int) := hx (by omega)
  have hc : w1.cell? ⟨g, x, none⟩ = some (.string (ss.getD x ByteArray.empty)) := by
    rw [World.cell?_of_block (w := w) (a := ⟨g, x, none⟩) (ho.block g hgb)]
    exact hcell x (by omega)
  obtain ⟨z, hz⟩ : ∃ z, z = ss.getD x ByteArray.empty := ⟨_, rfl⟩
  rw [← hz] at hc
  have HZ : Hid (z = ss.getD x ByteArray.empty) := hz
  clear hz hx hcell
  go_wp2
  go_ret
  exact ⟨x, by omega, by rw [← HZ.out]; rfl, hr, ho⟩

/-- The cells of a list of numbers, of texts, that lies whole in a block. -/
theorem cells_ints {w : World} {g : Nat} {zs : List Int} {cs : Array Value} {T : TypeId} {fr : Nat × Nat} (h : w.heap[g]? = some (.cells cs T fr)) (he : cs = (zs.map (Value.int .i64)).toArray) (n : Nat) (hn : n ≤ zs.length) :
    ∀ i, i < n → w.cell? ⟨g, i, none⟩ = some (.int .i64 (zs.getD i 0)) := by
  intro i hi
  rw [Lib.cell_of_heap h, he]
  have : i < zs.length := by omega
  simp [List.getElem?_eq_getElem this]
theorem cells_texts {w : World} {g : Nat} {ss : List ByteArray} {cs : Array Value} {T : TypeId} {fr : Nat × Nat} (h : w.heap[g]? = some (.cells cs T fr)) (he : cs = (ss.map Value.string).toArray) (n : Nat) (hn : n ≤ ss.length) :
    ∀ i, i < n → w.cell? ⟨g, i, none⟩ = some (.string (ss.getD i ByteArray.empty)) := by
  intro i hi
  rw [Lib.cell_of_heap h, he]
  have : i < ss.length := by omega
  simp [List.getElem?_eq_getElem this]

end Go.Proofs.YtaahmbooagocgaaDoor
