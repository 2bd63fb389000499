/-
  SHA-256 in plain numbers below 2^32, and rows of numbers in memory.
-/
import Derived.WalkKit
import Derived.WalkSpells
import Derived.Below
import Derived.Lib.Builder
import Derived.Laws.BitsLemmas
import Derived.Laws.MakeOwn
namespace Go.Proofs.YtjeldedjhlicmaaDoor
open Go.RowKit

def rotr (x k : Nat) : Nat := x / 2 ^ k ||| x * 2 ^ (32 - k) % 4294967296
def sig0 (x : Nat) : Nat := rotr x 7 ^^^ rotr x 18 ^^^ x / 8
def sig1 (x : Nat) : Nat := rotr x 17 ^^^ rotr x 19 ^^^ x / 1024
def big0 (x : Nat) : Nat := rotr x 2 ^^^ rotr x 13 ^^^ rotr x 22
def big1 (x : Nat) : Nat := rotr x 6 ^^^ rotr x 11 ^^^ rotr x 25
def chs (e f g : Nat) : Nat := (e &&& f) ^^^ ((4294967295 ^^^ e) &&& g)
def maj (a b c : Nat) : Nat := (a &&& b) ^^^ (a &&& c) ^^^ (b &&& c)

theorem rotr_lt (x k : Nat) (hx : x < 4294967296) : rotr x k < 4294967296 := by
  have h1 : x / 2 ^ k < 2 ^ 32 := Nat.lt_of_le_of_lt (Nat.div_le_self _ _) hx
  have h2 : x * 2 ^ (32 - k) % 4294967296 < 2 ^ 32 := Nat.mod_lt _ (by decide)
  exact Nat.or_lt_two_pow h1 h2
theorem xor_lt {a b : Nat} (ha : a < 4294967296) (hb : b < 4294967296) : a ^^^ b < 4294967296 := Nat.xor_lt_two_pow (n := 32) ha hb
theorem and_lt {a b : Nat} (hb : b < 4294967296) : a &&& b < 4294967296 := Nat.and_lt_two_pow (n := 32) a hb
theorem or_lt {a b : Nat} (ha : a < 4294967296) (hb : b < 4294967296) : a ||| b < 4294967296 := Nat.or_lt_two_pow (n := 32) ha hb
theorem sig0_lt (x : Nat) (hx : x < 4294967296) : sig0 x < 4294967296 := xor_lt (xor_lt (rotr_lt _ _ hx) (rotr_lt _ _ hx)) (by omega)
theorem sig1_lt (x : Nat) (hx : x < 4294967296) : sig1 x < 4294967296 := xor_lt (xor_lt (rotr_lt _ _ hx) (rotr_lt _ _ hx)) (by omega)
theorem big0_lt (x : Nat) (hx : x < 4294967296) : big0 x < 4294967296 := xor_lt (xor_lt (rotr_lt _ _ hx) (rotr_lt _ _ hx)) (rotr_lt _ _ hx)
theorem big1_lt (x : Nat) (hx : x < 4294967296) : big1 x < 4294967296 := xor_lt (xor_lt (rotr_lt _ _ hx) (rotr_lt _ _ hx)) (rotr_lt _ _ hx)
theorem chs_lt (e f g : Nat) (hf : f < 4294967296) (hg : g < 4294967296) : chs e f g < 4294967296 := xor_lt (and_lt hf) (and_lt hg)
theorem maj_lt (a b c : Nat) (hb : b < 4294967296) (hc : c < 4294967296) : maj a b c < 4294967296 := xor_lt (xor_lt (and_lt hb) (and_lt hc)) (and_lt hc)

/-! ### The model's own operations on such numbers -/
theorem wraps_i64 (n : Int) (h₀ : 0 ≤ n) (h₁ : n < 2 ^ 63) : IntKind.i64.wrap n = n := by rw [IntKind.wrap_i64]; omega
theorem wraps_u32 (n : Int) (h₀ : 0 ≤ n) (h₁ : n < 2 ^ 32) : IntKind.u32.wrap n = n := by rw [IntKind.wrap_u32]; omega
theorem or64 (a b : Nat) (ha : a < 4294967296) (hb : b < 4294967296) : bits .or .i64 (a : Int) (b : Int) = ((a ||| b : Nat) : Int) :=
  (bits_nat .i64 63 (by decide) wraps_i64 a b (by omega) (by omega)).2
theorem and64 (a b : Nat) (ha : a < 9223372036854775808) (hb : b < 9223372036854775808) : bits .and .i64 (a : Int) (b : Int) = ((a &&& b : Nat) : Int) :=
  (bits_nat .i64 63 (by decide) wraps_i64 a b (by omega) (by omega)).1
theorem xor_of (k : IntKind) (j : Nat) (hj : j ≤ k.bits) (hk : ∀ n : Int, 0 ≤ n → n < 2 ^ j → k.wrap n = n) (a b : Nat) (ha : a < 2 ^ j) (hb : b < 2 ^ j) :
    bits .xor k a b = ((a ^^^ b : Nat) : Int) := by
  have hp : 2 ^ j ≤ 2 ^ k.bits := Nat.pow_le_pow_right (by decide) hj
  have ha' : a % 2 ^ k.bits = a := Nat.mod_eq_of_lt (Nat.lt_of_lt_of_le ha hp)
  have hb' : b % 2 ^ k.bits = b := Nat.mod_eq_of_lt (Nat.lt_of_lt_of_le hb hp)
  simp only [bits, BitVec.ofInt_natCast, BitVec.toNat_xor, BitVec.toNat_ofNat, ha', hb']
  refine hk _ (Int.natCast_nonneg _) ?_
  have := Nat.xor_lt_two_pow ha hb
  exact_mod_cast this
theorem xor64 (a b : Nat) (ha : a < 4294967296) (hb : b < 4294967296) : bits .xor .i64 (a : Int) (b : Int) = ((a ^^^ b : Nat) : Int) :=
  xor_of .i64 63 (by decide) wraps_i64 a b (by omega) (by omega)
theorem mask64 (a : Nat) (ha : a < 9223372036854775808) : bits .and .i64 (a : Int) 4294967295 = ((a % 4294967296 : Nat) : Int) := by
  have := bits_mask .i64 63 (by decide) wraps_i64 32 (by decide) (a : Int) (by omega) (by omega)
  simpa using this
theorem or32 (a b : Nat) (ha : a < 4294967296) (hb : b < 4294967296) : bits .or .u32 (a : Int) (b : Int) = ((a ||| b : Nat) : Int) :=
  (bits_nat .u32 32 (by decide) wraps_u32 a b (by omega) (by omega)).2
theorem and32 (a b : Nat) (ha : a < 4294967296) (hb : b < 4294967296) : bits .and .u32 (a : Int) (b : Int) = ((a &&& b : Nat) : Int) :=
  (bits_nat .u32 32 (by decide) wraps_u32 a b (by omega) (by omega)).1
theorem xor32 (a b : Nat) (ha : a < 4294967296) (hb : b < 4294967296) : bits .xor .u32 (a : Int) (b : Int) = ((a ^^^ b : Nat) : Int) :=
  xor_of .u32 32 (by decide) wraps_u32 a b (by omega) (by omega)

/-! ### The rounds -/
structure St where
  (a b c d e f g h : Nat)
def St.ok (s : St) : Prop := s.a < 4294967296 ∧ s.b < 4294967296 ∧ s.c < 4294967296 ∧ s.d < 4294967296 ∧ s.e < 4294967296 ∧ s.f < 4294967296 ∧ s.g < 4294967296 ∧ s.h < 4294967296
def St.step (s : St) (m w : Nat) : St :=
  let one := s.h + big1 s.e + chs s.e s.f s.g + m + w
  let two := big0 s.a + maj s.a s.b s.c
  ⟨(one + two) % 4294967296, s.a, s.b, s.c, (s.d + one) % 4294967296, s.e, s.f, s.g⟩
theorem St.step_ok (s : St) (m w : Nat) (h : s.ok) : (s.step m w).ok := by
  obtain ⟨h1, h2, h3, h4, h5, h6, h7, h8⟩ := h
  exact ⟨Nat.mod_lt _ (by decide), h1, h2, h3, Nat.mod_lt _ (by decide), h5, h6, h7⟩
def rounds (ms ws : List Nat) (s : St) : Nat → St
  | 0 => s
  | k + 1 => (rounds ms ws s k).step (ms.getD k 0) (ws.getD k 0)
theorem rounds_ok (ms ws : List Nat) (s : St) (h : s.ok) (k : Nat) : (rounds ms ws s k).ok := by
  induction k with
  | zero => exact h
  | succ k ih => exact St.step_ok _ _ _ ih

def first16 (b : List Nat) : List Nat := (List.range 16).map fun i => b.getD (4 * i) 0 * 16777216 + b.getD (4 * i + 1) 0 * 65536 + b.getD (4 * i + 2) 0 * 256 + b.getD (4 * i + 3) 0
def schedTo (b : List Nat) : Nat → List Nat
  | 0 => first16 b
  | k + 1 => let w := schedTo b k; w ++ [(w.getD k 0 + sig0 (w.getD (k + 1) 0) + w.getD (k + 9) 0 + sig1 (w.getD (k + 14) 0)) % 4294967296]
theorem schedTo_length (b : List Nat) (k : Nat) : (schedTo b k).length = 16 + k := by
  induction k with
  | zero => simp [schedTo, first16]
  | succ k ih => simp [schedTo, ih]; omega
theorem schedTo_lt (b : List Nat) (hb : ∀ x ∈ b, x < 256) (k : Nat) : ∀ x ∈ schedTo b k, x < 4294967296 := by
  induction k with
  | zero =>
    intro x hx
    simp only [schedTo, first16, List.mem_map] at hx
    obtain ⟨i, _, rfl⟩ := hx
    have g : ∀ j, b.getD j 0 < 256 := by
      intro j
      by_cases hj : j < b.length
      · simp [List.getElem?_eq_getElem hj]; exact hb _ (List.getElem_mem _)
      · simp [List.getElem?_eq_none (by omega : b.length ≤ j)]
    have := g (4 * i); have := g (4 * i + 1); have := g (4 * i + 2); have := g (4 * i + 3)
    omega
  | succ k ih =>
    intro x hx
    simp only [schedTo, List.mem_append, List.mem_singleton] at hx
    rcases hx with hx | rfl
    · exact ih x hx
    · exact Nat.mod_lt _ (by decide)
theorem getD_lt {l : List Nat} (h : ∀ x ∈ l, x < 4294967296) (i : Nat) : l.getD i 0 < 4294967296 := by
  by_cases hj : i < l.length
  · simp [List.getElem?_eq_getElem hj]; exact h _ (List.getElem_mem _)
  · simp [List.getElem?_eq_none (by omega : l.length ≤ i)]

/-! ### Rows of numbers that the call has made -/
def RowN (T : TypeId) (w : World) (g : Nat) (l : List Nat) : Prop := w.heap[g]? = some (.cells ((l.map fun n : Nat => Value.int .i64 (n : Int)).toArray) T (0, 0))
theorem RowN.lt {T : TypeId} {w : World} {g : Nat} {l : List Nat} (h : RowN T w g l) : g < w.heap.size := by
  rcases Nat.lt_or_ge g w.heap.size with h' | h'
  · exact h'
  · simp [RowN, Array.getElem?_eq_none h'] at h
theorem RowN.cell {T : TypeId} {w : World} {g : Nat} {l : List Nat} (h : RowN T w g l) (i : Nat) (hi : i < l.length) : w.cell? ⟨g, i, none⟩ = some (.int .i64 ((l.getD i 0 : Nat) : Int)) := by
  rw [Lib.cell_of_heap h]
  simp [List.getElem?_eq_getElem hi]
theorem RowN.frozen {T : TypeId} {w : World} {g : Nat} {l : List Nat} (h : RowN T w g l) (i : Nat) : w.frozen? ⟨g, i, none⟩ = false := Lib.frozen_of_heap h i
theorem RowN.set {T : TypeId} {w : World} {g : Nat} {l : List Nat} (h : RowN T w g l) (i v : Nat) : RowN T (w.setCell ⟨g, i, none⟩ (.int .i64 (v : Int))) g (l.set i v) := by
  unfold RowN at h ⊢
  simp only [World.setCell, Array.getElem?_modify, h]
  simp [List.map_set]
theorem RowN.keep {T : TypeId} {w w' : World} {g : Nat} {l : List Nat} (h : RowN T w g l) (hk : w'.heap[g]? = w.heap[g]?) : RowN T w' g l := by
  unfold RowN at h ⊢; rw [hk]; exact h
theorem RowN.below {T : TypeId} {w w' : World} {g B : Nat} {l : List Nat} (h : RowN T w g l) (hb : Below B w w') (hg : g < B) : RowN T w' g l := h.keep (hb.block g hg)

theorem RowN.drew {T : TypeId} {w : World} {g : Nat} {l : List Nat} (h : RowN T w g l) : RowN T w.drew g l := h
theorem set_next (f : List Nat) (n k : Nat) (hk : k < f.length) (hn : k < n) : (f.take k ++ List.replicate (n - k) 0).set k (f.getD k 0) = f.take (k + 1) ++ List.replicate (n - (k + 1)) 0 := by
  have e : n - k = (n - (k + 1)) + 1 := by omega
  have hl : (f.take k).length = k := by simp; omega
  rw [e, List.replicate_succ, List.set_append_right _ _ (by omega), hl, Nat.sub_self, List.set_cons_zero]
  have ht : f.take (k + 1) = f.take k ++ [f.getD k 0] := by
    have hg : f.getD k 0 = f[k] := by simp [List.getElem?_eq_getElem hk]
    rw [hg]
    exact List.take_succ_eq_append_getElem hk
  rw [ht, List.append_assoc]
  rfl
theorem or4 (x0 x1 x2 x3 : Nat) (h0 : x0 < 256) (h1 : x1 < 256) (h2 : x2 < 256) (h3 : x3 < 256) :
    bits .or .i64 (bits .or .i64 (bits .or .i64 ((x0 : Int) * 16777216) ((x1 : Int) * 65536)) ((x2 : Int) * 256)) (x3 : Int) = ((x0 * 16777216 + x1 * 65536 + x2 * 256 + x3 : Nat) : Int) := by
  have e0 : (x0 : Int) * 16777216 = ((x0 * 16777216 : Nat) : Int) := by simp
  have e1 : (x1 : Int) * 65536 = ((x1 * 65536 : Nat) : Int) := by simp
  have e2 : (x2 : Int) * 256 = ((x2 * 256 : Nat) : Int) := by simp
  have o1 : x0 * 16777216 ||| x1 * 65536 = x0 * 16777216 + x1 * 65536 := by
    have := (Nat.two_pow_add_eq_or_of_lt (i := 24) (by omega : x1 * 65536 < 2 ^ 24) x0).symm
    rw [show (2 : Nat) ^ 24 * x0 = x0 * 16777216 from by omega] at this
    exact this
  have o2 : x0 * 16777216 + x1 * 65536 ||| x2 * 256 = x0 * 16777216 + x1 * 65536 + x2 * 256 := by
    have := (Nat.two_pow_add_eq_or_of_lt (i := 16) (by omega : x2 * 256 < 2 ^ 16) (x0 * 256 + x1)).symm
    rw [show (2 : Nat) ^ 16 * (x0 * 256 + x1) = x0 * 16777216 + x1 * 65536 from by omega] at this
    exact this
  have o3 : x0 * 16777216 + x1 * 65536 + x2 * 256 ||| x3 = x0 * 16777216 + x1 * 65536 + x2 * 256 + x3 := by
    have := (Nat.two_pow_add_eq_or_of_lt (i := 8) (by omega : x3 < 2 ^ 8) (x0 * 65536 + x1 * 256 + x2)).symm
    rw [show (2 : Nat) ^ 8 * (x0 * 65536 + x1 * 256 + x2) = x0 * 16777216 + x1 * 65536 + x2 * 256 from by omega] at this
    exact this
  rw [e0, e1, e2, or64 _ _ (by omega) (by omega), o1, or64 _ _ (by omega) (by omega), o2, or64 _ _ (by omega) (by omega), o3]
theorem first16_at (b : List Nat) (k : Nat) (h : k < 16) : (first16 b).getD k 0 = b.getD (4 * k) 0 * 16777216 + b.getD (4 * k + 1) 0 * 65536 + b.getD (4 * k + 2) 0 * 256 + b.getD (4 * k + 3) 0 := by
  simp [first16, h]
theorem byte_getD {b : List Nat} (hb : ∀ x ∈ b, x < 256) (i : Nat) : b.getD i 0 < 256 := by
  by_cases hj : i < b.length
  · simp [List.getElem?_eq_getElem hj]; exact hb _ (List.getElem_mem _)
  · simp [List.getElem?_eq_none (by omega : b.length ≤ i)]
theorem sched_at (b : List Nat) (k n i : Nat) (hi : i < 16 + k) : (schedTo b k ++ List.replicate n 0).getD i 0 = (schedTo b k).getD i 0 := by
  have := schedTo_length b k
  simp [List.getElem?_append_left (by omega : i < (schedTo b k).length)]
theorem sched_set (b : List Nat) (k : Nat) (hk : k < 48) (v : Nat) (hv : v = ((schedTo b k).getD k 0 + sig0 ((schedTo b k).getD (k + 1) 0) + (schedTo b k).getD (k + 9) 0 + sig1 ((schedTo b k).getD (k + 14) 0)) % 4294967296) :
    (schedTo b k ++ List.replicate (48 - k) 0).set (16 + k) v = schedTo b (k + 1) ++ List.replicate (48 - (k + 1)) 0 := by
  have hl := schedTo_length b k
  have e : 48 - k = (48 - (k + 1)) + 1 := by omega
  rw [e, List.replicate_succ, List.set_append_right _ _ (by omega), hl, Nat.sub_self, List.set_cons_zero, schedTo, hv]
  simp

def St.toL (s : St) : List Nat := [s.a, s.b, s.c, s.d, s.e, s.f, s.g, s.h]
def St.plus (s t : St) : St := ⟨(s.a + t.a) % 4294967296, (s.b + t.b) % 4294967296, (s.c + t.c) % 4294967296, (s.d + t.d) % 4294967296, (s.e + t.e) % 4294967296, (s.f + t.f) % 4294967296, (s.g + t.g) % 4294967296, (s.h + t.h) % 4294967296⟩
theorem St.plus_ok (s t : St) : (s.plus t).ok := ⟨Nat.mod_lt _ (by decide), Nat.mod_lt _ (by decide), Nat.mod_lt _ (by decide), Nat.mod_lt _ (by decide), Nat.mod_lt _ (by decide), Nat.mod_lt _ (by decide), Nat.mod_lt _ (by decide), Nat.mod_lt _ (by decide)⟩
theorem St.toL_lt (s : St) (h : s.ok) : ∀ x ∈ s.toL, x < 4294967296 := by
  intro x hx
  obtain ⟨h1, h2, h3, h4, h5, h6, h7, h8⟩ := h
  simp only [St.toL, List.mem_cons, List.not_mem_nil, or_false] at hx
  rcases hx with rfl | rfl | rfl | rfl | rfl | rfl | rfl | rfl <;> assumption
theorem plus_at (s t : St) (k : Nat) (h : k < 8) : (s.plus t).toL.getD k 0 = (s.toL.getD k 0 + t.toL.getD k 0) % 4294967296 := by
  match k, h with
  | 0, _ => rfl
  | 1, _ => rfl
  | 2, _ => rfl
  | 3, _ => rfl
  | 4, _ => rfl
  | 5, _ => rfl
  | 6, _ => rfl
  | 7, _ => rfl
/-- The state behind a block of 64 bytes. -/
def mix (ms : List Nat) (s : St) (b : List Nat) : St := s.plus (rounds ms (schedTo b 48) s 64)

theorem x3 (p q r v : Nat) (hp : p < 4294967296) (hq : q < 4294967296) (hr : r < 4294967296) (hv : v = p ^^^ q ^^^ r) : bits .xor .i64 (bits .xor .i64 (p : Int) (q : Int)) (r : Int) = (v : Int) := by
  rw [xor64 _ _ hp hq, xor64 _ _ (xor_lt hp hq) hr, hv]
theorem ch64 (e f g v : Nat) (he : e < 4294967296) (hf : f < 4294967296) (hg : g < 4294967296) (hv : v = chs e f g) :
    bits .xor .i64 (bits .and .i64 (e : Int) (f : Int)) (bits .and .i64 (bits .xor .i64 4294967295 (e : Int)) (g : Int)) = (v : Int) := by
  have h1 : bits .xor .i64 4294967295 (e : Int) = ((4294967295 ^^^ e : Nat) : Int) := xor64 4294967295 e (by decide) he
  have h2 : 4294967295 ^^^ e < 4294967296 := xor_lt (by decide) he
  rw [h1, and64 _ _ (by omega) (by omega), and64 _ _ (by omega) (by omega), xor64 _ _ (and_lt hf) (and_lt hg), hv]
  rfl
theorem mj64 (a b c v : Nat) (ha : a < 4294967296) (hb : b < 4294967296) (hc : c < 4294967296) (hv : v = maj a b c) :
    bits .xor .i64 (bits .xor .i64 (bits .and .i64 (a : Int) (b : Int)) (bits .and .i64 (a : Int) (c : Int))) (bits .and .i64 (b : Int) (c : Int)) = (v : Int) := by
  rw [and64 _ _ (by omega) (by omega), and64 _ _ (by omega) (by omega), and64 _ _ (by omega) (by omega)]
  exact x3 _ _ _ _ (and_lt hb) (and_lt hc) (and_lt hc) (by rw [hv]; rfl)

/-! ### A text in whole pieces of 64 -/
def padLen (n : Nat) : Nat := (n + 72) / 64 * 64
/-- A list whose last places hold the bytes of a number, the lowest last, so many of them. -/
def endB (l : List Nat) (n : Nat) : Nat → List Nat
  | 0 => l
  | j + 1 => (endB l n j).set (l.length - 1 - j) (n / 2 ^ (8 * j) % 256)
theorem endB_length (l : List Nat) (n j : Nat) : (endB l n j).length = l.length := by
  induction j with
  | zero => rfl
  | succ j ih => simp [endB, ih]
def padN (t : List UInt8) : List Nat := endB (t.map (·.toNat) ++ 128 :: List.replicate (padLen t.length - t.length - 1) 0) (t.length * 8) 8
theorem padN_length (t : List UInt8) : (padN t).length = padLen t.length := by
  rw [padN, endB_length]
  simp [padLen]
  omega
theorem endB_lt (l : List Nat) (n j : Nat) (h : ∀ x ∈ l, x < 256) : ∀ x ∈ endB l n j, x < 256 := by
  induction j with
  | zero => exact h
  | succ j ih =>
    intro x hx
    rcases List.mem_or_eq_of_mem_set hx with hx | rfl
    · exact ih x hx
    · exact Nat.mod_lt _ (by decide)
theorem padN_lt (t : List UInt8) : ∀ x ∈ padN t, x < 256 := by
  refine endB_lt _ _ _ ?_
  intro x hx
  simp only [List.mem_append, List.mem_map, List.mem_cons, List.mem_replicate] at hx
  rcases hx with ⟨b, _, rfl⟩ | rfl | ⟨_, rfl⟩
  · exact b.toNat_lt
  · decide
  · decide
def zerosN (n : Nat) : Array Value := ((List.replicate n (0 : Nat)).map fun n : Nat => Value.int .i64 (n : Int)).toArray
theorem madeCells_zero (n : Nat) : madeCells #[.int .i64 0] n = zerosN n := by
  unfold madeCells zerosN
  apply Array.ext
  · simp
  · intro i h1 h2
    simp [Nat.mod_one]

end Go.Proofs.YtjeldedjhlicmaaDoor
