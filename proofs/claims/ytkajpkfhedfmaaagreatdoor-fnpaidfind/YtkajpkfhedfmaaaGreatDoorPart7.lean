/-
  Texts that the last part needs, joined.
-/
import Derived.Test.YtkajpkfhedfmaaaGreatDoorPart1
import Derived.Test.YtkajpkfhedfmaaaGreatDoorPart2
import Derived.Test.YtkajpkfhedfmaaaGreatDoorPart3
import Derived.Test.YtkajpkfhedfmaaaGreatDoorPart4
import Derived.Test.YtkajpkfhedfmaaaGreatDoorPart5
import Derived.Test.YtkajpkfhedfmaaaGreatDoorPart6
import Derived.OwnWalk
import Derived.Deep.RegionWith
import Derived.Deep.RegionLaw
namespace Go.Proofs.YtkajpkfhedfmaaaGreatDoor
open Go.RowKit

/-! ### The bits of a text -/
def byteBits (c : UInt8) : List Nat := [c.toNat / 128 % 2, c.toNat / 64 % 2, c.toNat / 32 % 2, c.toNat / 16 % 2, c.toNat / 8 % 2, c.toNat / 4 % 2, c.toNat / 2 % 2, c.toNat % 2]
def unpack (o : List UInt8) : List Nat := o.flatMap byteBits
theorem unpack_append (a b : List UInt8) : unpack (a ++ b) = unpack a ++ unpack b := by simp [unpack]
theorem unpack_length (o : List UInt8) : (unpack o).length = 8 * o.length := by
  induction o with
  | nil => rfl
  | cons c r ih =>
    have : unpack (c :: r) = byteBits c ++ unpack r := rfl
    rw [this, List.length_append, ih]
    simp [byteBits]
    omega
theorem byteBits_val (l : List Nat) (h8 : l.length = 8) (h : ∀ x ∈ l, x ≤ 1) : byteBits (UInt8.ofNat (valB l)) = l := by
  match l, h8 with
  | [a, b, c, d, e, f, g, i], _ =>
    have ha := h a (by simp)
    have hb := h b (by simp)
    have hc := h c (by simp)
    have hd := h d (by simp)
    have he := h e (by simp)
    have hf := h f (by simp)
    have hg := h g (by simp)
    have hi := h i (by simp)
    have hv : valB [a, b, c, d, e, f, g, i] = a * 128 + b * 64 + c * 32 + d * 16 + e * 8 + f * 4 + g * 2 + i := by
      simp only [valB, List.foldl_cons, List.foldl_nil]
      omega
    have hn : (UInt8.ofNat (valB [a, b, c, d, e, f, g, i])).toNat = a * 128 + b * 64 + c * 32 + d * 16 + e * 8 + f * 4 + g * 2 + i := by
      rw [hv]
      simp
      omega
    simp only [byteBits, hn, List.cons.injEq, and_true]
    refine ⟨?_, ?_, ?_, ?_, ?_, ?_, ?_, ?_⟩ <;> omega
theorem unpack_step {s : List UInt8 × List Nat} {b : Nat} (h : okB s) (hb : b ≤ 1) : unpack (stepB s b).1 ++ (stepB s b).2 = unpack s.1 ++ s.2 ++ [b] := by
  unfold stepB
  split
  · rename_i h7
    have hall : ∀ x ∈ s.2 ++ [b], x ≤ 1 := by
      intro x hx
      rcases List.mem_append.1 hx with hx | hx
      · exact h.2 x hx
      · simp at hx; omega
    have e : unpack [UInt8.ofNat (valB (s.2 ++ [b]))] = s.2 ++ [b] := by
      have : unpack [UInt8.ofNat (valB (s.2 ++ [b]))] = byteBits (UInt8.ofNat (valB (s.2 ++ [b]))) := by simp [unpack]
      rw [this, byteBits_val _ (by simp [h7]) hall]
    rw [unpack_append, e]
    simp
  · simp
theorem unpack_run (bs : List Nat) : ∀ (s : List UInt8 × List Nat), okB s → (∀ b ∈ bs, b ≤ 1) → unpack (runB s bs).1 ++ (runB s bs).2 = unpack s.1 ++ s.2 ++ bs := by
  induction bs with
  | nil => intro s _ _; simp [runB]
  | cons b r ih =>
    intro s h hb
    have h1 := hb b (by simp)
    have := ih (stepB s b) (stepB_ok h h1) (fun x hx => hb x (by simp [hx]))
    have e : runB s (b :: r) = runB (stepB s b) r := rfl
    rw [e, this, unpack_step h h1]
    simp
theorem run_zeros (m : Nat) : ∀ (s : List UInt8 × List Nat), okB s → s.2.length + m = 8 → m ≠ 0 → (runB s (List.replicate m 0)).2 = [] := by
  induction m with
  | zero => intro s _ _ h; exact absurd rfl h
  | succ m ih =>
    intro s h hl _
    have e : runB s (List.replicate (m + 1) 0) = runB (stepB s 0) (List.replicate m 0) := rfl
    rw [e]
    by_cases h7 : s.2.length = 7
    · have hm : m = 0 := by omega
      subst hm
      simp [runB, stepB, h7]
    · have h2 : (stepB s 0).2 = s.2 ++ [0] := by simp [stepB, h7]
      refine ih _ (stepB_ok h (by omega)) (by rw [h2]; simp; omega) (by omega)
theorem unpack_fill {s : List UInt8 × List Nat} (h : okB s) : ∃ z, z < 8 ∧ unpack (fillB s) = unpack s.1 ++ s.2 ++ List.replicate z 0 := by
  by_cases h0 : s.2 = []
  · exact ⟨0, by omega, by rw [fillB_end h0, h0]; simp⟩
  · have hne : s.2.length ≠ 0 := fun e => h0 (List.length_eq_zero_iff.1 e)
    refine ⟨8 - s.2.length, by omega, ?_⟩
    have h8 := h.1
    have hu := unpack_run (List.replicate (8 - s.2.length) 0) s h (by intro b hb; simp at hb; omega)
    have hz := run_zeros (8 - s.2.length) s h (by omega) (by omega)
    rw [hz, List.append_nil] at hu
    rw [fillB, if_neg h0]
    exact hu
theorem unpack_rice (k : Nat) (l : List Nat) : ∃ z, z < 8 ∧ unpack (riceB k l) = bitsOf k l ++ List.replicate z 0 := by
  have hk : okB (runB ([], []) (bitsOf k l)) := runB_ok ⟨by simp, by simp⟩ (bitsOf_ok k l)
  obtain ⟨z, hz, h⟩ := unpack_fill hk
  refine ⟨z, hz, ?_⟩
  rw [riceB, h, unpack_run (bitsOf k l) ([], []) ⟨by simp, by simp⟩ (bitsOf_ok k l)]
  simp [unpack]

/-! ### The program's reader -/
def takeM (k : Nat) : Nat × Bool × Nat → Nat → (Nat × Bool × Nat) × Option Nat
  | (n, true, left), b => if 1 < left then ((n * 2 + b, true, left - 1), none) else ((0, false, 0), some (n * 2 + b))
  | (n, false, left), b => if b = 1 then ((n + 1, false, left), none) else if 0 < k then ((n, true, k), none) else ((0, false, 0), some n)
def readT (k many : Nat) : List Nat → Nat × Bool × Nat → List Nat → List Nat
  | [], _, out => out
  | b :: r, st, out => if out.length = many then out else readT k many r (takeM k st b).1 (out ++ (takeM k st b).2.toList)
theorem readT_ones (k many m : Nat) (rest : List Nat) : ∀ (n : Nat) (out : List Nat), out.length ≠ many → readT k many (List.replicate m 1 ++ rest) (n, false, 0) out = readT k many rest (n + m, false, 0) out := by
  induction m with
  | zero => intro n out _; simp
  | succ m ih =>
    intro n out h
    rw [List.replicate_succ, List.cons_append, readT, if_neg h]
    simp only [takeM, if_true, Option.toList, List.append_nil]
    rw [ih (n + 1) out h, show n + 1 + m = n + (m + 1) from by omega]
theorem readT_low (k many x : Nat) (rest : List Nat) : ∀ (j n : Nat) (out : List Nat), out.length ≠ many → n = x / 2 ^ (j + 1) → readT k many (lowB x (j + 1) ++ rest) (n, true, j + 1) out = readT k many rest (0, false, 0) (out ++ [x]) := by
  intro j
  induction j with
  | zero =>
    intro n out h hn
    rw [show lowB x (0 + 1) = [x / 2 ^ 0 % 2] from rfl, List.cons_append, readT, if_neg h]
    have : n * 2 + x / 2 ^ 0 % 2 = x := by rw [hn]; simp; omega
    simp only [takeM, List.nil_append, show ¬ (1 < 0 + 1) from by omega, if_false, Option.toList, this]
  | succ j ih =>
    intro n out h hn
    rw [show lowB x (j + 1 + 1) = (x / 2 ^ (j + 1) % 2) :: lowB x (j + 1) from rfl, List.cons_append, readT, if_neg h]
    simp only [takeM, show 1 < j + 1 + 1 from by omega, if_true, Option.toList, List.append_nil, show j + 1 + 1 - 1 = j + 1 from by omega]
    refine ih _ out h ?_
    rw [hn, Nat.pow_succ 2 (j + 1), ← Nat.div_div_eq_div_mul]
    omega
theorem readT_num (k many x : Nat) (rest : List Nat) (out : List Nat) (h : out.length ≠ many) : readT k many (numB k x ++ rest) (0, false, 0) out = readT k many rest (0, false, 0) (out ++ [x]) := by
  rw [numB, List.append_assoc, readT_ones k many _ _ 0 out h, List.cons_append, readT, if_neg h, Nat.zero_add]
  cases k with
  | zero => simp [takeM, lowB]
  | succ j =>
    simp only [takeM, show ¬ (0 = 1) from by omega, if_false, show 0 < j + 1 from by omega, if_true, Option.toList, List.append_nil]
    exact readT_low (j + 1) many x rest j _ out h rfl
theorem readT_all (k many : Nat) (l : List Nat) : ∀ (out rest : List Nat), out.length + l.length = many → readT k many (bitsOf k l ++ rest) (0, false, 0) out = out ++ l := by
  induction l with
  | nil =>
    intro out rest h
    have ho : out.length = many := by simpa using h
    cases rest with
    | nil => simp [bitsOf, readT]
    | cons b r => simp [bitsOf, readT, ho]
  | cons x l ih =>
    intro out rest h
    have : bitsOf k (x :: l) = numB k x ++ bitsOf k l := by simp [bitsOf]
    rw [this, List.append_assoc, readT_num k many x _ out (by simp at h; omega), ih (out ++ [x]) rest (by simp at h ⊢; omega)]
    simp
/-- What was written is read. -/
theorem readT_rice (k : Nat) (l : List Nat) : readT k l.length (unpack (riceB k l)) (0, false, 0) [] = l := by
  obtain ⟨z, _, h⟩ := unpack_rice k l
  rw [h, readT_all k l.length l [] _ (by simp)]
  rfl

end Go.Proofs.YtkajpkfhedfmaaaGreatDoor

set_option linter.unusedVariables false
namespace Go.Proofs.YtkajpkfhedfmaaaGreatDoor
open Go.RowKit

theorem lowB_len (x : Nat) : ∀ k, (lowB x k).length = k := by
  intro k
  induction k with
  | zero => rfl
  | succ k ih => simp [lowB, ih]
theorem bitsOf_len (k : Nat) (hk : k ≤ 8) (l : List Nat) (h : ∀ x ∈ l, x ≤ 60000) : (bitsOf k l).length ≤ 60009 * l.length := by
  induction l with
  | nil => simp [bitsOf]
  | cons x r ih =>
    have e : bitsOf k (x :: r) = numB k x ++ bitsOf k r := by simp [bitsOf]
    have h1 := h x (by simp)
    have h2 := ih (fun y hy => h y (by simp [hy]))
    have h3 : x / 2 ^ k ≤ x := Nat.div_le_self _ _
    rw [e, List.length_append, List.length_cons]
    have h4 : (numB k x).length ≤ 60009 := by
      simp [numB, lowB_len]
      omega
    omega
theorem ricePut_len (ns : List Int) (k : Int) : (ricePut ns k).length ≤ 300100 := by
  cases hr : riceOkB ns k with
  | false => rw [ricePut_no hr]; simp
  | true =>
    rw [ricePut_yes hr]
    have hb := riceOk_bits hr
    have hn := riceOk_len hr
    obtain ⟨z, hz, hu⟩ := unpack_rice k.toNat (ns.map Int.toNat)
    have h1 := unpack_length (riceB k.toNat (ns.map Int.toNat))
    rw [hu, List.length_append, List.length_replicate] at h1
    have h2 := bitsOf_len k.toNat (by omega) (ns.map Int.toNat) (by
      intro x hx
      obtain ⟨y, hy, rfl⟩ := List.mem_map.1 hx
      obtain ⟨i, hi, rfl⟩ := List.mem_iff_getElem.1 hy
      have := riceOk_at hr i hi
      rw [List.getD_eq_getElem?_getD, List.getElem?_eq_getElem hi] at this
      simp at this
      omega)
    simp at h2
    omega

def bits4 : List Int := [0, 2, 5, 8]
def more6 : List Int := [0, 0, 0, 0, 1, -1]
theorem more6_in : ∀ i : Fin 6, -1 ≤ more6.getD i.val 0 ∧ more6.getD i.val 0 ≤ 1 := by decide
end Go.Proofs.YtkajpkfhedfmaaaGreatDoor

set_option linter.unusedVariables false
namespace Go.Proofs.YtkajpkfhedfmaaaGreatDoor
open Go.RowKit

end Go.Proofs.YtkajpkfhedfmaaaGreatDoor

set_option linter.unusedVariables false
namespace Go.Proofs.YtkajpkfhedfmaaaGreatDoor
open Go.RowKit

/-- Of what lay there block b alone may have turned. -/
def But (b : Nat) (w w' : World) : Prop := w.heap.size ≤ w'.heap.size ∧ ∀ c, c < w.heap.size → c ≠ b → w'.heap[c]? = w.heap[c]?
theorem But.refl (b : Nat) (w : World) : But b w w := ⟨Nat.le_refl _, fun _ _ _ => rfl⟩
theorem But.trans {b : Nat} {u v w : World} (h : But b u v) (k : But b v w) : But b u w :=
  ⟨Nat.le_trans h.1 k.1, fun c hc hb => (k.2 c (Nat.lt_of_lt_of_le hc h.1) hb).trans (h.2 c hc hb)⟩
theorem Only.but {b : Nat} {w w' : World} (h : Only b w w') : But b w w' := ⟨by rw [h.size]; exact Nat.le_refl _, fun c _ hb => h.block c hb⟩
theorem Below.but {b : Nat} {w w' : World} (h : Below w.heap.size w w') : But b w w' := ⟨h.size, fun c hc _ => h.block c hc⟩
theorem But.alloc (b : Nat) (w : World) (o : Obj) : But b w (w.alloc o) := ⟨by simp, fun c hc _ => Below.heap_alloc _ _ _ hc⟩
theorem SRow.but {B b : Nat} {v : Value} {ss : List ByteArray} {w w' : World} (h : SRow B v ss w) (hk : But b w w') (hb : b < B) : SRow B v ss w' := h.keep (fun g hg hl => hk.2 g hl (by omega))

theorem items12_item : ∀ i : Fin 12, isItem (items12.getD i.val ByteArray.empty).data.toList = true := by decide
set_option maxHeartbeats 1000000 in
set_option maxRecDepth 100000 in
theorem drawItemK (B b p : Nat) (w : World) (h : Rd B b p w) (hp : p < 1000000000) :
    Calls Tryz.prog 41 #[.pointer (some ⟨b, 0, none⟩)] w fun e w' => ∃ s : ByteArray, e = .returned (.string s) ∧ isItem s.data.toList = true ∧ Rd B b (p + 1) w' ∧ Below b w w' ∧ But b w w' := by
  have hlt := h.lt
  go_enter Tryz.func41, Tryz.ntmps41
  go_wp2_with fail
  have hbk := heap_alloc_new w (.cells (items12.map Value.string).toArray 9)
  refine (of_walk B b p w.heap.size 12 12 items12 _ (h.keep ((Below.refl _ w).alloc (by omega) _)) hp (by omega) (by omega) (cells_texts hbk rfl 12 (by decide)) (by omega)).mono ?_
  rintro e w2 ⟨x, hx, rfl, hr, ho⟩
  have hsz := items12_item ⟨x, hx⟩
  have hb : Below b w w2 := ((Below.refl b w).alloc (by omega) (.cells (items12.map Value.string).toArray 9)).trans (ho.below (Nat.le_refl _))
  have hbu : But b w w2 := (But.alloc b w _).trans ho.but
  dsimp only at hsz
  generalize items12.getD x ByteArray.empty = s at hsz ⊢
  clear ho hbk
  go_wp2
  go_ret
  exact ⟨s, rfl, hsz, hr, hb, hbu⟩

def ItemsPost (B b p most : Nat) (w : World) (e : Ending) (w' : World) : Prop := ∃ (v : Value) (ss : List ByteArray) (q : Nat), e = .returned v ∧ SRow w.heap.size v ss w' ∧ ss.length ≤ most ∧ (∀ i, i < ss.length → isItem (ss.getD i ByteArray.empty).data.toList = true) ∧ q ≤ p + 1 + most ∧ Rd B b q w' ∧ Below b w w' ∧ But b w w'
def FilterPost (B b p : Nat) (w : World) (e : Ending) (w' : World) : Prop := ∃ (s key : ByteArray) (v : Value) (ss : List ByteArray) (q : Nat), e = .returned (.tuple #[.string s, .string key, v]) ∧ s.size ≤ 300200 ∧ key.size = 16 ∧ SRow w.heap.size v ss w' ∧ ss.length ≤ 8 ∧ (∀ i, i < ss.length → isItem (ss.getD i ByteArray.empty).data.toList = true) ∧ q ≤ p + 20 ∧ Rd B b q w' ∧ Below b w w'

set_option maxHeartbeats 2000000 in
set_option maxRecDepth 100000 in
theorem drawItems (B b p most : Nat) (w : World) (h : Rd B b p w) (hp : p < 1000000000 - 100) (hm : most ≤ 40) :
    Calls Tryz.prog 109 #[.pointer (some ⟨b, 0, none⟩), .int .i64 (most : Int)] w fun e w' => ItemsPost B b p most w e w' := by
  have hlt := h.lt
  obtain ⟨i0, hi, hz0, hz1, hz2⟩ := info_parts infoStr
  have HR0 : Hid (Rd B b p (w.alloc (.cells #[] 9))) := h.keep ((Below.refl _ w).alloc (by omega) _)
  have HZ0 : Hid (SRow w.heap.size (.slice (some ⟨w.heap.size, 0, none⟩) 0 0) [] (w.alloc (.cells #[] 9))) := srow_new w
  have HB0 : Hid (Below b w (w.alloc (.cells #[] 9)) ∧ But b w (w.alloc (.cells #[] 9))) := ⟨(Below.refl _ w).alloc (by omega) _, But.alloc _ _ _⟩
  have hpk := pick_walk B b p ((most : Int) + 1) _ HR0.out (by omega) (by omega)
  clear h
  go_enter Tryz.func109, Tryz.ntmps109
  go_wp2_with fail
  refine hpk.mono ?_
  rintro e w1 ⟨n0, rfl, hn, _, hr1, ho1⟩
  have hn0 : n0 ≤ most := by have := hn (by omega); omega
  have HR1 : Hid (Rd B b (p + 1) w1) := hr1
  have HZ1 : Hid (SRow w.heap.size (.slice (some ⟨w.heap.size, 0, none⟩) 0 0) [] w1) := HZ0.out.but ho1.but hlt
  have HB1 : Hid (Below b w w1 ∧ But b w w1) := ⟨HB0.out.1.trans (ho1.below (Nat.le_refl _)), HB0.out.2.trans ho1.but⟩
  clear hpk hn hr1 ho1 HR0 HZ0 HB0
  go_wp2_with fail
  go_loopw [5, 6] (fun v n wr => ∃ (ss : List ByteArray) (m q k g c : Nat), n = .int .i64 (m : Int) ∧ v = .slice (some ⟨g, 0, none⟩) k c ∧ k + m ≤ most ∧ q ≤ p + 1 + k ∧ Hid (k = ss.length) ∧ Hid (∀ i, i < ss.length → isItem (ss.getD i ByteArray.empty).data.toList = true) ∧ Hid (SRow w.heap.size v ss wr) ∧ Hid (Rd B b q wr) ∧ Hid (Below b w wr ∧ But b w wr)) (fun _ n _ => (intOf n).toNat)
  case atStart => exact ⟨[], n0, p + 1, 0, w.heap.size, 0, rfl, rfl, by omega, by omega, rfl, (fun i hi => by cases hi), HZ1, HR1, HB1⟩
  case round =>
    clear HZ1 HR1 HB1
    obtain ⟨ss, m, q, k, g, c, rfl, rfl, hkm, hq, HK, HS8, HZ, HR, HB⟩ := hrel
    have hszr : w.heap.size ≤ wr.heap.size := HB.out.2.1
    have hltr := HR.out.lt
    by_cases hm0 : 0 < m
    · have hm0' : (0 : Int) < (m : Int) := by omega
      have HM : Hid (m - 1 + 1 = m) := by show _ = _; omega
      have hit := drawItemK B b q wr HR.out (by omega)
      clear hm0
      go_wp2_with fail
      refine hit.mono ?_
      rintro e w2 ⟨s, rfl, hs8, hr2, bl2, bu2⟩
      have HR2 : Hid (Rd B b (q + 1) w2) := hr2
      have hblt := hr2.lt
      have HOW : Hid (w2.ownsRow w.heap.size 9 1 (.slice (some ⟨g, 0, none⟩) k c) k (ss.map Value.string)) := by
        have h5 := (HZ.out.but bu2 hlt).2
        rw [← HK.out] at h5
        exact h5
      have HB2 : Hid (Below b w w2 ∧ But b w w2) := ⟨HB.out.1.trans bl2, HB.out.2.trans bu2⟩
      have hs2 := HB2.out.2.1
      have HS9 : Hid (∀ i, i < (ss ++ [s]).length → isItem ((ss ++ [s]).getD i ByteArray.empty).data.toList = true) := by
        intro i hi
        rcases Nat.lt_or_ge i ss.length with h' | h'
        · have := HS8.out i h'
          rw [List.getD_eq_getElem?_getD, List.getElem?_append_left h', ← List.getD_eq_getElem?_getD]
          exact this
        · have e : i = ss.length := by simp at hi; omega
          subst e
          simp
          exact hs8
      clear hr2 bl2 bu2 hit
      have hx1 : k + 1 ≤ maxLen := by unfold maxLen; omega
      have hx2 : (k + 1) * 16 ≤ 140737488355328 := by omega
      go_wp2_with (at_builtin; refine wp_app1 rfl _ _ 37 rfl w.heap.size 9 i0 (.string ⟨#[]⟩) 16 Tryz.underlying37 hi hz0 hz1 hz2 rfl _ _ _ rfl HOW.out (.string s) rfl rfl hx1 hx2 hs2 ?_; intro g4 c4 w4 hown4 hb4 hkeep4)
      go_roundw
      case rel =>
        refine ⟨ss ++ [s], m - 1, q + 1, k + 1, g4, c4, ?_, rfl, ?_, by omega, ?_, HS9, ?_, HR2.out.keep (hb4.mono (by omega)), HB2.out.1.trans (hb4.mono (by omega)), ?_⟩
        · have := HM.out
          show Value.int .i64 _ = Value.int .i64 _
          congr 1
          omega
        · have := HM.out; omega
        · show _ = _; rw [List.length_append, ← HK.out]; rfl
        · refine SRow.of ?_ (by rw [List.length_append, ← HK.out]; rfl)
          rw [List.map_append]
          exact hown4
        · refine ⟨Nat.le_trans HB2.out.2.1 hb4.size, fun c' hc' hne => ?_⟩
          rw [hb4.block c' hc']
          exact HB2.out.2.2 c' hc' hne
      case measure => have := HM.out; simp [intOf]; omega
    · have hm0' : ¬ (0 : Int) < (m : Int) := by omega
      clear hm0
      go_wp2_with fail
      go_ret
      exact ⟨_, ss, q, rfl, HZ.out, by rw [← HK.out]; omega, HS8.out, by omega, HR.out, HB.out.1, HB.out.2⟩

theorem filterOf_len (k : List UInt8) (ss : List ByteArray) : (filterOf k ss).length ≤ 300200 := by
  cases h1 : isSum k with
  | false => rw [filterOf_no1 h1]; simp
  | true =>
    cases h2 : itemsOkB ss with
    | false => rw [filterOf_no2 h2]; simp
    | true =>
      rw [filterOf_yes h1 h2, filterB, List.length_append]
      have h3 := (varB_length 4 (setL ss).length).2
      have h4 := ricePut_len (gapsL k ss) 5
      have h5 := gaps_ok h1 h2
      rw [ricePut_yes (riceOk_yes h5.1 (by omega) h5.2)] at h4
      have e : (5 : Int).toNat = 5 := rfl
      rw [e] at h4
      omega

end Go.Proofs.YtkajpkfhedfmaaaGreatDoor

set_option linter.unusedVariables false
namespace Go.Proofs.YtkajpkfhedfmaaaGreatDoor
open Go.RowKit Go.Deep

/-- Blocks whose heads are ok, few, with few items. -/
structure Good (cs : List BlkV) : Prop where
  ok : ∀ i, i < (cs.map (·.h)).length → headOkB ((cs.map (·.h)).getD i default) = true
  few : cs.length ≤ 20
  items : ∀ c ∈ cs, c.ss.length ≤ 4
theorem Good.nil : Good [] := ⟨fun i hi => by simp at hi, by simp, fun c hc => by cases hc⟩
def steps5 : List Int := [1, 5, 5, 9, 30]
theorem steps5_in : ∀ i : Fin 5, 1 ≤ steps5.getD i.val 0 ∧ steps5.getD i.val 0 ≤ 30 := by decide
theorem BList.only {B b : Nat} {v : Value} {cs : List BlkV} {w w' : World} (h : BList B v cs w) (ho : But b w w') (hb : b < B) : BList B v cs w' := h.keep ho.1 (fun g hg hl => ho.2 g hl (by omega))
/-- One more stays good. -/
theorem Good.more {bs cs : List BlkV} {t : Int} {ss : List ByteArray} {x : HeadV} (h : Good bs) (hm : mineV (bs.map (·.h)) t ss = some x) (h1 : cs.map (·.h) = bs.map (·.h) ++ [x]) (h2 : cs.map (·.ss) = bs.map (·.ss) ++ [ss]) (hs : ss.length ≤ 4) : Good cs := by
  have hcan : canMine (bs.map (·.h)) t ∧ (headMine (newH (bs.map (·.h)) t ss)).2 = true ∧ x = (headMine (newH (bs.map (·.h)) t ss)).1 := by
    unfold mineV at hm
    split at hm
    · rename_i h'
      exact ⟨h'.1, h'.2, (Option.some.inj hm).symm⟩
    · cases hm
  obtain ⟨hc, hk, hx⟩ := hcan
  have hxo : headOkB x = true := by
    rw [hx]
    exact headMine_ok (newH_ok hc.2.1 h.ok) hk
  refine ⟨?_, ?_, ?_⟩
  · rw [h1]
    intro i hi
    rcases Nat.lt_or_ge i (bs.map (·.h)).length with h' | h'
    · rw [List.getD_eq_getElem?_getD, List.getElem?_append_left h', ← List.getD_eq_getElem?_getD]
      exact h.ok i h'
    · have e : i = (bs.map (·.h)).length := by rw [List.length_append] at hi; simp at hi h' ⊢; omega
      rw [e, List.getD_eq_getElem?_getD, List.getElem?_append_right (Nat.le_refl _), Nat.sub_self]
      exact hxo
  · have := congrArg List.length h1
    have h3 := hc.1
    simp at this h3
    omega
  · intro c hc'
    have : c.ss ∈ cs.map (·.ss) := List.mem_map.2 ⟨c, hc', rfl⟩
    rw [h2] at this
    rcases List.mem_append.1 this with h' | h'
    · obtain ⟨d, hd, he⟩ := List.mem_map.1 h'
      rw [← he]
      exact h.items d hd
    · rw [List.mem_singleton.1 h']
      exact hs
theorem item_small {s : ByteArray} (h : isItem s.data.toList = true) : s.size ≤ 1048576 := by
  have := (isItem_size h).2
  omega
/-- What a drawn chain is. -/
def ChainPost (B b p B0 many : Nat) (w : World) (e : Ending) (w' : World) : Prop := ∃ (v : Value) (cs : List BlkV) (q : Nat), e = .returned v ∧ BList B0 v cs w' ∧ Good cs ∧ q ≤ p + 10 * many ∧ Rd B b q w' ∧ Below b w w' ∧ But b w w'

set_option maxHeartbeats 2000000 in
set_option maxRecDepth 100000 in
theorem drawChain (B b p B0 : Nat) (hb : b < B0) (v : Value) (bs : List BlkV) (many : Nat) (w : World) (h : Rd B b p w) (hp : p < 1000000000 - 1000) (hl : BList B0 v bs w) (hB0 : B0 ≤ w.heap.size) (hg : Good bs) (hm : many ≤ 20) :
    Calls Tryz.prog 74 #[.pointer (some ⟨b, 0, none⟩), v, .int .i64 (many : Int)] w fun e w' => ChainPost B b p B0 many w e w' := by
  have hlt := h.lt
  obtain ⟨g0, c0, rfl⟩ := hl.row.1
  have HP : Hid (∀ e w' v cs q, e = .returned v → BList B0 v cs w' → Good cs → q ≤ p + 10 * many → Rd B b q w' → Below b w w' → But b w w' → ChainPost B b p B0 many w e w') := fun e w' v cs q h1 h2 h3 h4 h5 h6 h7 => ⟨v, cs, q, h1, h2, h3, h4, h5, h6, h7⟩
  generalize ChainPost B b p B0 many w = CP at HP ⊢
  have HG0 : Hid (Good bs) := hg
  have HL0 : Hid (BList B0 (.slice (some ⟨g0, 0, none⟩) bs.length c0) bs w) := hl
  have HR0 : Hid (Rd B b p w) := h
  have HB0 : Hid (B0 ≤ w.heap.size) := hB0
  have hfew := hg.few
  clear h hl hg hB0
  have HN0 : Hid (bs.length = bs.length) := rfl
  obtain ⟨n0, hn0⟩ : ∃ n, n = bs.length := ⟨_, rfl⟩
  rw [← hn0] at HL0 hfew ⊢
  have HNN : Hid (n0 = bs.length) := hn0
  have HT0 : Hid (n0 ≠ 0 → ∃ t0 : Int, w.cell? ⟨g0, (n0 - 1) * 6 + 2, none⟩ = some (.int .i64 t0) ∧ 0 ≤ t0 ∧ t0 ≤ 99999) := by
    intro h0
    have hat := (FRow.at enBlk_len HL0.out.row).1
    have hj : n0 - 1 < bs.length := by omega
    have hc := AtBlk.c2 hat (n0 - 1) hj
    have ho := HG0.out.ok (n0 - 1) (by rw [List.length_map]; exact hj)
    rw [getD_map hj] at ho
    exact ⟨_, hc, (headOk_in ho).2.2.1.1, (headOk_in ho).2.2.1.2⟩
  clear hn0 HN0
  have hB0b : B0 ≤ w.heap.size := HB0.out
  have HSTART : Hid (∀ t0 : Int, 0 ≤ t0 → t0 ≤ 99999 → ∃ (cs : List BlkV) (g c k : Nat) (tt : Int) (mm q : Nat), Value.slice (some ⟨g0, 0, none⟩) n0 c0 = .slice (some ⟨g, 0, none⟩) k c ∧ Value.int .i64 t0 = .int .i64 tt ∧ Value.int .i64 (many : Int) = .int .i64 (mm : Int) ∧ 0 ≤ tt ∧ tt ≤ 99999 + 30 * ((many - mm : Nat) : Int) ∧ mm ≤ many ∧ q ≤ p + 10 * (many - mm) ∧ Hid (k = cs.length) ∧ Hid (BList B0 (.slice (some ⟨g, 0, none⟩) k c) cs w) ∧ Hid (Good cs) ∧ Hid (Rd B b q w) ∧ Hid (Below b w w ∧ But b w w)) := fun t0 h1 h2 => ⟨bs, g0, c0, n0, t0, many, p, rfl, rfl, rfl, h1, by omega, Nat.le_refl _, by omega, HNN, HL0, HG0, HR0, ⟨Below.refl _ _, But.refl _ _⟩⟩
  have hwm : (many : Int) ≤ 20 := by omega
  suffices hmain : ∀ t0 : Int, 0 ≤ t0 → t0 ≤ 99999 → (n0 = 0 → t0 = 0) → (n0 ≠ 0 → w.cell? ⟨g0, (n0 - 1) * 6 + 2, none⟩ = some (.int .i64 t0)) → Calls Tryz.prog 74 #[.pointer (some ⟨b, 0, none⟩), .slice (some ⟨g0, 0, none⟩) n0 c0, .int .i64 (many : Int)] w fun e w' => CP e w' by
    by_cases h0 : n0 = 0
    · exact hmain 0 (by omega) (by omega) (fun _ => rfl) (fun h => absurd h0 h)
    · obtain ⟨t0, h1, h2, h3⟩ := HT0.out h0
      exact hmain t0 h2 h3 (fun h => absurd h h0) (fun _ => h1)
  intro t0 ht0 ht1 hz0 hc0
  have HST := HSTART.out t0 ht0 ht1
  have HST' : Hid (∃ (cs : List BlkV) (g c k : Nat) (tt : Int) (mm q : Nat), Value.slice (some ⟨g0, 0, none⟩) n0 c0 = .slice (some ⟨g, 0, none⟩) k c ∧ Value.int .i64 t0 = .int .i64 tt ∧ Value.int .i64 (many : Int) = .int .i64 (mm : Int) ∧ 0 ≤ tt ∧ tt ≤ 99999 + 30 * ((many - mm : Nat) : Int) ∧ mm ≤ many ∧ q ≤ p + 10 * (many - mm) ∧ Hid (k = cs.length) ∧ Hid (BList B0 (.slice (some ⟨g, 0, none⟩) k c) cs w) ∧ Hid (Good cs) ∧ Hid (Rd B b q w) ∧ Hid (Below b w w ∧ But b w w)) := HST
  clear HST HSTART HT0 HL0 HG0 HR0 ht0 ht1
  by_cases h0 : n0 = 0
  · obtain rfl := hz0 h0
    subst h0
    clear hc0 hz0
    go_enter Tryz.func74, Tryz.ntmps74
    go_wp2_with fail
    go_loopw [1, 7, 8] (fun l t m wr => ∃ (cs : List BlkV) (g c k : Nat) (tt : Int) (mm q : Nat), l = .slice (some ⟨g, 0, none⟩) k c ∧ t = .int .i64 tt ∧ m = .int .i64 (mm : Int) ∧ 0 ≤ tt ∧ tt ≤ 99999 + 30 * ((many - mm : Nat) : Int) ∧ mm ≤ many ∧ q ≤ p + 10 * (many - mm) ∧ Hid (k = cs.length) ∧ Hid (BList B0 (.slice (some ⟨g, 0, none⟩) k c) cs wr) ∧ Hid (Good cs) ∧ Hid (Rd B b q wr) ∧ Hid (Below b w wr ∧ But b w wr)) (fun _ _ m _ => (intOf m).toNat)
    case atStart => exact HST'.out
    case round =>
      clear HST'
      obtain ⟨cs, g, c, k, tt, mm, q, rfl, rfl, rfl, ht0, ht1, hmm, hq, HK, HL, HG, HR, HB⟩ := hrel
      by_cases hm0 : 0 < mm
      · have hm0' : (0 : Int) < (mm : Int) := by omega
        have HM : Hid (mm - 1 + 1 = mm) := by show _ = _; omega
        have hszr : w.heap.size ≤ wr.heap.size := HB.out.2.1
        have hltr := HR.out.lt
        have hbk := heap_alloc_new wr (.cells (steps5.map (Value.int .i64)).toArray 3)
        have hone := one_walk B b q wr.heap.size 5 5 steps5 _ (HR.out.keep ((Below.refl _ _).alloc (by omega) (.cells (steps5.map (Value.int .i64)).toArray 3))) (by omega) (by omega) (by omega) (cells_ints hbk rfl 5 (by decide)) (by omega)
        have HL1 : Hid (BList B0 (.slice (some ⟨g, 0, none⟩) k c) cs (wr.alloc (.cells (steps5.map (Value.int .i64)).toArray 3))) := HL.out.below ((Below.refl _ wr).alloc (Nat.le_refl _) _)
        have HB1 : Hid (Below b w (wr.alloc (.cells (steps5.map (Value.int .i64)).toArray 3)) ∧ But b w (wr.alloc (.cells (steps5.map (Value.int .i64)).toArray 3))) := ⟨HB.out.1.alloc (by omega) _, HB.out.2.trans (But.alloc _ _ _)⟩
        clear hbk hm0 HL HB HR
        go_wp2_with fail
        refine hone.mono ?_
        rintro e w2 ⟨x, hx, rfl, hr2, ho2⟩
        have hin := steps5_in ⟨x, hx⟩
        dsimp only at hin
        generalize steps5.getD x 0 = st at hin ⊢
        have HL2 : Hid (BList B0 (.slice (some ⟨g, 0, none⟩) k c) cs w2) := HL1.out.only ho2.but hb
        have HB2 : Hid (Below b w w2 ∧ But b w w2) := ⟨HB1.out.1.trans (ho2.below (Nat.le_refl _)), HB1.out.2.trans ho2.but⟩
        have hit := drawItems B b (q + 1) 4 w2 hr2 (by omega) (by omega)
        have wt : IntKind.i64.wrap (tt + st) = tt + st := by rw [IntKind.wrap_i64]; omega
        clear hone HL1 HB1 ho2 hr2
        go_wp2_with fail
        refine hit.mono ?_
        rintro e w3 ⟨v3, ss, q3, rfl, hz3, hl3, hi3, hq3, hr3, bl3, bu3⟩
        obtain ⟨gi, ci, hv3⟩ := hz3.1
        subst hv3
        have HL3 : Hid (BList B0 (.slice (some ⟨g, 0, none⟩) k c) cs w3) := HL2.out.only bu3 hb
        have HB3 : Hid (Below b w w3 ∧ But b w w3) := ⟨HB2.out.1.trans bl3, HB2.out.2.trans bu3⟩
        have HR3 : Hid (Rd B b q3 w3) := hr3
        have HSS : Hid (ss.length ≤ 4) := hl3
        have hmi := specL4Mine g k c cs (tt + st) gi ss.length ci ss w3 (FRow.at enBlk_len HL3.out.row).1 (fun b' hb' => ⟨(HL3.out.items b' hb').1, by have := HG.out.items b' hb'; omega⟩) HK.out (by have := HG.out.few; have := HK.out; omega) HG.out.ok (SRow.at hz3).1 rfl (by omega) (fun i hi => item_small (hi3 i hi))
        have hltr3 := hr3.lt
        clear hit HL2 HB2 hz3 hi3 bl3 bu3 hr3 hl3
        obtain ⟨sl, hsl⟩ : ∃ n, n = ss.length := ⟨_, rfl⟩
        rw [← hsl] at hmi ⊢
        clear hsl
        go_wp2_with fail
        refine hmi.mono ?_
        rintro e w4 ⟨b4, ⟨hnone, rfl⟩ | ⟨y, v4, ds, hsome, rfl, l4, h41, h42⟩⟩
        · have HL4 : Hid (BList B0 (.slice (some ⟨g, 0, none⟩) k c) cs w4) := HL3.out.below b4
          have HB4 : Hid (Below b w w4 ∧ But b w w4) := ⟨HB3.out.1.trans (b4.mono (by omega)), HB3.out.2.trans (Below.but b4)⟩
          have HR4 : Hid (Rd B b q3 w4) := HR3.out.keep (b4.mono (by omega))
          clear b4 hnone hmi
          go_wp2_with fail
          go_roundw
          case rel => exact ⟨cs, g, c, k, tt + st, mm - 1, q3, rfl, rfl, by have := HM.out; show Value.int .i64 _ = Value.int .i64 _; congr 1; omega, by omega, by have := HM.out; omega, by have := HM.out; omega, by have := HM.out; omega, HK, HL4, HG, HR4, HB4⟩
          case measure => have := HM.out; simp [intOf]; omega
        · obtain ⟨g4, c4, hv4⟩ := l4.row.1
          subst hv4
          have hsz3 : w.heap.size ≤ w3.heap.size := HB3.out.2.1
          have HL4 : Hid (BList B0 (.slice (some ⟨g4, 0, none⟩) ds.length c4) ds w4) := l4.mono (by omega)
          have HG4 : Hid (Good ds) := HG.out.more hsome h41 h42 HSS.out
          have HB4 : Hid (Below b w w4 ∧ But b w w4) := ⟨HB3.out.1.trans (b4.mono (by omega)), HB3.out.2.trans (Below.but b4)⟩
          have HR4 : Hid (Rd B b q3 w4) := HR3.out.keep (b4.mono (by omega))
          clear b4 hsome hmi l4 h41 h42
          obtain ⟨dl, hdl⟩ : ∃ n, n = ds.length := ⟨_, rfl⟩
          have HDL : Hid (dl = ds.length) := hdl
          rw [← hdl] at HL4 ⊢
          clear hdl
          go_wp2_with fail
          go_roundw
          case rel => exact ⟨ds, g4, c4, dl, tt + st, mm - 1, q3, rfl, rfl, by have := HM.out; show Value.int .i64 _ = Value.int .i64 _; congr 1; omega, by omega, by have := HM.out; omega, by have := HM.out; omega, by have := HM.out; omega, HDL, HL4, HG4, HR4, HB4⟩
          case measure => have := HM.out; simp [intOf]; omega
      · have hm0' : ¬ (0 : Int) < (mm : Int) := by omega
        go_wp2_with fail
        exact HP.out _ _ _ cs q rfl HL.out HG.out (by omega) HR.out HB.out.1 HB.out.2
  · have c2 := hc0 h0
    obtain ⟨j, hj⟩ : ∃ j, j = n0 - 1 := ⟨_, rfl⟩
    rw [← hj] at c2
    have hw01 : IntKind.i64.wrap ((n0 : Int) - 1) = (j : Int) := by rw [IntKind.wrap_i64]; omega
    have lj : (j : Int) < (n0 : Int) := by omega
    have lj0 : (0 : Int) ≤ (j : Int) := by omega
    have hn0' : (0 : Int) < (n0 : Int) := by omega
    have hnn0 : 0 < n0 := by omega
    have hnd0 : decide (0 < n0) = true := decide_eq_true hnn0
    clear hc0 hz0 h0 hj
    go_enter Tryz.func74, Tryz.ntmps74
    go_wp2_with fail
    clear c2
    go_loopw [1, 7, 8] (fun l t m wr => ∃ (cs : List BlkV) (g c k : Nat) (tt : Int) (mm q : Nat), l = .slice (some ⟨g, 0, none⟩) k c ∧ t = .int .i64 tt ∧ m = .int .i64 (mm : Int) ∧ 0 ≤ tt ∧ tt ≤ 99999 + 30 * ((many - mm : Nat) : Int) ∧ mm ≤ many ∧ q ≤ p + 10 * (many - mm) ∧ Hid (k = cs.length) ∧ Hid (BList B0 (.slice (some ⟨g, 0, none⟩) k c) cs wr) ∧ Hid (Good cs) ∧ Hid (Rd B b q wr) ∧ Hid (Below b w wr ∧ But b w wr)) (fun _ _ m _ => (intOf m).toNat)
    case atStart => exact HST'.out
    case round =>
      clear HST'
      obtain ⟨cs, g, c, k, tt, mm, q, rfl, rfl, rfl, ht0, ht1, hmm, hq, HK, HL, HG, HR, HB⟩ := hrel
      by_cases hm0 : 0 < mm
      · have hm0' : (0 : Int) < (mm : Int) := by omega
        have HM : Hid (mm - 1 + 1 = mm) := by show _ = _; omega
        have hszr : w.heap.size ≤ wr.heap.size := HB.out.2.1
        have hltr := HR.out.lt
        have hbk := heap_alloc_new wr (.cells (steps5.map (Value.int .i64)).toArray 3)
        have hone := one_walk B b q wr.heap.size 5 5 steps5 _ (HR.out.keep ((Below.refl _ _).alloc (by omega) (.cells (steps5.map (Value.int .i64)).toArray 3))) (by omega) (by omega) (by omega) (cells_ints hbk rfl 5 (by decide)) (by omega)
        have HL1 : Hid (BList B0 (.slice (some ⟨g, 0, none⟩) k c) cs (wr.alloc (.cells (steps5.map (Value.int .i64)).toArray 3))) := HL.out.below ((Below.refl _ wr).alloc (Nat.le_refl _) _)
        have HB1 : Hid (Below b w (wr.alloc (.cells (steps5.map (Value.int .i64)).toArray 3)) ∧ But b w (wr.alloc (.cells (steps5.map (Value.int .i64)).toArray 3))) := ⟨HB.out.1.alloc (by omega) _, HB.out.2.trans (But.alloc _ _ _)⟩
        clear hbk hm0 HL HB HR
        go_wp2_with fail
        refine hone.mono ?_
        rintro e w2 ⟨x, hx, rfl, hr2, ho2⟩
        have hin := steps5_in ⟨x, hx⟩
        dsimp only at hin
        generalize steps5.getD x 0 = st at hin ⊢
        have HL2 : Hid (BList B0 (.slice (some ⟨g, 0, none⟩) k c) cs w2) := HL1.out.only ho2.but hb
        have HB2 : Hid (Below b w w2 ∧ But b w w2) := ⟨HB1.out.1.trans (ho2.below (Nat.le_refl _)), HB1.out.2.trans ho2.but⟩
        have hit := drawItems B b (q + 1) 4 w2 hr2 (by omega) (by omega)
        have wt : IntKind.i64.wrap (tt + st) = tt + st := by rw [IntKind.wrap_i64]; omega
        clear hone HL1 HB1 ho2 hr2
        go_wp2_with fail
        refine hit.mono ?_
        rintro e w3 ⟨v3, ss, q3, rfl, hz3, hl3, hi3, hq3, hr3, bl3, bu3⟩
        obtain ⟨gi, ci, hv3⟩ := hz3.1
        subst hv3
        have HL3 : Hid (BList B0 (.slice (some ⟨g, 0, none⟩) k c) cs w3) := HL2.out.only bu3 hb
        have HB3 : Hid (Below b w w3 ∧ But b w w3) := ⟨HB2.out.1.trans bl3, HB2.out.2.trans bu3⟩
        have HR3 : Hid (Rd B b q3 w3) := hr3
        have HSS : Hid (ss.length ≤ 4) := hl3
        have hmi := specL4Mine g k c cs (tt + st) gi ss.length ci ss w3 (FRow.at enBlk_len HL3.out.row).1 (fun b' hb' => ⟨(HL3.out.items b' hb').1, by have := HG.out.items b' hb'; omega⟩) HK.out (by have := HG.out.few; have := HK.out; omega) HG.out.ok (SRow.at hz3).1 rfl (by omega) (fun i hi => item_small (hi3 i hi))
        have hltr3 := hr3.lt
        clear hit HL2 HB2 hz3 hi3 bl3 bu3 hr3 hl3
        obtain ⟨sl, hsl⟩ : ∃ n, n = ss.length := ⟨_, rfl⟩
        rw [← hsl] at hmi ⊢
        clear hsl
        go_wp2_with fail
        refine hmi.mono ?_
        rintro e w4 ⟨b4, ⟨hnone, rfl⟩ | ⟨y, v4, ds, hsome, rfl, l4, h41, h42⟩⟩
        · have HL4 : Hid (BList B0 (.slice (some ⟨g, 0, none⟩) k c) cs w4) := HL3.out.below b4
          have HB4 : Hid (Below b w w4 ∧ But b w w4) := ⟨HB3.out.1.trans (b4.mono (by omega)), HB3.out.2.trans (Below.but b4)⟩
          have HR4 : Hid (Rd B b q3 w4) := HR3.out.keep (b4.mono (by omega))
          clear b4 hnone hmi
          go_wp2_with fail
          go_roundw
          case rel => exact ⟨cs, g, c, k, tt + st, mm - 1, q3, rfl, rfl, by have := HM.out; show Value.int .i64 _ = Value.int .i64 _; congr 1; omega, by omega, by have := HM.out; omega, by have := HM.out; omega, by have := HM.out; omega, HK, HL4, HG, HR4, HB4⟩
          case measure => have := HM.out; simp [intOf]; omega
        · obtain ⟨g4, c4, hv4⟩ := l4.row.1
          subst hv4
          have hsz3 : w.heap.size ≤ w3.heap.size := HB3.out.2.1
          have HL4 : Hid (BList B0 (.slice (some ⟨g4, 0, none⟩) ds.length c4) ds w4) := l4.mono (by omega)
          have HG4 : Hid (Good ds) := HG.out.more hsome h41 h42 HSS.out
          have HB4 : Hid (Below b w w4 ∧ But b w w4) := ⟨HB3.out.1.trans (b4.mono (by omega)), HB3.out.2.trans (Below.but b4)⟩
          have HR4 : Hid (Rd B b q3 w4) := HR3.out.keep (b4.mono (by omega))
          clear b4 hsome hmi l4 h41 h42
          obtain ⟨dl, hdl⟩ : ∃ n, n = ds.length := ⟨_, rfl⟩
          have HDL : Hid (dl = ds.length) := hdl
          rw [← hdl] at HL4 ⊢
          clear hdl
          go_wp2_with fail
          go_roundw
          case rel => exact ⟨ds, g4, c4, dl, tt + st, mm - 1, q3, rfl, rfl, by have := HM.out; show Value.int .i64 _ = Value.int .i64 _; congr 1; omega, by omega, by have := HM.out; omega, by have := HM.out; omega, by have := HM.out; omega, HDL, HL4, HG4, HR4, HB4⟩
          case measure => have := HM.out; simp [intOf]; omega
      · have hm0' : ¬ (0 : Int) < (mm : Int) := by omega
        go_wp2_with fail
        exact HP.out _ _ _ cs q rfl HL.out HG.out (by omega) HR.out HB.out.1 HB.out.2

end Go.Proofs.YtkajpkfhedfmaaaGreatDoor

set_option linter.unusedVariables false
namespace Go.Proofs.YtkajpkfhedfmaaaGreatDoor
open Go.RowKit Go.Deep

def many7 : List Int := [0, 1, 3, 5, 8, 8, 13]
theorem many7_in : ∀ i : Fin 7, 0 ≤ many7.getD i.val 0 ∧ many7.getD i.val 0 ≤ 13 := by decide
def BlocksPost (B b p : Nat) (w : World) (e : Ending) (w' : World) : Prop := ∃ (v : Value) (cs : List BlkV) (q : Nat), e = .returned v ∧ BList w.heap.size v cs w' ∧ Good cs ∧ q ≤ p + 200 ∧ Rd B b q w' ∧ Below b w w' ∧ But b w w'

set_option maxHeartbeats 2000000 in
set_option maxRecDepth 100000 in
theorem drawBlocks (B b p : Nat) (w : World) (h : Rd B b p w) (hp : p < 1000000000 - 2000) :
    Calls Tryz.prog 37 #[.pointer (some ⟨b, 0, none⟩)] w fun e w' => BlocksPost B b p w e w' := by
  have hlt := h.lt
  have HP : Hid (∀ e w' v cs q, e = .returned v → BList w.heap.size v cs w' → Good cs → q ≤ p + 200 → Rd B b q w' → Below b w w' → But b w w' → BlocksPost B b p w e w') := fun e w' v cs q h1 h2 h3 h4 h5 h6 h7 => ⟨v, cs, q, h1, h2, h3, h4, h5, h6, h7⟩
  generalize BlocksPost B b p w = CP at HP ⊢
  have HL0 : Hid (BList w.heap.size (.slice (some ⟨w.heap.size, 0, none⟩) 0 0) [] (w.alloc (.cells #[] 39))) := ⟨frow_new _ _ _ w, (fun c hc => by cases hc), (fun c hc => by cases hc), (fun c hc => by cases hc), List.Pairwise.nil⟩
  have hr0 : Rd B b p (w.alloc (.cells #[] 39)) := h.keep ((Below.refl _ w).alloc (by omega) _)
  have hs0 : (w.alloc (.cells #[] 39)).heap.size = w.heap.size + 1 := by simp
  have hbk := heap_alloc_new (w.alloc (.cells #[] 39)) (.cells (many7.map (Value.int .i64)).toArray 3)
  have hone := one_walk B b p _ 7 7 many7 _ (hr0.keep ((Below.refl _ _).alloc (by omega) (.cells (many7.map (Value.int .i64)).toArray 3))) (by omega) (by omega) (by omega) (cells_ints hbk rfl 7 (by decide)) (by omega)
  rw [hs0] at hone
  have HL1 : Hid (BList w.heap.size (.slice (some ⟨w.heap.size, 0, none⟩) 0 0) [] ((w.alloc (.cells #[] 39)).alloc (.cells (many7.map (Value.int .i64)).toArray 3))) := HL0.out.below ((Below.refl _ _).alloc (Nat.le_refl _) _)
  have HB1 : Hid (Below b w ((w.alloc (.cells #[] 39)).alloc (.cells (many7.map (Value.int .i64)).toArray 3)) ∧ But b w ((w.alloc (.cells #[] 39)).alloc (.cells (many7.map (Value.int .i64)).toArray 3))) := ⟨((Below.refl _ w).alloc (by omega) _).alloc (by simp; omega) _, (But.alloc _ _ _).trans (But.alloc _ _ _)⟩
  clear h hr0 hbk HL0
  go_enter Tryz.func37, Tryz.ntmps37
  go_wp2_with fail
  refine hone.mono ?_
  rintro e w1 ⟨x, hx, rfl, hr1, ho1⟩
  have hin := many7_in ⟨x, hx⟩
  dsimp only at hin
  obtain ⟨n0, hn0⟩ := Int.eq_ofNat_of_zero_le hin.1
  rw [hn0] at hin ⊢
  have HL2 : Hid (BList w.heap.size (.slice (some ⟨w.heap.size, 0, none⟩) 0 0) [] w1) := HL1.out.only ho1.but hlt
  have HB2 : Hid (Below b w w1 ∧ But b w w1) := ⟨HB1.out.1.trans (ho1.below (Nat.le_refl _)), HB1.out.2.trans ho1.but⟩
  have hch := drawChain B b (p + 1) w.heap.size hlt (.slice (some ⟨w.heap.size, 0, none⟩) 0 0) [] n0 w1 hr1 (by omega) HL2.out HB2.out.2.1 Good.nil (by omega)
  have hn13 : n0 ≤ 13 := by omega
  clear hone hs0 HL1 HB1 ho1 hr1 hin hn0
  go_wp2_with fail
  refine hch.mono ?_
  rintro e w2 ⟨v, cs, q, rfl, l2, g2, hq, hr2, bl2, bu2⟩
  go_wp2_with fail
  exact HP.out _ _ v cs q rfl l2 g2 (by omega) hr2 (HB2.out.1.trans bl2) (HB2.out.2.trans bu2)

end Go.Proofs.YtkajpkfhedfmaaaGreatDoor

set_option linter.unusedVariables false
namespace Go.Proofs.YtkajpkfhedfmaaaGreatDoor
open Go.RowKit Go.Deep

theorem flat_set {α : Type} [Inhabited α] (k : Nat) (enc : α → List Value) (hk : ∀ a, (enc a).length = k) : ∀ (l : List α) (i j : Nat) (v : Value) (a : α), i < l.length → j < k → enc a = (enc (l.getD i default)).set j v → (l.flatMap enc).set (i * k + j) v = (l.set i a).flatMap enc
  | [], i, j, v, a, hi, _, _ => by cases hi
  | x :: r, 0, j, v, a, _, hj, he => by
    have he' : enc a = (enc x).set j v := he
    rw [List.flatMap_cons, Nat.zero_mul, Nat.zero_add, List.set_append_left _ _ (by rw [hk]; exact hj), List.set_cons_zero, List.flatMap_cons, he']
  | x :: r, i + 1, j, v, a, hi, hj, he => by
    have e : (i + 1) * k + j = k + (i * k + j) := by rw [Nat.add_mul]; omega
    rw [List.flatMap_cons, List.set_append_right _ _ (by rw [hk, e]; omega), hk, e, Nat.add_sub_cancel_left, flat_set k enc hk r i j v a (by simpa using hi) hj (by simpa using he), List.set_cons_succ, List.flatMap_cons]
/-- A field of one block written. -/
theorem BRow.set {B g n c : Nat} {cs : List BlkV} {w : World} (h : BRow B (.slice (some ⟨g, 0, none⟩) n c) cs w) (i j : Nat) (v : Value) (b : BlkV) (hi : i < cs.length) (hj : j < 6) (he : enBlk b = (enBlk (cs.getD i default)).set j v) :
    BRow B (.slice (some ⟨g, 0, none⟩) n c) (cs.set i b) (w.setCell ⟨g, i * 6 + j, none⟩ v) := by
  obtain ⟨⟨g', c', hv⟩, h1, h2⟩ := h
  refine ⟨⟨g', c', by rw [List.length_set]; exact hv⟩, ?_⟩
  rw [List.length_set]
  refine ⟨by rw [← flat_set 6 enBlk enBlk_len cs i j v b hi hj he, List.length_set]; exact h1, ?_⟩
  rcases h2 with ⟨h3, _⟩ | ⟨g2, c2, cur, hv2, hB, hg, hc, hm, hs, ht⟩
  · cases h3
  · have eg : g = g2 := by simp only [Value.slice.injEq, Option.some.injEq, Addr.mk.injEq, and_true] at hv2; exact hv2.1
    subst eg
    refine .inr ⟨g, c2, cur.setIfInBounds (i * 6 + j) v, hv2, hB, ?_, hc, hm, by rw [Array.size_setIfInBounds]; exact hs, ?_⟩
    · simp [World.setCell, Array.getElem?_modify, hg]
    · rw [← flat_set 6 enBlk enBlk_len cs i j v b hi hj he, ← ht, Array.toList_setIfInBounds, List.take_set]
theorem BRow.frozen {B g n c : Nat} {cs : List BlkV} {w : World} (h : BRow B (.slice (some ⟨g, 0, none⟩) n c) cs w) (j : Nat) : w.frozen? ⟨g, j, none⟩ = false := by
  obtain ⟨g', c', cur, hv, _, _, hg, _⟩ := h.block
  have e : g = g' := by simp only [Value.slice.injEq, Option.some.injEq, Addr.mk.injEq, and_true] at hv; exact hv.1
  subst e
  exact Lib.frozen_of_heap hg j
/-- The first of a list, as a row of its own that has room. -/
theorem BRow.first {B g n c : Nat} {cs : List BlkV} {w : World} (h : BRow B (.slice (some ⟨g, 0, none⟩) n c) cs w) (k : Nat) (hk : k ≤ cs.length) : w.ownsRow B 39 6 (.slice (some ⟨g, 0, none⟩) k c) k ((cs.take k).flatMap enBlk) := by
  have hlk : (cs.take k).length = k := by rw [List.length_take]; omega
  obtain ⟨⟨g', c', hv⟩, h1, h2⟩ := h
  refine ⟨by rw [flat_length 6 enBlk enBlk_len, hlk], ?_⟩
  rcases h2 with ⟨h3, _⟩ | ⟨g2, c2, cur, hv2, hB, hg, hc, hm, hs, ht⟩
  · cases h3
  · simp only [Value.slice.injEq, Option.some.injEq, Addr.mk.injEq, and_true] at hv2
    obtain ⟨rfl, rfl, rfl⟩ := hv2
    refine .inr ⟨g, c, cur, rfl, hB, hg, by omega, hm, hs, ?_⟩
    have e : cs.flatMap enBlk = (cs.take k).flatMap enBlk ++ (cs.drop k).flatMap enBlk := by rw [← List.flatMap_append, List.take_append_drop]
    have hmul : k * 6 ≤ cs.length * 6 := Nat.mul_le_mul_right 6 hk
    have e2 : cur.toList.take (k * 6) = (cur.toList.take (cs.length * 6)).take (k * 6) := by rw [List.take_take, Nat.min_eq_left hmul]
    rw [e2, ht, e, List.take_append_of_le_length (by rw [flat_length 6 enBlk enBlk_len, hlk]; exact Nat.le_refl _), List.take_of_length_le (by rw [flat_length 6 enBlk enBlk_len, hlk]; exact Nat.le_refl _)]

end Go.Proofs.YtkajpkfhedfmaaaGreatDoor

set_option linter.unusedVariables false
namespace Go.Proofs.YtkajpkfhedfmaaaGreatDoor
open Go.RowKit

def items4 : List ByteArray := [⟨#[]⟩, ⟨#[65]⟩, ⟨#[116, 111, 111, 108, 111, 110, 103, 101, 114]⟩, ⟨#[97, 32, 98]⟩]
theorem items4_size : ∀ i : Fin 4, (items4.getD i.val ByteArray.empty).size ≤ 16 := by decide

set_option maxHeartbeats 1000000 in
set_option maxRecDepth 100000 in
theorem drawAnyItem (B b p : Nat) (w : World) (h : Rd B b p w) (hp : p < 1000000000 - 5) :
    Calls Tryz.prog 16 #[.pointer (some ⟨b, 0, none⟩)] w fun e w' => ∃ (s : ByteArray) (q : Nat), e = .returned (.string s) ∧ s.size ≤ 16 ∧ q ≤ p + 2 ∧ Rd B b q w' ∧ Below b w w' := by
  have hlt := h.lt
  go_enter Tryz.func16, Tryz.ntmps16
  go_wp2_with fail
  refine (pick_walk B b p 10 _ h (by omega) (by omega)).mono ?_
  rintro e w1 ⟨x, rfl, _, _, hr1, ho1⟩
  have b1 := ho1.below (Nat.le_refl b)
  have hlt1 := hr1.lt
  by_cases hx : ((x : Int) == 0) = true
  · go_wp2_with fail
    have hbk := heap_alloc_new w1 (.cells (items4.map Value.string).toArray 9)
    refine (of_walk B b (p + 1) w1.heap.size 4 4 items4 _ (hr1.keep ((Below.refl _ w1).alloc (by omega) _)) (by omega) (by omega) (by omega) (cells_texts hbk rfl 4 (by decide)) (by omega)).mono ?_
    rintro e w2 ⟨y, hy, rfl, hr2, ho2⟩
    have hsz := items4_size ⟨y, hy⟩
    have b2 : Below b w w2 := (b1.alloc (by omega) (.cells (items4.map Value.string).toArray 9)).trans (ho2.below (Nat.le_refl _))
    dsimp only at hsz
    generalize items4.getD y ByteArray.empty = s at hsz ⊢
    clear ho2 hbk
    go_wp2
    go_ret
    exact ⟨s, p + 1 + 1, rfl, hsz, by omega, hr2, b2⟩
  · have hx' : ((x : Int) == 0) = false := by simpa using hx
    clear hx
    go_wp2_with fail
    refine (drawItem B b (p + 1) _ hr1 (by omega)).mono ?_
    rintro e w2 ⟨s, rfl, _, hs1, hs8, hr2, b2⟩
    have b12 := b1.trans b2
    go_wp2
    go_ret
    exact ⟨s, p + 1 + 1, rfl, by omega, by omega, hr2, b12⟩

def belows : List Int := [1, 2, 37, 1000, 60000, 0, 60001]
theorem belows_in : ∀ i : Fin 7, 0 ≤ belows.getD i.val 0 ∧ belows.getD i.val 0 ≤ 60001 := by decide

end Go.Proofs.YtkajpkfhedfmaaaGreatDoor

set_option linter.unusedVariables false
namespace Go.Proofs.YtkajpkfhedfmaaaGreatDoor
open Go.RowKit

end Go.Proofs.YtkajpkfhedfmaaaGreatDoor

set_option linter.unusedVariables false
namespace Go.Proofs.YtkajpkfhedfmaaaGreatDoor
open Go.RowKit

set_option maxHeartbeats 1000000 in
set_option maxRecDepth 100000 in
theorem drawAnyItemK (B b p : Nat) (w : World) (h : Rd B b p w) (hp : p < 1000000000 - 5) :
    Calls Tryz.prog 16 #[.pointer (some ⟨b, 0, none⟩)] w fun e w' => ∃ (s : ByteArray) (q : Nat), e = .returned (.string s) ∧ s.size ≤ 16 ∧ q ≤ p + 2 ∧ Rd B b q w' ∧ Below b w w' ∧ But b w w' := by
  have hlt := h.lt
  go_enter Tryz.func16, Tryz.ntmps16
  go_wp2_with fail
  refine (pick_walk B b p 10 _ h (by omega) (by omega)).mono ?_
  rintro e w1 ⟨x, rfl, _, _, hr1, ho1⟩
  have b1 := ho1.below (Nat.le_refl b)
  have HU1 : Hid (But b w w1) := ho1.but
  have hlt1 := hr1.lt
  by_cases hx : ((x : Int) == 0) = true
  · go_wp2_with fail
    have hbk := heap_alloc_new w1 (.cells (items4.map Value.string).toArray 9)
    refine (of_walk B b (p + 1) w1.heap.size 4 4 items4 _ (hr1.keep ((Below.refl _ w1).alloc (by omega) _)) (by omega) (by omega) (by omega) (cells_texts hbk rfl 4 (by decide)) (by omega)).mono ?_
    rintro e w2 ⟨y, hy, rfl, hr2, ho2⟩
    have hsz := items4_size ⟨y, hy⟩
    have b2 : Below b w w2 := (b1.alloc (by omega) (.cells (items4.map Value.string).toArray 9)).trans (ho2.below (Nat.le_refl _))
    have HU2 : Hid (But b w w2) := (HU1.out.trans (But.alloc b w1 _)).trans ho2.but
    dsimp only at hsz
    generalize items4.getD y ByteArray.empty = s at hsz ⊢
    clear ho2 hbk
    go_wp2
    go_ret
    exact ⟨s, p + 1 + 1, rfl, hsz, by omega, hr2, b2, HU2.out⟩
  · have hx' : ((x : Int) == 0) = false := by simpa using hx
    clear hx
    go_wp2_with fail
    refine (drawItemK B b (p + 1) _ hr1 (by omega)).mono ?_
    rintro e w2 ⟨s, rfl, hs8, hr2, b2, u2⟩
    have b12 := b1.trans b2
    have HU2 : Hid (But b w w2) := HU1.out.trans u2
    have hs16 := isItem_size hs8
    go_wp2
    go_ret
    exact ⟨s, p + 1 + 1, rfl, by omega, by omega, hr2, b12, HU2.out⟩

def OfPost (w : World) (e : Ending) (w' : World) : Prop := ∃ (key : ByteArray) (g n c : Nat) (ss : List ByteArray), e = .returned (.tuple #[.string key, .slice (some ⟨g, 0, none⟩) n c]) ∧ key.size ≤ 16 ∧ AtS w' g ss ∧ n = ss.length ∧ n ≤ 21 ∧ (∀ i, i < ss.length → (ss.getD i ByteArray.empty).size ≤ 16) ∧ Below w.heap.size w w'
def most4 : List Int := [0, 3, 8, 20]
theorem most4_in : ∀ i : Fin 4, ∃ m : Nat, most4.getD i.val 0 = (m : Int) ∧ m ≤ 20 := fun i => ⟨(most4.getD i.val 0).toNat, by revert i; decide, by revert i; decide⟩

end Go.Proofs.YtkajpkfhedfmaaaGreatDoor

set_option linter.unusedVariables false
namespace Go.Proofs.YtkajpkfhedfmaaaGreatDoor
open Go.RowKit Go.Deep

/-- A list of blocks of whose heads the texts are short. -/
structure Loose (B : Nat) (v : Value) (cs : List BlkV) (w : World) : Prop where
  row : BRow B v cs w
  few : cs.length ≤ 20
  wf : ∀ c ∈ cs, c.h.prev.size ≤ 16 ∧ c.h.root.size ≤ 16
def AnyPost (B b p : Nat) (w : World) (e : Ending) (w' : World) : Prop := ∃ (v : Value) (cs : List BlkV) (q : Nat), e = .returned v ∧ Loose w.heap.size v cs w' ∧ q ≤ p + 300 ∧ Rd B b q w' ∧ Below b w w'
theorem Good.wf {cs : List BlkV} (h : Good cs) : ∀ c ∈ cs, c.h.prev.size ≤ 16 ∧ c.h.root.size ≤ 16 := by
  intro c hc
  obtain ⟨i, hi, he⟩ := List.mem_iff_getElem.1 hc
  have ho := h.ok i (by rw [List.length_map]; exact hi)
  rw [getD_map hi] at ho
  have e : cs.getD i default = c := by rw [List.getD_eq_getElem?_getD, List.getElem?_eq_getElem hi]; exact he
  rw [e] at ho
  have h1 := headOk_in ho
  exact ⟨Nat.le_of_eq (sum_size h1.1), Nat.le_of_eq (sum_size h1.2.1)⟩
theorem mem_set {cs : List BlkV} {k : Nat} {b c : BlkV} (h : c ∈ cs.set k b) : c = b ∨ c ∈ cs := by
  rcases List.mem_or_eq_of_mem_set h with h' | h'
  · exact .inr h'
  · exact .inl h'
theorem getD_mem {cs : List BlkV} {k : Nat} (h : k < cs.length) : cs.getD k default ∈ cs := by rw [List.getD_eq_getElem?_getD, List.getElem?_eq_getElem h]; exact List.getElem_mem h
/-- One field written that is no text. -/
theorem Loose.set {B g n c : Nat} {cs : List BlkV} {w : World} (h : BRow B (.slice (some ⟨g, 0, none⟩) n c) cs w) (hg : Good cs) (k j : Nat) (v : Value) (b : BlkV) (hk : k < cs.length) (hj : j < 6) (he : enBlk b = (enBlk (cs.getD k default)).set j v) (h1 : b.h.prev = (cs.getD k default).h.prev) (h2 : b.h.root = (cs.getD k default).h.root) :
    Loose B (.slice (some ⟨g, 0, none⟩) n c) (cs.set k b) (w.setCell ⟨g, k * 6 + j, none⟩ v) := by
  refine ⟨h.set k j v b hk hj he, by rw [List.length_set]; exact hg.few, fun x hx => ?_⟩
  rcases mem_set hx with rfl | h'
  · rw [h1, h2]
    exact hg.wf _ (getD_mem hk)
  · exact hg.wf x h'
theorem BRow.same {B g n c : Nat} {cs : List BlkV} {w w' : World} (h : BRow B (.slice (some ⟨g, 0, none⟩) n c) cs w) (hk : w'.heap[g]? = w.heap[g]?) : BRow B (.slice (some ⟨g, 0, none⟩) n c) cs w' := by
  obtain ⟨h0, h1, h2⟩ := h
  refine ⟨h0, h1, ?_⟩
  rcases h2 with ⟨h3, _⟩ | ⟨g', cap', cur, hv, hB, hg, h4⟩
  · cases h3
  · have e : g = g' := by simp only [Value.slice.injEq, Option.some.injEq, Addr.mk.injEq, and_true] at hv; exact hv.1
    exact .inr ⟨g', cap', cur, hv, hB, by rw [← e, hk, e]; exact hg, h4⟩
def non3 : List Int := [0, 401, 7]
def dif4 : List Int := [0, 1, 2, 9]
def tim3 : List Int := [0, 99999, 100000]

set_option maxHeartbeats 4000000 in
set_option maxRecDepth 100000 in
theorem drawAnyBlocks (B b p : Nat) (w : World) (h : Rd B b p w) (hp : p < 1000000000 - 3000) :
    Calls Tryz.prog 15 #[.pointer (some ⟨b, 0, none⟩)] w fun e w' => AnyPost B b p w e w' := by
  have hlt := h.lt
  have HP : Hid (∀ e w' v cs q, e = .returned v → Loose w.heap.size v cs w' → q ≤ p + 300 → Rd B b q w' → Below b w w' → AnyPost B b p w e w') := fun e w' v cs q h1 h2 h4 h5 h6 => ⟨v, cs, q, h1, h2, h4, h5, h6⟩
  generalize AnyPost B b p w = CP at HP ⊢
  have hbl := drawBlocks B b p w h (by omega)
  clear h
  go_enter Tryz.func15, Tryz.ntmps15
  go_wp2_with fail
  refine hbl.mono ?_
  rintro e w1 ⟨v, cs, q, rfl, l1, g1, hq, hr1, bl1, bu1⟩
  obtain ⟨g, c, hv⟩ := l1.row.1
  subst hv
  obtain ⟨n, hn⟩ : ∃ n, n = cs.length := ⟨_, rfl⟩
  rw [← hn] at l1 ⊢
  have HN : Hid (n = cs.length) := hn
  have HL : Hid (BList w.heap.size (.slice (some ⟨g, 0, none⟩) n c) cs w1) := l1
  have HG : Hid (Good cs) := g1
  have HB : Hid (Below b w w1) := bl1
  have HR : Hid (Rd B b q w1) := hr1
  have hn20 : n ≤ 20 := by rw [hn]; exact g1.few
  have hsz1 : w.heap.size ≤ w1.heap.size := bu1.1
  clear hbl l1 g1 bl1 bu1 hr1 hn
  by_cases h0 : n = 0
  · subst h0
    go_wp2_with fail
    exact HP.out _ _ _ cs q rfl ⟨HL.out.row, HG.out.few, HG.out.wf⟩ (by omega) HR.out HB.out
  · have hn0 : (0 : Int) < (n : Int) := by omega
    have hnn : 0 < n := by omega
    have hnd : decide (0 < n) = true := decide_eq_true hnn
    have hpk := pick_walk B b q 5 w1 HR.out (by omega) (by omega)
    go_wp2_with fail
    refine hpk.mono ?_
    rintro e w2 ⟨x2, rfl, hx2, _, hr2, ho2⟩
    have HL2 : Hid (BList w.heap.size (.slice (some ⟨g, 0, none⟩) n c) cs w2) := HL.out.only ho2.but hlt
    have HB2 : Hid (Below b w w2) := HB.out.trans (ho2.below (Nat.le_refl _))
    have HR2 : Hid (Rd B b (q + 1) w2) := hr2
    have hsz2 : w.heap.size ≤ w2.heap.size := by rw [ho2.size]; exact hsz1
    clear hpk HL HB HR hr2 ho2 h0 hsz1
    by_cases hx0 : x2 = 0
    · subst hx0
      have hpk := pick_walk B b (q + 1) (n : Int) w2 HR2.out (by omega) (by omega)
      go_wp2_with fail
      refine hpk.mono ?_
      rintro e w3 ⟨k, rfl, hk, _, hr3, ho3⟩
      have hkn : k < n := by have := hk (by omega); omega
      have HL3 : Hid (BList w.heap.size (.slice (some ⟨g, 0, none⟩) n c) cs w3) := HL2.out.only ho3.but hlt
      have HB3 : Hid (Below b w w3) := HB2.out.trans (ho3.below (Nat.le_refl _))
      have hsz3 : w.heap.size ≤ w3.heap.size := by rw [ho3.size]; exact hsz2
      have hpk4 := pick_walk B b (q + 1 + 1) 5 w3 hr3 (by omega) (by omega)
      clear hpk HL2 HB2 HR2 hr3 ho3 hsz2 hk
      go_wp2_with fail
      refine hpk4.mono ?_
      rintro e w4 ⟨s, rfl, hs, _, hr4, ho4⟩
      have hs5 : s < 5 := by have := hs (by omega); omega
      have HL4 : Hid (BList w.heap.size (.slice (some ⟨g, 0, none⟩) n c) cs w4) := HL3.out.only ho4.but hlt
      have HB4 : Hid (Below b w w4) := HB3.out.trans (ho4.below (Nat.le_refl _))
      have hsz4 : w.heap.size ≤ w4.heap.size := by rw [ho4.size]; exact hsz3
      have HR4 : Hid (Rd B b (q + 1 + 1 + 1) w4) := hr4
      have hltr := hr4.lt
      clear hpk4 HL3 HB3 hr4 ho4 hsz3 hs
      have hcase : s = 0 ∨ s = 1 ∨ s = 2 ∨ s = 3 ∨ s = 4 := by omega
      rcases hcase with rfl | rfl | rfl | rfl | rfl
      · have hkl : k < cs.length := by rw [← HN.out]; exact hkn
        have hbk := heap_alloc_new w4 (.cells (non3.map (Value.int .i64)).toArray 3)
        have hone := one_walk B b (q + 1 + 1 + 1) w4.heap.size 3 3 non3 _ (HR4.out.keep ((Below.refl _ _).alloc (by omega) (.cells (non3.map (Value.int .i64)).toArray 3))) (by omega) (by omega) (by omega) (cells_ints hbk rfl 3 (by decide)) (by omega)
        have HL5 : Hid (BList w.heap.size (.slice (some ⟨g, 0, none⟩) n c) cs (w4.alloc (.cells (non3.map (Value.int .i64)).toArray 3))) := HL4.out.below ((Below.refl _ w4).alloc (Nat.le_refl _) _)
        have HB5 : Hid (Below b w (w4.alloc (.cells (non3.map (Value.int .i64)).toArray 3))) := HB4.out.alloc (by omega) _
        have lk : (k : Int) < (n : Int) := by omega
        have lk0 : (0 : Int) ≤ (k : Int) := by omega
        clear hbk HL4 HB4 HR4
        go_wp2_with fail
        refine hone.mono ?_
        rintro e w5 ⟨x, hx, rfl, hr5, ho5⟩
        generalize non3.getD x 0 = nv
        have HL6 : Hid (BList w.heap.size (.slice (some ⟨g, 0, none⟩) n c) cs w5) := HL5.out.only ho5.but hlt
        have HB6 : Hid (Below b w w5) := HB5.out.trans (ho5.below (Nat.le_refl _))
        have HR6 : Hid (Rd B b (q + 1 + 1 + 1 + 1) w5) := hr5
        have hcF := AtBlk.c4 (FRow.at enBlk_len HL6.out.row).1 k hkl
        have hfF := BRow.frozen HL6.out.row (k * 6 + 4)
        have hgb := HL6.out.row.at enBlk_len
        have hg1 : w.heap.size ≤ g := hgb.2.2.1
        have HLO : Hid (Loose w.heap.size (.slice (some ⟨g, 0, none⟩) n c) (cs.set k { cs.getD k default with h := { (cs.getD k default).h with nonce := nv } }) (w5.setCell ⟨g, k * 6 + 4, none⟩ (.int .i64 nv))) := Loose.set HL6.out.row HG.out k 4 _ _ hkl (by decide) rfl rfl rfl
        have HR7 : Hid (Rd B b (q + 1 + 1 + 1 + 1) (w5.setCell ⟨g, k * 6 + 4, none⟩ (.int .i64 nv))) := HR6.out.keep ((Below.refl _ _).setCell (p := ⟨g, k * 6 + 4, none⟩) (by show b + 1 ≤ g; omega) _)
        have HB7 : Hid (Below b w (w5.setCell ⟨g, k * 6 + 4, none⟩ (.int .i64 nv))) := HB6.out.setCell (p := ⟨g, k * 6 + 4, none⟩) (by show b ≤ g; omega) _
        clear hone HL5 HB5 HL6 hr5 ho5 hgb hkl
        generalize cs.set k { cs.getD k default with h := { (cs.getD k default).h with nonce := nv } } = ds at HLO
        go_wp2_with fail
        exact HP.out _ _ _ ds (q + 1 + 1 + 1 + 1) rfl HLO.out (by omega) HR7.out HB7.out
      · obtain ⟨j0, ji, jz0, jz1, jz2⟩ := info_parts infoStr
        have hkl : k < cs.length := by rw [← HN.out]; exact hkn
        have hat := (FRow.at enBlk_len HL4.out.row)
        have q5 := AtBlk.c5 hat.1 k hkl
        have hgw : w.heap.size ≤ g := hat.2.2.1
        have HGL : Hid (g < w4.heap.size) := hat.1.1
        have HOI : Hid (OwnIt w.heap.size w4 (cs.getD k default)) := HL4.out.own _ (getD_mem hkl)
        have HAP : Hid ((cs.getD k default).g ≠ g) := fun h' => HL4.out.apart _ (getD_mem hkl) (by rw [h']; rfl)
        have HIL : Hid ((cs.getD k default).g < w4.heap.size ∧ w.heap.size ≤ (cs.getD k default).g) := ⟨(HL4.out.items _ (getD_mem hkl)).1.1.1, (HL4.out.items _ (getD_mem hkl)).2⟩
        have HNL : Hid ((cs.getD k default).n ≤ 4) := by show _ ≤ _; rw [(HL4.out.items _ (getD_mem hkl)).1.2]; exact HG.out.items _ (getD_mem hkl)
        have HST : Hid (∀ w' bg bn bc bss, BRow w.heap.size (.slice (some ⟨g, 0, none⟩) n c) cs w' → Loose w.heap.size (.slice (some ⟨g, 0, none⟩) n c) (cs.set k { cs.getD k default with g := bg, n := bn, cap := bc, ss := bss }) (w'.setCell ⟨g, k * 6 + 5, none⟩ (.slice (some ⟨bg, 0, none⟩) bn bc))) := fun w' bg bn bc bss hrow => Loose.set hrow HG.out k 5 _ _ hkl (by decide) rfl rfl rfl
        have HRW : Hid (∀ w', w'.heap[g]? = w4.heap[g]? → BRow w.heap.size (.slice (some ⟨g, 0, none⟩) n c) cs w') := fun w' hk' => HL4.out.row.same hk'
        have lk : (k : Int) < (n : Int) := by omega
        have lk0 : (0 : Int) ≤ (k : Int) := by omega
        have hai := drawAnyItemK B b (q + 1 + 1 + 1) w4.drew HR4.out (by omega)
        generalize cs.getD k default = cb at q5 HOI HAP HIL HNL HST
        obtain ⟨ch, cg, cn, cc, css⟩ := cb
        dsimp only at q5 HAP HIL HNL HST
        have hcn4 := HNL.out
        have hx1 : cn + 1 ≤ maxLen := by unfold maxLen; omega
        have hx2 : (cn + 1) * 16 ≤ 140737488355328 := by omega
        have f5 : w4.drew.cell? ⟨g, k * 6 + 5, none⟩ = some (.slice (some ⟨cg, 0, none⟩) cn cc) := q5
        clear hat hkl HR4
        go_wp2_with fail
        go_region_law (first
          | (refine step_append_any rfl (.tmp 50) (.tmp 53) 37 rfl w.heap.size 9 j0 (.string ⟨#[]⟩) 1 16 Tryz.underlying37 ji jz0 jz1 jz2 rfl (by decide) cg cc cn _ (by simp [Act.eval]) HOW.out ⟨w5.heap.size, 0, none⟩ 1 1 [.string it] (by simp [Act.eval]) rfl HCW.out (by simp [Value.oneCell']) hx1 hx2 HSZ.out ?_; intro g6 c6 w6 hown6 hgrow6 hat6 hlt6; have q7 : w6.cell? ⟨g, k * 6 + 5, none⟩ = some (.slice (some ⟨cg, 0, none⟩) cn cc) := (World.cell?_of_block (a := ⟨g, k * 6 + 5, none⟩) (grown_off hgrow6 g HG5.out HAP.out.symm)).trans q6; have z7 : w6.frozen? ⟨g, k * 6 + 5, none⟩ = false := HFZ.out w6 (grown_off hgrow6))
          | (go_simp; refine hai.mono ?_; rintro e w5 ⟨it, q5', rfl, hit, hq5, hr5, bl5, bu5⟩; have q6 : w5.cell? ⟨g, k * 6 + 5, none⟩ = some (.slice (some ⟨cg, 0, none⟩) cn cc) := (World.cell?_of_block (a := ⟨g, k * 6 + 5, none⟩) (bu5.2 g HGL.out (Nat.ne_of_gt (Nat.lt_of_lt_of_le hlt hgw)))).trans q5; have HG5 : Hid (g < w5.heap.size) := Nat.lt_of_lt_of_le HGL.out bu5.1; have q6a : (w5.alloc (.cells #[.string it] 9)).cell? ⟨g, k * 6 + 5, none⟩ = some (.slice (some ⟨cg, 0, none⟩) cn cc) := (((Below.refl _ w5).alloc (Nat.le_refl _) (.cells #[.string it] 9)).cell (p := ⟨g, k * 6 + 5, none⟩) HG5.out).trans q6; have HOW : Hid ((w5.alloc (.cells #[.string it] 9)).ownsRow w.heap.size 9 1 (.slice (some ⟨cg, 0, none⟩) cn cc) cn (css.map Value.string)) := World.ownsRow.alloc (HOI.out.keep (bu5.2 cg HIL.out.1 (Nat.ne_of_gt (Nat.lt_of_lt_of_le hlt HIL.out.2)))) _; have HCW : Hid (∀ j u, ([.string it] : List Value)[j]? = some u → (w5.alloc (.cells #[.string it] 9)).cell? ((⟨w5.heap.size, 0, none⟩ : Addr).add j) = some u) := cells_new w5 9 [.string it]; have HSZ : Hid (w.heap.size ≤ (w5.alloc (.cells #[.string it] 9)).heap.size) := Nat.le_trans (Nat.le_trans hsz4 bu5.1) (size_le_alloc w5 _); have HFZ : Hid (∀ w6 : World, (∀ x, x < w5.heap.size → x ≠ cg → w6.heap[x]? = w5.heap[x]?) → w6.frozen? ⟨g, k * 6 + 5, none⟩ = false) := (fun w6 hf => BRow.frozen (HRW.out w6 ((hf g HG5.out HAP.out.symm).trans (bu5.2 g HGL.out (Nat.ne_of_gt (Nat.lt_of_lt_of_le hlt hgw))))) (k * 6 + 5))))
        all_goals
          have hfar := grown_off hgrow6
          have hs5 : w.heap.size ≤ w5.heap.size := Nat.le_trans hsz4 bu5.1
          have hB6 : Below w.heap.size w5 w6 := ((Below.refl _ w5).alloc hs5 _).grown hgrow6 HSZ.out (fun j hj => by cases hj; exact HIL.out.2)
          have HLO : Hid (Loose w.heap.size (.slice (some ⟨g, 0, none⟩) n c) (cs.set k { (⟨ch, cg, cn, cc, css⟩ : BlkV) with g := g6, n := cn + 1, cap := c6, ss := css ++ [it] }) (w6.setCell ⟨g, k * 6 + 5, none⟩ (.slice (some ⟨g6, 0, none⟩) (cn + 1) c6))) := HST.out w6 g6 (cn + 1) c6 (css ++ [it]) (HRW.out w6 ((hfar g HG5.out HAP.out.symm).trans (bu5.2 g HGL.out (Nat.ne_of_gt (Nat.lt_of_lt_of_le hlt hgw)))))
          have HR7 : Hid (Rd B b q5' (w6.setCell ⟨g, k * 6 + 5, none⟩ (.slice (some ⟨g6, 0, none⟩) (cn + 1) c6))) := (hr5.keep (hB6.mono (by omega))).keep ((Below.refl _ _).setCell (p := ⟨g, k * 6 + 5, none⟩) (by show b + 1 ≤ g; omega) _)
          have HB7 : Hid (Below b w (w6.setCell ⟨g, k * 6 + 5, none⟩ (.slice (some ⟨g6, 0, none⟩) (cn + 1) c6))) := ((HB4.out.drew.trans bl5).trans (hB6.mono (by omega))).setCell (p := ⟨g, k * 6 + 5, none⟩) (by show b ≤ g; omega) _
          have HQ : Hid (q5' ≤ p + 300) := by show _ ≤ _; omega
          generalize cs.set k { (⟨ch, cg, cn, cc, css⟩ : BlkV) with g := g6, n := cn + 1, cap := c6, ss := css ++ [it] } = ds at HLO
          clear hfar hB6 hown6 hgrow6 hat6 hlt6 HST HRW HOW HCW HFZ HOI q5 q6 q6a q7 z7 f5 bl5 bu5 hr5
          go_wp2_with fail
          first | exact HP.out _ _ _ ds q5' rfl HLO.out HQ.out HR7.out HB7.out | (go_ret; exact HP.out _ _ _ ds q5' rfl HLO.out HQ.out HR7.out HB7.out)
      · have hkl : k < cs.length := by rw [← HN.out]; exact hkn
        have hbk := heap_alloc_new w4 (.cells (dif4.map (Value.int .i64)).toArray 3)
        have hone := one_walk B b (q + 1 + 1 + 1) w4.heap.size 4 4 dif4 _ (HR4.out.keep ((Below.refl _ _).alloc (by omega) (.cells (dif4.map (Value.int .i64)).toArray 3))) (by omega) (by omega) (by omega) (cells_ints hbk rfl 4 (by decide)) (by omega)
        have HL5 : Hid (BList w.heap.size (.slice (some ⟨g, 0, none⟩) n c) cs (w4.alloc (.cells (dif4.map (Value.int .i64)).toArray 3))) := HL4.out.below ((Below.refl _ w4).alloc (Nat.le_refl _) _)
        have HB5 : Hid (Below b w (w4.alloc (.cells (dif4.map (Value.int .i64)).toArray 3))) := HB4.out.alloc (by omega) _
        have lk : (k : Int) < (n : Int) := by omega
        have lk0 : (0 : Int) ≤ (k : Int) := by omega
        clear hbk HL4 HB4 HR4
        go_wp2_with fail
        refine hone.mono ?_
        rintro e w5 ⟨x, hx, rfl, hr5, ho5⟩
        generalize dif4.getD x 0 = nv
        have HL6 : Hid (BList w.heap.size (.slice (some ⟨g, 0, none⟩) n c) cs w5) := HL5.out.only ho5.but hlt
        have HB6 : Hid (Below b w w5) := HB5.out.trans (ho5.below (Nat.le_refl _))
        have HR6 : Hid (Rd B b (q + 1 + 1 + 1 + 1) w5) := hr5
        have hcF := AtBlk.c3 (FRow.at enBlk_len HL6.out.row).1 k hkl
        have hfF := BRow.frozen HL6.out.row (k * 6 + 3)
        have hgb := HL6.out.row.at enBlk_len
        have hg1 : w.heap.size ≤ g := hgb.2.2.1
        have HLO : Hid (Loose w.heap.size (.slice (some ⟨g, 0, none⟩) n c) (cs.set k { cs.getD k default with h := { (cs.getD k default).h with diff := nv } }) (w5.setCell ⟨g, k * 6 + 3, none⟩ (.int .i64 nv))) := Loose.set HL6.out.row HG.out k 3 _ _ hkl (by decide) rfl rfl rfl
        have HR7 : Hid (Rd B b (q + 1 + 1 + 1 + 1) (w5.setCell ⟨g, k * 6 + 3, none⟩ (.int .i64 nv))) := HR6.out.keep ((Below.refl _ _).setCell (p := ⟨g, k * 6 + 3, none⟩) (by show b + 1 ≤ g; omega) _)
        have HB7 : Hid (Below b w (w5.setCell ⟨g, k * 6 + 3, none⟩ (.int .i64 nv))) := HB6.out.setCell (p := ⟨g, k * 6 + 3, none⟩) (by show b ≤ g; omega) _
        clear hone HL5 HB5 HL6 hr5 ho5 hgb hkl
        generalize cs.set k { cs.getD k default with h := { (cs.getD k default).h with diff := nv } } = ds at HLO
        go_wp2_with fail
        exact HP.out _ _ _ ds (q + 1 + 1 + 1 + 1) rfl HLO.out (by omega) HR7.out HB7.out
      · have hkl : k < cs.length := by rw [← HN.out]; exact hkn
        have hbk := heap_alloc_new w4 (.cells (tim3.map (Value.int .i64)).toArray 3)
        have hone := one_walk B b (q + 1 + 1 + 1) w4.heap.size 3 3 tim3 _ (HR4.out.keep ((Below.refl _ _).alloc (by omega) (.cells (tim3.map (Value.int .i64)).toArray 3))) (by omega) (by omega) (by omega) (cells_ints hbk rfl 3 (by decide)) (by omega)
        have HL5 : Hid (BList w.heap.size (.slice (some ⟨g, 0, none⟩) n c) cs (w4.alloc (.cells (tim3.map (Value.int .i64)).toArray 3))) := HL4.out.below ((Below.refl _ w4).alloc (Nat.le_refl _) _)
        have HB5 : Hid (Below b w (w4.alloc (.cells (tim3.map (Value.int .i64)).toArray 3))) := HB4.out.alloc (by omega) _
        have lk : (k : Int) < (n : Int) := by omega
        have lk0 : (0 : Int) ≤ (k : Int) := by omega
        clear hbk HL4 HB4 HR4
        go_wp2_with fail
        refine hone.mono ?_
        rintro e w5 ⟨x, hx, rfl, hr5, ho5⟩
        generalize tim3.getD x 0 = nv
        have HL6 : Hid (BList w.heap.size (.slice (some ⟨g, 0, none⟩) n c) cs w5) := HL5.out.only ho5.but hlt
        have HB6 : Hid (Below b w w5) := HB5.out.trans (ho5.below (Nat.le_refl _))
        have HR6 : Hid (Rd B b (q + 1 + 1 + 1 + 1) w5) := hr5
        have hcF := AtBlk.c2 (FRow.at enBlk_len HL6.out.row).1 k hkl
        have hfF := BRow.frozen HL6.out.row (k * 6 + 2)
        have hgb := HL6.out.row.at enBlk_len
        have hg1 : w.heap.size ≤ g := hgb.2.2.1
        have HLO : Hid (Loose w.heap.size (.slice (some ⟨g, 0, none⟩) n c) (cs.set k { cs.getD k default with h := { (cs.getD k default).h with time := nv } }) (w5.setCell ⟨g, k * 6 + 2, none⟩ (.int .i64 nv))) := Loose.set HL6.out.row HG.out k 2 _ _ hkl (by decide) rfl rfl rfl
        have HR7 : Hid (Rd B b (q + 1 + 1 + 1 + 1) (w5.setCell ⟨g, k * 6 + 2, none⟩ (.int .i64 nv))) := HR6.out.keep ((Below.refl _ _).setCell (p := ⟨g, k * 6 + 2, none⟩) (by show b + 1 ≤ g; omega) _)
        have HB7 : Hid (Below b w (w5.setCell ⟨g, k * 6 + 2, none⟩ (.int .i64 nv))) := HB6.out.setCell (p := ⟨g, k * 6 + 2, none⟩) (by show b ≤ g; omega) _
        clear hone HL5 HB5 HL6 hr5 ho5 hgb hkl
        generalize cs.set k { cs.getD k default with h := { (cs.getD k default).h with time := nv } } = ds at HLO
        go_wp2_with fail
        exact HP.out _ _ _ ds (q + 1 + 1 + 1 + 1) rfl HLO.out (by omega) HR7.out HB7.out
      · obtain ⟨i0, hi, hz0, hz1, hz2⟩ := info3 infoBlk
        have hkl : k < cs.length := by rw [← HN.out]; exact hkn
        obtain ⟨j, hj⟩ : ∃ j, n = j + 1 := ⟨n - 1, by omega⟩
        have hjl : j < cs.length := by rw [← HN.out]; omega
        have hat := (FRow.at enBlk_len HL4.out.row)
        have q0 := AtBlk.c0 hat.1 j hjl
        have q1 := AtBlk.c1 hat.1 j hjl
        have q2 := AtBlk.c2 hat.1 j hjl
        have q3 := AtBlk.c3 hat.1 j hjl
        have q4 := AtBlk.c4 hat.1 j hjl
        have q5 := AtBlk.c5 hat.1 j hjl
        have hgw : w.heap.size ≤ g := hat.2.2.1
        have hcap : n ≤ c := hat.2.2.2
        have HGL : Hid (g < w4.heap.size) := hat.1.1
        have HF : Hid (w4.ownsRow w.heap.size 39 6 (.slice (some ⟨g, 0, none⟩) k c) k ((cs.take k).flatMap enBlk)) := BRow.first HL4.out.row k (by omega)
        have HWF : Hid (∀ x ∈ cs.take k ++ [cs.getD j default], x.h.prev.size ≤ 16 ∧ x.h.root.size ≤ 16) := by
          intro x hx
          rcases List.mem_append.1 hx with h' | h'
          · exact HG.out.wf x (List.mem_of_mem_take h')
          · rw [List.mem_singleton.1 h']
            exact HG.out.wf _ (getD_mem hjl)
        have HTL : Hid ((cs.take k).length = k) := by show _ = _; rw [List.length_take]; omega
        have hw1 : IntKind.i64.wrap ((n : Int) - 1) = (j : Int) := by rw [IntKind.wrap_i64]; omega
        have lj : (j : Int) < (n : Int) := by omega
        have lj0 : (0 : Int) ≤ (j : Int) := by omega
        have lk : (k : Int) ≤ (c : Int) := by omega
        have lk0 : (0 : Int) ≤ (k : Int) := by omega
        have hc0 : ¬ c = 0 := by omega
        generalize cs.getD j default = lb at q0 q1 q2 q3 q4 q5 HWF
        generalize cs.take k = tk at HF HWF HTL
        obtain ⟨⟨lp, lr, lt, ld, ln⟩, lg, lnn, lc, lss⟩ := lb
        dsimp only at q0 q1 q2 q3 q4 q5
        have hx1 : k + 1 ≤ maxLen := by unfold maxLen; omega
        have hx2 : (k + 1) * 80 ≤ 140737488355328 := by omega
        have HRK : Hid (∀ w', Below (b + 1) w4 w' → Rd B b (q + 1 + 1 + 1) w') := fun w' hb => HR4.out.keep hb
        have HK20 : Hid (k + 1 ≤ 20) := by show _ ≤ _; omega
        have HQ : Hid (q + 1 + 1 + 1 ≤ p + 300) := by show _ ≤ _; omega
        have f0 : w4.drew.cell? ⟨g, j * 6, none⟩ = some (.string lp) := q0
        have f1 : w4.drew.cell? ⟨g, j * 6 + 1, none⟩ = some (.string lr) := q1
        have f2 : w4.drew.cell? ⟨g, j * 6 + 2, none⟩ = some (.int .i64 lt) := q2
        have f3 : w4.drew.cell? ⟨g, j * 6 + 3, none⟩ = some (.int .i64 ld) := q3
        have f4 : w4.drew.cell? ⟨g, j * 6 + 4, none⟩ = some (.int .i64 ln) := q4
        have f5 : w4.drew.cell? ⟨g, j * 6 + 5, none⟩ = some (.slice (some ⟨lg, 0, none⟩) lnn lc) := q5
        have HFd : Hid ((w4.drew.alloc (.cells (enBlk ⟨⟨lp, lr, lt, ld, ln⟩, lg, lnn, lc, lss⟩).toArray 39)).ownsRow w.heap.size 39 6 (.slice (some ⟨g, 0, none⟩) k c) k (tk.flatMap enBlk)) := World.ownsRow.alloc (w := w4.drew) HF.out _
        have HCN : Hid (∀ j u, (enBlk ⟨⟨lp, lr, lt, ld, ln⟩, lg, lnn, lc, lss⟩)[j]? = some u → (w4.drew.alloc (.cells (enBlk ⟨⟨lp, lr, lt, ld, ln⟩, lg, lnn, lc, lss⟩).toArray 39)).cell? ((⟨w4.heap.size, 0, none⟩ : Addr).add j) = some u) := cells_new w4.drew 39 (enBlk ⟨⟨lp, lr, lt, ld, ln⟩, lg, lnn, lc, lss⟩)
        clear hj hjl hat HL4 HG hkl hcap HR4
        go_wp2_with fail
        go_region_law (refine step_append_any rfl (.tmp 23) (.tmp 30) 23 rfl w.heap.size 39 i0 (.agg #[.string ⟨#[]⟩, .string ⟨#[]⟩, .int .i64 0, .int .i64 0, .int .i64 0, .slice none 0 0]) 6 80 Tryz.underlying23 hi hz0 hz1 hz2 rfl (by decide) g c k _ (by simp [Act.eval]) HFd.out ⟨w4.heap.size, 0, none⟩ 1 1 (enBlk ⟨⟨lp, lr, lt, ld, ln⟩, lg, lnn, lc, lss⟩) (by simp [Act.eval]) rfl HCN.out (enBlk_one _) hx1 hx2 (by simp; omega) ?_; intro g5 c5 w5 hown5 hgrow5 hat5 hlt5)
        have hgl := HGL.out
        have hB5 : Below w.heap.size w4 w5 := ((Below.refl _ w4).drew.alloc hsz4 _).grown hgrow5 (by simp; omega) (fun j hj => by cases hj; exact hgw)
        have HL5 : Hid (Loose w.heap.size (.slice (some ⟨g5, 0, none⟩) (k + 1) c5) (tk ++ [⟨⟨lp, lr, lt, ld, ln⟩, lg, lnn, lc, lss⟩]) w5) := by
          refine ⟨FRow.of ?_ ?_, ?_, HWF.out⟩
          · rw [List.flatMap_append]
            simpa using hown5
          · rw [List.length_append, HTL.out]; rfl
          · rw [List.length_append, HTL.out]; exact HK20.out
        have HR5 : Hid (Rd B b (q + 1 + 1 + 1) w5) := HRK.out _ (hB5.mono (by omega))
        have HB5 : Hid (Below b w w5) := HB4.out.trans (hB5.mono (by omega))
        generalize tk ++ [(⟨⟨lp, lr, lt, ld, ln⟩, lg, lnn, lc, lss⟩ : BlkV)] = ds at HL5
        clear hown5 hgrow5 hat5 hlt5 hB5 HF HFd HCN HWF HTL
        go_wp2_with fail
        go_ret
        exact HP.out _ _ _ ds (q + 1 + 1 + 1) rfl HL5.out HQ.out HR5.out HB5.out
    · have hx0' : ((x2 : Int) == 0) = false := beq_eq_false_iff_ne.2 (by omega)
      go_wp2_with fail
      exact HP.out _ _ _ cs (q + 1) rfl ⟨HL2.out.row, HG.out.few, HG.out.wf⟩ (by omega) HR2.out HB2.out

end Go.Proofs.YtkajpkfhedfmaaaGreatDoor

set_option linter.unusedVariables false
namespace Go.Proofs.YtkajpkfhedfmaaaGreatDoor
open Go.RowKit Go.Deep

/-- The first block's work is the least: the first number does. -/
theorem mine_first {t : Int} {ss : List ByteArray} (h0 : 0 ≤ t) (h1 : t ≤ 99999) : mineV [] t ss ≠ none := by
  have hk : headOkB (headNo (newH [] t ss) 0) = true := newH_ok ⟨h0, h1⟩ (fun i hi => absurd hi (Nat.not_lt_zero _))
  have hm : headMeets (headNo (newH [] t ss) 0) = true := by
    rw [meets_yes hk, decide_eq_true_eq]
    have h3 := headOf_lt (headX (headNo (newH [] t ss) 0))
    have h4 : (headNo (newH [] t ss) 0).diff = 1 := rfl
    rw [h4]
    omega
  rw [mine_yes ⟨by show (0 : Nat) < 20; decide, ⟨h0, h1⟩, .inl rfl⟩ (by rw [headMine_yes (Nat.zero_le _) hm (fun j hj => absurd hj (Nat.not_lt_zero _))])]
  exact fun h => by cases h
theorem its_more {bs cs : List BlkV} {ss : List ByteArray} (h : ∀ c ∈ bs, itemsOkB c.ss = true) (h2 : cs.map (·.ss) = bs.map (·.ss) ++ [ss]) (hs : itemsOkB ss = true) : ∀ c ∈ cs, itemsOkB c.ss = true := by
  intro c hc
  have : c.ss ∈ cs.map (·.ss) := List.mem_map.2 ⟨c, hc, rfl⟩
  rw [h2] at this
  rcases List.mem_append.1 this with h' | h'
  · obtain ⟨d, hd, he⟩ := List.mem_map.1 h'
    rw [← he]
    exact h d hd
  · rw [List.mem_singleton.1 h']
    exact hs
theorem its_ok {ss : List ByteArray} (hl : ss.length ≤ 4) (h : ∀ i, i < ss.length → isItem (ss.getD i ByteArray.empty).data.toList = true) : itemsOkB ss = true := by
  rw [itemsOkB, Bool.and_eq_true, decide_eq_true_eq, List.all_eq_true]
  refine ⟨by omega, fun s hs => ?_⟩
  obtain ⟨j, hj, rfl⟩ := List.mem_iff_getElem.1 hs
  have := h j hj
  rwa [List.getD_eq_getElem?_getD, List.getElem?_eq_getElem hj] at this
theorem more_ne {bs cs : List BlkV} {ss : List ByteArray} (h2 : cs.map (·.ss) = bs.map (·.ss) ++ [ss]) : cs ≠ [] := by
  intro h
  have := congrArg List.length h2
  rw [h] at this
  simp at this
/-- What a chain drawn from nothing is. -/
def ChainH (B b p B0 many : Nat) (w : World) (e : Ending) (w' : World) : Prop := ∃ (v : Value) (cs : List BlkV) (q : Nat), e = .returned v ∧ BList B0 v cs w' ∧ Good cs ∧ (∀ c ∈ cs, itemsOkB c.ss = true) ∧ (0 < many → cs ≠ []) ∧ q ≤ p + 10 * many ∧ Rd B b q w' ∧ Below b w w' ∧ But b w w'

set_option maxHeartbeats 2000000 in
set_option maxRecDepth 100000 in
theorem drawChainH (B b p B0 g0 c0 : Nat) (hb : b < B0) (many : Nat) (w : World) (h : Rd B b p w) (hp : p < 1000000000 - 1000) (hl : BList B0 (.slice (some ⟨g0, 0, none⟩) 0 c0) [] w) (hB0 : B0 ≤ w.heap.size) (hm : many ≤ 20) :
    Calls Tryz.prog 74 #[.pointer (some ⟨b, 0, none⟩), .slice (some ⟨g0, 0, none⟩) 0 c0, .int .i64 (many : Int)] w fun e w' => ChainH B b p B0 many w e w' := by
  have hlt := h.lt
  have HP : Hid (∀ e w' v cs q, e = .returned v → BList B0 v cs w' → Good cs → (∀ c ∈ cs, itemsOkB c.ss = true) → (0 < many → cs ≠ []) → q ≤ p + 10 * many → Rd B b q w' → Below b w w' → But b w w' → ChainH B b p B0 many w e w') := fun e w' v cs q h1 h2 h3 ha hc h4 h5 h6 h7 => ⟨v, cs, q, h1, h2, h3, ha, hc, h4, h5, h6, h7⟩
  generalize ChainH B b p B0 many w = CP at HP ⊢
  have HL0 : Hid (BList B0 (.slice (some ⟨g0, 0, none⟩) 0 c0) [] w) := hl
  have HR0 : Hid (Rd B b p w) := h
  have hB0b : B0 ≤ w.heap.size := hB0
  clear h hl hB0
  have hwm : (many : Int) ≤ 20 := by omega
  go_enter Tryz.func74, Tryz.ntmps74
  go_wp2_with fail
  go_loopw [1, 7, 8] (fun l t m wr => ∃ (cs : List BlkV) (g c k : Nat) (tt : Int) (mm q : Nat), l = .slice (some ⟨g, 0, none⟩) k c ∧ t = .int .i64 tt ∧ m = .int .i64 (mm : Int) ∧ 0 ≤ tt ∧ tt ≤ 30 * ((many - mm : Nat) : Int) ∧ mm ≤ many ∧ q ≤ p + 10 * (many - mm) ∧ Hid (k = cs.length) ∧ Hid (BList B0 (.slice (some ⟨g, 0, none⟩) k c) cs wr) ∧ Hid (Good cs ∧ (∀ c ∈ cs, itemsOkB c.ss = true) ∧ (mm < many → cs ≠ [])) ∧ Hid (Rd B b q wr) ∧ Hid (Below b w wr ∧ But b w wr)) (fun _ _ m _ => (intOf m).toNat)
  case atStart => exact ⟨[], g0, c0, 0, 0, many, p, rfl, rfl, rfl, Int.le_refl _, by omega, Nat.le_refl _, by omega, rfl, HL0, ⟨Good.nil, fun c hc => absurd hc (by simp), fun h => absurd h (Nat.lt_irrefl _)⟩, HR0, ⟨Below.refl _ _, But.refl _ _⟩⟩
  case round =>
    clear HL0 HR0
    obtain ⟨cs, g, c, k, tt, mm, q, rfl, rfl, rfl, ht0, ht1, hmm, hq, HK, HL, HG, HR, HB⟩ := hrel
    by_cases hm0 : 0 < mm
    · have hm0' : (0 : Int) < (mm : Int) := by omega
      have HM : Hid (mm - 1 + 1 = mm) := by show _ = _; omega
      have hszr : w.heap.size ≤ wr.heap.size := HB.out.2.1
      have hltr := HR.out.lt
      have hbk := heap_alloc_new wr (.cells (steps5.map (Value.int .i64)).toArray 3)
      have hone := one_walk B b q wr.heap.size 5 5 steps5 _ (HR.out.keep ((Below.refl _ _).alloc (by omega) (.cells (steps5.map (Value.int .i64)).toArray 3))) (by omega) (by omega) (by omega) (cells_ints hbk rfl 5 (by decide)) (by omega)
      have HL1 : Hid (BList B0 (.slice (some ⟨g, 0, none⟩) k c) cs (wr.alloc (.cells (steps5.map (Value.int .i64)).toArray 3))) := HL.out.below ((Below.refl _ wr).alloc (Nat.le_refl _) _)
      have HB1 : Hid (Below b w (wr.alloc (.cells (steps5.map (Value.int .i64)).toArray 3)) ∧ But b w (wr.alloc (.cells (steps5.map (Value.int .i64)).toArray 3))) := ⟨HB.out.1.alloc (by omega) _, HB.out.2.trans (But.alloc _ _ _)⟩
      clear hbk hm0 HL HB HR
      go_wp2_with fail
      refine hone.mono ?_
      rintro e w2 ⟨x, hx, rfl, hr2, ho2⟩
      have hin := steps5_in ⟨x, hx⟩
      dsimp only at hin
      generalize steps5.getD x 0 = st at hin ⊢
      have HL2 : Hid (BList B0 (.slice (some ⟨g, 0, none⟩) k c) cs w2) := HL1.out.only ho2.but hb
      have HB2 : Hid (Below b w w2 ∧ But b w w2) := ⟨HB1.out.1.trans (ho2.below (Nat.le_refl _)), HB1.out.2.trans ho2.but⟩
      have hit := drawItems B b (q + 1) 4 w2 hr2 (by omega) (by omega)
      have wt : IntKind.i64.wrap (tt + st) = tt + st := by rw [IntKind.wrap_i64]; omega
      clear hone HL1 HB1 ho2 hr2
      go_wp2_with fail
      refine hit.mono ?_
      rintro e w3 ⟨v3, ss, q3, rfl, hz3, hl3, hi3, hq3, hr3, bl3, bu3⟩
      obtain ⟨gi, ci, hv3⟩ := hz3.1
      subst hv3
      have HL3 : Hid (BList B0 (.slice (some ⟨g, 0, none⟩) k c) cs w3) := HL2.out.only bu3 hb
      have HB3 : Hid (Below b w w3 ∧ But b w w3) := ⟨HB2.out.1.trans bl3, HB2.out.2.trans bu3⟩
      have HR3 : Hid (Rd B b q3 w3) := hr3
      have HSS : Hid (ss.length ≤ 4) := hl3
      have HIO : Hid (itemsOkB ss = true) := its_ok hl3 hi3
      have HNE : Hid (mineV (cs.map (·.h)) (tt + st) ss = none → cs ≠ []) := fun hn hc => by
        rw [hc] at hn
        exact mine_first (by omega) (by omega) hn
      have hmi := specL4Mine g k c cs (tt + st) gi ss.length ci ss w3 (FRow.at enBlk_len HL3.out.row).1 (fun b' hb' => ⟨(HL3.out.items b' hb').1, by have := HG.out.1.items b' hb'; omega⟩) HK.out (by have := HG.out.1.few; have := HK.out; omega) HG.out.1.ok (SRow.at hz3).1 rfl (by omega) (fun i hi => item_small (hi3 i hi))
      have hltr3 := hr3.lt
      clear hit HL2 HB2 hz3 hi3 bl3 bu3 hr3 hl3
      obtain ⟨sl, hsl⟩ : ∃ n, n = ss.length := ⟨_, rfl⟩
      rw [← hsl] at hmi ⊢
      clear hsl
      go_wp2_with fail
      refine hmi.mono ?_
      rintro e w4 ⟨b4, ⟨hnone, rfl⟩ | ⟨y, v4, ds, hsome, rfl, l4, h41, h42⟩⟩
      · have HL4 : Hid (BList B0 (.slice (some ⟨g, 0, none⟩) k c) cs w4) := HL3.out.below b4
        have HB4 : Hid (Below b w w4 ∧ But b w w4) := ⟨HB3.out.1.trans (b4.mono (by omega)), HB3.out.2.trans (Below.but b4)⟩
        have HR4 : Hid (Rd B b q3 w4) := HR3.out.keep (b4.mono (by omega))
        have HG4 : Hid (Good cs ∧ (∀ c ∈ cs, itemsOkB c.ss = true) ∧ (mm - 1 < many → cs ≠ [])) := ⟨HG.out.1, HG.out.2.1, fun _ => HNE.out hnone⟩
        clear b4 hnone hmi HNE HG
        go_wp2_with fail
        go_roundw
        case rel => exact ⟨cs, g, c, k, tt + st, mm - 1, q3, rfl, rfl, by have := HM.out; show Value.int .i64 _ = Value.int .i64 _; congr 1; omega, by omega, by have := HM.out; omega, by have := HM.out; omega, by have := HM.out; omega, HK, HL4, HG4, HR4, HB4⟩
        case measure => have := HM.out; simp [intOf]; omega
      · obtain ⟨g4, c4, hv4⟩ := l4.row.1
        subst hv4
        have hsz3 : w.heap.size ≤ w3.heap.size := HB3.out.2.1
        have HL4 : Hid (BList B0 (.slice (some ⟨g4, 0, none⟩) ds.length c4) ds w4) := l4.mono (by omega)
        have HG4 : Hid (Good ds ∧ (∀ c ∈ ds, itemsOkB c.ss = true) ∧ (mm - 1 < many → ds ≠ [])) := ⟨HG.out.1.more hsome h41 h42 HSS.out, its_more HG.out.2.1 h42 HIO.out, fun _ => more_ne h42⟩
        have HB4 : Hid (Below b w w4 ∧ But b w w4) := ⟨HB3.out.1.trans (b4.mono (by omega)), HB3.out.2.trans (Below.but b4)⟩
        have HR4 : Hid (Rd B b q3 w4) := HR3.out.keep (b4.mono (by omega))
        clear b4 hsome hmi l4 h41 h42 HNE HG
        obtain ⟨dl, hdl⟩ : ∃ n, n = ds.length := ⟨_, rfl⟩
        have HDL : Hid (dl = ds.length) := hdl
        rw [← hdl] at HL4 ⊢
        clear hdl
        go_wp2_with fail
        go_roundw
        case rel => exact ⟨ds, g4, c4, dl, tt + st, mm - 1, q3, rfl, rfl, by have := HM.out; show Value.int .i64 _ = Value.int .i64 _; congr 1; omega, by omega, by have := HM.out; omega, by have := HM.out; omega, by have := HM.out; omega, HDL, HL4, HG4, HR4, HB4⟩
        case measure => have := HM.out; simp [intOf]; omega
    · have hm0' : ¬ (0 : Int) < (mm : Int) := by omega
      go_wp2_with fail
      exact HP.out _ _ _ cs q rfl HL.out HG.out.1 HG.out.2.1 (fun h => HG.out.2.2 (by omega)) (by omega) HR.out HB.out.1 HB.out.2

end Go.Proofs.YtkajpkfhedfmaaaGreatDoor

