/-
  Texts that the last part needs, joined.
-/
import Derived.Test.YtoojimfimlpplaaGreatDoorPart1
import Derived.Test.YtoojimfimlpplaaGreatDoorPart2
import Derived.Test.YtoojimfimlpplaaGreatDoorPart3
import Derived.Test.YtoojimfimlpplaaGreatDoorPart4
import Derived.Test.YtoojimfimlpplaaGreatDoorPart5
import Derived.Test.YtoojimfimlpplaaGreatDoorPart6
import Derived.Test.YtoojimfimlpplaaGreatDoorPart7
import Derived.Test.YtoojimfimlpplaaGreatDoorPart8
import Derived.Test.YtoojimfimlpplaaGreatDoorPart9
import Derived.OwnWalk
import Derived.Deep.RegionWith
import Derived.Deep.RegionLaw
namespace Go.Proofs.YtoojimfimlpplaaGreatDoor
open Go.RowKit

/-! ### The bits of a text -/
def byteBits (c : UInt8) : List Nat := [c.toNat / 128 % 2, c.toNat / 64 % 2, c.toNat / 32 % 2, c.toNat / 16 % 2, c.toNat / 8 % 2, c.toNat / 4 % 2, c.toNat / 2 % 2, c.toNat % 2]
def unpack (o : List UInt8) : List Nat := o.flatMap byteBits
theorem unpack_append (a b : List UInt8) : unpack (a ++ b) = unpack a ++ unpack b := by simp [unpack]
theorem unpack_length (o : List UInt8) : (unpack o).length = 8 * o.length := by
  induction o with
  | nil => rfl
  | cons c r ih =>
    have : unpack (c :: r) = byteBits c ++ unpack r := rfl
    rw [this, List.length_append, ih]
    simp [byteBits]
    omega
theorem byteBits_val (l : List Nat) (h8 : l.length = 8) (h : ∀ x ∈ l, x ≤ 1) : byteBits (UInt8.ofNat (valB l)) = l := by
  match l, h8 with
  | [a, b, c, d, e, f, g, i], _ =>
    have ha := h a (by simp)
    have hb := h b (by simp)
    have hc := h c (by simp)
    have hd := h d (by simp)
    have he := h e (by simp)
    have hf := h f (by simp)
    have hg := h g (by simp)
    have hi := h i (by simp)
    have hv : valB [a, b, c, d, e, f, g, i] = a * 128 + b * 64 + c * 32 + d * 16 + e * 8 + f * 4 + g * 2 + i := by
      simp only [valB, List.foldl_cons, List.foldl_nil]
      omega
    have hn : (UInt8.ofNat (valB [a, b, c, d, e, f, g, i])).toNat = a * 128 + b * 64 + c * 32 + d * 16 + e * 8 + f * 4 + g * 2 + i := by
      rw [hv]
      simp
      omega
    simp only [byteBits, hn, List.cons.injEq, and_true]
    refine ⟨?_, ?_, ?_, ?_, ?_, ?_, ?_, ?_⟩ <;> omega
theorem unpack_step {s : List UInt8 × List Nat} {b : Nat} (h : okB s) (hb : b ≤ 1) : unpack (stepB s b).1 ++ (stepB s b).2 = unpack s.1 ++ s.2 ++ [b] := by
  unfold stepB
  split
  · rename_i h7
    have hall : ∀ x ∈ s.2 ++ [b], x ≤ 1 := by
      intro x hx
      rcases List.mem_append.1 hx with hx | hx
      · exact h.2 x hx
      · simp at hx; omega
    have e : unpack [UInt8.ofNat (valB (s.2 ++ [b]))] = s.2 ++ [b] := by
      have : unpack [UInt8.ofNat (valB (s.2 ++ [b]))] = byteBits (UInt8.ofNat (valB (s.2 ++ [b]))) := by simp [unpack]
      rw [this, byteBits_val _ (by simp [h7]) hall]
    rw [unpack_append, e]
    simp
  · simp
theorem unpack_run (bs : List Nat) : ∀ (s : List UInt8 × List Nat), okB s → (∀ b ∈ bs, b ≤ 1) → unpack (runB s bs).1 ++ (runB s bs).2 = unpack s.1 ++ s.2 ++ bs := by
  induction bs with
  | nil => intro s _ _; simp [runB]
  | cons b r ih =>
    intro s h hb
    have h1 := hb b (by simp)
    have := ih (stepB s b) (stepB_ok h h1) (fun x hx => hb x (by simp [hx]))
    have e : runB s (b :: r) = runB (stepB s b) r := rfl
    rw [e, this, unpack_step h h1]
    simp
theorem run_zeros (m : Nat) : ∀ (s : List UInt8 × List Nat), okB s → s.2.length + m = 8 → m ≠ 0 → (runB s (List.replicate m 0)).2 = [] := by
  induction m with
  | zero => intro s _ _ h; exact absurd rfl h
  | succ m ih =>
    intro s h hl _
    have e : runB s (List.replicate (m + 1) 0) = runB (stepB s 0) (List.replicate m 0) := rfl
    rw [e]
    by_cases h7 : s.2.length = 7
    · have hm : m = 0 := by omega
      subst hm
      simp [runB, stepB, h7]
    · have h2 : (stepB s 0).2 = s.2 ++ [0] := by simp [stepB, h7]
      refine ih _ (stepB_ok h (by omega)) (by rw [h2]; simp; omega) (by omega)
theorem unpack_fill {s : List UInt8 × List Nat} (h : okB s) : ∃ z, z < 8 ∧ unpack (fillB s) = unpack s.1 ++ s.2 ++ List.replicate z 0 := by
  by_cases h0 : s.2 = []
  · exact ⟨0, by omega, by rw [fillB_end h0, h0]; simp⟩
  · have hne : s.2.length ≠ 0 := fun e => h0 (List.length_eq_zero_iff.1 e)
    refine ⟨8 - s.2.length, by omega, ?_⟩
    have h8 := h.1
    have hu := unpack_run (List.replicate (8 - s.2.length) 0) s h (by intro b hb; simp at hb; omega)
    have hz := run_zeros (8 - s.2.length) s h (by omega) (by omega)
    rw [hz, List.append_nil] at hu
    rw [fillB, if_neg h0]
    exact hu
theorem unpack_rice (k : Nat) (l : List Nat) : ∃ z, z < 8 ∧ unpack (riceB k l) = bitsOf k l ++ List.replicate z 0 := by
  have hk : okB (runB ([], []) (bitsOf k l)) := runB_ok ⟨by simp, by simp⟩ (bitsOf_ok k l)
  obtain ⟨z, hz, h⟩ := unpack_fill hk
  refine ⟨z, hz, ?_⟩
  rw [riceB, h, unpack_run (bitsOf k l) ([], []) ⟨by simp, by simp⟩ (bitsOf_ok k l)]
  simp [unpack]

/-! ### The program's reader -/
def takeM (k : Nat) : Nat × Bool × Nat → Nat → (Nat × Bool × Nat) × Option Nat
  | (n, true, left), b => if 1 < left then ((n * 2 + b, true, left - 1), none) else ((0, false, 0), some (n * 2 + b))
  | (n, false, left), b => if b = 1 then ((n + 1, false, left), none) else if 0 < k then ((n, true, k), none) else ((0, false, 0), some n)
def readT (k many : Nat) : List Nat → Nat × Bool × Nat → List Nat → List Nat
  | [], _, out => out
  | b :: r, st, out => if out.length = many then out else readT k many r (takeM k st b).1 (out ++ (takeM k st b).2.toList)
theorem readT_ones (k many m : Nat) (rest : List Nat) : ∀ (n : Nat) (out : List Nat), out.length ≠ many → readT k many (List.replicate m 1 ++ rest) (n, false, 0) out = readT k many rest (n + m, false, 0) out := by
  induction m with
  | zero => intro n out _; simp
  | succ m ih =>
    intro n out h
    rw [List.replicate_succ, List.cons_append, readT, if_neg h]
    simp only [takeM, if_true, Option.toList, List.append_nil]
    rw [ih (n + 1) out h, show n + 1 + m = n + (m + 1) from by omega]
theorem readT_low (k many x : Nat) (rest : List Nat) : ∀ (j n : Nat) (out : List Nat), out.length ≠ many → n = x / 2 ^ (j + 1) → readT k many (lowB x (j + 1) ++ rest) (n, true, j + 1) out = readT k many rest (0, false, 0) (out ++ [x]) := by
  intro j
  induction j with
  | zero =>
    intro n out h hn
    rw [show lowB x (0 + 1) = [x / 2 ^ 0 % 2] from rfl, List.cons_append, readT, if_neg h]
    have : n * 2 + x / 2 ^ 0 % 2 = x := by rw [hn]; simp; omega
    simp only [takeM, List.nil_append, show ¬ (1 < 0 + 1) from by omega, if_false, Option.toList, this]
  | succ j ih =>
    intro n out h hn
    rw [show lowB x (j + 1 + 1) = (x / 2 ^ (j + 1) % 2) :: lowB x (j + 1) from rfl, List.cons_append, readT, if_neg h]
    simp only [takeM, show 1 < j + 1 + 1 from by omega, if_true, Option.toList, List.append_nil, show j + 1 + 1 - 1 = j + 1 from by omega]
    refine ih _ out h ?_
    rw [hn, Nat.pow_succ 2 (j + 1), ← Nat.div_div_eq_div_mul]
    omega
theorem readT_num (k many x : Nat) (rest : List Nat) (out : List Nat) (h : out.length ≠ many) : readT k many (numB k x ++ rest) (0, false, 0) out = readT k many rest (0, false, 0) (out ++ [x]) := by
  rw [numB, List.append_assoc, readT_ones k many _ _ 0 out h, List.cons_append, readT, if_neg h, Nat.zero_add]
  cases k with
  | zero => simp [takeM, lowB]
  | succ j =>
    simp only [takeM, show ¬ (0 = 1) from by omega, if_false, show 0 < j + 1 from by omega, if_true, Option.toList, List.append_nil]
    exact readT_low (j + 1) many x rest j _ out h rfl
theorem readT_all (k many : Nat) (l : List Nat) : ∀ (out rest : List Nat), out.length + l.length = many → readT k many (bitsOf k l ++ rest) (0, false, 0) out = out ++ l := by
  induction l with
  | nil =>
    intro out rest h
    have ho : out.length = many := by simpa using h
    cases rest with
    | nil => simp [bitsOf, readT]
    | cons b r => simp [bitsOf, readT, ho]
  | cons x l ih =>
    intro out rest h
    have : bitsOf k (x :: l) = numB k x ++ bitsOf k l := by simp [bitsOf]
    rw [this, List.append_assoc, readT_num k many x _ out (by simp at h; omega), ih (out ++ [x]) rest (by simp at h ⊢; omega)]
    simp
/-- What was written is read. -/
theorem readT_rice (k : Nat) (l : List Nat) : readT k l.length (unpack (riceB k l)) (0, false, 0) [] = l := by
  obtain ⟨z, _, h⟩ := unpack_rice k l
  rw [h, readT_all k l.length l [] _ (by simp)]
  rfl

end Go.Proofs.YtoojimfimlpplaaGreatDoor

set_option linter.unusedVariables false
namespace Go.Proofs.YtoojimfimlpplaaGreatDoor
open Go.RowKit

theorem lowB_len (x : Nat) : ∀ k, (lowB x k).length = k := by
  intro k
  induction k with
  | zero => rfl
  | succ k ih => simp [lowB, ih]
theorem bitsOf_len (k : Nat) (hk : k ≤ 8) (l : List Nat) (h : ∀ x ∈ l, x ≤ 60000) : (bitsOf k l).length ≤ 60009 * l.length := by
  induction l with
  | nil => simp [bitsOf]
  | cons x r ih =>
    have e : bitsOf k (x :: r) = numB k x ++ bitsOf k r := by simp [bitsOf]
    have h1 := h x (by simp)
    have h2 := ih (fun y hy => h y (by simp [hy]))
    have h3 : x / 2 ^ k ≤ x := Nat.div_le_self _ _
    rw [e, List.length_append, List.length_cons]
    have h4 : (numB k x).length ≤ 60009 := by
      simp [numB, lowB_len]
      omega
    omega
theorem ricePut_len (ns : List Int) (k : Int) : (ricePut ns k).length ≤ 300100 := by
  cases hr : riceOkB ns k with
  | false => rw [ricePut_no hr]; simp
  | true =>
    rw [ricePut_yes hr]
    have hb := riceOk_bits hr
    have hn := riceOk_len hr
    obtain ⟨z, hz, hu⟩ := unpack_rice k.toNat (ns.map Int.toNat)
    have h1 := unpack_length (riceB k.toNat (ns.map Int.toNat))
    rw [hu, List.length_append, List.length_replicate] at h1
    have h2 := bitsOf_len k.toNat (by omega) (ns.map Int.toNat) (by
      intro x hx
      obtain ⟨y, hy, rfl⟩ := List.mem_map.1 hx
      obtain ⟨i, hi, rfl⟩ := List.mem_iff_getElem.1 hy
      have := riceOk_at hr i hi
      rw [List.getD_eq_getElem?_getD, List.getElem?_eq_getElem hi] at this
      simp at this
      omega)
    simp at h2
    omega

def bits4 : List Int := [0, 2, 5, 8]
def more6 : List Int := [0, 0, 0, 0, 1, -1]
theorem more6_in : ∀ i : Fin 6, -1 ≤ more6.getD i.val 0 ∧ more6.getD i.val 0 ≤ 1 := by decide
end Go.Proofs.YtoojimfimlpplaaGreatDoor

set_option linter.unusedVariables false
namespace Go.Proofs.YtoojimfimlpplaaGreatDoor
open Go.RowKit

end Go.Proofs.YtoojimfimlpplaaGreatDoor

set_option linter.unusedVariables false
namespace Go.Proofs.YtoojimfimlpplaaGreatDoor
open Go.RowKit

/-- Of what lay there block b alone may have turned. -/
def But (b : Nat) (w w' : World) : Prop := w.heap.size ≤ w'.heap.size ∧ ∀ c, c < w.heap.size → c ≠ b → w'.heap[c]? = w.heap[c]?
theorem But.refl (b : Nat) (w : World) : But b w w := ⟨Nat.le_refl _, fun _ _ _ => rfl⟩
theorem But.trans {b : Nat} {u v w : World} (h : But b u v) (k : But b v w) : But b u w :=
  ⟨Nat.le_trans h.1 k.1, fun c hc hb => (k.2 c (Nat.lt_of_lt_of_le hc h.1) hb).trans (h.2 c hc hb)⟩
theorem Only.but {b : Nat} {w w' : World} (h : Only b w w') : But b w w' := ⟨by rw [h.size]; exact Nat.le_refl _, fun c _ hb => h.block c hb⟩
theorem Below.but {b : Nat} {w w' : World} (h : Below w.heap.size w w') : But b w w' := ⟨h.size, fun c hc _ => h.block c hc⟩
theorem But.alloc (b : Nat) (w : World) (o : Obj) : But b w (w.alloc o) := ⟨by simp, fun c hc _ => Below.heap_alloc _ _ _ hc⟩
theorem SRow.but {B b : Nat} {v : Value} {ss : List ByteArray} {w w' : World} (h : SRow B v ss w) (hk : But b w w') (hb : b < B) : SRow B v ss w' := h.keep (fun g hg hl => hk.2 g hl (by omega))

theorem items12_item : ∀ i : Fin 12, isItem (items12.getD i.val ByteArray.empty).data.toList = true := by decide
set_option maxHeartbeats 1000000 in
set_option maxRecDepth 100000 in
theorem drawItemK (B b p : Nat) (w : World) (h : Rd B b p w) (hp : p < 1000000000) :
    Calls Tryz.prog 71 #[.pointer (some ⟨b, 0, none⟩)] w fun e w' => ∃ s : ByteArray, e = .returned (.string s) ∧ isItem s.data.toList = true ∧ Rd B b (p + 1) w' ∧ Below b w w' ∧ But b w w' := by
  have hlt := h.lt
  go_enter Tryz.func71, Tryz.ntmps71
  go_wp2_with fail
  have hbk := heap_alloc_new w (.cells (items12.map Value.string).toArray 9)
  refine (of_walk B b p w.heap.size 12 12 items12 _ (h.keep ((Below.refl _ w).alloc (by omega) _)) hp (by omega) (by omega) (cells_texts hbk rfl 12 (by decide)) (by omega)).mono ?_
  rintro e w2 ⟨x, hx, rfl, hr, ho⟩
  have hsz := items12_item ⟨x, hx⟩
  have hb : Below b w w2 := ((Below.refl b w).alloc (by omega) (.cells (items12.map Value.string).toArray 9)).trans (ho.below (Nat.le_refl _))
  have hbu : But b w w2 := (But.alloc b w _).trans ho.but
  dsimp only at hsz
  generalize items12.getD x ByteArray.empty = s at hsz ⊢
  clear ho hbk
  go_wp2
  go_ret
  exact ⟨s, rfl, hsz, hr, hb, hbu⟩

def ItemsPost (B b p most : Nat) (w : World) (e : Ending) (w' : World) : Prop := ∃ (v : Value) (ss : List ByteArray) (q : Nat), e = .returned v ∧ SRow w.heap.size v ss w' ∧ ss.length ≤ most ∧ (∀ i, i < ss.length → isItem (ss.getD i ByteArray.empty).data.toList = true) ∧ q ≤ p + 1 + most ∧ Rd B b q w' ∧ Below b w w' ∧ But b w w'
def FilterPost (B b p : Nat) (w : World) (e : Ending) (w' : World) : Prop := ∃ (s key : ByteArray) (v : Value) (ss : List ByteArray) (q : Nat), e = .returned (.tuple #[.string s, .string key, v]) ∧ s.size ≤ 300200 ∧ key.size = 16 ∧ SRow w.heap.size v ss w' ∧ ss.length ≤ 8 ∧ (∀ i, i < ss.length → isItem (ss.getD i ByteArray.empty).data.toList = true) ∧ q ≤ p + 20 ∧ Rd B b q w' ∧ Below b w w'

set_option maxHeartbeats 2000000 in
set_option maxRecDepth 100000 in
theorem drawItems (B b p most : Nat) (w : World) (h : Rd B b p w) (hp : p < 1000000000 - 100) (hm : most ≤ 40) :
    Calls Tryz.prog 81 #[.pointer (some ⟨b, 0, none⟩), .int .i64 (most : Int)] w fun e w' => ItemsPost B b p most w e w' := by
  have hlt := h.lt
  obtain ⟨i0, hi, hz0, hz1, hz2⟩ := info_parts infoStr
  have HR0 : Hid (Rd B b p (w.alloc (.cells #[] 9))) := h.keep ((Below.refl _ w).alloc (by omega) _)
  have HZ0 : Hid (SRow w.heap.size (.slice (some ⟨w.heap.size, 0, none⟩) 0 0) [] (w.alloc (.cells #[] 9))) := srow_new w
  have HB0 : Hid (Below b w (w.alloc (.cells #[] 9)) ∧ But b w (w.alloc (.cells #[] 9))) := ⟨(Below.refl _ w).alloc (by omega) _, But.alloc _ _ _⟩
  have hpk := pick_walk B b p ((most : Int) + 1) _ HR0.out (by omega) (by omega)
  clear h
  go_enter Tryz.func81, Tryz.ntmps81
  go_wp2_with fail
  refine hpk.mono ?_
  rintro e w1 ⟨n0, rfl, hn, _, hr1, ho1⟩
  have hn0 : n0 ≤ most := by have := hn (by omega); omega
  have HR1 : Hid (Rd B b (p + 1) w1) := hr1
  have HZ1 : Hid (SRow w.heap.size (.slice (some ⟨w.heap.size, 0, none⟩) 0 0) [] w1) := HZ0.out.but ho1.but hlt
  have HB1 : Hid (Below b w w1 ∧ But b w w1) := ⟨HB0.out.1.trans (ho1.below (Nat.le_refl _)), HB0.out.2.trans ho1.but⟩
  clear hpk hn hr1 ho1 HR0 HZ0 HB0
  go_wp2_with fail
  go_loopw [5, 6] (fun v n wr => ∃ (ss : List ByteArray) (m q k g c : Nat), n = .int .i64 (m : Int) ∧ v = .slice (some ⟨g, 0, none⟩) k c ∧ k + m ≤ most ∧ q ≤ p + 1 + k ∧ Hid (k = ss.length) ∧ Hid (∀ i, i < ss.length → isItem (ss.getD i ByteArray.empty).data.toList = true) ∧ Hid (SRow w.heap.size v ss wr) ∧ Hid (Rd B b q wr) ∧ Hid (Below b w wr ∧ But b w wr)) (fun _ n _ => (intOf n).toNat)
  case atStart => exact ⟨[], n0, p + 1, 0, w.heap.size, 0, rfl, rfl, by omega, by omega, rfl, (fun i hi => by cases hi), HZ1, HR1, HB1⟩
  case round =>
    clear HZ1 HR1 HB1
    obtain ⟨ss, m, q, k, g, c, rfl, rfl, hkm, hq, HK, HS8, HZ, HR, HB⟩ := hrel
    have hszr : w.heap.size ≤ wr.heap.size := HB.out.2.1
    have hltr := HR.out.lt
    by_cases hm0 : 0 < m
    · have hm0' : (0 : Int) < (m : Int) := by omega
      have HM : Hid (m - 1 + 1 = m) := by show _ = _; omega
      have hit := drawItemK B b q wr HR.out (by omega)
      clear hm0
      go_wp2_with fail
      refine hit.mono ?_
      rintro e w2 ⟨s, rfl, hs8, hr2, bl2, bu2⟩
      have HR2 : Hid (Rd B b (q + 1) w2) := hr2
      have hblt := hr2.lt
      have HOW : Hid (w2.ownsRow w.heap.size 9 1 (.slice (some ⟨g, 0, none⟩) k c) k (ss.map Value.string)) := by
        have h5 := (HZ.out.but bu2 hlt).2
        rw [← HK.out] at h5
        exact h5
      have HB2 : Hid (Below b w w2 ∧ But b w w2) := ⟨HB.out.1.trans bl2, HB.out.2.trans bu2⟩
      have hs2 := HB2.out.2.1
      have HS9 : Hid (∀ i, i < (ss ++ [s]).length → isItem ((ss ++ [s]).getD i ByteArray.empty).data.toList = true) := by
        intro i hi
        rcases Nat.lt_or_ge i ss.length with h' | h'
        · have := HS8.out i h'
          rw [List.getD_eq_getElem?_getD, List.getElem?_append_left h', ← List.getD_eq_getElem?_getD]
          exact this
        · have e : i = ss.length := by simp at hi; omega
          subst e
          simp
          exact hs8
      clear hr2 bl2 bu2 hit
      have hx1 : k + 1 ≤ maxLen := by unfold maxLen; omega
      have hx2 : (k + 1) * 16 ≤ 140737488355328 := by omega
      go_wp2_with (at_builtin; refine wp_app1 rfl _ _ 83 rfl w.heap.size 9 i0 (.string ⟨#[]⟩) 16 Tryz.underlying83 hi hz0 hz1 hz2 rfl _ _ _ rfl HOW.out (.string s) rfl rfl hx1 hx2 hs2 ?_; intro g4 c4 w4 hown4 hb4 hkeep4)
      go_roundw
      case rel =>
        refine ⟨ss ++ [s], m - 1, q + 1, k + 1, g4, c4, ?_, rfl, ?_, by omega, ?_, HS9, ?_, HR2.out.keep (hb4.mono (by omega)), HB2.out.1.trans (hb4.mono (by omega)), ?_⟩
        · have := HM.out
          show Value.int .i64 _ = Value.int .i64 _
          congr 1
          omega
        · have := HM.out; omega
        · show _ = _; rw [List.length_append, ← HK.out]; rfl
        · refine SRow.of ?_ (by rw [List.length_append, ← HK.out]; rfl)
          rw [List.map_append]
          exact hown4
        · refine ⟨Nat.le_trans HB2.out.2.1 hb4.size, fun c' hc' hne => ?_⟩
          rw [hb4.block c' hc']
          exact HB2.out.2.2 c' hc' hne
      case measure => have := HM.out; simp [intOf]; omega
    · have hm0' : ¬ (0 : Int) < (m : Int) := by omega
      clear hm0
      go_wp2_with fail
      go_ret
      exact ⟨_, ss, q, rfl, HZ.out, by rw [← HK.out]; omega, HS8.out, by omega, HR.out, HB.out.1, HB.out.2⟩

theorem filterOf_len (k : List UInt8) (ss : List ByteArray) : (filterOf k ss).length ≤ 300200 := by
  cases h1 : isSum k with
  | false => rw [filterOf_no1 h1]; simp
  | true =>
    cases h2 : itemsOkB ss with
    | false => rw [filterOf_no2 h2]; simp
    | true =>
      rw [filterOf_yes h1 h2, filterB, List.length_append]
      have h3 := (varB_length 4 (setL ss).length).2
      have h4 := ricePut_len (gapsL k ss) 5
      have h5 := gaps_ok h1 h2
      rw [ricePut_yes (riceOk_yes h5.1 (by omega) h5.2)] at h4
      have e : (5 : Int).toNat = 5 := rfl
      rw [e] at h4
      omega

end Go.Proofs.YtoojimfimlpplaaGreatDoor

set_option linter.unusedVariables false
namespace Go.Proofs.YtoojimfimlpplaaGreatDoor
open Go.RowKit Go.Deep

/-- Blocks whose heads are ok, few, with few items. -/
structure Good (cs : List BlkV) : Prop where
  ok : ∀ i, i < (cs.map (·.h)).length → headOkB ((cs.map (·.h)).getD i default) = true
  few : cs.length ≤ 20
  items : ∀ c ∈ cs, c.ss.length ≤ 4
theorem Good.nil : Good [] := ⟨fun i hi => by simp at hi, by simp, fun c hc => by cases hc⟩
def steps5 : List Int := [1, 5, 5, 9, 30]
theorem steps5_in : ∀ i : Fin 5, 1 ≤ steps5.getD i.val 0 ∧ steps5.getD i.val 0 ≤ 30 := by decide
theorem BList.only {B b : Nat} {v : Value} {cs : List BlkV} {w w' : World} (h : BList B v cs w) (ho : But b w w') (hb : b < B) : BList B v cs w' := h.keep ho.1 (fun g hg hl => ho.2 g hl (by omega))
/-- One more stays good. -/
theorem Good.more {bs cs : List BlkV} {t : Int} {ss : List ByteArray} {x : HeadV} (h : Good bs) (hm : mineV (bs.map (·.h)) t ss = some x) (h1 : cs.map (·.h) = bs.map (·.h) ++ [x]) (h2 : cs.map (·.ss) = bs.map (·.ss) ++ [ss]) (hs : ss.length ≤ 4) : Good cs := by
  have hcan : canMine (bs.map (·.h)) t ∧ (headMine (newH (bs.map (·.h)) t ss)).2 = true ∧ x = (headMine (newH (bs.map (·.h)) t ss)).1 := by
    unfold mineV at hm
    split at hm
    · rename_i h'
      exact ⟨h'.1, h'.2, (Option.some.inj hm).symm⟩
    · cases hm
  obtain ⟨hc, hk, hx⟩ := hcan
  have hxo : headOkB x = true := by
    rw [hx]
    exact headMine_ok (newH_ok hc.2.1 h.ok) hk
  refine ⟨?_, ?_, ?_⟩
  · rw [h1]
    intro i hi
    rcases Nat.lt_or_ge i (bs.map (·.h)).length with h' | h'
    · rw [List.getD_eq_getElem?_getD, List.getElem?_append_left h', ← List.getD_eq_getElem?_getD]
      exact h.ok i h'
    · have e : i = (bs.map (·.h)).length := by rw [List.length_append] at hi; simp at hi h' ⊢; omega
      rw [e, List.getD_eq_getElem?_getD, List.getElem?_append_right (Nat.le_refl _), Nat.sub_self]
      exact hxo
  · have := congrArg List.length h1
    have h3 := hc.1
    simp at this h3
    omega
  · intro c hc'
    have : c.ss ∈ cs.map (·.ss) := List.mem_map.2 ⟨c, hc', rfl⟩
    rw [h2] at this
    rcases List.mem_append.1 this with h' | h'
    · obtain ⟨d, hd, he⟩ := List.mem_map.1 h'
      rw [← he]
      exact h.items d hd
    · rw [List.mem_singleton.1 h']
      exact hs
theorem item_small {s : ByteArray} (h : isItem s.data.toList = true) : s.size ≤ 1048576 := by
  have := (isItem_size h).2
  omega
/-- What a drawn chain is. -/
def ChainPost (B b p B0 many : Nat) (w : World) (e : Ending) (w' : World) : Prop := ∃ (v : Value) (cs : List BlkV) (q : Nat), e = .returned v ∧ BList B0 v cs w' ∧ Good cs ∧ q ≤ p + 10 * many ∧ Rd B b q w' ∧ Below b w w' ∧ But b w w'

set_option maxHeartbeats 2000000 in
set_option maxRecDepth 100000 in
theorem drawChain (B b p B0 : Nat) (hb : b < B0) (v : Value) (bs : List BlkV) (many : Nat) (w : World) (h : Rd B b p w) (hp : p < 1000000000 - 1000) (hl : BList B0 v bs w) (hB0 : B0 ≤ w.heap.size) (hg : Good bs) (hm : many ≤ 20) :
    Calls Tryz.prog 69 #[.pointer (some ⟨b, 0, none⟩), v, .int .i64 (many : Int)] w fun e w' => ChainPost B b p B0 many w e w' := by
  have hlt := h.lt
  obtain ⟨g0, c0, rfl⟩ := hl.row.1
  have HP : Hid (∀ e w' v cs q, e = .returned v → BList B0 v cs w' → Good cs → q ≤ p + 10 * many → Rd B b q w' → Below b w w' → But b w w' → ChainPost B b p B0 many w e w') := fun e w' v cs q h1 h2 h3 h4 h5 h6 h7 => ⟨v, cs, q, h1, h2, h3, h4, h5, h6, h7⟩
  generalize ChainPost B b p B0 many w = CP at HP ⊢
  have HG0 : Hid (Good bs) := hg
  have HL0 : Hid (BList B0 (.slice (some ⟨g0, 0, none⟩) bs.length c0) bs w) := hl
  have HR0 : Hid (Rd B b p w) := h
  have HB0 : Hid (B0 ≤ w.heap.size) := hB0
  have hfew := hg.few
  clear h hl hg hB0
  have HN0 : Hid (bs.length = bs.length) := rfl
  obtain ⟨n0, hn0⟩ : ∃ n, n = bs.length := ⟨_, rfl⟩
  rw [← hn0] at HL0 hfew ⊢
  have HNN : Hid (n0 = bs.length) := hn0
  have HT0 : Hid (n0 ≠ 0 → ∃ t0 : Int, w.cell? ⟨g0, (n0 - 1) * 6 + 2, none⟩ = some (.int .i64 t0) ∧ 0 ≤ t0 ∧ t0 ≤ 99999) := by
    intro h0
    have hat := (FRow.at enBlk_len HL0.out.row).1
    have hj : n0 - 1 < bs.length := by omega
    have hc := AtBlk.c2 hat (n0 - 1) hj
    have ho := HG0.out.ok (n0 - 1) (by rw [List.length_map]; exact hj)
    rw [getD_map hj] at ho
    exact ⟨_, hc, (headOk_in ho).2.2.1.1, (headOk_in ho).2.2.1.2⟩
  clear hn0 HN0
  have hB0b : B0 ≤ w.heap.size := HB0.out
  have HSTART : Hid (∀ t0 : Int, 0 ≤ t0 → t0 ≤ 99999 → ∃ (cs : List BlkV) (g c k : Nat) (tt : Int) (mm q : Nat), Value.slice (some ⟨g0, 0, none⟩) n0 c0 = .slice (some ⟨g, 0, none⟩) k c ∧ Value.int .i64 t0 = .int .i64 tt ∧ Value.int .i64 (many : Int) = .int .i64 (mm : Int) ∧ 0 ≤ tt ∧ tt ≤ 99999 + 30 * ((many - mm : Nat) : Int) ∧ mm ≤ many ∧ q ≤ p + 10 * (many - mm) ∧ Hid (k = cs.length) ∧ Hid (BList B0 (.slice (some ⟨g, 0, none⟩) k c) cs w) ∧ Hid (Good cs) ∧ Hid (Rd B b q w) ∧ Hid (Below b w w ∧ But b w w)) := fun t0 h1 h2 => ⟨bs, g0, c0, n0, t0, many, p, rfl, rfl, rfl, h1, by omega, Nat.le_refl _, by omega, HNN, HL0, HG0, HR0, ⟨Below.refl _ _, But.refl _ _⟩⟩
  have hwm : (many : Int) ≤ 20 := by omega
  suffices hmain : ∀ t0 : Int, 0 ≤ t0 → t0 ≤ 99999 → (n0 = 0 → t0 = 0) → (n0 ≠ 0 → w.cell? ⟨g0, (n0 - 1) * 6 + 2, none⟩ = some (.int .i64 t0)) → Calls Tryz.prog 69 #[.pointer (some ⟨b, 0, none⟩), .slice (some ⟨g0, 0, none⟩) n0 c0, .int .i64 (many : Int)] w fun e w' => CP e w' by
    by_cases h0 : n0 = 0
    · exact hmain 0 (by omega) (by omega) (fun _ => rfl) (fun h => absurd h0 h)
    · obtain ⟨t0, h1, h2, h3⟩ := HT0.out h0
      exact hmain t0 h2 h3 (fun h => absurd h h0) (fun _ => h1)
  intro t0 ht0 ht1 hz0 hc0
  have HST := HSTART.out t0 ht0 ht1
  have HST' : Hid (∃ (cs : List BlkV) (g c k : Nat) (tt : Int) (mm q : Nat), Value.slice (some ⟨g0, 0, none⟩) n0 c0 = .slice (some ⟨g, 0, none⟩) k c ∧ Value.int .i64 t0 = .int .i64 tt ∧ Value.int .i64 (many : Int) = .int .i64 (mm : Int) ∧ 0 ≤ tt ∧ tt ≤ 99999 + 30 * ((many - mm : Nat) : Int) ∧ mm ≤ many ∧ q ≤ p + 10 * (many - mm) ∧ Hid (k = cs.length) ∧ Hid (BList B0 (.slice (some ⟨g, 0, none⟩) k c) cs w) ∧ Hid (Good cs) ∧ Hid (Rd B b q w) ∧ Hid (Below b w w ∧ But b w w)) := HST
  clear HST HSTART HT0 HL0 HG0 HR0 ht0 ht1
  by_cases h0 : n0 = 0
  · obtain rfl := hz0 h0
    subst h0
    clear hc0 hz0
    go_enter Tryz.func69, Tryz.ntmps69
    go_wp2_with fail
    go_loopw [1, 7, 8] (fun l t m wr => ∃ (cs : List BlkV) (g c k : Nat) (tt : Int) (mm q : Nat), l = .slice (some ⟨g, 0, none⟩) k c ∧ t = .int .i64 tt ∧ m = .int .i64 (mm : Int) ∧ 0 ≤ tt ∧ tt ≤ 99999 + 30 * ((many - mm : Nat) : Int) ∧ mm ≤ many ∧ q ≤ p + 10 * (many - mm) ∧ Hid (k = cs.length) ∧ Hid (BList B0 (.slice (some ⟨g, 0, none⟩) k c) cs wr) ∧ Hid (Good cs) ∧ Hid (Rd B b q wr) ∧ Hid (Below b w wr ∧ But b w wr)) (fun _ _ m _ => (intOf m).toNat)
    case atStart => exact HST'.out
    case round =>
      clear HST'
      obtain ⟨cs, g, c, k, tt, mm, q, rfl, rfl, rfl, ht0, ht1, hmm, hq, HK, HL, HG, HR, HB⟩ := hrel
      by_cases hm0 : 0 < mm
      · have hm0' : (0 : Int) < (mm : Int) := by omega
        have HM : Hid (mm - 1 + 1 = mm) := by show _ = _; omega
        have hszr : w.heap.size ≤ wr.heap.size := HB.out.2.1
        have hltr := HR.out.lt
        have hbk := heap_alloc_new wr (.cells (steps5.map (Value.int .i64)).toArray 3)
        have hone := one_walk B b q wr.heap.size 5 5 steps5 _ (HR.out.keep ((Below.refl _ _).alloc (by omega) (.cells (steps5.map (Value.int .i64)).toArray 3))) (by omega) (by omega) (by omega) (cells_ints hbk rfl 5 (by decide)) (by omega)
        have HL1 : Hid (BList B0 (.slice (some ⟨g, 0, none⟩) k c) cs (wr.alloc (.cells (steps5.map (Value.int .i64)).toArray 3))) := HL.out.below ((Below.refl _ wr).alloc (Nat.le_refl _) _)
        have HB1 : Hid (Below b w (wr.alloc (.cells (steps5.map (Value.int .i64)).toArray 3)) ∧ But b w (wr.alloc (.cells (steps5.map (Value.int .i64)).toArray 3))) := ⟨HB.out.1.alloc (by omega) _, HB.out.2.trans (But.alloc _ _ _)⟩
        clear hbk hm0 HL HB HR
        go_wp2_with fail
        refine hone.mono ?_
        rintro e w2 ⟨x, hx, rfl, hr2, ho2⟩
        have hin := steps5_in ⟨x, hx⟩
        dsimp only at hin
        generalize steps5.getD x 0 = st at hin ⊢
        have HL2 : Hid (BList B0 (.slice (some ⟨g, 0, none⟩) k c) cs w2) := HL1.out.only ho2.but hb
        have HB2 : Hid (Below b w w2 ∧ But b w w2) := ⟨HB1.out.1.trans (ho2.below (Nat.le_refl _)), HB1.out.2.trans ho2.but⟩
        have hit := drawItems B b (q + 1) 4 w2 hr2 (by omega) (by omega)
        have wt : IntKind.i64.wrap (tt + st) = tt + st := by rw [IntKind.wrap_i64]; omega
        clear hone HL1 HB1 ho2 hr2
        go_wp2_with fail
        refine hit.mono ?_
        rintro e w3 ⟨v3, ss, q3, rfl, hz3, hl3, hi3, hq3, hr3, bl3, bu3⟩
        obtain ⟨gi, ci, hv3⟩ := hz3.1
        subst hv3
        have HL3 : Hid (BList B0 (.slice (some ⟨g, 0, none⟩) k c) cs w3) := HL2.out.only bu3 hb
        have HB3 : Hid (Below b w w3 ∧ But b w w3) := ⟨HB2.out.1.trans bl3, HB2.out.2.trans bu3⟩
        have HR3 : Hid (Rd B b q3 w3) := hr3
        have HSS : Hid (ss.length ≤ 4) := hl3
        have hmi := specL4Mine g k c cs (tt + st) gi ss.length ci ss w3 (FRow.at enBlk_len HL3.out.row).1 (fun b' hb' => ⟨(HL3.out.items b' hb').1, by have := HG.out.items b' hb'; omega⟩) HK.out (by have := HG.out.few; have := HK.out; omega) HG.out.ok (SRow.at hz3).1 rfl (by omega) (fun i hi => item_small (hi3 i hi))
        have hltr3 := hr3.lt
        clear hit HL2 HB2 hz3 hi3 bl3 bu3 hr3 hl3
        obtain ⟨sl, hsl⟩ : ∃ n, n = ss.length := ⟨_, rfl⟩
        rw [← hsl] at hmi ⊢
        clear hsl
        go_wp2_with fail
        refine hmi.mono ?_
        rintro e w4 ⟨b4, ⟨hnone, rfl⟩ | ⟨y, v4, ds, hsome, rfl, l4, h41, h42⟩⟩
        · have HL4 : Hid (BList B0 (.slice (some ⟨g, 0, none⟩) k c) cs w4) := HL3.out.below b4
          have HB4 : Hid (Below b w w4 ∧ But b w w4) := ⟨HB3.out.1.trans (b4.mono (by omega)), HB3.out.2.trans (Below.but b4)⟩
          have HR4 : Hid (Rd B b q3 w4) := HR3.out.keep (b4.mono (by omega))
          clear b4 hnone hmi
          go_wp2_with fail
          go_roundw
          case rel => exact ⟨cs, g, c, k, tt + st, mm - 1, q3, rfl, rfl, by have := HM.out; show Value.int .i64 _ = Value.int .i64 _; congr 1; omega, by omega, by have := HM.out; omega, by have := HM.out; omega, by have := HM.out; omega, HK, HL4, HG, HR4, HB4⟩
          case measure => have := HM.out; simp [intOf]; omega
        · obtain ⟨g4, c4, hv4⟩ := l4.row.1
          subst hv4
          have hsz3 : w.heap.size ≤ w3.heap.size := HB3.out.2.1
          have HL4 : Hid (BList B0 (.slice (some ⟨g4, 0, none⟩) ds.length c4) ds w4) := l4.mono (by omega)
          have HG4 : Hid (Good ds) := HG.out.more hsome h41 h42 HSS.out
          have HB4 : Hid (Below b w w4 ∧ But b w w4) := ⟨HB3.out.1.trans (b4.mono (by omega)), HB3.out.2.trans (Below.but b4)⟩
          have HR4 : Hid (Rd B b q3 w4) := HR3.out.keep (b4.mono (by omega))
          clear b4 hsome hmi l4 h41 h42
          obtain ⟨dl, hdl⟩ : ∃ n, n = ds.length := ⟨_, rfl⟩
          have HDL : Hid (dl = ds.length) := hdl
          rw [← hdl] at HL4 ⊢
          clear hdl
          go_wp2_with fail
          go_roundw
          case rel => exact ⟨ds, g4, c4, dl, tt + st, mm - 1, q3, rfl, rfl, by have := HM.out; show Value.int .i64 _ = Value.int .i64 _; congr 1; omega, by omega, by have := HM.out; omega, by have := HM.out; omega, by have := HM.out; omega, HDL, HL4, HG4, HR4, HB4⟩
          case measure => have := HM.out; simp [intOf]; omega
      · have hm0' : ¬ (0 : Int) < (mm : Int) := by omega
        go_wp2_with fail
        exact HP.out _ _ _ cs q rfl HL.out HG.out (by omega) HR.out HB.out.1 HB.out.2
  · have c2 := hc0 h0
    obtain ⟨j, hj⟩ : ∃ j, j = n0 - 1 := ⟨_, rfl⟩
    rw [← hj] at c2
    have hw01 : IntKind.i64.wrap ((n0 : Int) - 1) = (j : Int) := by rw [IntKind.wrap_i64]; omega
    have lj : (j : Int) < (n0 : Int) := by omega
    have lj0 : (0 : Int) ≤ (j : Int) := by omega
    have hn0' : (0 : Int) < (n0 : Int) := by omega
    have hnn0 : 0 < n0 := by omega
    have hnd0 : decide (0 < n0) = true := decide_eq_true hnn0
    clear hc0 hz0 h0 hj
    go_enter Tryz.func69, Tryz.ntmps69
    go_wp2_with fail
    clear c2
    go_loopw [1, 7, 8] (fun l t m wr => ∃ (cs : List BlkV) (g c k : Nat) (tt : Int) (mm q : Nat), l = .slice (some ⟨g, 0, none⟩) k c ∧ t = .int .i64 tt ∧ m = .int .i64 (mm : Int) ∧ 0 ≤ tt ∧ tt ≤ 99999 + 30 * ((many - mm : Nat) : Int) ∧ mm ≤ many ∧ q ≤ p + 10 * (many - mm) ∧ Hid (k = cs.length) ∧ Hid (BList B0 (.slice (some ⟨g, 0, none⟩) k c) cs wr) ∧ Hid (Good cs) ∧ Hid (Rd B b q wr) ∧ Hid (Below b w wr ∧ But b w wr)) (fun _ _ m _ => (intOf m).toNat)
    case atStart => exact HST'.out
    case round =>
      clear HST'
      obtain ⟨cs, g, c, k, tt, mm, q, rfl, rfl, rfl, ht0, ht1, hmm, hq, HK, HL, HG, HR, HB⟩ := hrel
      by_cases hm0 : 0 < mm
      · have hm0' : (0 : Int) < (mm : Int) := by omega
        have HM : Hid (mm - 1 + 1 = mm) := by show _ = _; omega
        have hszr : w.heap.size ≤ wr.heap.size := HB.out.2.1
        have hltr := HR.out.lt
        have hbk := heap_alloc_new wr (.cells (steps5.map (Value.int .i64)).toArray 3)
        have hone := one_walk B b q wr.heap.size 5 5 steps5 _ (HR.out.keep ((Below.refl _ _).alloc (by omega) (.cells (steps5.map (Value.int .i64)).toArray 3))) (by omega) (by omega) (by omega) (cells_ints hbk rfl 5 (by decide)) (by omega)
        have HL1 : Hid (BList B0 (.slice (some ⟨g, 0, none⟩) k c) cs (wr.alloc (.cells (steps5.map (Value.int .i64)).toArray 3))) := HL.out.below ((Below.refl _ wr).alloc (Nat.le_refl _) _)
        have HB1 : Hid (Below b w (wr.alloc (.cells (steps5.map (Value.int .i64)).toArray 3)) ∧ But b w (wr.alloc (.cells (steps5.map (Value.int .i64)).toArray 3))) := ⟨HB.out.1.alloc (by omega) _, HB.out.2.trans (But.alloc _ _ _)⟩
        clear hbk hm0 HL HB HR
        go_wp2_with fail
        refine hone.mono ?_
        rintro e w2 ⟨x, hx, rfl, hr2, ho2⟩
        have hin := steps5_in ⟨x, hx⟩
        dsimp only at hin
        generalize steps5.getD x 0 = st at hin ⊢
        have HL2 : Hid (BList B0 (.slice (some ⟨g, 0, none⟩) k c) cs w2) := HL1.out.only ho2.but hb
        have HB2 : Hid (Below b w w2 ∧ But b w w2) := ⟨HB1.out.1.trans (ho2.below (Nat.le_refl _)), HB1.out.2.trans ho2.but⟩
        have hit := drawItems B b (q + 1) 4 w2 hr2 (by omega) (by omega)
        have wt : IntKind.i64.wrap (tt + st) = tt + st := by rw [IntKind.wrap_i64]; omega
        clear hone HL1 HB1 ho2 hr2
        go_wp2_with fail
        refine hit.mono ?_
        rintro e w3 ⟨v3, ss, q3, rfl, hz3, hl3, hi3, hq3, hr3, bl3, bu3⟩
        obtain ⟨gi, ci, hv3⟩ := hz3.1
        subst hv3
        have HL3 : Hid (BList B0 (.slice (some ⟨g, 0, none⟩) k c) cs w3) := HL2.out.only bu3 hb
        have HB3 : Hid (Below b w w3 ∧ But b w w3) := ⟨HB2.out.1.trans bl3, HB2.out.2.trans bu3⟩
        have HR3 : Hid (Rd B b q3 w3) := hr3
        have HSS : Hid (ss.length ≤ 4) := hl3
        have hmi := specL4Mine g k c cs (tt + st) gi ss.length ci ss w3 (FRow.at enBlk_len HL3.out.row).1 (fun b' hb' => ⟨(HL3.out.items b' hb').1, by have := HG.out.items b' hb'; omega⟩) HK.out (by have := HG.out.few; have := HK.out; omega) HG.out.ok (SRow.at hz3).1 rfl (by omega) (fun i hi => item_small (hi3 i hi))
        have hltr3 := hr3.lt
        clear hit HL2 HB2 hz3 hi3 bl3 bu3 hr3 hl3
        obtain ⟨sl, hsl⟩ : ∃ n, n = ss.length := ⟨_, rfl⟩
        rw [← hsl] at hmi ⊢
        clear hsl
        go_wp2_with fail
        refine hmi.mono ?_
        rintro e w4 ⟨b4, ⟨hnone, rfl⟩ | ⟨y, v4, ds, hsome, rfl, l4, h41, h42⟩⟩
        · have HL4 : Hid (BList B0 (.slice (some ⟨g, 0, none⟩) k c) cs w4) := HL3.out.below b4
          have HB4 : Hid (Below b w w4 ∧ But b w w4) := ⟨HB3.out.1.trans (b4.mono (by omega)), HB3.out.2.trans (Below.but b4)⟩
          have HR4 : Hid (Rd B b q3 w4) := HR3.out.keep (b4.mono (by omega))
          clear b4 hnone hmi
          go_wp2_with fail
          go_roundw
          case rel => exact ⟨cs, g, c, k, tt + st, mm - 1, q3, rfl, rfl, by have := HM.out; show Value.int .i64 _ = Value.int .i64 _; congr 1; omega, by omega, by have := HM.out; omega, by have := HM.out; omega, by have := HM.out; omega, HK, HL4, HG, HR4, HB4⟩
          case measure => have := HM.out; simp [intOf]; omega
        · obtain ⟨g4, c4, hv4⟩ := l4.row.1
          subst hv4
          have hsz3 : w.heap.size ≤ w3.heap.size := HB3.out.2.1
          have HL4 : Hid (BList B0 (.slice (some ⟨g4, 0, none⟩) ds.length c4) ds w4) := l4.mono (by omega)
          have HG4 : Hid (Good ds) := HG.out.more hsome h41 h42 HSS.out
          have HB4 : Hid (Below b w w4 ∧ But b w w4) := ⟨HB3.out.1.trans (b4.mono (by omega)), HB3.out.2.trans (Below.but b4)⟩
          have HR4 : Hid (Rd B b q3 w4) := HR3.out.keep (b4.mono (by omega))
          clear b4 hsome hmi l4 h41 h42
          obtain ⟨dl, hdl⟩ : ∃ n, n = ds.length := ⟨_, rfl⟩
          have HDL : Hid (dl = ds.length) := hdl
          rw [← hdl] at HL4 ⊢
          clear hdl
          go_wp2_with fail
          go_roundw
          case rel => exact ⟨ds, g4, c4, dl, tt + st, mm - 1, q3, rfl, rfl, by have := HM.out; show Value.int .i64 _ = Value.int .i64 _; congr 1; omega, by omega, by have := HM.out; omega, by have := HM.out; omega, by have := HM.out; omega, HDL, HL4, HG4, HR4, HB4⟩
          case measure => have := HM.out; simp [intOf]; omega
      · have hm0' : ¬ (0 : Int) < (mm : Int) := by omega
        go_wp2_with fail
        exact HP.out _ _ _ cs q rfl HL.out HG.out (by omega) HR.out HB.out.1 HB.out.2

end Go.Proofs.YtoojimfimlpplaaGreatDoor

set_option linter.unusedVariables false
namespace Go.Proofs.YtoojimfimlpplaaGreatDoor
open Go.RowKit Go.Deep

def many7 : List Int := [0, 1, 3, 5, 8, 8, 13]
theorem many7_in : ∀ i : Fin 7, 0 ≤ many7.getD i.val 0 ∧ many7.getD i.val 0 ≤ 13 := by decide
def BlocksPost (B b p : Nat) (w : World) (e : Ending) (w' : World) : Prop := ∃ (v : Value) (cs : List BlkV) (q : Nat), e = .returned v ∧ BList w.heap.size v cs w' ∧ Good cs ∧ q ≤ p + 200 ∧ Rd B b q w' ∧ Below b w w' ∧ But b w w'

set_option maxHeartbeats 2000000 in
set_option maxRecDepth 100000 in
theorem drawBlocks (B b p : Nat) (w : World) (h : Rd B b p w) (hp : p < 1000000000 - 2000) :
    Calls Tryz.prog 48 #[.pointer (some ⟨b, 0, none⟩)] w fun e w' => BlocksPost B b p w e w' := by
  have hlt := h.lt
  have HP : Hid (∀ e w' v cs q, e = .returned v → BList w.heap.size v cs w' → Good cs → q ≤ p + 200 → Rd B b q w' → Below b w w' → But b w w' → BlocksPost B b p w e w') := fun e w' v cs q h1 h2 h3 h4 h5 h6 h7 => ⟨v, cs, q, h1, h2, h3, h4, h5, h6, h7⟩
  generalize BlocksPost B b p w = CP at HP ⊢
  have HL0 : Hid (BList w.heap.size (.slice (some ⟨w.heap.size, 0, none⟩) 0 0) [] (w.alloc (.cells #[] 85))) := ⟨frow_new _ _ _ w, (fun c hc => by cases hc), (fun c hc => by cases hc), (fun c hc => by cases hc)⟩
  have hr0 : Rd B b p (w.alloc (.cells #[] 85)) := h.keep ((Below.refl _ w).alloc (by omega) _)
  have hs0 : (w.alloc (.cells #[] 85)).heap.size = w.heap.size + 1 := by simp
  have hbk := heap_alloc_new (w.alloc (.cells #[] 85)) (.cells (many7.map (Value.int .i64)).toArray 3)
  have hone := one_walk B b p _ 7 7 many7 _ (hr0.keep ((Below.refl _ _).alloc (by omega) (.cells (many7.map (Value.int .i64)).toArray 3))) (by omega) (by omega) (by omega) (cells_ints hbk rfl 7 (by decide)) (by omega)
  rw [hs0] at hone
  have HL1 : Hid (BList w.heap.size (.slice (some ⟨w.heap.size, 0, none⟩) 0 0) [] ((w.alloc (.cells #[] 85)).alloc (.cells (many7.map (Value.int .i64)).toArray 3))) := HL0.out.below ((Below.refl _ _).alloc (Nat.le_refl _) _)
  have HB1 : Hid (Below b w ((w.alloc (.cells #[] 85)).alloc (.cells (many7.map (Value.int .i64)).toArray 3)) ∧ But b w ((w.alloc (.cells #[] 85)).alloc (.cells (many7.map (Value.int .i64)).toArray 3))) := ⟨((Below.refl _ w).alloc (by omega) _).alloc (by simp; omega) _, (But.alloc _ _ _).trans (But.alloc _ _ _)⟩
  clear h hr0 hbk HL0
  go_enter Tryz.func48, Tryz.ntmps48
  go_wp2_with fail
  refine hone.mono ?_
  rintro e w1 ⟨x, hx, rfl, hr1, ho1⟩
  have hin := many7_in ⟨x, hx⟩
  dsimp only at hin
  obtain ⟨n0, hn0⟩ := Int.eq_ofNat_of_zero_le hin.1
  rw [hn0] at hin ⊢
  have HL2 : Hid (BList w.heap.size (.slice (some ⟨w.heap.size, 0, none⟩) 0 0) [] w1) := HL1.out.only ho1.but hlt
  have HB2 : Hid (Below b w w1 ∧ But b w w1) := ⟨HB1.out.1.trans (ho1.below (Nat.le_refl _)), HB1.out.2.trans ho1.but⟩
  have hch := drawChain B b (p + 1) w.heap.size hlt (.slice (some ⟨w.heap.size, 0, none⟩) 0 0) [] n0 w1 hr1 (by omega) HL2.out HB2.out.2.1 Good.nil (by omega)
  have hn13 : n0 ≤ 13 := by omega
  clear hone hs0 HL1 HB1 ho1 hr1 hin hn0
  go_wp2_with fail
  refine hch.mono ?_
  rintro e w2 ⟨v, cs, q, rfl, l2, g2, hq, hr2, bl2, bu2⟩
  go_wp2_with fail
  exact HP.out _ _ v cs q rfl l2 g2 (by omega) hr2 (HB2.out.1.trans bl2) (HB2.out.2.trans bu2)

end Go.Proofs.YtoojimfimlpplaaGreatDoor

set_option linter.unusedVariables false
namespace Go.Proofs.YtoojimfimlpplaaGreatDoor
open Go.RowKit Go.Deep

theorem flat_set {α : Type} [Inhabited α] (k : Nat) (enc : α → List Value) (hk : ∀ a, (enc a).length = k) : ∀ (l : List α) (i j : Nat) (v : Value) (a : α), i < l.length → j < k → enc a = (enc (l.getD i default)).set j v → (l.flatMap enc).set (i * k + j) v = (l.set i a).flatMap enc
  | [], i, j, v, a, hi, _, _ => by cases hi
  | x :: r, 0, j, v, a, _, hj, he => by
    have he' : enc a = (enc x).set j v := he
    rw [List.flatMap_cons, Nat.zero_mul, Nat.zero_add, List.set_append_left _ _ (by rw [hk]; exact hj), List.set_cons_zero, List.flatMap_cons, he']
  | x :: r, i + 1, j, v, a, hi, hj, he => by
    have e : (i + 1) * k + j = k + (i * k + j) := by rw [Nat.add_mul]; omega
    rw [List.flatMap_cons, List.set_append_right _ _ (by rw [hk, e]; omega), hk, e, Nat.add_sub_cancel_left, flat_set k enc hk r i j v a (by simpa using hi) hj (by simpa using he), List.set_cons_succ, List.flatMap_cons]
/-- A field of one block written. -/
theorem BRow.set {B g n c : Nat} {cs : List BlkV} {w : World} (h : BRow B (.slice (some ⟨g, 0, none⟩) n c) cs w) (i j : Nat) (v : Value) (b : BlkV) (hi : i < cs.length) (hj : j < 6) (he : enBlk b = (enBlk (cs.getD i default)).set j v) :
    BRow B (.slice (some ⟨g, 0, none⟩) n c) (cs.set i b) (w.setCell ⟨g, i * 6 + j, none⟩ v) := by
  obtain ⟨⟨g', c', hv⟩, h1, h2⟩ := h
  refine ⟨⟨g', c', by rw [List.length_set]; exact hv⟩, ?_⟩
  rw [List.length_set]
  refine ⟨by rw [← flat_set 6 enBlk enBlk_len cs i j v b hi hj he, List.length_set]; exact h1, ?_⟩
  rcases h2 with ⟨h3, _⟩ | ⟨g2, c2, cur, hv2, hB, hg, hc, hm, hs, ht⟩
  · cases h3
  · have eg : g = g2 := by simp only [Value.slice.injEq, Option.some.injEq, Addr.mk.injEq, and_true] at hv2; exact hv2.1
    subst eg
    refine .inr ⟨g, c2, cur.setIfInBounds (i * 6 + j) v, hv2, hB, ?_, hc, hm, by rw [Array.size_setIfInBounds]; exact hs, ?_⟩
    · simp [World.setCell, Array.getElem?_modify, hg]
    · rw [← flat_set 6 enBlk enBlk_len cs i j v b hi hj he, ← ht, Array.toList_setIfInBounds, List.take_set]
theorem BRow.frozen {B g n c : Nat} {cs : List BlkV} {w : World} (h : BRow B (.slice (some ⟨g, 0, none⟩) n c) cs w) (j : Nat) : w.frozen? ⟨g, j, none⟩ = false := by
  obtain ⟨g', c', cur, hv, _, _, hg, _⟩ := h.block
  have e : g = g' := by simp only [Value.slice.injEq, Option.some.injEq, Addr.mk.injEq, and_true] at hv; exact hv.1
  subst e
  exact Lib.frozen_of_heap hg j
/-- The first of a list, as a row of its own that has room. -/
theorem BRow.first {B g n c : Nat} {cs : List BlkV} {w : World} (h : BRow B (.slice (some ⟨g, 0, none⟩) n c) cs w) (k : Nat) (hk : k ≤ cs.length) : w.ownsRow B 85 6 (.slice (some ⟨g, 0, none⟩) k c) k ((cs.take k).flatMap enBlk) := by
  have hlk : (cs.take k).length = k := by rw [List.length_take]; omega
  obtain ⟨⟨g', c', hv⟩, h1, h2⟩ := h
  refine ⟨by rw [flat_length 6 enBlk enBlk_len, hlk], ?_⟩
  rcases h2 with ⟨h3, _⟩ | ⟨g2, c2, cur, hv2, hB, hg, hc, hm, hs, ht⟩
  · cases h3
  · simp only [Value.slice.injEq, Option.some.injEq, Addr.mk.injEq, and_true] at hv2
    obtain ⟨rfl, rfl, rfl⟩ := hv2
    refine .inr ⟨g, c, cur, rfl, hB, hg, by omega, hm, hs, ?_⟩
    have e : cs.flatMap enBlk = (cs.take k).flatMap enBlk ++ (cs.drop k).flatMap enBlk := by rw [← List.flatMap_append, List.take_append_drop]
    have hmul : k * 6 ≤ cs.length * 6 := Nat.mul_le_mul_right 6 hk
    have e2 : cur.toList.take (k * 6) = (cur.toList.take (cs.length * 6)).take (k * 6) := by rw [List.take_take, Nat.min_eq_left hmul]
    rw [e2, ht, e, List.take_append_of_le_length (by rw [flat_length 6 enBlk enBlk_len, hlk]; exact Nat.le_refl _), List.take_of_length_le (by rw [flat_length 6 enBlk enBlk_len, hlk]; exact Nat.le_refl _)]

end Go.Proofs.YtoojimfimlpplaaGreatDoor

set_option linter.unusedVariables false
namespace Go.Proofs.YtoojimfimlpplaaGreatDoor
open Go.RowKit

def items4 : List ByteArray := [⟨#[]⟩, ⟨#[65]⟩, ⟨#[116, 111, 111, 108, 111, 110, 103, 101, 114]⟩, ⟨#[97, 32, 98]⟩]
theorem items4_size : ∀ i : Fin 4, (items4.getD i.val ByteArray.empty).size ≤ 16 := by decide

set_option maxHeartbeats 1000000 in
set_option maxRecDepth 100000 in
theorem drawAnyItem (B b p : Nat) (w : World) (h : Rd B b p w) (hp : p < 1000000000 - 5) :
    Calls Tryz.prog 50 #[.pointer (some ⟨b, 0, none⟩)] w fun e w' => ∃ (s : ByteArray) (q : Nat), e = .returned (.string s) ∧ s.size ≤ 16 ∧ q ≤ p + 2 ∧ Rd B b q w' ∧ Below b w w' := by
  have hlt := h.lt
  go_enter Tryz.func50, Tryz.ntmps50
  go_wp2_with fail
  refine (pick_walk B b p 10 _ h (by omega) (by omega)).mono ?_
  rintro e w1 ⟨x, rfl, _, _, hr1, ho1⟩
  have b1 := ho1.below (Nat.le_refl b)
  have hlt1 := hr1.lt
  by_cases hx : ((x : Int) == 0) = true
  · go_wp2_with fail
    have hbk := heap_alloc_new w1 (.cells (items4.map Value.string).toArray 9)
    refine (of_walk B b (p + 1) w1.heap.size 4 4 items4 _ (hr1.keep ((Below.refl _ w1).alloc (by omega) _)) (by omega) (by omega) (by omega) (cells_texts hbk rfl 4 (by decide)) (by omega)).mono ?_
    rintro e w2 ⟨y, hy, rfl, hr2, ho2⟩
    have hsz := items4_size ⟨y, hy⟩
    have b2 : Below b w w2 := (b1.alloc (by omega) (.cells (items4.map Value.string).toArray 9)).trans (ho2.below (Nat.le_refl _))
    dsimp only at hsz
    generalize items4.getD y ByteArray.empty = s at hsz ⊢
    clear ho2 hbk
    go_wp2
    go_ret
    exact ⟨s, p + 1 + 1, rfl, hsz, by omega, hr2, b2⟩
  · have hx' : ((x : Int) == 0) = false := by simpa using hx
    clear hx
    go_wp2_with fail
    refine (drawItem B b (p + 1) _ hr1 (by omega)).mono ?_
    rintro e w2 ⟨s, rfl, _, hs1, hs8, hr2, b2⟩
    have b12 := b1.trans b2
    go_wp2
    go_ret
    exact ⟨s, p + 1 + 1, rfl, by omega, by omega, hr2, b12⟩

def belows : List Int := [1, 2, 37, 1000, 60000, 0, 60001]
theorem belows_in : ∀ i : Fin 7, 0 ≤ belows.getD i.val 0 ∧ belows.getD i.val 0 ≤ 60001 := by decide

end Go.Proofs.YtoojimfimlpplaaGreatDoor

set_option linter.unusedVariables false
namespace Go.Proofs.YtoojimfimlpplaaGreatDoor
open Go.RowKit

end Go.Proofs.YtoojimfimlpplaaGreatDoor

set_option linter.unusedVariables false
namespace Go.Proofs.YtoojimfimlpplaaGreatDoor
open Go.RowKit

set_option maxHeartbeats 1000000 in
set_option maxRecDepth 100000 in
theorem drawAnyItemK (B b p : Nat) (w : World) (h : Rd B b p w) (hp : p < 1000000000 - 5) :
    Calls Tryz.prog 50 #[.pointer (some ⟨b, 0, none⟩)] w fun e w' => ∃ (s : ByteArray) (q : Nat), e = .returned (.string s) ∧ s.size ≤ 16 ∧ q ≤ p + 2 ∧ Rd B b q w' ∧ Below b w w' ∧ But b w w' := by
  have hlt := h.lt
  go_enter Tryz.func50, Tryz.ntmps50
  go_wp2_with fail
  refine (pick_walk B b p 10 _ h (by omega) (by omega)).mono ?_
  rintro e w1 ⟨x, rfl, _, _, hr1, ho1⟩
  have b1 := ho1.below (Nat.le_refl b)
  have HU1 : Hid (But b w w1) := ho1.but
  have hlt1 := hr1.lt
  by_cases hx : ((x : Int) == 0) = true
  · go_wp2_with fail
    have hbk := heap_alloc_new w1 (.cells (items4.map Value.string).toArray 9)
    refine (of_walk B b (p + 1) w1.heap.size 4 4 items4 _ (hr1.keep ((Below.refl _ w1).alloc (by omega) _)) (by omega) (by omega) (by omega) (cells_texts hbk rfl 4 (by decide)) (by omega)).mono ?_
    rintro e w2 ⟨y, hy, rfl, hr2, ho2⟩
    have hsz := items4_size ⟨y, hy⟩
    have b2 : Below b w w2 := (b1.alloc (by omega) (.cells (items4.map Value.string).toArray 9)).trans (ho2.below (Nat.le_refl _))
    have HU2 : Hid (But b w w2) := (HU1.out.trans (But.alloc b w1 _)).trans ho2.but
    dsimp only at hsz
    generalize items4.getD y ByteArray.empty = s at hsz ⊢
    clear ho2 hbk
    go_wp2
    go_ret
    exact ⟨s, p + 1 + 1, rfl, hsz, by omega, hr2, b2, HU2.out⟩
  · have hx' : ((x : Int) == 0) = false := by simpa using hx
    clear hx
    go_wp2_with fail
    refine (drawItemK B b (p + 1) _ hr1 (by omega)).mono ?_
    rintro e w2 ⟨s, rfl, hs8, hr2, b2, u2⟩
    have b12 := b1.trans b2
    have HU2 : Hid (But b w w2) := HU1.out.trans u2
    have hs16 := isItem_size hs8
    go_wp2
    go_ret
    exact ⟨s, p + 1 + 1, rfl, by omega, by omega, hr2, b12, HU2.out⟩

def OfPost (w : World) (e : Ending) (w' : World) : Prop := ∃ (key : ByteArray) (g n c : Nat) (ss : List ByteArray), e = .returned (.tuple #[.string key, .slice (some ⟨g, 0, none⟩) n c]) ∧ key.size ≤ 16 ∧ AtS w' g ss ∧ n = ss.length ∧ n ≤ 21 ∧ (∀ i, i < ss.length → (ss.getD i ByteArray.empty).size ≤ 16) ∧ Below w.heap.size w w'
def most4 : List Int := [0, 3, 8, 20]
theorem most4_in : ∀ i : Fin 4, ∃ m : Nat, most4.getD i.val 0 = (m : Int) ∧ m ≤ 20 := fun i => ⟨(most4.getD i.val 0).toNat, by revert i; decide, by revert i; decide⟩

end Go.Proofs.YtoojimfimlpplaaGreatDoor

set_option linter.unusedVariables false
namespace Go.Proofs.YtoojimfimlpplaaGreatDoor
open Go.RowKit Go.Deep

/-- A list of blocks of whose heads the texts are short. -/
structure Loose (B : Nat) (v : Value) (cs : List BlkV) (w : World) : Prop where
  row : BRow B v cs w
  few : cs.length ≤ 20
  wf : ∀ c ∈ cs, c.h.prev.size ≤ 16 ∧ c.h.root.size ≤ 16
def AnyPost (B b p : Nat) (w : World) (e : Ending) (w' : World) : Prop := ∃ (v : Value) (cs : List BlkV) (q : Nat), e = .returned v ∧ Loose w.heap.size v cs w' ∧ q ≤ p + 300 ∧ Rd B b q w' ∧ Below b w w'
theorem Good.wf {cs : List BlkV} (h : Good cs) : ∀ c ∈ cs, c.h.prev.size ≤ 16 ∧ c.h.root.size ≤ 16 := by
  intro c hc
  obtain ⟨i, hi, he⟩ := List.mem_iff_getElem.1 hc
  have ho := h.ok i (by rw [List.length_map]; exact hi)
  rw [getD_map hi] at ho
  have e : cs.getD i default = c := by rw [List.getD_eq_getElem?_getD, List.getElem?_eq_getElem hi]; exact he
  rw [e] at ho
  have h1 := headOk_in ho
  exact ⟨Nat.le_of_eq (sum_size h1.1), Nat.le_of_eq (sum_size h1.2.1)⟩
theorem mem_set {cs : List BlkV} {k : Nat} {b c : BlkV} (h : c ∈ cs.set k b) : c = b ∨ c ∈ cs := by
  rcases List.mem_or_eq_of_mem_set h with h' | h'
  · exact .inr h'
  · exact .inl h'
theorem getD_mem {cs : List BlkV} {k : Nat} (h : k < cs.length) : cs.getD k default ∈ cs := by rw [List.getD_eq_getElem?_getD, List.getElem?_eq_getElem h]; exact List.getElem_mem h
/-- One field written that is no text. -/
theorem Loose.set {B g n c : Nat} {cs : List BlkV} {w : World} (h : BRow B (.slice (some ⟨g, 0, none⟩) n c) cs w) (hg : Good cs) (k j : Nat) (v : Value) (b : BlkV) (hk : k < cs.length) (hj : j < 6) (he : enBlk b = (enBlk (cs.getD k default)).set j v) (h1 : b.h.prev = (cs.getD k default).h.prev) (h2 : b.h.root = (cs.getD k default).h.root) :
    Loose B (.slice (some ⟨g, 0, none⟩) n c) (cs.set k b) (w.setCell ⟨g, k * 6 + j, none⟩ v) := by
  refine ⟨h.set k j v b hk hj he, by rw [List.length_set]; exact hg.few, fun x hx => ?_⟩
  rcases mem_set hx with rfl | h'
  · rw [h1, h2]
    exact hg.wf _ (getD_mem hk)
  · exact hg.wf x h'
theorem BRow.same {B g n c : Nat} {cs : List BlkV} {w w' : World} (h : BRow B (.slice (some ⟨g, 0, none⟩) n c) cs w) (hk : w'.heap[g]? = w.heap[g]?) : BRow B (.slice (some ⟨g, 0, none⟩) n c) cs w' := by
  obtain ⟨h0, h1, h2⟩ := h
  refine ⟨h0, h1, ?_⟩
  rcases h2 with ⟨h3, _⟩ | ⟨g', cap', cur, hv, hB, hg, h4⟩
  · cases h3
  · have e : g = g' := by simp only [Value.slice.injEq, Option.some.injEq, Addr.mk.injEq, and_true] at hv; exact hv.1
    exact .inr ⟨g', cap', cur, hv, hB, by rw [← e, hk, e]; exact hg, h4⟩
def non3 : List Int := [0, 401, 7]
def dif4 : List Int := [0, 1, 2, 9]
def tim3 : List Int := [0, 99999, 100000]

set_option maxHeartbeats 4000000 in
set_option maxRecDepth 100000 in
theorem drawAnyBlocks (B b p : Nat) (w : World) (h : Rd B b p w) (hp : p < 1000000000 - 3000) :
    Calls Tryz.prog 30 #[.pointer (some ⟨b, 0, none⟩)] w fun e w' => AnyPost B b p w e w' := by
  have hlt := h.lt
  have HP : Hid (∀ e w' v cs q, e = .returned v → Loose w.heap.size v cs w' → q ≤ p + 300 → Rd B b q w' → Below b w w' → AnyPost B b p w e w') := fun e w' v cs q h1 h2 h4 h5 h6 => ⟨v, cs, q, h1, h2, h4, h5, h6⟩
  generalize AnyPost B b p w = CP at HP ⊢
  have hbl := drawBlocks B b p w h (by omega)
  clear h
  go_enter Tryz.func30, Tryz.ntmps30
  go_wp2_with fail
  refine hbl.mono ?_
  rintro e w1 ⟨v, cs, q, rfl, l1, g1, hq, hr1, bl1, bu1⟩
  obtain ⟨g, c, hv⟩ := l1.row.1
  subst hv
  obtain ⟨n, hn⟩ : ∃ n, n = cs.length := ⟨_, rfl⟩
  rw [← hn] at l1 ⊢
  have HN : Hid (n = cs.length) := hn
  have HL : Hid (BList w.heap.size (.slice (some ⟨g, 0, none⟩) n c) cs w1) := l1
  have HG : Hid (Good cs) := g1
  have HB : Hid (Below b w w1) := bl1
  have HR : Hid (Rd B b q w1) := hr1
  have hn20 : n ≤ 20 := by rw [hn]; exact g1.few
  have hsz1 : w.heap.size ≤ w1.heap.size := bu1.1
  clear hbl l1 g1 bl1 bu1 hr1 hn
  by_cases h0 : n = 0
  · subst h0
    go_wp2_with fail
    exact HP.out _ _ _ cs q rfl ⟨HL.out.row, HG.out.few, HG.out.wf⟩ (by omega) HR.out HB.out
  · have hn0 : (0 : Int) < (n : Int) := by omega
    have hnn : 0 < n := by omega
    have hnd : decide (0 < n) = true := decide_eq_true hnn
    have hpk := pick_walk B b q 5 w1 HR.out (by omega) (by omega)
    go_wp2_with fail
    refine hpk.mono ?_
    rintro e w2 ⟨x2, rfl, hx2, _, hr2, ho2⟩
    have HL2 : Hid (BList w.heap.size (.slice (some ⟨g, 0, none⟩) n c) cs w2) := HL.out.only ho2.but hlt
    have HB2 : Hid (Below b w w2) := HB.out.trans (ho2.below (Nat.le_refl _))
    have HR2 : Hid (Rd B b (q + 1) w2) := hr2
    have hsz2 : w.heap.size ≤ w2.heap.size := by rw [ho2.size]; exact hsz1
    clear hpk HL HB HR hr2 ho2 h0 hsz1
    by_cases hx0 : x2 = 0
    · subst hx0
      have hpk := pick_walk B b (q + 1) (n : Int) w2 HR2.out (by omega) (by omega)
      go_wp2_with fail
      refine hpk.mono ?_
      rintro e w3 ⟨k, rfl, hk, _, hr3, ho3⟩
      have hkn : k < n := by have := hk (by omega); omega
      have HL3 : Hid (BList w.heap.size (.slice (some ⟨g, 0, none⟩) n c) cs w3) := HL2.out.only ho3.but hlt
      have HB3 : Hid (Below b w w3) := HB2.out.trans (ho3.below (Nat.le_refl _))
      have hsz3 : w.heap.size ≤ w3.heap.size := by rw [ho3.size]; exact hsz2
      have hpk4 := pick_walk B b (q + 1 + 1) 5 w3 hr3 (by omega) (by omega)
      clear hpk HL2 HB2 HR2 hr3 ho3 hsz2 hk
      go_wp2_with fail
      refine hpk4.mono ?_
      rintro e w4 ⟨s, rfl, hs, _, hr4, ho4⟩
      have hs5 : s < 5 := by have := hs (by omega); omega
      have HL4 : Hid (BList w.heap.size (.slice (some ⟨g, 0, none⟩) n c) cs w4) := HL3.out.only ho4.but hlt
      have HB4 : Hid (Below b w w4) := HB3.out.trans (ho4.below (Nat.le_refl _))
      have hsz4 : w.heap.size ≤ w4.heap.size := by rw [ho4.size]; exact hsz3
      have HR4 : Hid (Rd B b (q + 1 + 1 + 1) w4) := hr4
      have hltr := hr4.lt
      clear hpk4 HL3 HB3 hr4 ho4 hsz3 hs
      have hcase : s = 0 ∨ s = 1 ∨ s = 2 ∨ s = 3 ∨ s = 4 := by omega
      rcases hcase with rfl | rfl | rfl | rfl | rfl
      · have hkl : k < cs.length := by rw [← HN.out]; exact hkn
        have hbk := heap_alloc_new w4 (.cells (non3.map (Value.int .i64)).toArray 3)
        have hone := one_walk B b (q + 1 + 1 + 1) w4.heap.size 3 3 non3 _ (HR4.out.keep ((Below.refl _ _).alloc (by omega) (.cells (non3.map (Value.int .i64)).toArray 3))) (by omega) (by omega) (by omega) (cells_ints hbk rfl 3 (by decide)) (by omega)
        have HL5 : Hid (BList w.heap.size (.slice (some ⟨g, 0, none⟩) n c) cs (w4.alloc (.cells (non3.map (Value.int .i64)).toArray 3))) := HL4.out.below ((Below.refl _ w4).alloc (Nat.le_refl _) _)
        have HB5 : Hid (Below b w (w4.alloc (.cells (non3.map (Value.int .i64)).toArray 3))) := HB4.out.alloc (by omega) _
        have lk : (k : Int) < (n : Int) := by omega
        have lk0 : (0 : Int) ≤ (k : Int) := by omega
        clear hbk HL4 HB4 HR4
        go_wp2_with fail
        refine hone.mono ?_
        rintro e w5 ⟨x, hx, rfl, hr5, ho5⟩
        generalize non3.getD x 0 = nv
        have HL6 : Hid (BList w.heap.size (.slice (some ⟨g, 0, none⟩) n c) cs w5) := HL5.out.only ho5.but hlt
        have HB6 : Hid (Below b w w5) := HB5.out.trans (ho5.below (Nat.le_refl _))
        have HR6 : Hid (Rd B b (q + 1 + 1 + 1 + 1) w5) := hr5
        have hcF := AtBlk.c4 (FRow.at enBlk_len HL6.out.row).1 k hkl
        have hfF := BRow.frozen HL6.out.row (k * 6 + 4)
        have hgb := HL6.out.row.at enBlk_len
        have hg1 : w.heap.size ≤ g := hgb.2.2.1
        have HLO : Hid (Loose w.heap.size (.slice (some ⟨g, 0, none⟩) n c) (cs.set k { cs.getD k default with h := { (cs.getD k default).h with nonce := nv } }) (w5.setCell ⟨g, k * 6 + 4, none⟩ (.int .i64 nv))) := Loose.set HL6.out.row HG.out k 4 _ _ hkl (by decide) rfl rfl rfl
        have HR7 : Hid (Rd B b (q + 1 + 1 + 1 + 1) (w5.setCell ⟨g, k * 6 + 4, none⟩ (.int .i64 nv))) := HR6.out.keep ((Below.refl _ _).setCell (p := ⟨g, k * 6 + 4, none⟩) (by show b + 1 ≤ g; omega) _)
        have HB7 : Hid (Below b w (w5.setCell ⟨g, k * 6 + 4, none⟩ (.int .i64 nv))) := HB6.out.setCell (p := ⟨g, k * 6 + 4, none⟩) (by show b ≤ g; omega) _
        clear hone HL5 HB5 HL6 hr5 ho5 hgb hkl
        generalize cs.set k { cs.getD k default with h := { (cs.getD k default).h with nonce := nv } } = ds at HLO
        go_wp2_with fail
        exact HP.out _ _ _ ds (q + 1 + 1 + 1 + 1) rfl HLO.out (by omega) HR7.out HB7.out
      · obtain ⟨j0, ji, jz0, jz1, jz2⟩ := info_parts infoStr
        have hkl : k < cs.length := by rw [← HN.out]; exact hkn
        have hat := (FRow.at enBlk_len HL4.out.row)
        have q5 := AtBlk.c5 hat.1 k hkl
        have hgw : w.heap.size ≤ g := hat.2.2.1
        have HGL : Hid (g < w4.heap.size) := hat.1.1
        have HOI : Hid (OwnIt w.heap.size w4 (cs.getD k default)) := HL4.out.own _ (getD_mem hkl)
        have HAP : Hid ((cs.getD k default).g ≠ g) := fun h' => HL4.out.apart _ (getD_mem hkl) (by rw [h']; rfl)
        have HIL : Hid ((cs.getD k default).g < w4.heap.size ∧ w.heap.size ≤ (cs.getD k default).g) := ⟨(HL4.out.items _ (getD_mem hkl)).1.1.1, (HL4.out.items _ (getD_mem hkl)).2⟩
        have HNL : Hid ((cs.getD k default).n ≤ 4) := by show _ ≤ _; rw [(HL4.out.items _ (getD_mem hkl)).1.2]; exact HG.out.items _ (getD_mem hkl)
        have HST : Hid (∀ w' bg bn bc bss, BRow w.heap.size (.slice (some ⟨g, 0, none⟩) n c) cs w' → Loose w.heap.size (.slice (some ⟨g, 0, none⟩) n c) (cs.set k { cs.getD k default with g := bg, n := bn, cap := bc, ss := bss }) (w'.setCell ⟨g, k * 6 + 5, none⟩ (.slice (some ⟨bg, 0, none⟩) bn bc))) := fun w' bg bn bc bss hrow => Loose.set hrow HG.out k 5 _ _ hkl (by decide) rfl rfl rfl
        have HRW : Hid (∀ w', w'.heap[g]? = w4.heap[g]? → BRow w.heap.size (.slice (some ⟨g, 0, none⟩) n c) cs w') := fun w' hk' => HL4.out.row.same hk'
        have lk : (k : Int) < (n : Int) := by omega
        have lk0 : (0 : Int) ≤ (k : Int) := by omega
        have hai := drawAnyItemK B b (q + 1 + 1 + 1) w4.drew HR4.out (by omega)
        generalize cs.getD k default = cb at q5 HOI HAP HIL HNL HST
        obtain ⟨ch, cg, cn, cc, css⟩ := cb
        dsimp only at q5 HAP HIL HNL HST
        have hcn4 := HNL.out
        have hx1 : cn + 1 ≤ maxLen := by unfold maxLen; omega
        have hx2 : (cn + 1) * 16 ≤ 140737488355328 := by omega
        have f5 : w4.drew.cell? ⟨g, k * 6 + 5, none⟩ = some (.slice (some ⟨cg, 0, none⟩) cn cc) := q5
        clear hat hkl HR4
        go_wp2_with fail
        go_region_law (first
          | (refine step_append_any rfl (.tmp 50) (.tmp 53) 83 rfl w.heap.size 9 j0 (.string ⟨#[]⟩) 1 16 Tryz.underlying83 ji jz0 jz1 jz2 rfl (by decide) cg cc cn _ (by simp [Act.eval]) HOW.out ⟨w5.heap.size, 0, none⟩ 1 1 [.string it] (by simp [Act.eval]) rfl HCW.out (by simp [Value.oneCell']) hx1 hx2 HSZ.out ?_; intro g6 c6 w6 hown6 hgrow6 hat6 hlt6; have q7 : w6.cell? ⟨g, k * 6 + 5, none⟩ = some (.slice (some ⟨cg, 0, none⟩) cn cc) := (World.cell?_of_block (a := ⟨g, k * 6 + 5, none⟩) (grown_off hgrow6 g HG5.out HAP.out.symm)).trans q6; have z7 : w6.frozen? ⟨g, k * 6 + 5, none⟩ = false := HFZ.out w6 (grown_off hgrow6))
          | (go_simp; refine hai.mono ?_; rintro e w5 ⟨it, q5', rfl, hit, hq5, hr5, bl5, bu5⟩; have q6 : w5.cell? ⟨g, k * 6 + 5, none⟩ = some (.slice (some ⟨cg, 0, none⟩) cn cc) := (World.cell?_of_block (a := ⟨g, k * 6 + 5, none⟩) (bu5.2 g HGL.out (Nat.ne_of_gt (Nat.lt_of_lt_of_le hlt hgw)))).trans q5; have HG5 : Hid (g < w5.heap.size) := Nat.lt_of_lt_of_le HGL.out bu5.1; have q6a : (w5.alloc (.cells #[.string it] 9)).cell? ⟨g, k * 6 + 5, none⟩ = some (.slice (some ⟨cg, 0, none⟩) cn cc) := (((Below.refl _ w5).alloc (Nat.le_refl _) (.cells #[.string it] 9)).cell (p := ⟨g, k * 6 + 5, none⟩) HG5.out).trans q6; have HOW : Hid ((w5.alloc (.cells #[.string it] 9)).ownsRow w.heap.size 9 1 (.slice (some ⟨cg, 0, none⟩) cn cc) cn (css.map Value.string)) := World.ownsRow.alloc (HOI.out.keep (bu5.2 cg HIL.out.1 (Nat.ne_of_gt (Nat.lt_of_lt_of_le hlt HIL.out.2)))) _; have HCW : Hid (∀ j u, ([.string it] : List Value)[j]? = some u → (w5.alloc (.cells #[.string it] 9)).cell? ((⟨w5.heap.size, 0, none⟩ : Addr).add j) = some u) := cells_new w5 9 [.string it]; have HSZ : Hid (w.heap.size ≤ (w5.alloc (.cells #[.string it] 9)).heap.size) := Nat.le_trans (Nat.le_trans hsz4 bu5.1) (size_le_alloc w5 _); have HFZ : Hid (∀ w6 : World, (∀ x, x < w5.heap.size → x ≠ cg → w6.heap[x]? = w5.heap[x]?) → w6.frozen? ⟨g, k * 6 + 5, none⟩ = false) := (fun w6 hf => BRow.frozen (HRW.out w6 ((hf g HG5.out HAP.out.symm).trans (bu5.2 g HGL.out (Nat.ne_of_gt (Nat.lt_of_lt_of_le hlt hgw))))) (k * 6 + 5))))
        all_goals
          have hfar := grown_off hgrow6
          have hs5 : w.heap.size ≤ w5.heap.size := Nat.le_trans hsz4 bu5.1
          have hB6 : Below w.heap.size w5 w6 := ((Below.refl _ w5).alloc hs5 _).grown hgrow6 HSZ.out (fun j hj => by cases hj; exact HIL.out.2)
          have HLO : Hid (Loose w.heap.size (.slice (some ⟨g, 0, none⟩) n c) (cs.set k { (⟨ch, cg, cn, cc, css⟩ : BlkV) with g := g6, n := cn + 1, cap := c6, ss := css ++ [it] }) (w6.setCell ⟨g, k * 6 + 5, none⟩ (.slice (some ⟨g6, 0, none⟩) (cn + 1) c6))) := HST.out w6 g6 (cn + 1) c6 (css ++ [it]) (HRW.out w6 ((hfar g HG5.out HAP.out.symm).trans (bu5.2 g HGL.out (Nat.ne_of_gt (Nat.lt_of_lt_of_le hlt hgw)))))
          have HR7 : Hid (Rd B b q5' (w6.setCell ⟨g, k * 6 + 5, none⟩ (.slice (some ⟨g6, 0, none⟩) (cn + 1) c6))) := (hr5.keep (hB6.mono (by omega))).keep ((Below.refl _ _).setCell (p := ⟨g, k * 6 + 5, none⟩) (by show b + 1 ≤ g; omega) _)
          have HB7 : Hid (Below b w (w6.setCell ⟨g, k * 6 + 5, none⟩ (.slice (some ⟨g6, 0, none⟩) (cn + 1) c6))) := ((HB4.out.drew.trans bl5).trans (hB6.mono (by omega))).setCell (p := ⟨g, k * 6 + 5, none⟩) (by show b ≤ g; omega) _
          have HQ : Hid (q5' ≤ p + 300) := by show _ ≤ _; omega
          generalize cs.set k { (⟨ch, cg, cn, cc, css⟩ : BlkV) with g := g6, n := cn + 1, cap := c6, ss := css ++ [it] } = ds at HLO
          clear hfar hB6 hown6 hgrow6 hat6 hlt6 HST HRW HOW HCW HFZ HOI q5 q6 q6a q7 z7 f5 bl5 bu5 hr5
          go_wp2_with fail
          first | exact HP.out _ _ _ ds q5' rfl HLO.out HQ.out HR7.out HB7.out | (go_ret; exact HP.out _ _ _ ds q5' rfl HLO.out HQ.out HR7.out HB7.out)
      · have hkl : k < cs.length := by rw [← HN.out]; exact hkn
        have hbk := heap_alloc_new w4 (.cells (dif4.map (Value.int .i64)).toArray 3)
        have hone := one_walk B b (q + 1 + 1 + 1) w4.heap.size 4 4 dif4 _ (HR4.out.keep ((Below.refl _ _).alloc (by omega) (.cells (dif4.map (Value.int .i64)).toArray 3))) (by omega) (by omega) (by omega) (cells_ints hbk rfl 4 (by decide)) (by omega)
        have HL5 : Hid (BList w.heap.size (.slice (some ⟨g, 0, none⟩) n c) cs (w4.alloc (.cells (dif4.map (Value.int .i64)).toArray 3))) := HL4.out.below ((Below.refl _ w4).alloc (Nat.le_refl _) _)
        have HB5 : Hid (Below b w (w4.alloc (.cells (dif4.map (Value.int .i64)).toArray 3))) := HB4.out.alloc (by omega) _
        have lk : (k : Int) < (n : Int) := by omega
        have lk0 : (0 : Int) ≤ (k : Int) := by omega
        clear hbk HL4 HB4 HR4
        go_wp2_with fail
        refine hone.mono ?_
        rintro e w5 ⟨x, hx, rfl, hr5, ho5⟩
        generalize dif4.getD x 0 = nv
        have HL6 : Hid (BList w.heap.size (.slice (some ⟨g, 0, none⟩) n c) cs w5) := HL5.out.only ho5.but hlt
        have HB6 : Hid (Below b w w5) := HB5.out.trans (ho5.below (Nat.le_refl _))
        have HR6 : Hid (Rd B b (q + 1 + 1 + 1 + 1) w5) := hr5
        have hcF := AtBlk.c3 (FRow.at enBlk_len HL6.out.row).1 k hkl
        have hfF := BRow.frozen HL6.out.row (k * 6 + 3)
        have hgb := HL6.out.row.at enBlk_len
        have hg1 : w.heap.size ≤ g := hgb.2.2.1
        have HLO : Hid (Loose w.heap.size (.slice (some ⟨g, 0, none⟩) n c) (cs.set k { cs.getD k default with h := { (cs.getD k default).h with diff := nv } }) (w5.setCell ⟨g, k * 6 + 3, none⟩ (.int .i64 nv))) := Loose.set HL6.out.row HG.out k 3 _ _ hkl (by decide) rfl rfl rfl
        have HR7 : Hid (Rd B b (q + 1 + 1 + 1 + 1) (w5.setCell ⟨g, k * 6 + 3, none⟩ (.int .i64 nv))) := HR6.out.keep ((Below.refl _ _).setCell (p := ⟨g, k * 6 + 3, none⟩) (by show b + 1 ≤ g; omega) _)
        have HB7 : Hid (Below b w (w5.setCell ⟨g, k * 6 + 3, none⟩ (.int .i64 nv))) := HB6.out.setCell (p := ⟨g, k * 6 + 3, none⟩) (by show b ≤ g; omega) _
        clear hone HL5 HB5 HL6 hr5 ho5 hgb hkl
        generalize cs.set k { cs.getD k default with h := { (cs.getD k default).h with diff := nv } } = ds at HLO
        go_wp2_with fail
        exact HP.out _ _ _ ds (q + 1 + 1 + 1 + 1) rfl HLO.out (by omega) HR7.out HB7.out
      · have hkl : k < cs.length := by rw [← HN.out]; exact hkn
        have hbk := heap_alloc_new w4 (.cells (tim3.map (Value.int .i64)).toArray 3)
        have hone := one_walk B b (q + 1 + 1 + 1) w4.heap.size 3 3 tim3 _ (HR4.out.keep ((Below.refl _ _).alloc (by omega) (.cells (tim3.map (Value.int .i64)).toArray 3))) (by omega) (by omega) (by omega) (cells_ints hbk rfl 3 (by decide)) (by omega)
        have HL5 : Hid (BList w.heap.size (.slice (some ⟨g, 0, none⟩) n c) cs (w4.alloc (.cells (tim3.map (Value.int .i64)).toArray 3))) := HL4.out.below ((Below.refl _ w4).alloc (Nat.le_refl _) _)
        have HB5 : Hid (Below b w (w4.alloc (.cells (tim3.map (Value.int .i64)).toArray 3))) := HB4.out.alloc (by omega) _
        have lk : (k : Int) < (n : Int) := by omega
        have lk0 : (0 : Int) ≤ (k : Int) := by omega
        clear hbk HL4 HB4 HR4
        go_wp2_with fail
        refine hone.mono ?_
        rintro e w5 ⟨x, hx, rfl, hr5, ho5⟩
        generalize tim3.getD x 0 = nv
        have HL6 : Hid (BList w.heap.size (.slice (some ⟨g, 0, none⟩) n c) cs w5) := HL5.out.only ho5.but hlt
        have HB6 : Hid (Below b w w5) := HB5.out.trans (ho5.below (Nat.le_refl _))
        have HR6 : Hid (Rd B b (q + 1 + 1 + 1 + 1) w5) := hr5
        have hcF := AtBlk.c2 (FRow.at enBlk_len HL6.out.row).1 k hkl
        have hfF := BRow.frozen HL6.out.row (k * 6 + 2)
        have hgb := HL6.out.row.at enBlk_len
        have hg1 : w.heap.size ≤ g := hgb.2.2.1
        have HLO : Hid (Loose w.heap.size (.slice (some ⟨g, 0, none⟩) n c) (cs.set k { cs.getD k default with h := { (cs.getD k default).h with time := nv } }) (w5.setCell ⟨g, k * 6 + 2, none⟩ (.int .i64 nv))) := Loose.set HL6.out.row HG.out k 2 _ _ hkl (by decide) rfl rfl rfl
        have HR7 : Hid (Rd B b (q + 1 + 1 + 1 + 1) (w5.setCell ⟨g, k * 6 + 2, none⟩ (.int .i64 nv))) := HR6.out.keep ((Below.refl _ _).setCell (p := ⟨g, k * 6 + 2, none⟩) (by show b + 1 ≤ g; omega) _)
        have HB7 : Hid (Below b w (w5.setCell ⟨g, k * 6 + 2, none⟩ (.int .i64 nv))) := HB6.out.setCell (p := ⟨g, k * 6 + 2, none⟩) (by show b ≤ g; omega) _
        clear hone HL5 HB5 HL6 hr5 ho5 hgb hkl
        generalize cs.set k { cs.getD k default with h := { (cs.getD k default).h with time := nv } } = ds at HLO
        go_wp2_with fail
        exact HP.out _ _ _ ds (q + 1 + 1 + 1 + 1) rfl HLO.out (by omega) HR7.out HB7.out
      · obtain ⟨i0, hi, hz0, hz1, hz2⟩ := info3 infoBlk
        have hkl : k < cs.length := by rw [← HN.out]; exact hkn
        obtain ⟨j, hj⟩ : ∃ j, n = j + 1 := ⟨n - 1, by omega⟩
        have hjl : j < cs.length := by rw [← HN.out]; omega
        have hat := (FRow.at enBlk_len HL4.out.row)
        have q0 := AtBlk.c0 hat.1 j hjl
        have q1 := AtBlk.c1 hat.1 j hjl
        have q2 := AtBlk.c2 hat.1 j hjl
        have q3 := AtBlk.c3 hat.1 j hjl
        have q4 := AtBlk.c4 hat.1 j hjl
        have q5 := AtBlk.c5 hat.1 j hjl
        have hgw : w.heap.size ≤ g := hat.2.2.1
        have hcap : n ≤ c := hat.2.2.2
        have HGL : Hid (g < w4.heap.size) := hat.1.1
        have HF : Hid (w4.ownsRow w.heap.size 85 6 (.slice (some ⟨g, 0, none⟩) k c) k ((cs.take k).flatMap enBlk)) := BRow.first HL4.out.row k (by omega)
        have HWF : Hid (∀ x ∈ cs.take k ++ [cs.getD j default], x.h.prev.size ≤ 16 ∧ x.h.root.size ≤ 16) := by
          intro x hx
          rcases List.mem_append.1 hx with h' | h'
          · exact HG.out.wf x (List.mem_of_mem_take h')
          · rw [List.mem_singleton.1 h']
            exact HG.out.wf _ (getD_mem hjl)
        have HTL : Hid ((cs.take k).length = k) := by show _ = _; rw [List.length_take]; omega
        have hw1 : IntKind.i64.wrap ((n : Int) - 1) = (j : Int) := by rw [IntKind.wrap_i64]; omega
        have lj : (j : Int) < (n : Int) := by omega
        have lj0 : (0 : Int) ≤ (j : Int) := by omega
        have lk : (k : Int) ≤ (c : Int) := by omega
        have lk0 : (0 : Int) ≤ (k : Int) := by omega
        have hc0 : ¬ c = 0 := by omega
        generalize cs.getD j default = lb at q0 q1 q2 q3 q4 q5 HWF
        generalize cs.take k = tk at HF HWF HTL
        obtain ⟨⟨lp, lr, lt, ld, ln⟩, lg, lnn, lc, lss⟩ := lb
        dsimp only at q0 q1 q2 q3 q4 q5
        have hx1 : k + 1 ≤ maxLen := by unfold maxLen; omega
        have hx2 : (k + 1) * 80 ≤ 140737488355328 := by omega
        have HRK : Hid (∀ w', Below (b + 1) w4 w' → Rd B b (q + 1 + 1 + 1) w') := fun w' hb => HR4.out.keep hb
        have HK20 : Hid (k + 1 ≤ 20) := by show _ ≤ _; omega
        have HQ : Hid (q + 1 + 1 + 1 ≤ p + 300) := by show _ ≤ _; omega
        have f0 : w4.drew.cell? ⟨g, j * 6, none⟩ = some (.string lp) := q0
        have f1 : w4.drew.cell? ⟨g, j * 6 + 1, none⟩ = some (.string lr) := q1
        have f2 : w4.drew.cell? ⟨g, j * 6 + 2, none⟩ = some (.int .i64 lt) := q2
        have f3 : w4.drew.cell? ⟨g, j * 6 + 3, none⟩ = some (.int .i64 ld) := q3
        have f4 : w4.drew.cell? ⟨g, j * 6 + 4, none⟩ = some (.int .i64 ln) := q4
        have f5 : w4.drew.cell? ⟨g, j * 6 + 5, none⟩ = some (.slice (some ⟨lg, 0, none⟩) lnn lc) := q5
        have HFd : Hid ((w4.drew.alloc (.cells (enBlk ⟨⟨lp, lr, lt, ld, ln⟩, lg, lnn, lc, lss⟩).toArray 85)).ownsRow w.heap.size 85 6 (.slice (some ⟨g, 0, none⟩) k c) k (tk.flatMap enBlk)) := World.ownsRow.alloc (w := w4.drew) HF.out _
        have HCN : Hid (∀ j u, (enBlk ⟨⟨lp, lr, lt, ld, ln⟩, lg, lnn, lc, lss⟩)[j]? = some u → (w4.drew.alloc (.cells (enBlk ⟨⟨lp, lr, lt, ld, ln⟩, lg, lnn, lc, lss⟩).toArray 85)).cell? ((⟨w4.heap.size, 0, none⟩ : Addr).add j) = some u) := cells_new w4.drew 85 (enBlk ⟨⟨lp, lr, lt, ld, ln⟩, lg, lnn, lc, lss⟩)
        clear hj hjl hat HL4 HG hkl hcap HR4
        go_wp2_with fail
        go_region_law (refine step_append_any rfl (.tmp 23) (.tmp 30) 66 rfl w.heap.size 85 i0 (.agg #[.string ⟨#[]⟩, .string ⟨#[]⟩, .int .i64 0, .int .i64 0, .int .i64 0, .slice none 0 0]) 6 80 Tryz.underlying66 hi hz0 hz1 hz2 rfl (by decide) g c k _ (by simp [Act.eval]) HFd.out ⟨w4.heap.size, 0, none⟩ 1 1 (enBlk ⟨⟨lp, lr, lt, ld, ln⟩, lg, lnn, lc, lss⟩) (by simp [Act.eval]) rfl HCN.out (enBlk_one _) hx1 hx2 (by simp; omega) ?_; intro g5 c5 w5 hown5 hgrow5 hat5 hlt5)
        have hgl := HGL.out
        have hB5 : Below w.heap.size w4 w5 := ((Below.refl _ w4).drew.alloc hsz4 _).grown hgrow5 (by simp; omega) (fun j hj => by cases hj; exact hgw)
        have HL5 : Hid (Loose w.heap.size (.slice (some ⟨g5, 0, none⟩) (k + 1) c5) (tk ++ [⟨⟨lp, lr, lt, ld, ln⟩, lg, lnn, lc, lss⟩]) w5) := by
          refine ⟨FRow.of ?_ ?_, ?_, HWF.out⟩
          · rw [List.flatMap_append]
            simpa using hown5
          · rw [List.length_append, HTL.out]; rfl
          · rw [List.length_append, HTL.out]; exact HK20.out
        have HR5 : Hid (Rd B b (q + 1 + 1 + 1) w5) := HRK.out _ (hB5.mono (by omega))
        have HB5 : Hid (Below b w w5) := HB4.out.trans (hB5.mono (by omega))
        generalize tk ++ [(⟨⟨lp, lr, lt, ld, ln⟩, lg, lnn, lc, lss⟩ : BlkV)] = ds at HL5
        clear hown5 hgrow5 hat5 hlt5 hB5 HF HFd HCN HWF HTL
        go_wp2_with fail
        go_ret
        exact HP.out _ _ _ ds (q + 1 + 1 + 1) rfl HL5.out HQ.out HR5.out HB5.out
    · have hx0' : ((x2 : Int) == 0) = false := beq_eq_false_iff_ne.2 (by omega)
      go_wp2_with fail
      exact HP.out _ _ _ cs (q + 1) rfl ⟨HL2.out.row, HG.out.few, HG.out.wf⟩ (by omega) HR2.out HB2.out

end Go.Proofs.YtoojimfimlpplaaGreatDoor

set_option linter.unusedVariables false
namespace Go.Proofs.YtoojimfimlpplaaGreatDoor
open Go.RowKit Go.Deep

/-- Drawn heads: few, with short texts. -/
def HeadsPost (B : Nat) (e : Ending) (w' : World) : Prop := ∃ (g n c : Nat) (l : List HeadV), e = .returned (.slice (some ⟨g, 0, none⟩) n c) ∧ AtHead w' g l ∧ n = l.length ∧ n ≤ c ∧ n ≤ 20 ∧ (∀ i, i < l.length → (l.getD i default).prev.size ≤ 16 ∧ (l.getD i default).root.size ≤ 16) ∧ B ≤ g

set_option maxHeartbeats 600000 in
set_option maxRecDepth 100000 in
theorem drawHeads (B b p : Nat) (w : World) (h : Rd B b p w) (hp : p < 1000000000 - 3000) :
    Calls Tryz.prog 13 #[.pointer (some ⟨b, 0, none⟩)] w fun e w' => HeadsPost w.heap.size e w' ∧ ∃ q, q ≤ p + 300 ∧ Rd B b q w' ∧ Below b w w' := by
  have hlt := h.lt
  have HP : Hid (∀ g n c l e w', e = .returned (.slice (some ⟨g, 0, none⟩) n c) → AtHead w' g l → n = l.length → n ≤ c → n ≤ 20 → (∀ i, i < l.length → (l.getD i default).prev.size ≤ 16 ∧ (l.getD i default).root.size ≤ 16) → w.heap.size ≤ g → HeadsPost w.heap.size e w') := fun g n c l e w' h1 h2 h3 h4 h5 h6 h7 => ⟨g, n, c, l, h1, h2, h3, h4, h5, h6, h7⟩
  have hab := drawAnyBlocks B b p w h hp
  clear h
  go_enter Tryz.func13, Tryz.ntmps13
  go_wp2_with fail
  refine hab.mono ?_
  rintro e w1 ⟨v, cs, q, rfl, lo, hq, hr1, bl1⟩
  obtain ⟨g, c, hv⟩ := lo.row.1
  subst hv
  have hat := FRow.at enBlk_len lo.row
  have hhd := specL4Heads g cs.length c cs w1 hat.1 rfl (by have := lo.few; omega)
  have HW : Hid (∀ i, i < (cs.map (fun x : BlkV => x.h)).length → ((cs.map (fun x : BlkV => x.h)).getD i default).prev.size ≤ 16 ∧ ((cs.map (fun x : BlkV => x.h)).getD i default).root.size ≤ 16) := by
    intro i hi
    rw [List.length_map] at hi
    rw [getD_map hi]
    exact lo.wf _ (getD_mem hi)
  have HF : Hid (cs.length ≤ 20) := lo.few
  have hs1 : w.heap.size ≤ w1.heap.size := Nat.le_trans (Nat.le_of_eq rfl) (by have := hr1.lt; exact bl1.size)
  have hltr := hr1.lt
  clear lo hat hab
  obtain ⟨nn, hnn⟩ : ∃ n, n = cs.length := ⟨_, rfl⟩
  rw [← hnn] at hhd ⊢
  have HNN : Hid (nn = cs.length) := hnn
  clear hnn
  go_wp2_with fail
  refine hhd.mono ?_
  rintro e w2 ⟨v2, rfl, r2, b2⟩
  obtain ⟨g2, c2, hv2⟩ := r2.1
  subst hv2
  have hat2 := FRow.at enHead_len r2
  rw [List.length_map] at hat2 ⊢
  have HA : Hid (AtHead w2 g2 (cs.map (fun x : BlkV => x.h))) := hat2.1
  have HC : Hid (cs.length ≤ c2) := hat2.2.2.2
  have HGE : Hid (w1.heap.size ≤ g2) := hat2.2.2.1
  have HR2 : Hid (Rd B b q w2) := hr1.keep (b2.mono (by omega))
  have HB2 : Hid (Below b w w2) := bl1.trans (b2.mono (by omega))
  have HLN : Hid (cs.length = (cs.map (fun x : BlkV => x.h)).length) := by show _ = _; rw [List.length_map]
  generalize cs.map (fun x : BlkV => x.h) = l at HA HW HLN
  generalize cs.length = m at HC HF HLN HNN ⊢
  clear hat2 r2 b2 hhd
  go_wp2_with fail
  go_ret
  exact ⟨HP.out g2 m c2 l _ _ rfl HA.out HLN.out HC.out HF.out HW.out (Nat.le_trans hs1 HGE.out), q, hq, HR2.out, HB2.out⟩

end Go.Proofs.YtoojimfimlpplaaGreatDoor

set_option linter.unusedVariables false
namespace Go.Proofs.YtoojimfimlpplaaGreatDoor
open Go.RowKit Go.Deep

theorem AtHead.sameP {w w' : World} {g : Nat} {l : List HeadV} (h : AtHead w g l) (hs : w.heap.size ≤ w'.heap.size) (hk : w'.heap[g]? = w.heap[g]?) : AtHead w' g l :=
  ⟨Nat.lt_of_lt_of_le h.1 hs, fun i j hi hj => (World.cell?_of_block (a := ⟨g, i * 5 + j, none⟩) hk).trans (h.2 i j hi hj)⟩
def PfxDrew (w : World) (e : Ending) (w' : World) : Prop := ∃ (g n c : Nat) (l : List HeadV) (m : Int), e = .returned (.tuple #[.slice (some ⟨g, 0, none⟩) n c, .int .i64 m]) ∧ AtHead w' g l ∧ n = l.length ∧ n ≤ c ∧ n ≤ 20 ∧ (∀ i, i < l.length → (l.getD i default).prev.size ≤ 16 ∧ (l.getD i default).root.size ≤ 16) ∧ -1 ≤ m ∧ m ≤ 30 ∧ Below w.heap.size w w'

set_option maxHeartbeats 1000000 in
set_option maxRecDepth 100000 in
theorem drawPrefixOf (a : Option Addr) (len cap : Nat) (zs : List Int) (w : World) (h : IsRow .u8 w a len cap zs) :
    Calls Tryz.prog 5 #[.slice a len cap] w fun e w' => PfxDrew w e w' := by
  have HQ : Hid (∀ (g n c : Nat) (l : List HeadV) (m : Int) (w' : World), AtHead w' g l → n = l.length → n ≤ c → n ≤ 20 → (∀ i, i < l.length → (l.getD i default).prev.size ≤ 16 ∧ (l.getD i default).root.size ≤ 16) → -1 ≤ m → m ≤ 30 → Below w.heap.size w w' → PfxDrew w (.returned (.tuple #[.slice (some ⟨g, 0, none⟩) n c, .int .i64 m])) w') := fun g n c l m w' h1 h2 h3 h4 h5 h6 h7 h8 => ⟨g, n, c, l, m, rfl, h1, h2, h3, h4, h5, h6, h7, h8⟩
  generalize PfxDrew w = Q at HQ ⊢
  go_enter Tryz.func5, Tryz.ntmps5
  go_wp2_with fail
  refine (open_walk a len cap zs _ h).mono ?_
  rintro e w1 ⟨rfl, hr, b1, hs1⟩
  have HR1 : Hid (Rd w.heap.size w.heap.size 0 w1) := hr
  have B1 : Hid (Below w.heap.size w w1) := b1
  have hlt := hr.lt
  have HLT : Hid (w.heap.size < w1.heap.size) := hlt
  have hdh := drawHeads w.heap.size w.heap.size 0 _ hr (by omega)
  obtain ⟨b, hb⟩ : ∃ b, b = w.heap.size := ⟨_, rfl⟩
  have HBW : Hid (b = w.heap.size) := hb
  rw [← hb] at hdh ⊢
  clear h hr b1 hs1 hlt hb
  go_wp2_with fail
  refine hdh.mono ?_
  rintro e w2 ⟨⟨g, n, c, l, rfl, h2, h3, h4, h5, h6, h7⟩, q, hq, hr2, b2⟩
  have B2 : Hid (Below w.heap.size w w2) := B1.out.trans (by rw [← HBW.out]; exact b2)
  have HA : Hid (AtHead w2 g l) := h2
  have HN : Hid (n = l.length) := h3
  have HC : Hid (n ≤ c ∧ n ≤ 20) := ⟨h4, h5⟩
  have HS : Hid (∀ i, i < l.length → (l.getD i default).prev.size ≤ 16 ∧ (l.getD i default).root.size ≤ 16) := h6
  have HNE : Hid (g ≠ b) := by show g ≠ b; have := HLT.out; have := HBW.out; omega
  have hw1 : IntKind.i64.wrap ((n : Int) + 3) = (n : Int) + 3 := by rw [IntKind.wrap_i64]; omega
  have hpk := pick_walk b b q ((n : Int) + 3) w2 hr2 (by omega) (by omega)
  clear hdh h2 h3 h4 h5 h6 h7 hq hr2 b2 HR1 B1 HLT
  go_wp2_with fail
  refine hpk.mono ?_
  rintro e w3 ⟨x, rfl, hx1, hx2, hr3, o3⟩
  have hxl := hx1 (by omega)
  have hw2 : IntKind.i64.wrap ((x : Int) - 1) = (x : Int) - 1 := by rw [IntKind.wrap_i64]; have := HC.out.2; omega
  have B3 : Hid (Below w.heap.size w w3) := B2.out.trans (o3.below (Nat.le_of_eq HBW.out.symm))
  have HA3 : Hid (AtHead w3 g l) := HA.out.sameP (Nat.le_of_eq o3.size.symm) (o3.block g HNE.out)
  have HX : Hid (-1 ≤ (x : Int) - 1 ∧ (x : Int) - 1 ≤ 30) := by show _ ∧ _; have := HC.out.2; omega
  clear hpk hr3 o3 HA B2 hx1 hx2 hxl hw1
  go_wp2_with fail
  exact HQ.out g n c l _ w3 HA3.out HN.out HC.out.1 HC.out.2 HS.out HX.out.1 HX.out.2 B3.out

end Go.Proofs.YtoojimfimlpplaaGreatDoor

set_option linter.unusedVariables false
namespace Go.Proofs.YtoojimfimlpplaaGreatDoor
open Go.RowKit Go.Deep

theorem coPeaks0 (a b : Option Addr) (ca cb : Nat) (w : World) : Calls Tryz.prog 7 #[.slice a 0 ca, .slice b 0 cb] w fun e w' => e = .returned (.bool true) ∧ Below w.heap.size w w' := by
  go_enter Tryz.func7, Tryz.ntmps7
  go_wp2_with fail
  go_loopw [5] (fun i wr => i = .int .i64 0 ∧ Hid (wr = w)) (fun _ _ => 0)
  case atStart => exact ⟨rfl, rfl⟩
  case round =>
    obtain ⟨rfl, HW⟩ := hrel
    go_wp2_with fail
    go_ret
    exact ⟨rfl, by rw [HW.out]; exact Below.refl _ _⟩
/-- Two lists of the same peaks, be they nil. -/
theorem coPks {B C : Nat} {u v : Value} {l : List PeakV} {w : World} (h1 : Pks B u l w) (h2 : Pks C v l w) (hm : l.length ≤ 1048576) : Calls Tryz.prog 7 #[u, v] w fun e w' => e = .returned (.bool true) ∧ Below w.heap.size w w' := by
  rcases h1 with ⟨rfl, rfl⟩ | ⟨g1, c1, rfl, a1, _⟩
  · rcases h2 with ⟨rfl, _⟩ | ⟨g2, c2, rfl, a2, _⟩
    · exact coPeaks0 _ _ _ _ w
    · exact coPeaks0 _ _ _ _ w
  · rcases h2 with ⟨rfl, rfl⟩ | ⟨g2, c2, rfl, a2, _⟩
    · exact coPeaks0 _ _ _ _ w
    · exact coPeaksSame g1 c1 g2 c2 l.length l w a1 a2 rfl hm
theorem pks_form {B : Nat} {v : Value} {l : List PeakV} {w : World} (h : Pks B v l w) : ∃ a c, v = .slice a l.length c ∧ ∀ k, k < l.length → ∃ g, a = some ⟨g, 0, none⟩ ∧ AtP w g l := by
  rcases h with ⟨rfl, rfl⟩ | ⟨g, c, rfl, ha, _⟩
  · exact ⟨none, 0, rfl, fun k hk => absurd hk (Nat.not_lt_zero _)⟩
  · exact ⟨some ⟨g, 0, none⟩, c, rfl, fun k _ => ⟨g, rfl, ha⟩⟩
theorem ofL_nil {l : List HeadV} (h : ofL l = []) (m : Int) : prefL l m = [] := by
  unfold ofL at h
  split at h
  · rename_i hk
    have h1 := (ofP_ok (heads_at hk) (heads_len hk) l.length (Nat.le_refl _)).2.1
    rw [h] at h1
    have h0 : l.length = 0 := by
      have : ((0 : Nat) : Int) = (l.length : Int) := h1
      omega
    unfold prefL
    split
    · rw [prefT_end l _ _ (by omega)]
    · rfl
  · rename_i hk
    exact prefL_no (fun hh => hk hh.1)
theorem ofL_ne {l : List HeadV} (h : ofL l ≠ []) : headsB l = true := by
  cases hk : headsB l with
  | true => rfl
  | false =>
    exfalso
    apply h
    rw [ofL, hk]
    rfl
theorem ofL_yes {l : List HeadV} (hk : headsB l = true) : ofL l = ofP l l.length := by rw [ofL, if_pos hk]
theorem sumD_few {l : List HeadV} (hk : headsB l = true) (a : Nat) : ∀ k, a + k ≤ l.length → 0 ≤ sumD l a k ∧ sumD l a k ≤ 8 * (k : Int)
  | 0, _ => by simp [sumD]
  | k + 1, h => by
    have h1 := sumD_few hk a k (by omega)
    have h2 := headOk_in (heads_at hk (a + k) (by omega))
    rw [sumD]
    push_cast
    omega
theorem cnt_few {ps : List PeakV} (h : ∀ q ∈ ps, peakOkB q = true) : ∀ k, k ≤ ps.length → 0 ≤ cntTo ps k ∧ cntTo ps k ≤ 20 * (k : Int) ∧ 0 ≤ wrkTo ps k ∧ wrkTo ps k ≤ 160 * (k : Int)
  | 0, _ => by simp [cntTo, wrkTo]
  | k + 1, hk => by
    have h1 := cnt_few h k (by omega)
    have h2 := peakOk_in (getD_all (C := fun q => peakOkB q = true) h k (by omega))
    rw [cntTo, wrkTo]
    push_cast
    omega

/-- What the law's calls answer. -/
structure PrAns (w1 : World) (g n c : Nat) (l : List HeadV) (m : Int) : Prop where
  im : ∀ w', Below w1.heap.size w1 w' → Calls Tryz.prog 6 #[.slice (some ⟨g, 0, none⟩) n c, .int .i64 m] w' fun e w'' => PoxPost l m w' e w''
  sp : ∀ w', Below w1.heap.size w1 w' → Calls Tryz.prog 8 #[.slice (some ⟨g, 0, none⟩) n c, .int .i64 m] w' fun e w'' => PoxPost l m w' e w''
  ra : ∀ w', Below w1.heap.size w1 w' → Calls Tryz.prog 9 #[.slice (some ⟨g, 0, none⟩) n c] w' fun e w'' => RofPost l w' e w''
  rb : ∀ (M c' : Nat) w', M ≤ n → Below w1.heap.size w1 w' → Calls Tryz.prog 9 #[.slice (some ⟨g, 0, none⟩) M c'] w' fun e w'' => RofPost (l.take M) w' e w''
  rt : ∀ (B : Nat) (v : Value) (ps : List PeakV) w', Pks B v ps w' → (∃ a k c2, v = .slice (some a) k c2) → ps.length ≤ 1048576 → Below w1.heap.size w1 w' → Calls Tryz.prog 11 #[v] w' fun e w'' => e = .returned (.string ⟨(rangeRoot ps).toArray⟩) ∧ Below w'.heap.size w' w''
  ck : ∀ (B1 B2 : Nat) (v1 : Value) (ps : List PeakV) (root : ByteArray) (a2 : Option Addr) (n2 cap2 : Nat) (ms : List PeakV) w', Pks B1 v1 ps w' → Pks B2 (.slice a2 n2 cap2) ms w' → ps.length ≤ 1048576 → ms.length ≤ 1048576 → Below w1.heap.size w1 w' → Calls Tryz.prog 10 #[v1, .string root, .slice a2 n2 cap2] w' fun e w'' => e = .returned (.bool (prefixB ps root ms)) ∧ Below w'.heap.size w' w''
  at_ : AtHead w1 g l
  nl : n = l.length
  nc : n ≤ c
  n20 : n ≤ 20
theorem prAns {w1 : World} {g n c : Nat} {l : List HeadV} {m : Int} (hA : AtHead w1 g l) (hn : n = l.length) (hc : n ≤ c) (h20 : n ≤ 20) (hs : ∀ i, i < l.length → (l.getD i default).prev.size ≤ 16 ∧ (l.getD i default).root.size ≤ 16) (hK : RowG w1 shaK) (hP : TabP w1) : PrAns w1 g n c l m := by
  have hm : n ≤ 1048576 := by omega
  refine ⟨fun w' hb => ?_, fun w' hb => ?_, fun w' hb => ?_, fun M c' w' hM hb => ?_, fun B v ps w' h1 h2 h3 hb => ?_, fun B1 B2 v1 ps root a2 n2 cap2 ms w' h1 h2 h3 h4 hb => ?_, hA, hn, hc, h20⟩
  · exact implPrefixOf g n c l m w' (hA.below hb hA.1) hn hm hc (hK.below hb hK.lt) (TabP.below hP hb (Nat.le_refl _))
  · exact specPrefixOf g n c l m w' (hA.below hb hA.1) hn hm hc (fun i hi => by have := hs i hi; unfold maxLen; omega)
  · exact implRangeOf g n c l w' (hA.below hb hA.1) hn hm (hK.below hb hK.lt) (TabP.below hP hb (Nat.le_refl _))
  · exact implRangeOf g M c' (l.take M) w' ((AtHead.take hA M).below hb hA.1) (by rw [List.length_take]; omega) (by omega) (hK.below hb hK.lt) (TabP.below hP hb (Nat.le_refl _))
  · rcases h1 with ⟨rfl, _⟩ | ⟨g5, c5, rfl, ha, _⟩
    · obtain ⟨a, k, c2, h⟩ := h2
      simp at h
    · exact implRangeRoot g5 ps.length c5 ps w' ha rfl h3 (hK.below hb hK.lt) (TabP.below hP hb (Nat.le_refl _))
  · exact implPrefixCheckG B1 B2 v1 ps root a2 n2 cap2 ms w' h1 h2 h3 h4 (hK.below hb hK.lt) (TabP.below hP hb (Nat.le_refl _))

theorem pks_len {B : Nat} {a : Option Addr} {n c : Nat} {l : List PeakV} {w : World} (h : Pks B (.slice a n c) l w) : n = l.length := by
  rcases h with ⟨hv, rfl⟩ | ⟨g, c2, hv, _⟩
  · simp only [Value.slice.injEq] at hv
    exact hv.2.1
  · simp only [Value.slice.injEq] at hv
    exact hv.2.1
theorem pks_at {B : Nat} {a : Option Addr} {n c : Nat} {l : List PeakV} {w : World} (h : Pks B (.slice a n c) l w) {k : Nat} (hk : k < l.length) : ∃ g, a = some ⟨g, 0, none⟩ ∧ AtP w g l := by
  rcases h with ⟨hv, rfl⟩ | ⟨g, c2, hv, ha, _⟩
  · exact absurd hk (Nat.not_lt_zero _)
  · simp only [Value.slice.injEq] at hv
    exact ⟨g, hv.1, ha⟩
/-- What stands while the law is walked: the peaks behind, the peaks of all. -/
structure PrS (w1 wr : World) (a2 : Option Addr) (c2 : Nat) (P : List PeakV) (a6 : Option Addr) (c6 : Nat) (A : List PeakV) : Prop where
  b : Below w1.heap.size w1 wr
  p : Pks 0 (.slice a2 P.length c2) P wr
  q : Pks 0 (.slice a6 A.length c6) A wr
theorem PrS.call {w1 wr w' : World} {a2 : Option Addr} {c2 : Nat} {P : List PeakV} {a6 : Option Addr} {c6 : Nat} {A : List PeakV} (h : PrS w1 wr a2 c2 P a6 c6 A) (hb : Below wr.heap.size wr w') : PrS w1 w' a2 c2 P a6 c6 A := ⟨h.b.trans (hb.mono h.b.size), h.p.below hb, h.q.below hb⟩
/-- What the numbers come to. -/
structure PrN (l : List HeadV) (n M : Nat) (P A : List PeakV) (sd : Int) : Prop where
  cnt : cntTo P P.length = ((n - M : Nat) : Int)
  wrk : wrkTo P P.length = sd
  sum : sumD l M (n - M) = sd
  few : P.length ≤ n - M
  small : P.length ≤ 20 ∧ A.length ≤ 20
  ok : ∀ q ∈ P, peakOkB q = true
  yes : prefixB (ofL (l.take M)) ⟨(rangeRoot A).toArray⟩ P = true
  hk : headsB l = true
  hM : M ≤ n
theorem prN {l : List HeadV} {n M : Nat} (hn : n = l.length) (hne : ofL l ≠ []) (hM : M ≤ n) : PrN l n M (prefL l (M : Int)) (ofL l) (sumD l M (n - M)) := by
  have hk := ofL_ne hne
  have e : prefL l (M : Int) = prefT l (l.length - M) M := by
    rw [prefL_yes ⟨hk, by omega, by omega⟩, Int.toNat_natCast]
  obtain ⟨h1, h2, h3⟩ := pref_cnt l (l.length - M) M (by omega) (by omega)
  refine ⟨?_, ?_, rfl, ?_, ⟨prefL_len l _, ofL_len l⟩, ?_, ?_, hk, hM⟩
  · rw [e, h1, hn]
  · rw [e, h2, hn]
  · rw [e, hn]; exact h3
  · rw [e]; exact pref_ok hk _ _
  · rw [e, ofL_yes hk, ofL_yes (take_heads hk M (by omega)), List.length_take, Nat.min_eq_left (by omega), of_take l M M (Nat.le_refl _) (by omega)]
    exact prefix_all hk (by omega)

set_option maxHeartbeats 8000000 in
set_option maxRecDepth 100000 in
theorem walk_FnPrefix (a : Option Addr) (len cap : Nat) (zs : List Int) (w : World) (h : IsRow .u8 w a len cap zs) (hK : RowG w shaK) (hP : TabP w) :
    Calls Tryz.prog 3 #[.slice a len cap] w fun e w' => e = .returned (.bool true) ∧ Below w.heap.size w w' := by
  by_cases hl : (1048576 : Int) < (len : Int)
  · clear hK hP
    go_enter Tryz.func3, Tryz.ntmps3
    go_wp2
    go_ret
    exact ⟨rfl, Below.refl _ _⟩
  have hdr := drawPrefixOf a len cap zs w h
  have HK : Hid (RowG w shaK) := hK
  have HP : Hid (∀ w', Below w.heap.size w w' → TabP w') := fun w' hb => TabP.below hP hb (Nat.le_refl _)
  clear hK hP h
  go_enter Tryz.func3, Tryz.ntmps3
  go_wp2_with fail
  refine hdr.mono ?_
  rintro e w1 ⟨g, n, c, l, m, rfl, hA, hn, hc, h20, hs, hm1, hm2, b1⟩
  have HB1 : Hid (Below w.heap.size w w1) := b1
  have HA : Hid (PrAns w1 g n c l m) := prAns hA hn hc h20 hs (HK.out.below b1 HK.out.lt) (HP.out w1 b1)
  clear hdr HK HP hA hn hc h20 hs b1
  have him := HA.out.im w1 (Below.refl _ _)
  go_wp2_with fail
  refine Calls.mono him ?_
  rintro e w2 ⟨v2, rfl, p2, b2⟩
  have B2 : Hid (Below w1.heap.size w1 w2) := b2
  obtain ⟨a2, c2, rfl, -⟩ := pks_form p2
  have P2 : Hid (Pks 0 (.slice a2 (prefL l m).length c2) (prefL l m) w2) := p2.mono (Nat.zero_le _)
  have hsp := HA.out.sp w2 B2.out
  have HPL : Hid ((prefL l m).length ≤ 1048576) := Nat.le_trans (prefL_len l m) (by decide)
  clear him p2 b2
  go_wp2_with fail
  refine Calls.mono hsp ?_
  rintro e w3 ⟨v3, rfl, p3, b3⟩
  have B3 : Hid (Below w1.heap.size w1 w3) := B2.out.trans (b3.mono B2.out.size)
  have P3 : Hid (Pks 0 (.slice a2 (prefL l m).length c2) (prefL l m) w3) := P2.out.below b3
  have hcp := coPks P3.out p3 HPL.out
  clear hsp p3 b3 B2 P2
  go_wp2_with fail
  refine hcp.mono ?_
  rintro e w4 ⟨rfl, b4⟩
  have B4 : Hid (Below w1.heap.size w1 w4) := B3.out.trans (b4.mono B3.out.size)
  have P4 : Hid (Pks 0 (.slice a2 (prefL l m).length c2) (prefL l m) w4) := P3.out.below b4
  clear hcp b4 B3 P3
  by_cases hbad : ¬ (0 ≤ m ∧ m ≤ (n : Int))
  · have hsp := HA.out.sp w4 B4.out
    have hd : (decide (m < 0) || decide ((n : Int) < m)) = true := by
      rw [Bool.or_eq_true, decide_eq_true_eq, decide_eq_true_eq]
      omega
    by_cases hm0 : m < 0
    · clear HA hd hbad
      go_wp2_with fail
      refine Calls.mono hsp ?_
      rintro e w5 ⟨v5, rfl, p5, b5⟩
      have B5 : Hid (Below w1.heap.size w1 w5) := B4.out.trans (b5.mono B4.out.size)
      have hcp := coPks (P4.out.below b5) p5 HPL.out
      clear hsp p5 b5 B4 P4
      go_wp2_with fail
      refine hcp.mono ?_
      rintro e w6 ⟨rfl, b6⟩
      have B6 : Hid (Below w1.heap.size w1 w6) := B5.out.trans (b6.mono B5.out.size)
      clear hcp b6 B5
      go_wp2_with fail
      go_ret
      exact ⟨rfl, HB1.out.trans (B6.out.mono HB1.out.size)⟩
    · have hmn : (n : Int) < m := by omega
      clear HA hd hbad
      go_wp2_with fail
      refine Calls.mono hsp ?_
      rintro e w5 ⟨v5, rfl, p5, b5⟩
      have B5 : Hid (Below w1.heap.size w1 w5) := B4.out.trans (b5.mono B4.out.size)
      have hcp := coPks (P4.out.below b5) p5 HPL.out
      clear hsp p5 b5 B4 P4
      go_wp2_with fail
      refine hcp.mono ?_
      rintro e w6 ⟨rfl, b6⟩
      have B6 : Hid (Below w1.heap.size w1 w6) := B5.out.trans (b6.mono B5.out.size)
      clear hcp b6 B5
      go_wp2_with fail
      go_ret
      exact ⟨rfl, HB1.out.trans (B6.out.mono HB1.out.size)⟩
  obtain ⟨M, rfl⟩ : ∃ M : Nat, m = (M : Int) := ⟨m.toNat, by omega⟩
  have hM : M ≤ n := by omega
  have hdM : ¬ ((n : Int) < (M : Int)) := by omega
  have hdn : decide (n < M) = false := decide_eq_false (by omega)
  have hdz : decide ((M : Int) < 0) = false := decide_eq_false (by omega)
  have hra := HA.out.ra w4 B4.out
  clear hbad hm1 hm2
  go_wp2_with fail
  refine Calls.mono hra ?_
  rintro e w6 ⟨v6, rfl, p6, b6⟩
  obtain ⟨a6, c6, rfl, -⟩ := pks_form p6
  have S6 : Hid (PrS w1 w6 a2 c2 (prefL l (M : Int)) a6 c6 (ofL l)) := ⟨B4.out.trans (b6.mono B4.out.size), P4.out.below b6, p6.mono (Nat.zero_le _)⟩
  clear hra b6 p6 B4 P4
  by_cases h0 : ofL l = []
  · have hp0 : (prefL l (M : Int)).length = 0 := by rw [ofL_nil h0]; rfl
    have ha0 : (ofL l).length = 0 := by rw [h0]; rfl
    rw [hp0, ha0] at *
    clear HA
    go_wp2_with fail
    go_ret
    exact ⟨rfl, HB1.out.trans (S6.out.b.mono HB1.out.size)⟩
  have HN : Hid (PrN l n M (prefL l (M : Int)) (ofL l) (sumD l M (n - M))) := prN HA.out.nl h0 hM
  have hal : ¬ ((ofL l).length : Int) = 0 := by
    intro hh
    exact h0 (List.eq_nil_of_length_eq_zero (by omega))
  have HNE : Hid (¬ (ofL l).length = 0) := by show ¬ _; omega
  generalize sumD l M (n - M) = sd at HN
  generalize hPP : prefL l (M : Int) = P at S6 HN HPL ⊢
  generalize ofL l = A at S6 HN hal HNE ⊢
  clear hPP h0
  have hdA : (A.length == 0) = false := by
    rw [beq_eq_false_iff_ne]
    exact HNE.out
  go_wp2_with fail
  go_loopw [7, 8, 9] (fun ct wk i wr => ∃ k : Nat, k ≤ P.length ∧ ct = .int .i64 (cntTo P k) ∧ wk = .int .i64 (wrkTo P k) ∧ i = .int .i64 (k : Int) ∧ Hid (PrS w1 wr a2 c2 P a6 c6 A)) (fun _ _ i _ => P.length - (intOf i).toNat)
  case atStart => exact ⟨0, Nat.zero_le _, rfl, rfl, rfl, S6⟩
  case round =>
    clear S6
    obtain ⟨k, hk, rfl, rfl, rfl, S⟩ := hrel
    by_cases hlt : k < P.length
    · obtain ⟨gp, hap, hat⟩ := pks_at S.out.p hlt
      subst hap
      have q1 := AtP.c1 hat k hlt
      have q2 := AtP.c2 hat k hlt
      have hp20 := HN.out.small.1
      have lk : (k : Int) < (P.length : Int) := by omega
      have lk0 : (0 : Int) ≤ (k : Int) := by omega
      have hf1 := cnt_few HN.out.ok k (by omega)
      have hf2 := cnt_few HN.out.ok (k + 1) hlt
      have HC1 : Hid (cntTo P (k + 1) = cntTo P k + (P.getD k default).count) := rfl
      have HW1 : Hid (wrkTo P (k + 1) = wrkTo P k + (P.getD k default).work) := rfl
      rw [HC1.out, HW1.out] at hf2
      have wk : IntKind.i64.wrap ((k : Int) + 1) = (k : Int) + 1 := by rw [IntKind.wrap_i64]; omega
      have wc : IntKind.i64.wrap (cntTo P k + (P.getD k default).count) = cntTo P (k + 1) := by rw [HC1.out, IntKind.wrap_i64]; push_cast at hf2; omega
      have ww : IntKind.i64.wrap (wrkTo P k + (P.getD k default).work) = wrkTo P (k + 1) := by rw [HW1.out, IntKind.wrap_i64]; push_cast at hf2; omega
      have HK1 : Hid (k + 1 ≤ P.length) := hlt
      clear hf1 hf2 hat HC1 HW1
      generalize P.getD k default = t at q1 q2 wc ww
      go_wp2_with fail
      go_roundw
      case rel => exact ⟨k + 1, HK1.out, rfl, rfl, by go_num, S⟩
      case measure => have := HK1.out; simp [intOf]; omega
    · obtain rfl : k = P.length := by omega
      rw [HN.out.cnt, HN.out.wrk]
      clear hlt hk
      go_wp2_with fail
      go_loopw [10, 11] (fun rs i wr => ∃ k : Nat, M ≤ k ∧ k ≤ n ∧ rs = .int .i64 (sumD l M (k - M)) ∧ i = .int .i64 (k : Int) ∧ Hid (PrS w1 wr a2 c2 P a6 c6 A)) (fun _ i _ => n - (intOf i).toNat)
      case atStart => exact ⟨M, Nat.le_refl _, hM, by rw [Nat.sub_self]; rfl, rfl, S⟩
      case round =>
        clear S
        obtain ⟨k, hk1, hk2, rfl, rfl, S⟩ := hrel
        by_cases hlt : k < n
        · have hkl : k < l.length := by rw [← HA.out.nl]; exact hlt
          have hat : AtHead wr g l := HA.out.at_.below S.out.b HA.out.at_.1
          have q3 := AtHead.c3 hat k hkl
          have hn20 := HA.out.n20
          have lk : (k : Int) < (n : Int) := by omega
          have lk0 : (0 : Int) ≤ (k : Int) := by omega
          have hf1 := sumD_few HN.out.hk M (k - M) (by omega)
          have hf2 := sumD_few HN.out.hk M (k - M + 1) (by omega)
          have HS1 : Hid (sumD l M (k - M + 1) = sumD l M (k - M) + (l.getD k default).diff) := by
            show sumD l M (k - M) + (l.getD (M + (k - M)) default).diff = _
            rw [show M + (k - M) = k from by omega]
          rw [HS1.out] at hf2
          have wk : IntKind.i64.wrap ((k : Int) + 1) = (k : Int) + 1 := by rw [IntKind.wrap_i64]; omega
          have wc : IntKind.i64.wrap (sumD l M (k - M) + (l.getD k default).diff) = sumD l M (k + 1 - M) := by rw [show k + 1 - M = k - M + 1 from by omega, HS1.out, IntKind.wrap_i64]; push_cast at hf2; omega
          have HK1 : Hid (M ≤ k + 1 ∧ k + 1 ≤ n) := by show _ ∧ _; omega
          clear hf1 hf2 hat HS1 hkl
          generalize l.getD k default = t at q3 wc
          go_wp2_with fail
          go_roundw
          case rel => exact ⟨k + 1, HK1.out.1, HK1.out.2, rfl, by go_num, S⟩
          case measure => have := HK1.out; simp [intOf]; omega
        · obtain rfl : k = n := by omega
          rw [HN.out.sum]
          clear hlt hk1 hk2
          have l1 : (M : Int) ≤ (c : Int) := by have := HA.out.nc; omega
          have l2 : (0 : Int) ≤ (M : Int) := by omega
          have hrb := HA.out.rb M c wr hM S.out.b
          have HYS : Hid _ := HN.out.yes
          have HFW : Hid (P.length ≤ k - M) := HN.out.few
          have hw9 : IntKind.i64.wrap ((k : Int) - (M : Int)) = ((k - M : Nat) : Int) := by rw [IntKind.wrap_i64]; have := HA.out.n20; omega
          have hle9 : (P.length : Int) ≤ ((k - M : Nat) : Int) := by have := HFW.out; omega
          have HTL : Hid ((ofL (l.take M)).length ≤ 1048576) := Nat.le_trans (ofL_len _) (by decide)
          unfold RofPost at hrb
          generalize ofL (l.take M) = T at hrb HYS HTL
          go_wp2_with fail
          refine Calls.mono hrb ?_
          rintro e w7 ⟨v7, rfl, p7, b7⟩
          have S7 : Hid (PrS w1 w7 a2 c2 P a6 c6 A) := S.out.call b7
          have P7 : Hid (Pks 0 v7 T w7) := p7.mono (Nat.zero_le _)
          have hrt := HA.out.rt 0 _ A w7 S7.out.q (by
            obtain ⟨ga, hga, _⟩ := pks_at S7.out.q (Nat.pos_of_ne_zero HNE.out)
            exact ⟨_, _, _, by rw [hga]⟩) (by have := HN.out.small.2; omega) S7.out.b
          clear hrb p7 b7 S
          go_wp2_with fail
          refine Calls.mono hrt ?_
          rintro e w8 ⟨rfl, b8⟩
          have S8 : Hid (PrS w1 w8 a2 c2 P a6 c6 A) := S7.out.call b8
          have hck := HA.out.ck 0 0 v7 T ⟨(rangeRoot A).toArray⟩ a2 P.length c2 P w8 (P7.out.below b8) S8.out.p HTL.out HPL.out S8.out.b
          rw [HYS.out] at hck
          clear hrt b8 S7 P7
          go_wp2_with fail
          refine Calls.mono hck ?_
          rintro e w9 ⟨rfl, b9⟩
          have B9 : Hid (Below w1.heap.size w1 w9) := (S8.out.call b9).b
          clear hck b9 S8
          go_wp2_with fail
          go_ret
          exact ⟨rfl, HB1.out.trans (B9.out.mono HB1.out.size)⟩

end Go.Proofs.YtoojimfimlpplaaGreatDoor

set_option linter.unusedVariables false
namespace Go.Proofs.YtoojimfimlpplaaGreatDoor
open Go.RowKit Go.Deep

def RowPost (l : List HeadV) (w : World) (e : Ending) (w' : World) : Prop := ∃ v, e = .returned v ∧ (headsB l = true → PRow w.heap.size v (ofP l l.length) w') ∧ Below w.heap.size w w'
theorem row_no {l : List HeadV} {w w' : World} (h : headsB l = false) (hb : Below w.heap.size w w') : RowPost l w (.returned (.slice none 0 0)) w' := ⟨_, rfl, fun h2 => absurd h2 (by rw [h]; decide), hb⟩
theorem row_yes {l : List HeadV} {w w' : World} {v : Value} (hr : PRow w.heap.size v (ofP l l.length) w') (hb : Below w.heap.size w w') : RowPost l w (.returned v) w' := ⟨_, rfl, fun _ => hr, hb⟩

set_option maxHeartbeats 4000000 in
set_option maxRecDepth 100000 in
theorem implRangeOfRow (g n cap : Nat) (l : List HeadV) (w : World) (hA : AtHead w g l) (hn : n = l.length) (hm : n ≤ 1048576) (hK : RowG w shaK) (hP : TabP w) :
    Calls Tryz.prog 9 #[.slice (some ⟨g, 0, none⟩) n cap] w fun e w' => RowPost l w e w' := by
  have hhs := implRangeHeadsOk g n cap l w hA hn hm
  have HA : Hid (AtHead w g l) := hA
  have HN : Hid (n = l.length) := hn
  have HNO : Hid (∀ w', headsB l = false → Below w.heap.size w w' → RowPost l w (.returned (.slice none 0 0)) w') := fun w' h1 h2 => row_no h1 h2
  have HYES : Hid (∀ w' v, headsB l = true → PRow w.heap.size v (ofP l n) w' → Below w.heap.size w w' → RowPost l w (.returned v) w') := fun w' v h1 h2 h3 => row_yes (by rw [← hn]; exact h2) h3
  generalize RowPost l w = Q at HNO HYES ⊢
  cases hk : headsB l with
  | false =>
    have HV : Hid (∀ w', Below w.heap.size w w' → Q (.returned (.slice none 0 0)) w') := fun w' h => HNO.out w' hk h
    rw [hk] at hhs
    clear HNO HYES hA hn hK hP
    go_enter Tryz.func9, Tryz.ntmps9
    go_wp2_with fail
    refine hhs.mono ?_
    rintro e w1 ⟨rfl, b1⟩
    go_wp2_with fail
    exact HV.out _ b1
  | true =>
  have HV : Hid (∀ w' v, PRow w.heap.size v (ofP l n) w' → Below w.heap.size w w' → Q (.returned v) w') := fun w' v h2 h3 => HYES.out w' v hk h2 h3
  have HM : Hid (n ≤ 20) := by show _ ≤ _; have := heads_len hk; omega
  have HPU : Hid (∀ k, k < n → ∀ (w' : World) (g4 : Nat), Stk w w' g4 (ofP l k) → Calls Tryz.prog 21 #[.pointer (some ⟨g4, 0, none⟩), peakVal (leafP (l.getD k default))] w' fun e w'' => PushRes w g4 (ofP l (k + 1)) e w'') := fun k hkn w' g4 hs => by
    obtain ⟨h1, h2, h3⟩ := ofP_ok (heads_at hk) (heads_len hk) k (by omega)
    have hh := heads_at hk k (by omega)
    exact implPush w g4 (ofP l k) _ w' hs (by have := heads_len hk; omega) (fun i hi => getD_all (C := fun q => peakOkB q = true) h1 i hi) (room_leaf hh (by rw [h2]; have := heads_len hk; omega)) hK hP
  have HPH : Hid (∀ k, k < n → ∀ (w' : World), Below w.heap.size w w' → Calls Tryz.prog 22 #[headVal (l.getD k default)] w' fun e w'' => e = .returned (peakVal (leafP (l.getD k default))) ∧ Below w'.heap.size w' w'') := fun k hkn w' hb => implPeakHead _ w' (heads_at hk k (by omega)) (hK.below hb hK.lt) (TabP.below hP hb (Nat.le_refl _))
  rw [hk] at hhs
  clear HNO HYES hA hn hK hP hk
  unfold headVal at HPH
  unfold peakVal at HPH HPU
  go_enter Tryz.func9, Tryz.ntmps9
  go_wp2_with fail
  refine hhs.mono ?_
  rintro e w1 ⟨rfl, b1⟩
  have B1 : Hid (Below w.heap.size w w1) := b1
  clear b1 hhs
  go_wp2_with fail
  refine Calls.mono (implPeakStackNil w1) ?_
  rintro e w2 ⟨g4, rfl, hs2⟩
  have S2 : Hid (Stk w w2 g4 (ofP l 0)) := hs2.lower B1.out
  clear hs2 B1
  go_wp2_with fail
  go_loopw [12] (fun i wr => ∃ k : Nat, k ≤ n ∧ i = .int .i64 (k : Int) ∧ Hid (Stk w wr g4 (ofP l k))) (fun i _ => n - (intOf i).toNat)
  case atStart => exact ⟨0, by omega, rfl, S2⟩
  case round =>
    clear S2
    obtain ⟨k, hk, rfl, SK⟩ := hrel
    by_cases hlt : k < n
    · have hkl : k < l.length := by rw [← HN.out]; exact hlt
      have HAr := HA.out.below SK.out.b HA.out.1
      have c0 := AtHead.c0 HAr k hkl
      have c1 := AtHead.c1 HAr k hkl
      have c2 := AtHead.c2 HAr k hkl
      have c3 := AtHead.c3 HAr k hkl
      have c4 := AtHead.c4 HAr k hkl
      have lk : (k : Int) < (n : Int) := by omega
      have lk0 : (0 : Int) ≤ (k : Int) := by omega
      have wk : IntKind.i64.wrap ((k : Int) + 1) = (k : Int) + 1 := by have := HM.out; rw [IntKind.wrap_i64]; omega
      have HK1 : Hid (k + 1 ≤ n) := hlt
      have HPUk := HPU.out k hlt
      have HPHk := HPH.out k hlt
      have HPUk : Hid _ := HPUk
      have HPHk : Hid _ := HPHk
      clear hkl HAr
      generalize leafP (l.getD k default) = p at HPUk HPHk
      generalize l.getD k default = h at c0 c1 c2 c3 c4 HPHk
      have L0 : Hid (Below wr.heap.size wr (wr.alloc (.cells #[.string h.prev, .string h.root, .int .i64 h.time, .int .i64 h.diff, .int .i64 h.nonce] 33))) := (Below.refl _ wr).alloc (Nat.le_refl _) _
      have SA : Hid (Stk w (wr.alloc (.cells #[.string h.prev, .string h.root, .int .i64 h.time, .int .i64 h.diff, .int .i64 h.nonce] 33)) g4 (ofP l k)) := SK.out.call L0.out
      have hph := HPHk.out _ SA.out.b
      clear SK HPHk
      go_wp2_with fail
      refine hph.mono ?_
      rintro e w3 ⟨rfl, b3⟩
      have S3 : Hid (Stk w w3 g4 (ofP l k)) := SA.out.call b3
      have hpu := HPUk.out _ _ S3.out
      clear SA b3 hph HPUk c0 c1 c2 c3 c4 L0
      go_wp2_with fail
      refine Calls.mono hpu ?_
      rintro e w4 ⟨rfl, hs4⟩
      have S4 : Hid (Stk w w4 g4 (ofP l (k + 1))) := hs4
      clear hs4 hpu S3
      go_wp2_with fail
      go_roundw
      case rel => exact ⟨k + 1, HK1.out, by go_num, S4⟩
      case measure => have := HK1.out; simp [intOf]; omega
    · obtain rfl : k = n := by omega
      obtain ⟨r, c, M, hw⟩ := id SK.out
      have SW : Hid (StkW w wr g4 r c M (ofP l k)) := hw
      clear hw SK HPU HPH
      obtain ⟨a0, a1, a2⟩ := SW.out.outs
      go_wp2_with fail
      exact HV.out _ _ SW.out.frow SW.out.b

end Go.Proofs.YtoojimfimlpplaaGreatDoor

