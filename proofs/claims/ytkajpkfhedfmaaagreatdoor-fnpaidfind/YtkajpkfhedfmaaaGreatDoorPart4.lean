/-
  Texts that the last part needs, joined.
-/
import Derived.Test.YtkajpkfhedfmaaaGreatDoorPart1
import Derived.Test.YtkajpkfhedfmaaaGreatDoorPart2
import Derived.Test.YtkajpkfhedfmaaaGreatDoorPart3
import Derived.Deep.RegionHeld3
import Derived.Lib.AppendIntMem
import Derived.Test.YtkajpkfhedfmaaaGreatDoorProg
import Derived.WalkSpells
import Derived.WalkKit
import Derived.Below
import Derived.ArgAppend
import Derived.Laws.IdiomStrings
import Derived.Lib.Builder
import Derived.Lib.UnsafeStr
import Derived.RegionTactic
import Derived.Deep.RegionWith
import Derived.Deep.RegionHeld2
import Derived.Deep.Cut
import Derived.BigRegion
import Derived.BigQuiet
import Derived.Deep.QuietTactic
import Derived.ChangeAlike
set_option linter.unusedVariables false
namespace Go.Proofs.YtkajpkfhedfmaaaGreatDoor
open Go.RowKit

theorem sum_size {s : ByteArray} (h : isSum s.data.toList = true) : s.size = 16 := by simpa using isSum_len h
/-- The five cells of a head. -/
def HAt (w : World) (g : Nat) (p r : ByteArray) (t d n : Int) : Prop := w.cell? ⟨g, 0, none⟩ = some (.string p) ∧ w.cell? ⟨g, 1, none⟩ = some (.string r) ∧ w.cell? ⟨g, 2, none⟩ = some (.int .i64 t) ∧ w.cell? ⟨g, 3, none⟩ = some (.int .i64 d) ∧ w.cell? ⟨g, 4, none⟩ = some (.int .i64 n)
theorem HAt.below {w w' : World} {g B : Nat} {p r : ByteArray} {t d n : Int} (h : HAt w g p r t d n) (hb : Below B w w') (hg : g < B) : HAt w' g p r t d n :=
  ⟨(hb.cell (p := ⟨g, 0, none⟩) hg).trans h.1, (hb.cell (p := ⟨g, 1, none⟩) hg).trans h.2.1, (hb.cell (p := ⟨g, 2, none⟩) hg).trans h.2.2.1, (hb.cell (p := ⟨g, 3, none⟩) hg).trans h.2.2.2.1, (hb.cell (p := ⟨g, 4, none⟩) hg).trans h.2.2.2.2⟩
theorem HAt.drew {w : World} {g : Nat} {p r : ByteArray} {t d n : Int} (h : HAt w g p r t d n) : HAt w.drew g p r t d n := h
theorem HAt.new (w : World) (T : TypeId) (p r : ByteArray) (t d n : Int) : HAt (w.alloc (.cells #[.string p, .string r, .int .i64 t, .int .i64 d, .int .i64 n] T)) w.heap.size p r t d n := by
  have hh := heap_alloc_new w (.cells #[.string p, .string r, .int .i64 t, .int .i64 d, .int .i64 n] T)
  refine ⟨?_, ?_, ?_, ?_, ?_⟩ <;> (rw [Lib.cell_of_heap hh]; rfl)

set_option maxHeartbeats 2000000 in
set_option maxRecDepth 100000 in
theorem specL3Put (h : HeadV) (w : World) (hok : headOkB h = true) :
    Calls Tryz.prog 135 #[.agg #[.string h.prev, .string h.root, .int .i64 h.time, .int .i64 h.diff, .int .i64 h.nonce]] w fun e w' => e = .returned (.string ⟨(headT h).toArray⟩) ∧ Below w.heap.size w w' := by
  obtain ⟨h1, h2, h3, h4, h5⟩ := headOk_in hok
  have HEQ : Hid (h.prev ++ ⟨#[32]⟩ ++ h.root ++ ⟨#[32]⟩ ++ ⟨(Lib.decDigits h.time.toNat).toArray⟩ ++ ⟨#[32]⟩ ++ ⟨(Lib.decDigits h.diff.toNat).toArray⟩ ++ ⟨#[32]⟩ ++ ⟨(Lib.decDigits h.nonce.toNat).toArray⟩ = (⟨(headT h).toArray⟩ : ByteArray)) := by
    show _ = _
    apply ByteArray.ext
    simp [headT, joinTo, headL]
  generalize (⟨(headT h).toArray⟩ : ByteArray) = T at HEQ
  obtain ⟨p, r, t, d, n⟩ := h
  dsimp only at h1 h2 h3 h4 h5 HEQ ⊢
  obtain ⟨tn, rfl⟩ : ∃ x : Nat, t = (x : Int) := ⟨t.toNat, by omega⟩
  obtain ⟨dn, rfl⟩ : ∃ x : Nat, d = (x : Int) := ⟨d.toNat, by omega⟩
  obtain ⟨nn, rfl⟩ : ∃ x : Nat, n = (x : Int) := ⟨n.toNat, by omega⟩
  simp only [Int.toNat_natCast] at HEQ
  have hps := sum_size h1
  have hrs := sum_size h2
  have ht := fun w' => specDec tn w' (by omega)
  have hd := fun w' => specDec dn w' (by omega)
  have hn := fun w' => specDec nn w' (by omega)
  have htl : (Lib.decDigits tn).length ≤ 19 := decLen (by omega)
  have hdl : (Lib.decDigits dn).length ≤ 19 := decLen (by omega)
  have hnl : (Lib.decDigits nn).length ≤ 19 := decLen (by omega)
  generalize Lib.decDigits tn = dt at ht htl HEQ
  generalize Lib.decDigits dn = dd at hd hdl HEQ
  generalize Lib.decDigits nn = dnn at hn hnl HEQ
  have H0 := HAt.new w 36 p r (tn : Int) (dn : Int) (nn : Int)
  have B0 : Below w.heap.size w (w.alloc (.cells #[.string p, .string r, .int .i64 (tn : Int), .int .i64 (dn : Int), .int .i64 (nn : Int)] 36)) := (Below.refl _ w).alloc (Nat.le_refl _) _
  have L0 : w.heap.size < (w.alloc (.cells #[.string p, .string r, .int .i64 (tn : Int), .int .i64 (dn : Int), .int .i64 (nn : Int)] 36)).heap.size := by simp
  have q1 : ¬ 9223372036854775807 < 34 + dt.length := by omega
  have q2 : ¬ 9223372036854775807 < 34 + dt.length + 1 := by omega
  have q3 : ¬ 9223372036854775807 < 34 + dt.length + 1 + dd.length := by omega
  have q4 : ¬ 9223372036854775807 < 34 + dt.length + 1 + dd.length + 1 := by omega
  have q5 : ¬ 9223372036854775807 < 34 + dt.length + 1 + dd.length + 1 + dnn.length := by omega
  clear hok h1 h2
  go_enter Tryz.func135, Tryz.ntmps135
  go_wp2_with fail
  go_region_held3 (fun w' => w'.cell? ⟨w.heap.size, 0, none⟩ = some (.string p) ∧ w'.cell? ⟨w.heap.size, 1, none⟩ = some (.string r) ∧ w'.cell? ⟨w.heap.size, 2, none⟩ = some (.int .i64 (tn : Int)) ∧ w'.cell? ⟨w.heap.size, 3, none⟩ = some (.int .i64 (dn : Int)) ∧ w'.cell? ⟨w.heap.size, 4, none⟩ = some (.int .i64 (nn : Int)))
    (first | exact H3 | exact H2 | exact H1 | exact H0 | go_keep)
    (first
      | (go_at_call_of 155 (Value.int IntKind.i64 (tn : Int)); refine (ht _).mono ?_; rintro e w1 ⟨rfl, b1⟩; have H1 : HAt w1 w.heap.size p r (tn : Int) (dn : Int) (nn : Int) := H0.drew.below b1 L0; have B1 : Below w.heap.size w w1 := B0.drew.trans (b1.mono B0.size); have L1 : w.heap.size < w1.heap.size := Nat.lt_of_lt_of_le L0 b1.size)
      | (go_at_call_of 155 (Value.int IntKind.i64 (dn : Int)); refine (hd _).mono ?_; rintro e w2 ⟨rfl, b2⟩; have H2 : HAt w2 w.heap.size p r (tn : Int) (dn : Int) (nn : Int) := H1.below b2 L1; have B2 : Below w.heap.size w w2 := B1.trans (b2.mono B1.size); have L2 : w.heap.size < w2.heap.size := Nat.lt_of_lt_of_le L1 b2.size)
      | (go_at_call_of 155 (Value.int IntKind.i64 (nn : Int)); refine (hn _).mono ?_; rintro e w3 ⟨rfl, b3⟩; have H3 : HAt w3 w.heap.size p r (tn : Int) (dn : Int) (nn : Int) := H2.below b3 L2; have B3 : Below w.heap.size w w3 := B2.trans (b3.mono B2.size)))
  go_wp2_with fail
  go_ret
  refine ⟨?_, B3⟩
  rw [← HEQ.out]
  rfl

theorem itoa_nat (k : Nat) : Lib.itoa (k : Int) = Lib.decDigits k := by
  rw [Lib.itoa, if_neg (by omega)]
  rfl
theorem implItoa (k : Nat) (w : World) (hk : k ≤ 1000000000) (hP : TabP w) :
    Calls Tryz.prog 55 #[.int .i64 (k : Int)] w fun e w' => e = .returned (.string ⟨(Lib.decDigits k).toArray⟩) ∧ Below w.heap.size w w' := by
  refine (Tryz.strconv_Itoa (k : Int) (by omega) (by omega) w hP).mono ?_
  rintro e w' ⟨rfl, hw⟩
  rw [itoa_nat]
  refine ⟨rfl, ?_⟩
  obtain ⟨a, os, rfl⟩ := hw
  exact Lib.below_grow w.heap.size w (Nat.le_refl _) a os

/-- A head at block g of w', which came from w. -/
def HSt (w w' : World) (g : Nat) (p r : ByteArray) (t d n : Int) : Prop := HAt w' g p r t d n ∧ Below w.heap.size w w' ∧ g < w'.heap.size
theorem HSt.drew {w w' : World} {g : Nat} {p r : ByteArray} {t d n : Int} (h : HSt w w' g p r t d n) : HSt w w'.drew g p r t d n := ⟨h.1, h.2.1.drew, h.2.2⟩
theorem HSt.call {w w' w'' : World} {g : Nat} {p r : ByteArray} {t d n : Int} (h : HSt w w' g p r t d n) (hb : Below w'.heap.size w' w'') : HSt w w'' g p r t d n :=
  ⟨h.1.below hb h.2.2, h.2.1.trans (hb.mono h.2.1.size), Nat.lt_of_lt_of_le h.2.2 hb.size⟩
theorem HSt.alloc {w w' : World} {g : Nat} {p r : ByteArray} {t d n : Int} (h : HSt w w' g p r t d n) (o : Obj) : HSt w (w'.alloc o) g p r t d n :=
  h.call ((Below.refl _ w').alloc (Nat.le_refl _) o)
theorem HSt.new (w : World) (T : TypeId) (p r : ByteArray) (t d n : Int) : HSt w (w.alloc (.cells #[.string p, .string r, .int .i64 t, .int .i64 d, .int .i64 n] T)) w.heap.size p r t d n :=
  ⟨HAt.new w T p r t d n, (Below.refl _ w).alloc (Nat.le_refl _) _, by simp⟩
theorem HSt.out {w w' : World} {g : Nat} {p r : ByteArray} {t d n : Int} (h : HSt w w' g p r t d n) : w'.cell? ⟨g, 0, none⟩ = some (.string p) ∧ w'.cell? ⟨g, 1, none⟩ = some (.string r) ∧ w'.cell? ⟨g, 2, none⟩ = some (.int .i64 t) ∧ w'.cell? ⟨g, 3, none⟩ = some (.int .i64 d) ∧ w'.cell? ⟨g, 4, none⟩ = some (.int .i64 n) := h.1
theorem HSt.ne {w w' : World} {g : Nat} {p r : ByteArray} {t d n : Int} (h : HSt w w' g p r t d n) : ¬ g = w'.heap.size := by have := h.2.2; omega
theorem HSt.en {w w' : World} {g : Nat} {p r : ByteArray} {t d n : Int} (h : HSt w w' g p r t d n) : ¬ w'.heap.size = g := by have := h.2.2; omega
/-- Five empty texts in a block. -/
def FiveE (w : World) (b : Nat) : Prop := w.heap[b]? = some (.cells #[.string ⟨#[]⟩, .string ⟨#[]⟩, .string ⟨#[]⟩, .string ⟨#[]⟩, .string ⟨#[]⟩] 160 (0, 0))
theorem FiveE.call {w w' : World} {b : Nat} (h : FiveE w b) (hb : Below w.heap.size w w') : FiveE w' b := by
  unfold FiveE at h ⊢
  rw [hb.block b ?_]
  · exact h
  · rcases Nat.lt_or_ge b w.heap.size with h' | h'
    · exact h'
    · simp [Array.getElem?_eq_none h'] at h
theorem FiveE.drew {w : World} {b : Nat} (h : FiveE w b) : FiveE w.drew b := h
theorem FiveE.new (w : World) : FiveE (w.alloc (.cells #[.string ⟨#[]⟩, .string ⟨#[]⟩, .string ⟨#[]⟩, .string ⟨#[]⟩, .string ⟨#[]⟩] 160)) w.heap.size := heap_alloc_new w _

theorem FiveE.facts {w : World} {b : Nat} (h : FiveE w b) : w.cell? ⟨b, 0, none⟩ = some (.string ⟨#[]⟩) ∧ w.cell? ⟨b, 1, none⟩ = some (.string ⟨#[]⟩) ∧ w.cell? ⟨b, 2, none⟩ = some (.string ⟨#[]⟩) ∧ w.cell? ⟨b, 3, none⟩ = some (.string ⟨#[]⟩) ∧ w.cell? ⟨b, 4, none⟩ = some (.string ⟨#[]⟩) ∧ w.frozen? ⟨b, 0, none⟩ = false ∧ w.frozen? ⟨b, 1, none⟩ = false ∧ w.frozen? ⟨b, 2, none⟩ = false ∧ w.frozen? ⟨b, 3, none⟩ = false ∧ w.frozen? ⟨b, 4, none⟩ = false := by
  refine ⟨?_, ?_, ?_, ?_, ?_, Lib.frozen_of_heap h 0, Lib.frozen_of_heap h 1, Lib.frozen_of_heap h 2, Lib.frozen_of_heap h 3, Lib.frozen_of_heap h 4⟩ <;> (rw [Lib.cell_of_heap h]; rfl)

theorem thenAt {K : Act → World → Prop} {Q : Exit → Act → World → Prop} {e : Exit} {a : Act} {W : World} {A : World → Prop} (hA : A W) (h : ∀ W', A W' → Exit.then K Q e a W') : Exit.then K Q e a W := h W hA
theorem five_cells {w : World} {b : Nat} {T : TypeId} {x0 x1 x2 x3 x4 : ByteArray} (h : w.heap[b]? = some (.cells #[.string x0, .string x1, .string x2, .string x3, .string x4] T (0, 0))) : AtS w b [x0, x1, x2, x3, x4] := by
  refine ⟨?_, ?_⟩
  · rcases Nat.lt_or_ge b w.heap.size with h' | h'
    · exact h'
    · simp [Array.getElem?_eq_none h'] at h
  · intro i hi
    rw [Lib.cell_of_heap h]
    match i, hi with
    | 0, _ => rfl
    | 1, _ => rfl
    | 2, _ => rfl
    | 3, _ => rfl
    | 4, _ => rfl
theorem five_new (w : World) (T : TypeId) (x0 x1 x2 x3 x4 : ByteArray) : AtS (w.alloc (.cells #[.string x0, .string x1, .string x2, .string x3, .string x4] T)) w.heap.size [x0, x1, x2, x3, x4] := five_cells (heap_alloc_new w _)
theorem five_put {w : World} {b : Nat} (h : FiveE w b) (x0 x1 x2 x3 x4 : ByteArray) : AtS (((((w.setCell ⟨b, 0, none⟩ (.string x0)).setCell ⟨b, 1, none⟩ (.string x1)).setCell ⟨b, 2, none⟩ (.string x2)).setCell ⟨b, 3, none⟩ (.string x3)).setCell ⟨b, 4, none⟩ (.string x4)) b [x0, x1, x2, x3, x4] := by
  refine five_cells (T := 160) ?_
  unfold FiveE at h
  simp [World.setCell, Array.getElem?_modify, h]
theorem five_below {w0 w : World} {b : Nat} (h : Below w0.heap.size w0 w) (hb : w0.heap.size ≤ b) (x0 x1 x2 x3 x4 : ByteArray) : Below w0.heap.size w0 (((((w.setCell ⟨b, 0, none⟩ (.string x0)).setCell ⟨b, 1, none⟩ (.string x1)).setCell ⟨b, 2, none⟩ (.string x2)).setCell ⟨b, 3, none⟩ (.string x3)).setCell ⟨b, 4, none⟩ (.string x4)) :=
  ((((h.setCell (p := ⟨b, 0, none⟩) hb _).setCell (p := ⟨b, 1, none⟩) hb _).setCell (p := ⟨b, 2, none⟩) hb _).setCell (p := ⟨b, 3, none⟩) hb _).setCell (p := ⟨b, 4, none⟩) hb _
theorem five_size {hl : List ByteArray} {p r : ByteArray} {dt dd dn : List UInt8} (hl5 : hl = [p, r, ⟨dt.toArray⟩, ⟨dd.toArray⟩, ⟨dn.toArray⟩]) (h0 : p.size ≤ 1000) (h1 : r.size ≤ 1000) (h2 : dt.length ≤ 1000) (h3 : dd.length ≤ 1000) (h4 : dn.length ≤ 1000) : ∀ i, i < hl.length → (hl.getD i ByteArray.empty).size ≤ 1000 := by
  subst hl5
  intro i hi
  match i, hi with
  | 0, _ => exact h0
  | 1, _ => exact h1
  | 2, _ => exact h2
  | 3, _ => exact h3
  | 4, _ => exact h4

set_option maxHeartbeats 4000000 in
set_option maxRecDepth 100000 in
theorem implHeadPut (h : HeadV) (w : World) (hP : TabP w) :
    Calls Tryz.prog 63 #[.agg #[.string h.prev, .string h.root, .int .i64 h.time, .int .i64 h.diff, .int .i64 h.nonce]] w fun e w' => e = .returned (.string ⟨(headPut h).toArray⟩) ∧ Below w.heap.size w w' := by
  have hck := implHeadOk h
  cases hok : headOkB h with
  | false =>
    have e : headPut h = [] := by rw [headPut, hok]; rfl
    rw [e]
    simp only [hok] at hck
    go_enter Tryz.func63, Tryz.ntmps63
    go_wp2_with (go_at_call 60; refine (hck _).mono ?_; rintro e w1 ⟨rfl, b1⟩)
    go_ret
    exact ⟨rfl, ((Below.refl _ w).alloc (Nat.le_refl _) _).trans (b1.mono (by simp))⟩
  | true =>
    have e : headPut h = headT h := by rw [headPut, if_pos hok]
    rw [e]
    clear e
    simp only [hok] at hck
    obtain ⟨h1, h2, h3, h4, h5⟩ := headOk_in hok
    have HT : Hid (headT h = joinTo (headL h) [32] 4) := rfl
    have HL : Hid (headL h = [h.prev, h.root, ⟨(Lib.decDigits h.time.toNat).toArray⟩, ⟨(Lib.decDigits h.diff.toNat).toArray⟩, ⟨(Lib.decDigits h.nonce.toNat).toArray⟩]) := rfl
    generalize headL h = hl at HL HT
    generalize headT h = tx at HT
    obtain ⟨p, r, t, d, n⟩ := h
    dsimp only at h1 h2 h3 h4 h5 HL hck ⊢
    obtain ⟨tn, rfl⟩ : ∃ x : Nat, t = (x : Int) := ⟨t.toNat, by omega⟩
    obtain ⟨dn, rfl⟩ : ∃ x : Nat, d = (x : Int) := ⟨d.toNat, by omega⟩
    obtain ⟨nn, rfl⟩ : ∃ x : Nat, n = (x : Int) := ⟨n.toNat, by omega⟩
    simp only [Int.toNat_natCast] at HL
    have hps := sum_size h1
    have hrs := sum_size h2
    have ht := fun w' h' => implItoa tn w' (by omega) h'
    have hd := fun w' h' => implItoa dn w' (by omega) h'
    have hn := fun w' h' => implItoa nn w' (by omega) h'
    have htl : (Lib.decDigits tn).length ≤ 19 := decLen (by omega)
    have hdl : (Lib.decDigits dn).length ≤ 19 := decLen (by omega)
    have hnl : (Lib.decDigits nn).length ≤ 19 := decLen (by omega)
    generalize Lib.decDigits tn = dt at ht htl HL
    generalize Lib.decDigits dn = dd at hd hdl HL
    generalize Lib.decDigits nn = dnn at hn hnl HL
    have S00 : HSt w _ w.heap.size p r (tn : Int) (dn : Int) (nn : Int) := HSt.new w 36 p r (tn : Int) (dn : Int) (nn : Int)
    have HP : Hid (∀ w', Below w.heap.size w w' → TabP w') := fun w' hb => TabP.below hP hb (Nat.le_refl _)
    clear hok h1 h2 hP
    go_enter Tryz.func63, Tryz.ntmps63
    go_wp2_with (go_at_call 60; refine (hck _).mono ?_; rintro e w0 ⟨rfl, b0⟩)
    have S0 : HSt w w0 w.heap.size p r (tn : Int) (dn : Int) (nn : Int) := S00.call b0
    clear S00 b0 hck
    have n0 := HSt.ne S0
    have m0 := HSt.en S0
    go_region_held3 (fun w' => w'.cell? ⟨w.heap.size, 0, none⟩ = some (.string p) ∧ w'.cell? ⟨w.heap.size, 1, none⟩ = some (.string r) ∧ w'.cell? ⟨w.heap.size, 2, none⟩ = some (.int .i64 (tn : Int)) ∧ w'.cell? ⟨w.heap.size, 3, none⟩ = some (.int .i64 (dn : Int)) ∧ w'.cell? ⟨w.heap.size, 4, none⟩ = some (.int .i64 (nn : Int)))
      (first | (with_reducible first | exact S3.out | exact (S3.alloc _).out | exact S2.out | exact (S2.alloc _).out | exact S1.out | exact (S1.alloc _).out | exact S0.out | exact S0.drew.out | exact (S0.alloc _).drew.out) | go_keep)
      (first
        | (go_at_call_of 55 (Value.int IntKind.i64 (tn : Int)); refine (ht _ (HP.out _ (by first | exact S0.drew.2.1 | exact (S0.alloc _).drew.2.1))).mono ?_; rintro e w1 ⟨rfl, b1⟩; have S1 : HSt w w1 w.heap.size p r (tn : Int) (dn : Int) (nn : Int) := (by first | exact S0.drew.call b1 | exact (S0.alloc _).drew.call b1); have n1 := HSt.ne S1; have m1 := HSt.en S1; try have F1 := (FiveE.new w0).drew.call b1)
        | (go_at_call_of 55 (Value.int IntKind.i64 (dn : Int)); refine (hd _ (HP.out _ (by first | exact S1.2.1 | exact (S1.alloc _).2.1))).mono ?_; rintro e w2 ⟨rfl, b2⟩; have S2 : HSt w w2 w.heap.size p r (tn : Int) (dn : Int) (nn : Int) := (by first | exact S1.call b2 | exact (S1.alloc _).call b2); have n2 := HSt.ne S2; have m2 := HSt.en S2; (first | have F2 := F1.call b2 | have F2 := (FiveE.new w1).call b2 | skip))
        | (go_at_call_of 55 (Value.int IntKind.i64 (nn : Int)); refine (hn _ (HP.out _ (by first | exact S2.2.1 | exact (S2.alloc _).2.1))).mono ?_; rintro e w3 ⟨rfl, b3⟩; have S3 : HSt w w3 w.heap.size p r (tn : Int) (dn : Int) (nn : Int) := (by first | exact S2.call b3 | exact (S2.alloc _).call b3); (first | have F3 := F2.call b3 | have F3 := (FiveE.new w2).call b3 | skip); (first | obtain ⟨c0, c1, c2, c3, c4, z0, z1, z2, z3, z4⟩ := F3.facts | skip)))
    · refine thenAt (A := fun W' => AtS W' (w3.heap.size) hl ∧ Below w.heap.size w W') ⟨(by rw [HL.out]; exact five_new w3 _ p r _ _ _), (by exact (S3.alloc _).2.1)⟩ ?_
      rintro W ⟨HA, HB⟩
      have HZ : ∀ i, i < hl.length → (hl.getD i ByteArray.empty).size ≤ 1000 := five_size HL.out (by omega) (by omega) (by omega) (by omega) (by omega)
      have hlen : hl.length = 5 := by rw [HL.out]; rfl
      generalize w3.heap.size = b at HA ⊢
      clear S0 S1 S2 S3 b1 b2 b3 ht hd hn HP HL
      go_wp2_with fail
      refine (joinW b hl W HA hlen HZ).mono ?_
      rintro e w5 ⟨rfl, b5⟩
      go_wp2_with fail
      go_ret
      exact ⟨by rw [HT.out]; rfl, HB.trans (b5.mono HB.size)⟩
    · refine thenAt (A := fun W' => AtS W' (w2.heap.size) hl ∧ Below w.heap.size w W') ⟨(by rw [HL.out]; exact five_put F3 p r _ _ _), (by exact five_below S3.2.1 S2.2.1.size p r _ _ _)⟩ ?_
      rintro W ⟨HA, HB⟩
      have HZ : ∀ i, i < hl.length → (hl.getD i ByteArray.empty).size ≤ 1000 := five_size HL.out (by omega) (by omega) (by omega) (by omega) (by omega)
      have hlen : hl.length = 5 := by rw [HL.out]; rfl
      generalize w2.heap.size = b at HA ⊢
      clear S0 S1 S2 S3 b1 b2 b3 ht hd hn HP HL
      go_wp2_with fail
      refine (joinW b hl W HA hlen HZ).mono ?_
      rintro e w5 ⟨rfl, b5⟩
      go_wp2_with fail
      go_ret
      exact ⟨by rw [HT.out]; rfl, HB.trans (b5.mono HB.size)⟩
    · refine thenAt (A := fun W' => AtS W' (w1.heap.size) hl ∧ Below w.heap.size w W') ⟨(by rw [HL.out]; exact five_put F3 p r _ _ _), (by exact five_below S3.2.1 S1.2.1.size p r _ _ _)⟩ ?_
      rintro W ⟨HA, HB⟩
      have HZ : ∀ i, i < hl.length → (hl.getD i ByteArray.empty).size ≤ 1000 := five_size HL.out (by omega) (by omega) (by omega) (by omega) (by omega)
      have hlen : hl.length = 5 := by rw [HL.out]; rfl
      generalize w1.heap.size = b at HA ⊢
      clear S0 S1 S2 S3 b1 b2 b3 ht hd hn HP HL
      go_wp2_with fail
      refine (joinW b hl W HA hlen HZ).mono ?_
      rintro e w5 ⟨rfl, b5⟩
      go_wp2_with fail
      go_ret
      exact ⟨by rw [HT.out]; rfl, HB.trans (b5.mono HB.size)⟩
    · refine thenAt (A := fun W' => AtS W' (w0.heap.size) hl ∧ Below w.heap.size w W') ⟨(by rw [HL.out]; exact five_put F3 p r _ _ _), (by exact five_below S3.2.1 S0.2.1.size p r _ _ _)⟩ ?_
      rintro W ⟨HA, HB⟩
      have HZ : ∀ i, i < hl.length → (hl.getD i ByteArray.empty).size ≤ 1000 := five_size HL.out (by omega) (by omega) (by omega) (by omega) (by omega)
      have hlen : hl.length = 5 := by rw [HL.out]; rfl
      generalize w0.heap.size = b at HA ⊢
      clear S0 S1 S2 S3 b1 b2 b3 ht hd hn HP HL
      go_wp2_with fail
      refine (joinW b hl W HA hlen HZ).mono ?_
      rintro e w5 ⟨rfl, b5⟩
      go_wp2_with fail
      go_ret
      exact ⟨by rw [HT.out]; rfl, HB.trans (b5.mono HB.size)⟩

end Go.Proofs.YtkajpkfhedfmaaaGreatDoor

set_option linter.unusedVariables false
namespace Go.Proofs.YtkajpkfhedfmaaaGreatDoor
open Go.RowKit

theorem turn32_eq (x j : Nat) (hx : x < 4294967296) (hj : j ≤ 31) : bits .or .u32 ((x : Int) / 2 ^ j) ((x : Int) * 2 ^ (32 - j) % 4294967296) = ((rotr x j : Nat) : Int) := by
  have e1 : (x : Int) * 2 ^ (32 - j) % 4294967296 = ((x * 2 ^ (32 - j) % 4294967296 : Nat) : Int) := by simp
  have e2 : (x : Int) / 2 ^ j = ((x / 2 ^ j : Nat) : Int) := by simp
  rw [e1, e2, or32 _ _ (Nat.lt_of_le_of_lt (Nat.div_le_self _ _) hx) (Nat.mod_lt _ (by decide))]
  rfl

set_option maxHeartbeats 400000 in
set_option maxRecDepth 100000 in
theorem turnI (x : Nat) (k : Int) (w : World) (hx : x < 4294967296) (hk : 1 ≤ k) (hk' : k ≤ 31) :
    Calls Tryz.prog 127 #[.int .u32 x, .int .u64 k] w fun e w' => e = .returned (.int .u32 (rotr x k.toNat : Nat)) ∧ w = w' := by
  obtain ⟨j, rfl⟩ := Int.eq_ofNat_of_zero_le (show 0 ≤ k by omega)
  go_enter Tryz.func127, Tryz.ntmps127
  go_wp2
  go_ret
  rw [Int.toNat_natCast, ← turn32_eq x j hx (by omega)]
  exact ⟨rfl, rfl⟩

theorem x332 (p q r v : Nat) (hp : p < 4294967296) (hq : q < 4294967296) (hr : r < 4294967296) (hv : v = p ^^^ q ^^^ r) : bits .xor .u32 (bits .xor .u32 (p : Int) (q : Int)) (r : Int) = (v : Int) := by
  rw [xor32 _ _ hp hq, xor32 _ _ (xor_lt hp hq) hr, hv]

set_option maxHeartbeats 400000 in
set_option maxRecDepth 100000 in
theorem firstI (x : Nat) (w : World) (hx : x < 4294967296) :
    Calls Tryz.prog 97 #[.int .u32 x] w fun e w' => e = .returned (.int .u32 (big0 x : Nat)) ∧ w = w' := by
  have r := x332 (rotr x 2) (rotr x 13) (rotr x 22) (big0 x) (rotr_lt _ _ hx) (rotr_lt _ _ hx) (rotr_lt _ _ hx) rfl
  go_enter Tryz.func97, Tryz.ntmps97
  go_wp2_with (go_at_call 127; refine (turnI _ _ _ hx (by omega) (by omega)).mono ?_; rintro e w1 ⟨rfl, rfl⟩)
  go_ret
  exact ⟨rfl, rfl⟩

set_option maxHeartbeats 400000 in
set_option maxRecDepth 100000 in
theorem fifthI (x : Nat) (w : World) (hx : x < 4294967296) :
    Calls Tryz.prog 95 #[.int .u32 x] w fun e w' => e = .returned (.int .u32 (big1 x : Nat)) ∧ w = w' := by
  have r := x332 (rotr x 6) (rotr x 11) (rotr x 25) (big1 x) (rotr_lt _ _ hx) (rotr_lt _ _ hx) (rotr_lt _ _ hx) rfl
  go_enter Tryz.func95, Tryz.ntmps95
  go_wp2_with (go_at_call 127; refine (turnI _ _ _ hx (by omega) (by omega)).mono ?_; rintro e w1 ⟨rfl, rfl⟩)
  go_ret
  exact ⟨rfl, rfl⟩

set_option maxHeartbeats 400000 in
set_option maxRecDepth 100000 in
theorem nearI (x : Nat) (w : World) (hx : x < 4294967296) :
    Calls Tryz.prog 99 #[.int .u32 x] w fun e w' => e = .returned (.int .u32 (sig0 x : Nat)) ∧ w = w' := by
  have r := x332 (rotr x 7) (rotr x 18) (x / 8) (sig0 x) (rotr_lt _ _ hx) (rotr_lt _ _ hx) (by omega) rfl
  rw [show ((x / 8 : Nat) : Int) = (x : Int) / 8 from by simp] at r
  go_enter Tryz.func99, Tryz.ntmps99
  go_wp2_with (go_at_call 127; refine (turnI _ _ _ hx (by omega) (by omega)).mono ?_; rintro e w1 ⟨rfl, rfl⟩)
  go_ret
  exact ⟨rfl, rfl⟩

set_option maxHeartbeats 400000 in
set_option maxRecDepth 100000 in
theorem farI (x : Nat) (w : World) (hx : x < 4294967296) :
    Calls Tryz.prog 100 #[.int .u32 x] w fun e w' => e = .returned (.int .u32 (sig1 x : Nat)) ∧ w = w' := by
  have r := x332 (rotr x 17) (rotr x 19) (x / 1024) (sig1 x) (rotr_lt _ _ hx) (rotr_lt _ _ hx) (by omega) rfl
  rw [show ((x / 1024 : Nat) : Int) = (x : Int) / 1024 from by simp] at r
  go_enter Tryz.func100, Tryz.ntmps100
  go_wp2_with (go_at_call 127; refine (turnI _ _ _ hx (by omega) (by omega)).mono ?_; rintro e w1 ⟨rfl, rfl⟩)
  go_ret
  exact ⟨rfl, rfl⟩

set_option maxHeartbeats 400000 in
set_option maxRecDepth 100000 in
theorem chooseI (e f g : Nat) (w : World) (he : e < 4294967296) (hf : f < 4294967296) (hg : g < 4294967296) :
    Calls Tryz.prog 96 #[.int .u32 e, .int .u32 f, .int .u32 g] w fun r w' => r = .returned (.int .u32 (chs e f g : Nat)) ∧ w = w' := by
  have h1 : bits .xor .u32 IntKind.u32.max (e : Int) = ((4294967295 ^^^ e : Nat) : Int) := by
    have hm : IntKind.u32.max = ((4294967295 : Nat) : Int) := by decide
    rw [hm]
    exact xor32 4294967295 e (by decide) he
  have h2 : 4294967295 ^^^ e < 4294967296 := xor_lt (by decide) he
  have r : bits .xor .u32 (bits .and .u32 (e : Int) (f : Int)) (bits .and .u32 (bits .xor .u32 IntKind.u32.max (e : Int)) (g : Int)) = ((chs e f g : Nat) : Int) := by
    rw [h1, and32 _ _ he hf, and32 _ _ h2 hg, xor32 _ _ (and_lt hf) (and_lt hg)]
    rfl
  clear h1 h2
  go_enter Tryz.func96, Tryz.ntmps96
  go_wp2
  go_ret
  exact ⟨rfl, rfl⟩

set_option maxHeartbeats 400000 in
set_option maxRecDepth 100000 in
theorem mostI (a b c : Nat) (w : World) (ha : a < 4294967296) (hb : b < 4294967296) (hc : c < 4294967296) :
    Calls Tryz.prog 98 #[.int .u32 a, .int .u32 b, .int .u32 c] w fun r w' => r = .returned (.int .u32 (maj a b c : Nat)) ∧ w = w' := by
  have r : bits .xor .u32 (bits .xor .u32 (bits .and .u32 (a : Int) (b : Int)) (bits .and .u32 (a : Int) (c : Int))) (bits .and .u32 (b : Int) (c : Int)) = ((maj a b c : Nat) : Int) := by
    rw [and32 _ _ ha hb, and32 _ _ ha hc, and32 _ _ hb hc]
    exact x332 _ _ _ _ (and_lt hb) (and_lt hc) (and_lt hc) rfl
  go_enter Tryz.func98, Tryz.ntmps98
  go_wp2
  go_ret
  exact ⟨rfl, rfl⟩

end Go.Proofs.YtkajpkfhedfmaaaGreatDoor

namespace Go.Proofs.YtkajpkfhedfmaaaGreatDoor
open Go.RowKit

/-- A row of bytes of the call's own: none of its places is frozen. -/
def ByteRow (e : TypeId) (base : Nat) (w : World) (v : Value) (l : List UInt8) : Prop :=
  ∃ g cap cur fz, v = .slice (some ⟨g, 0, none⟩) l.length cap ∧ base ≤ g ∧ w.heap[g]? = some (.cells cur e fz) ∧ (fz = (0, 0) ∨ cap ≤ fz.1) ∧ l.length ≤ cap ∧ cap ≤ maxLen ∧ cur.size = cap ∧ cur.toList.take l.length = Lib.byteCells l

theorem ByteRow.cells {e : TypeId} {base : Nat} {w : World} {g n cap : Nat} {l : List UInt8} (h : ByteRow e base w (.slice (some ⟨g, 0, none⟩) n cap) l) (j : Nat) (hj : j < l.length) : w.cell? ⟨g, j, none⟩ = some (.int .u8 (l[j].toNat : Int)) := by
  obtain ⟨g', cap', cur, fz, hv, _, hb, _, _, _, hs, ht⟩ := h
  simp only [Value.slice.injEq, Option.some.injEq, Addr.mk.injEq, and_true] at hv
  obtain ⟨rfl, _, rfl⟩ := hv
  rw [Lib.cell_of_heap hb]
  have : cur.toList[j]? = (Lib.byteCells l)[j]? := by rw [← ht, List.getElem?_take]; simp [hj]
  rw [← Array.getElem?_toList, this]
  simp [Lib.byteCells, List.getElem?_eq_getElem hj]

theorem ByteRow.frozen {e : TypeId} {base : Nat} {w : World} {g n cap : Nat} {l : List UInt8} (h : ByteRow e base w (.slice (some ⟨g, 0, none⟩) n cap) l) (j : Nat) (hj : j < cap) : w.frozen? ⟨g, j, none⟩ = false ∧ (w.cell? ⟨g, j, none⟩).isSome = true := by
  obtain ⟨g', cap', cur, fz, hv, _, hb, hfz, _, _, hs, _⟩ := h
  simp only [Value.slice.injEq, Option.some.injEq, Addr.mk.injEq, and_true] at hv
  obtain ⟨rfl, _, rfl⟩ := hv
  refine ⟨?_, ?_⟩
  · unfold World.frozen?
    rw [hb]
    rcases hfz with rfl | hfz
    · simp
    · obtain ⟨lo, hi⟩ := fz
      simp only [Bool.and_eq_false_iff, decide_eq_false_iff_not]
      left
      simp at hfz
      omega
  · rw [Lib.cell_of_heap hb]
    simp
    omega

theorem ByteRow.keep {e : TypeId} {base B : Nat} {w w' : World} {v : Value} {l : List UInt8} (h : ByteRow e base w v l) (hb : Below B w w') (hlt : ∀ g n cap, v = .slice (some ⟨g, 0, none⟩) n cap → g < B) : ByteRow e base w' v l := by
  obtain ⟨g, cap, cur, fz, hv, h1, h2, h3⟩ := h
  exact ⟨g, cap, cur, fz, hv, h1, by rw [hb.block g (hlt _ _ _ hv)]; exact h2, h3⟩
theorem ByteRow.lt {e : TypeId} {base : Nat} {w : World} {g n cap : Nat} {l : List UInt8} (h : ByteRow e base w (.slice (some ⟨g, 0, none⟩) n cap) l) : base ≤ g ∧ g < w.heap.size := by
  obtain ⟨g', cap', cur, fz, hv, h1, hb, _⟩ := h
  simp only [Value.slice.injEq, Option.some.injEq, Addr.mk.injEq, and_true] at hv
  obtain ⟨rfl, _, rfl⟩ := hv
  refine ⟨h1, ?_⟩
  rcases Nat.lt_or_ge g w.heap.size with h' | h'
  · exact h'
  · simp [Array.getElem?_eq_none h'] at hb

/-- 'append(bs, b)' of one byte. -/
theorem wp_appB {P : Program} {w : World} {ops : Array Oper} {rest : List Oper} {o : Oper} {a : Act} {Q : Exit → Act → World → Prop} (hgd : o.guard = none) (s x : Operand) (t : TypeId)
    (ho : o.op = .call { callee := .builtin .append, args := #[s, x], argTypes := #[t, t] })
    (base : Nat) (e : TypeId) (i : TypeInfo) (ht : P.underlying t = some (.slice e)) (hi : P.info? e = some i) (hz : i.zero = some (.int .u8 0)) (hsize : i.size = 1) (hby : i.bytes = 1)
    (g n cap : Nat) (l : List UInt8) (hn : n = l.length) (hs : a.eval s = .slice (some ⟨g, 0, none⟩) n cap) (hrow : ByteRow e base w (.slice (some ⟨g, 0, none⟩) n cap) l)
    (b : UInt8) (c : Int) (hc : c = (b.toNat : Int)) (hx : a.eval x = .slice (some ⟨w.heap.size, 0, none⟩) 1 1)
    (h63 : n + 1 ≤ 140737488355328) (hbase : base ≤ w.heap.size)
    (h : ∀ g' cap' w', ByteRow e base w' (.slice (some ⟨g', 0, none⟩) (n + 1) cap') (l ++ [b]) → Below base w w' →
      wpList P ops Q rest (a.put o.dst (.slice (some ⟨g', 0, none⟩) (n + 1) cap')) w') :
    wpList P ops Q (o :: rest) a (w.alloc (.cells #[.int .u8 c] e)) := by
  subst hc
  subst hn
  have hlt := hrow.lt
  have hk : (w.alloc (.cells #[.int .u8 (b.toNat : Int)] e)).heap[g]? = w.heap[g]? := Below.heap_alloc _ _ _ hlt.2
  have hrow' : ByteRow e base (w.alloc (.cells #[.int .u8 (b.toNat : Int)] e)) (.slice (some ⟨g, 0, none⟩) l.length cap) l :=
    hrow.keep ((Below.refl w.heap.size w).alloc (Nat.le_refl _) _) (fun g' n' c' hv => by simp only [Value.slice.injEq, Option.some.injEq, Addr.mk.injEq, and_true] at hv; rw [← hv.1]; exact hlt.2)
  refine wpList_append_arg _ hgd s x t ho e i (.int .u8 0) 1 1 ht hi hz hsize hby rfl (by decide) g 0 l.length cap (Lib.byteCells l) hs (by rw [Lib.byteCells_length]; omega) ?_ ⟨w.heap.size, 0, none⟩ 1 1 [.int .u8 (b.toNat : Int)] hx rfl (cell_one_new _ _ _) ?_ ?_ (by unfold maxLen; omega) (by omega) ?_ ?_
  · intro j u hu
    have hj : j < l.length := by have := (List.getElem?_eq_some_iff.1 hu).1; rwa [Lib.byteCells_length] at this
    rw [Nat.zero_add, hrow'.cells j hj]
    simpa [Lib.byteCells, List.getElem?_eq_getElem hj] using hu
  · intro u hu
    simp at hu
    subst hu
    rfl
  · intro hroom j hj
    obtain rfl : j = 0 := by simpa using hj
    have := hrow'.frozen l.length (by omega)
    refine ⟨?_, ?_⟩
    · simpa using this.2
    · simpa using this.1
  · intro hroom
    have hset : (w.alloc (.cells #[.int .u8 (b.toNat : Int)] e)).setCells g (0 + l.length * 1) [.int .u8 (b.toNat : Int)] = (w.alloc (.cells #[.int .u8 (b.toNat : Int)] e)).setCell ⟨g, l.length, none⟩ (.int .u8 (b.toNat : Int)) := by
      simp [World.setCells]
    rw [hset]
    refine h g cap _ ?_ (((Below.refl base w).alloc hbase _).setCell (p := ⟨g, l.length, none⟩) hlt.1 _)
    obtain ⟨g', cap', cur, fz, hv, h1, hb, hfz, hle, hm, hsz, htk⟩ := hrow'
    simp only [Value.slice.injEq, Option.some.injEq, Addr.mk.injEq, and_true] at hv
    obtain ⟨rfl, _, rfl⟩ := hv
    refine ⟨g, cap, cur.setIfInBounds l.length (.int .u8 (b.toNat : Int)), fz, by simp, h1, ?_, hfz, by simp; omega, hm, by simp [hsz], ?_⟩
    · simp only [World.setCell, Array.getElem?_modify, hb]
      simp
    · rw [Lib.byteCells_append, List.length_append]
      show List.take (l.length + 1) _ = _
      rw [Array.toList_setIfInBounds]
      have hlc : l.length < cur.toList.length := by simp; omega
      rw [List.take_succ_eq_append_getElem (by simpa using hlc)]
      rw [List.take_set_of_le (Nat.le_refl _), htk]
      simp [Lib.byteCells]
  · intro hgrow v' w' hown hg
    obtain ⟨g', cap', cur, rfl, h1, hb, hle, hm, hsz, htk⟩ : ∃ g' cap' cur, v' = .slice (some ⟨g', 0, none⟩) (l.length + 1) cap' ∧ (w.alloc (.cells #[.int .u8 (b.toNat : Int)] e)).heap.size ≤ g' ∧ w'.heap[g']? = some (.cells cur e (0, 0)) ∧ l.length + 1 ≤ cap' ∧ cap' ≤ maxLen ∧ cur.size = cap' * 1 ∧ cur.toList.take ((l.length + 1) * 1) = Lib.byteCells l ++ [.int .u8 (b.toNat : Int)] := by
      rcases hown.2 with ⟨_, h0⟩ | ⟨g', cap', cur, hv, r⟩
      · omega
      · exact ⟨g', cap', cur, hv, r⟩
    refine h g' cap' w' ⟨g', cap', cur, (0, 0), by simp, by simp at h1; omega, hb, Or.inl rfl, by simp; omega, hm, by omega, ?_⟩ (((Below.refl base w).alloc hbase _).grown hg (by simp; omega) (fun k hk => by simp at hk))
    rw [Lib.byteCells_append, List.length_append]
    simpa [Lib.byteCells] using htk

end Go.Proofs.YtkajpkfhedfmaaaGreatDoor

set_option linter.unusedVariables false
namespace Go.Proofs.YtkajpkfhedfmaaaGreatDoor
open Go.RowKit

def lenB (n : Nat) : List UInt8 := (List.range 8).map fun j => UInt8.ofNat (n / 2 ^ (8 * (7 - j)) % 256)
def padZ (n : Nat) : Nat := padLen n - n - 9
def padB (t : List UInt8) : List UInt8 := t ++ 128 :: List.replicate (padZ t.length) 0 ++ lenB (t.length * 8)
theorem lenB_take (n j : Nat) (h : j < 8) : (lenB n).take (j + 1) = (lenB n).take j ++ [UInt8.ofNat (n / 2 ^ (8 * (7 - j)) % 256)] := by
  have hl : j < (lenB n).length := by simp [lenB]; omega
  rw [List.take_succ_eq_append_getElem hl]
  simp [lenB]
theorem len_digit (n j : Nat) (hn : n < 18446744073709551616) (hj : j < 8) : n * 256 ^ j % 18446744073709551616 / 72057594037927936 = n / 2 ^ (8 * (7 - j)) % 256 := by
  match j, hj with
  | 0, _ => simp; omega
  | 1, _ => simp; omega
  | 2, _ => simp; omega
  | 3, _ => simp; omega
  | 4, _ => simp; omega
  | 5, _ => simp; omega
  | 6, _ => simp; omega
  | 7, _ => simp; omega
theorem padB_length (t : List UInt8) : (padB t).length = padLen t.length := by
  simp [padB, lenB, padZ, padLen]
  omega

theorem infoU8i : (Tryz.prog.info? 5).map (fun i => (i.zero, i.size, i.bytes)) = some (some (.int .u8 0), 1, 1) := by kernel_rfl

theorem byteRow_of_text (e : TypeId) (w : World) (s : ByteArray) (hs : s.size ≤ 1073741824) :
    ByteRow e w.heap.size (w.drew.alloc (.cells (bytesRow s (grownCap w s.size 0 e)) e ((bytesRow s (grownCap w s.size 0 e)).size, (bytesRow s (grownCap w s.size 0 e)).size + 1))) (.slice (some ⟨w.heap.size, 0, none⟩) s.size (grownCap w s.size 0 e)) s.data.toList := by
  have hge := grownCap_ge w s.size 0 e
  have hcm := grownCap_le_maxLen w s.size 0 e (by unfold maxLen; omega)
  have hsz : (bytesRow s (grownCap w s.size 0 e)).size = grownCap w s.size 0 e := by
    simp [bytesRow]
    have : s.data.size = s.size := rfl
    omega
  refine ⟨w.heap.size, _, _, _, by simp, Nat.le_refl _, heap_alloc_new w.drew _, Or.inr (by rw [hsz]; exact Nat.le_refl _), by simpa using hge, hcm, hsz, ?_⟩
  simp [bytesRow, Lib.byteCells]

def lenOf : Value → Nat
  | .slice _ n _ => n
  | _ => 0

set_option maxHeartbeats 1000000 in
set_option maxRecDepth 100000 in
theorem paddedI (s : ByteArray) (w : World) (hs : s.size ≤ 1073741824) :
    Calls Tryz.prog 56 #[.string s] w fun e w' => ∃ g cap, e = .returned (.slice (some ⟨g, 0, none⟩) (padLen s.size) cap) ∧ ByteRow 5 w.heap.size w' (.slice (some ⟨g, 0, none⟩) (padLen s.size) cap) (padB s.data.toList) ∧ Below w.heap.size w w' := by
  obtain ⟨i0, hi, hz0, hz1, hz2⟩ := info_parts infoU8i
  have hcv := run_bytes_of_string (P := Tryz.prog) w 9 22 5 s Tryz.underlying9 Tryz.underlying22 Tryz.underlying5
  have hrow0 := byteRow_of_text 5 w s hs
  have hb0 : Below w.heap.size w (w.drew.alloc (.cells (bytesRow s (grownCap w s.size 0 5)) 5 ((bytesRow s (grownCap w s.size 0 5)).size, (bytesRow s (grownCap w s.size 0 5)).size + 1))) := (Below.drew (Below.refl _ w)).alloc (Nat.le_refl _) _
  generalize (w.drew.alloc (.cells (bytesRow s (grownCap w s.size 0 5)) 5 ((bytesRow s (grownCap w s.size 0 5)).size, (bytesRow s (grownCap w s.size 0 5)).size + 1))) = w1 at hcv hrow0 hb0
  generalize grownCap w s.size 0 5 = cap0 at hcv hrow0
  have hsz0 := hb0.size
  have hlen0 : s.size = s.data.toList.length := by simp
  have HL0 : Hid (s.size = s.data.toList.length) := hlen0
  clear hlen0
  go_enter Tryz.func56, Tryz.ntmps56
  go_wp2_with (at_builtin; refine wp_appB rfl _ _ 22 rfl w.heap.size 5 i0 Tryz.underlying22 hi hz0 hz1 hz2 w.heap.size s.size cap0 s.data.toList HL0.out rfl hrow0 128 128 rfl rfl (by omega) hsz0 ?_)
  intro g1 cap1 w2 hrow1 hb1
  clear hcv hrow0
  have hb2 := hb0.trans hb1
  have HZ : Hid (padLen s.size = s.size + 9 + padZ s.size ∧ padLen s.size % 64 = 0 ∧ padZ s.size ≤ 63) := by
    show _ ∧ _ ∧ _
    unfold padZ padLen
    omega
  have HPB : Hid (padB s.data.toList = s.data.toList ++ 128 :: List.replicate (padZ s.size) 0 ++ lenB (s.size * 8)) := by
    show _ = _
    rw [padB, ← HL0.out]
  obtain ⟨t, ht⟩ : ∃ t, t = s.data.toList := ⟨_, rfl⟩
  obtain ⟨L, hL⟩ : ∃ L, L = padLen s.size := ⟨_, rfl⟩
  rw [← ht] at hrow1 HL0 HPB
  rw [← hL] at HZ
  generalize padZ s.size = Z at HZ HPB
  have HTT : Hid (t = s.data.toList) := ht
  have HLL : Hid (L = padLen s.size) := hL
  clear ht hL
  go_wp2
  go_loopw [3] (fun v wr => ∃ k n g cap : Nat, k ≤ Z ∧ Hid (n = s.size + 1 + k) ∧ n ≤ 1073741900 ∧ v = .slice (some ⟨g, 0, none⟩) n cap ∧ ByteRow 5 w.heap.size wr (.slice (some ⟨g, 0, none⟩) n cap) (t ++ 128 :: List.replicate k 0) ∧ Below w.heap.size w wr) (fun v _ => L - lenOf v)
  case atStart => exact ⟨0, s.size + 1, g1, cap1, by omega, rfl, by omega, rfl, hrow1, hb2⟩
  case round =>
    clear hrow1 hb1 hb2
    obtain ⟨k, n, g, cap, hk, hn, hn2, rfl, hrow, hbw⟩ := hrel
    have hsz := hbw.size
    have hln : n = (t ++ 128 :: List.replicate k 0).length := by rw [hn.out]; simp; rw [← HL0.out]; omega
    by_cases hlt : k < Z
    · have hne : (((n : Int) % 64) != 56) = true := by
        have h1 := HZ.out; have h2 := hn.out
        rw [bne_iff_ne]
        omega
      have HLN : Hid (n = (t ++ 128 :: List.replicate k 0).length) := hln
      clear hln
      go_wp2_with (at_builtin; refine wp_appB rfl _ _ 22 rfl w.heap.size 5 i0 Tryz.underlying22 hi hz0 hz1 hz2 g n cap (t ++ 128 :: List.replicate k 0) HLN.out rfl hrow 0 0 rfl rfl (by omega) hsz ?_)
      intro g2 cap2 w3 hrow3 hb3
      have hrow4 : ByteRow 5 w.heap.size w3 (.slice (some ⟨g2, 0, none⟩) (n + 1) cap2) (t ++ 128 :: List.replicate (k + 1) 0) := by
        rw [List.replicate_succ']
        simpa using hrow3
      clear hrow3
      go_wp2
      go_roundw
      case rel => exact ⟨k + 1, n + 1, g2, cap2, by omega, by show n + 1 = _; have := hn.out; omega, by have := hn.out; have := HZ.out; omega, rfl, hrow4, hbw.trans hb3⟩
      case measure => show L - (n + 1) < L - n; have := hn.out; have := HZ.out; omega
    · have hkz : k = Z := by omega
      have hne : (((n : Int) % 64) != 56) = false := by
        have h1 := HZ.out; have h2 := hn.out
        rw [bne_eq_false_iff_eq]
        omega
      have HN : Hid (n + 8 = L) := by show _ = _; have := HZ.out; have := hn.out; omega
      have HLN : Hid (n = (t ++ 128 :: List.replicate k 0).length) := hln
      have HKZ : Hid (k = Z) := hkz
      obtain ⟨w0, rfl⟩ : ∃ w0 : World, w0 = wr := ⟨_, rfl⟩
      obtain ⟨T, hT⟩ : ∃ T, T = t ++ 128 :: List.replicate k 0 := ⟨_, rfl⟩
      rw [← hT] at hrow HLN
      have HT : Hid (T = t ++ 128 :: List.replicate k 0) := hT
      clear hln hkz hT hk hlt hn
      go_wp2
      go_loopw [3, 4, 20] (fun v m i wr => ∃ j y g cap : Nat, j ≤ 8 ∧ i = .int .i64 j ∧ m = .int .u64 y ∧ Hid (y = s.size * 8 * 256 ^ j % 18446744073709551616) ∧ v = .slice (some ⟨g, 0, none⟩) (n + j) cap ∧ ByteRow 5 w.heap.size wr (.slice (some ⟨g, 0, none⟩) (n + j) cap) (T ++ (lenB (s.size * 8)).take j) ∧ Below w.heap.size w wr) (fun _ _ i _ => 8 - (intOf i).toNat)
      case atStart => exact ⟨0, s.size * 8, g, cap, by omega, rfl, by go_num, by show _ = _; simp; omega, rfl, by simpa using hrow, hbw⟩
      case round =>
        clear hrow hbw hsz
        obtain ⟨j, y, g2, cap2, hj, rfl, rfl, hy, rfl, hrow, hbw⟩ := hrel
        have hsz := hbw.size
        have hyl : y < 18446744073709551616 := by rw [hy.out]; exact Nat.mod_lt _ (by decide)
        by_cases hjlt : j < 8
        · obtain ⟨d, hd⟩ : ∃ d : Nat, d = y / 72057594037927936 := ⟨_, rfl⟩
          have rd : (y : Int) / 72057594037927936 = (d : Int) := by rw [hd]; simp
          have hd256 : d < 256 := by rw [hd]; omega
          have HD : Hid (UInt8.ofNat d = UInt8.ofNat (s.size * 8 / 2 ^ (8 * (7 - j)) % 256)) := by
            show _ = _
            rw [hd, hy.out, len_digit _ _ (by omega) hjlt]
          have HDN : Hid ((d : Int) = ((UInt8.ofNat d).toNat : Int)) := by show _ = _; simp; omega
          have HY : Hid (y * 256 % 18446744073709551616 = s.size * 8 * 256 ^ (j + 1) % 18446744073709551616) := by
            show _ = _
            rw [hy.out, Nat.pow_succ, ← Nat.mul_assoc, Nat.mod_mul_mod]
          have HLJ : Hid (n + j = (T ++ (lenB (s.size * 8)).take j).length) := by
            show _ = _
            rw [List.length_append, ← HLN.out]
            simp [lenB]
            omega
          clear hd
          go_wp2_with (at_builtin; refine wp_appB rfl _ _ 22 rfl w.heap.size 5 i0 Tryz.underlying22 hi hz0 hz1 hz2 g2 (n + j) cap2 (T ++ (lenB (s.size * 8)).take j) HLJ.out rfl hrow (UInt8.ofNat d) (d : Int) HDN.out rfl (by omega) hsz ?_)
          intro g3 cap3 w3 hrow3 hb3
          have hrow4 : ByteRow 5 w.heap.size w3 (.slice (some ⟨g3, 0, none⟩) (n + j + 1) cap3) (T ++ (lenB (s.size * 8)).take (j + 1)) := by
            rw [lenB_take _ _ hjlt, ← HD.out]
            first | exact hrow3 | (rw [← List.append_assoc]; exact hrow3)
          clear hrow3
          go_wp2
          go_roundw
          case rel => exact ⟨j + 1, y * 256 % 18446744073709551616, g3, cap3, by omega, by go_num, by go_num, HY, rfl, hrow4, hbw.trans hb3⟩
          case measure => simp [intOf]; omega
        · have hfin : ByteRow 5 w.heap.size wr (.slice (some ⟨g2, 0, none⟩) L cap2) (t ++ 128 :: List.replicate Z 0 ++ lenB (s.size * 8)) := by
            have hj8 : j = 8 := by omega
            rw [List.take_of_length_le (by simp [lenB]; omega), HT.out, HKZ.out] at hrow
            have hnl : n + j = L := by have := HN.out; omega
            rw [← hnl]
            exact hrow
          have HL8 : Hid (n + j = L) := by show _ = _; have := HN.out; omega
          clear hrow
          go_wp2
          go_ret
          rw [← HTT.out, ← HLL.out, HPB.out]
          exact ⟨g2, cap2, by rw [← HL8.out]; rfl, hfin, hbw⟩

end Go.Proofs.YtkajpkfhedfmaaaGreatDoor

set_option linter.unusedVariables false
namespace Go.Proofs.YtkajpkfhedfmaaaGreatDoor
open Go.RowKit

theorem size64 : (Tryz.prog.info? 112).map (·.size) = some 64 := by kernel_rfl
theorem keepO {w : World} {G i j : Nat} {v u : Value} (h : w.cell? ⟨G, j, none⟩ = some u) (hne : ¬ i = j) : (w.setCell ⟨G, i, none⟩ v).drew.cell? ⟨G, j, none⟩ = some u := by
  have : (w.setCell ⟨G, i, none⟩ v).cell? ⟨G, j, none⟩ = w.cell? ⟨G, j, none⟩ := by
    apply World.cell?_setCell_other
    intro he
    simp only [Addr.mk.injEq, true_and, and_true] at he
    exact hne he
  exact this.trans h

set_option maxHeartbeats 1000000 in
set_option maxRecDepth 100000 in
theorem scheduleI (bs : List Nat) (g o cap : Nat) (w : World) (hn : ∀ i, i < bs.length → w.cell? ⟨g, o + i, none⟩ = some (.int .u8 ((bs.getD i 0 : Nat) : Int))) (hl : bs.length = 64) (hbb : ∀ x ∈ bs, x < 256) (hg : g < w.heap.size) :
    Calls Tryz.prog 58 #[.slice (some ⟨g, o, none⟩) 64 cap] w fun e w' => e = .returned (.agg (uCells (schedTo bs 48))) ∧ Below w.heap.size w w' := by
  have z1 : RowU 112 ((w.alloc (.cells (uCells (List.replicate 64 0)) 112)).alloc (.cells (uCells (List.replicate 64 0)) 112)) w.heap.size (List.replicate 64 0) := by
    show _ = _
    rw [Below.heap_alloc _ _ _ (by simp)]
    exact heap_alloc_new w _
  have z2 : RowU 112 ((w.alloc (.cells (uCells (List.replicate 64 0)) 112)).alloc (.cells (uCells (List.replicate 64 0)) 112)) (w.heap.size + 1) (fillTo bs 0) := by
    have := heap_alloc_new (w.alloc (.cells (uCells (List.replicate 64 0)) 112)) (.cells (uCells (List.replicate 64 0)) 112)
    rw [show (w.alloc (.cells (uCells (List.replicate 64 0)) 112)).heap.size = w.heap.size + 1 from by simp] at this
    exact this
  have z3 : Below w.heap.size w ((w.alloc (.cells (uCells (List.replicate 64 0)) 112)).alloc (.cells (uCells (List.replicate 64 0)) 112)) := ((Below.refl _ w).alloc (Nat.le_refl _) _).alloc (by simp) _
  go_enter Tryz.func58, Tryz.ntmps58
  go_wp2
  go_loopw [9] (fun i wr => ∃ k : Nat, k ≤ 64 ∧ i = .int .i64 k ∧ RowU 112 wr w.heap.size (List.replicate 64 0) ∧ RowU 112 wr (w.heap.size + 1) (fillTo bs k) ∧ Below w.heap.size w wr) (fun i _ => 64 - (intOf i).toNat)
  case atStart => exact ⟨0, by omega, rfl, z1, z2, z3⟩
  case round =>
    clear z1 z2 z3
    obtain ⟨k, hk, rfl, hr0, hr1, hbw⟩ := hrel
    by_cases hlt : k < 64
    · obtain ⟨q, hq⟩ : ∃ q : Nat, q = k / 4 := ⟨_, rfl⟩
      have rq : (k : Int) / 4 = (q : Int) := by rw [hq]; simp
      have hq16 : q < 16 := by omega
      obtain ⟨b, hb⟩ : ∃ b, b = bs.getD k 0 := ⟨_, rfl⟩
      have cb : wr.cell? ⟨g, o + k, none⟩ = some (.int .u8 (b : Int)) := by
        rw [hbw.cell (p := ⟨g, o + k, none⟩) hg, hn k (by omega), hb]
      have hb256 : b < 256 := by rw [hb]; exact byte_getD hbb k
      obtain ⟨old, hold⟩ : ∃ x, x = (fillTo bs k).getD q 0 := ⟨_, rfl⟩
      have cq := hr1.cell q (by rw [fillTo_length]; omega)
      rw [← hold] at cq
      have hfz := hr1.frozen q
      obtain ⟨v, hv⟩ : ∃ v : Nat, v = old * 256 % 4294967296 ||| b := ⟨_, rfl⟩
      have rv : bits .or .u32 ((old : Int) * 256 % 4294967296) (b : Int) = (v : Int) := by
        rw [hv, ← or32 _ _ (Nat.mod_lt _ (by decide)) (by omega)]
        simp
      have HV : Hid ((fillTo bs k).set q v = fillTo bs (k + 1)) := by
        show _ = _
        rw [fillTo, hv, hold, hq, hb]
      have H0 : Hid (RowU 112 wr w.heap.size (List.replicate 64 0)) := hr0
      have H1 : Hid (RowU 112 wr (w.heap.size + 1) (fillTo bs k)) := hr1
      have HB : Hid (Below w.heap.size w wr) := hbw
      clear hq hb hold hv hr0 hr1 hbw hn
      go_wp2
      go_roundw
      case rel =>
        refine ⟨k + 1, by omega, by go_num, ?_, ?_, HB.out.setCell (p := ⟨w.heap.size + 1, q, none⟩) (by show w.heap.size ≤ w.heap.size + 1; omega) _⟩
        · exact H0.out.keep (Below.heap_setCell wr ⟨w.heap.size + 1, q, none⟩ (.int .u32 (v : Int)) w.heap.size (by show w.heap.size ≠ w.heap.size + 1; omega))
        · have := H1.out.set q v
          rw [HV.out] at this
          exact this
      case measure => simp [intOf]; omega
    · have hk64 : k = 64 := by omega
      have hrow0 : RowU 112 wr (w.heap.size + 1) (schedTo bs 0 ++ List.replicate 48 0) := by
        rw [hk64, fill_sched bs hbb] at hr1; exact hr1
      obtain ⟨w0, rfl⟩ : ∃ w0 : World, w0 = wr := ⟨_, rfl⟩
      obtain ⟨k0, hk0⟩ : ∃ k0 : Nat, k0 = k := ⟨_, rfl⟩
      rw [← hk0] at hlt ⊢
      clear hk0 hk64 hk hr1 hn
      go_wp2
      go_loopw [6] (fun i wr => ∃ k ii : Nat, k ≤ 48 ∧ ii ≤ 64 ∧ Hid (ii = 16 + k) ∧ i = .int .i64 (ii : Int) ∧ RowU 112 wr w.heap.size (List.replicate 64 0) ∧ RowU 112 wr (w.heap.size + 1) (schedTo bs k ++ List.replicate (48 - k) 0) ∧ Below w.heap.size w wr) (fun i _ => 64 - (intOf i).toNat)
      case atStart => exact ⟨0, 16, by omega, by omega, rfl, rfl, hr0, hrow0, hbw⟩
      case round =>
        clear hbw hrow0 hr0
        obtain ⟨k, ii, hk, hii, HI, rfl, hr0, hrow, hbw⟩ := hrel
        by_cases hklt : k < 48
        · have hlen := schedTo_length bs k
          have hall := schedTo_lt bs hbb k
          obtain ⟨p, hp⟩ : ∃ x, x = (schedTo bs k).getD k 0 := ⟨_, rfl⟩
          obtain ⟨x, hx⟩ : ∃ x, x = (schedTo bs k).getD (k + 1) 0 := ⟨_, rfl⟩
          obtain ⟨q, hq⟩ : ∃ x, x = (schedTo bs k).getD (k + 9) 0 := ⟨_, rfl⟩
          obtain ⟨y, hy⟩ : ∃ x, x = (schedTo bs k).getD (k + 14) 0 := ⟨_, rfl⟩
          have cp := hrow.cell k (by simp; omega)
          have cx := hrow.cell (k + 1) (by simp; omega)
          have cq := hrow.cell (k + 9) (by simp; omega)
          have cy := hrow.cell (k + 14) (by simp; omega)
          rw [sched_at bs k _ _ (by omega), ← hp] at cp
          rw [sched_at bs k _ _ (by omega), ← hx] at cx
          rw [sched_at bs k _ _ (by omega), ← hq] at cq
          rw [sched_at bs k _ _ (by omega), ← hy] at cy
          have lp : p < 4294967296 := by rw [hp]; exact getD_lt hall _
          have lx : x < 4294967296 := by rw [hx]; exact getD_lt hall _
          have lq : q < 4294967296 := by rw [hq]; exact getD_lt hall _
          have ly : y < 4294967296 := by rw [hy]; exact getD_lt hall _
          have hfz := hrow.frozen ii
          have hck := hrow.cell ii (by rw [HI.out]; simp; omega)
          generalize (schedTo bs k ++ List.replicate (48 - k) 0).getD ii 0 = old at hck
          have hi64 : ii < 64 := by rw [HI.out]; omega
          obtain ⟨m1, hm1⟩ : ∃ m, m = k + 1 := ⟨_, rfl⟩
          obtain ⟨m9, hm9⟩ : ∃ m, m = k + 9 := ⟨_, rfl⟩
          obtain ⟨m14, hm14⟩ : ∃ m, m = k + 14 := ⟨_, rfl⟩
          rw [← hm1] at cx
          rw [← hm9] at cq
          rw [← hm14] at cy
          have s16 : IntKind.i64.wrap ((ii : Int) - 16) = (k : Int) := by rw [IntKind.wrap_i64, HI.out]; omega
          have s15 : IntKind.i64.wrap ((ii : Int) - 15) = (m1 : Int) := by rw [IntKind.wrap_i64, HI.out, hm1]; omega
          have s7 : IntKind.i64.wrap ((ii : Int) - 7) = (m9 : Int) := by rw [IntKind.wrap_i64, HI.out, hm9]; omega
          have s2 : IntKind.i64.wrap ((ii : Int) - 2) = (m14 : Int) := by rw [IntKind.wrap_i64, HI.out, hm14]; omega
          have lk : (k : Int) < 64 := by omega
          have l1 : (m1 : Int) < 64 := by omega
          have l9 : (m9 : Int) < 64 := by omega
          have l14 : (m14 : Int) < 64 := by omega
          have li : (ii : Int) < 64 := by omega
          have n0 : ¬ ii = k := by rw [HI.out]; omega
          have n1 : ¬ ii = m1 := by rw [HI.out, hm1]; omega
          have n9 : ¬ ii = m9 := by rw [HI.out, hm9]; omega
          have n14 : ¬ ii = m14 := by rw [HI.out, hm14]; omega
          have n0' : ¬ k = ii := by rw [HI.out]; omega
          have n1' : ¬ m1 = ii := by rw [HI.out, hm1]; omega
          have n9' : ¬ m9 = ii := by rw [HI.out, hm9]; omega
          have n14' : ¬ m14 = ii := by rw [HI.out, hm14]; omega
          obtain ⟨v, hv⟩ : ∃ v : Nat, v = (p + sig0 x + q + sig1 y) % 4294967296 := ⟨_, rfl⟩
          have HV : Hid ((schedTo bs k ++ List.replicate (48 - k) 0).set ii v = schedTo bs (k + 1) ++ List.replicate (48 - (k + 1)) 0) := by
            show _ = _
            rw [HI.out]
            refine sched_set bs k hklt v ?_
            rw [hv, hp, hx, hq, hy]
          have HROW : Hid (RowU 112 wr (w.heap.size + 1) (schedTo bs k ++ List.replicate (48 - k) 0)) := hrow
          have H0 : Hid (RowU 112 wr w.heap.size (List.replicate 64 0)) := hr0
          have HB : Hid (Below w.heap.size w wr) := hbw
          have rsum : IntKind.u32.wrap (IntKind.u32.wrap (IntKind.u32.wrap ((p : Int) + ((sig0 x : Nat) : Int)) + (q : Int)) + ((sig1 y : Nat) : Int)) = (v : Int) := by
            rw [hv]
            simp only [IntKind.wrap_u32]
            omega
          clear hm1 hm9 hm14 hp hx hq hy hrow hr0 hbw hlen hall hv hlt
          go_wp2_with fail
          go_region_held2 (fun W => W.cell? ⟨w.heap.size + 1, k, none⟩ = some (.int .u32 (p : Int)) ∧ W.cell? ⟨w.heap.size + 1, m1, none⟩ = some (.int .u32 (x : Int)) ∧ W.cell? ⟨w.heap.size + 1, m9, none⟩ = some (.int .u32 (q : Int)) ∧ W.cell? ⟨w.heap.size + 1, m14, none⟩ = some (.int .u32 (y : Int))) (first | exact ⟨cp, cx, cq, cy⟩ | exact ⟨keepO cp n0, keepO cx n1, keepO cq n9, keepO cy n14⟩) (first | (go_at_call 99; refine (nearI _ _ lx).mono ?_; rintro e w1 ⟨rfl, rfl⟩) | (go_at_call 100; refine (farI _ _ ly).mono ?_; rintro e w1 ⟨rfl, rfl⟩))
          go_wp2
          go_roundw
          case rel =>
            refine ⟨k + 1, ii + 1, by omega, by omega, by show ii + 1 = 16 + (k + 1); have := HI.out; omega, by go_num, ?_, ?_, (HB.out.setCell (p := ⟨w.heap.size + 1, ii, none⟩) (by show w.heap.size ≤ w.heap.size + 1; omega) _).drew⟩
            · exact (H0.out.keep (Below.heap_setCell wr ⟨w.heap.size + 1, ii, none⟩ (.int .u32 (v : Int)) w.heap.size (by show w.heap.size ≠ w.heap.size + 1; omega))).drew
            · have := (HROW.out.set ii v).drew
              rw [HV.out] at this
              exact this
          case measure => simp [intOf]; omega
        · have hi64 : ¬ ii < 64 := by rw [HI.out]; omega
          have hfin : RowU 112 wr (w.heap.size + 1) (schedTo bs 48) := by
            have h48 : k = 48 := by omega
            rw [h48] at hrow
            simpa using hrow
          have hlen := schedTo_length bs 48
          clear hrow
          obtain ⟨L, hL⟩ : ∃ L, L = schedTo bs 48 := ⟨_, rfl⟩
          rw [← hL] at hfin hlen
          have HL : Hid (L = schedTo bs 48) := hL
          clear hL
          have hlen : L.length = 64 := hlen
          have hld := run_loadAt_mid (P := Tryz.prog) wr (w.heap.size + 1) 0 112 (uCells L).toList _ hfin.range Tryz.underlying112 rfl (by rw [size64, Array.length_toList, uCells_size, hlen])
          have hst := run_storeAt_mid (P := Tryz.prog) wr w.heap.size 0 112 (uCells L) (hr0.there _ (by rw [uCells_size, hlen]; simp)) (by rw [size64, uCells_size, hlen]) (uCells_one _)
          rw [Array.toArray_toList] at hld
          have hout : RowU 112 (wr.setCells w.heap.size 0 (uCells L).toList) w.heap.size L := hr0.over (by rw [hlen]; simp)
          have hbo : Below w.heap.size w (wr.setCells w.heap.size 0 (uCells L).toList) := Below.setCells hbw (Nat.le_refl _) _ 0
          have hlv := run_loadVar_mid (P := Tryz.prog) (wr.setCells w.heap.size 0 (uCells L).toList) w.heap.size 0 112 (uCells L).toList _ hout.range Tryz.underlying112 rfl (by rw [size64, Array.length_toList, uCells_size, hlen])
          rw [Array.toArray_toList] at hlv
          clear hout hld hst
          go_upto_region 11 with fail
          refine wp_region_list ?_
          refine wpList_load_mid rfl 112 _ rfl (w.heap.size + 1) 0 rfl (uCells L).toList _ hfin.range Tryz.underlying112 rfl (by rw [size64, Array.length_toList, uCells_size, hlen]) ?_
          rw [Array.toArray_toList]
          refine wpList_store_mid rfl 112 _ _ rfl w.heap.size 0 (uCells L) rfl rfl (hr0.there _ (by rw [uCells_size, hlen]; simp)) (by rw [size64, uCells_size, hlen]) (uCells_one _) ?_
          go_wp2
          rw [← HL.out]
          exact bodyPost_ret (v := .agg (uCells L)) (results_cell1 (p := 2) (b := w.heap.size) rfl _ _ _ rfl hlv) rfl ⟨rfl, hbo⟩

end Go.Proofs.YtkajpkfhedfmaaaGreatDoor


set_option linter.unusedVariables false
namespace Go.Proofs.YtkajpkfhedfmaaaGreatDoor
open Go.RowKit

theorem size8 : (Tryz.prog.info? 109).map (·.size) = some 8 := by kernel_rfl
theorem run_storeCellsU {P : Program} {T : TypeId} {w : World} {g : Nat} {m : List Nat} (h : RowU T w g m) (l : List Nat) (hl : l.length = m.length) :
    (storeCells ⟨g, 0, none⟩ (uCells l).toList).run P w = .ok () (w.setCells g 0 (uCells l).toList) := by
  have ht := h.there _ hl
  have := run_storeCells_cells (P := P) g 0 (uCells l).toList 0 w (fun j hj => by simpa using (ht j (by simpa [uCells_size] using hj)).1) (fun j hj => by simpa using (ht j (by simpa [uCells_size] using hj)).2)
    (fun v hv => (Array.all_eq_true_iff_forall_mem.1 (uCells_one l)) v (by simpa using hv))
  simpa using this
theorem zerosU8 : #[Value.int .u32 0, Value.int .u32 0, Value.int .u32 0, Value.int .u32 0, Value.int .u32 0, Value.int .u32 0, Value.int .u32 0, Value.int .u32 0] = uCells (List.replicate 8 0) := rfl
theorem sizeW : (Tryz.prog.info? 108).map (·.size) = some 1 := by kernel_rfl
theorem indexU (ws : List Nat) (hl : ws.length = 64) (k : Nat) (hk : k < 64) (w : World) : (Instr.index 112 (.agg (uCells ws)) (.int .i64 (k : Int))).run Tryz.prog w = .ok (.int .u32 ((ws.getD k 0 : Nat) : Int)) w := by
  have hat := uCells_at ws k (by omega)
  cases hq : Tryz.prog.info? 108 with
  | none => have := sizeW; simp [hq] at this
  | some i =>
    have hs : i.size = 1 := by have := sizeW; simpa [hq] using this
    simp [Instr.index, asIntOf, Sem.run_bind, run_underlying Tryz.underlying112, part, isAgg, run_underlying Tryz.underlying108, sizeOf, typeInfo, hq, hs, hat]
    intro h64; omega
/-- The four blocks that the call lays: the state, the words, the answer's place, the state at work. -/
def Laid4 (T8 T64 : TypeId) (n : Nat) (s : St) (ws : List Nat) (t : St) (w w' : World) : Prop :=
  RowU T8 w' n s.toL ∧ RowU T8 w' (n + 1 + 1) (List.replicate 8 0) ∧ RowU T8 w' (n + 1 + 1 + 1) t.toL ∧ Below n w w'
theorem laid4 (T8 T64 : TypeId) (s : St) (ws : List Nat) (w : World) :
    RowU T8 ((((w.alloc (.cells (uCells s.toL) T8)).alloc (.cells (uCells ws) T64)).alloc (.cells (uCells (List.replicate 8 0)) T8)).alloc (.cells (uCells (List.replicate 8 0)) T8)) (w.heap.size + 1 + 1 + 1) (List.replicate 8 0) ∧
    Laid4 T8 T64 w.heap.size s ws s w (((((w.alloc (.cells (uCells s.toL) T8)).alloc (.cells (uCells ws) T64)).alloc (.cells (uCells (List.replicate 8 0)) T8)).alloc (.cells (uCells (List.replicate 8 0)) T8)).setCells (w.heap.size + 1 + 1 + 1) 0 (uCells s.toL).toList) ∧
    RowU T64 (((((w.alloc (.cells (uCells s.toL) T8)).alloc (.cells (uCells ws) T64)).alloc (.cells (uCells (List.replicate 8 0)) T8)).alloc (.cells (uCells (List.replicate 8 0)) T8)).setCells (w.heap.size + 1 + 1 + 1) 0 (uCells s.toL).toList) (w.heap.size + 1) ws ∧
    RowU T8 (((w.alloc (.cells (uCells s.toL) T8)).alloc (.cells (uCells ws) T64)).alloc (.cells (uCells (List.replicate 8 0)) T8)) w.heap.size s.toL := by
  obtain ⟨w1, h1⟩ : ∃ x, x = w.alloc (.cells (uCells s.toL) T8) := ⟨_, rfl⟩
  have s1 : w1.heap.size = w.heap.size + 1 := by rw [h1]; simp
  have r1 : RowU T8 w1 w.heap.size s.toL := by rw [h1]; exact heap_alloc_new w _
  have b1 : Below w.heap.size w w1 := by rw [h1]; exact (Below.refl _ w).alloc (Nat.le_refl _) _
  rw [← h1]
  obtain ⟨w2, h2⟩ : ∃ x, x = w1.alloc (.cells (uCells ws) T64) := ⟨_, rfl⟩
  have s2 : w2.heap.size = w.heap.size + 1 + 1 := by rw [h2]; simp [s1]
  have r2 : RowU T64 w2 (w.heap.size + 1) ws := by rw [h2, ← s1]; exact heap_alloc_new w1 _
  have r21 : RowU T8 w2 w.heap.size s.toL := by rw [h2]; exact r1.keep (Below.heap_alloc _ _ _ (by omega))
  have b2 : Below w.heap.size w w2 := by rw [h2]; exact b1.alloc (by omega) _
  rw [← h2]
  obtain ⟨w3, h3⟩ : ∃ x, x = w2.alloc (.cells (uCells (List.replicate 8 0)) T8) := ⟨_, rfl⟩
  have s3 : w3.heap.size = w.heap.size + 1 + 1 + 1 := by rw [h3]; simp [s2]
  have r3 : RowU T8 w3 (w.heap.size + 1 + 1) (List.replicate 8 0) := by rw [h3, ← s2]; exact heap_alloc_new w2 _
  have r32 : RowU T64 w3 (w.heap.size + 1) ws := by rw [h3]; exact r2.keep (Below.heap_alloc _ _ _ (by omega))
  have r31 : RowU T8 w3 w.heap.size s.toL := by rw [h3]; exact r21.keep (Below.heap_alloc _ _ _ (by omega))
  have b3 : Below w.heap.size w w3 := by rw [h3]; exact b2.alloc (by omega) _
  rw [← h3]
  obtain ⟨w4, h4⟩ : ∃ x, x = w3.alloc (.cells (uCells (List.replicate 8 0)) T8) := ⟨_, rfl⟩
  have r4 : RowU T8 w4 (w.heap.size + 1 + 1 + 1) (List.replicate 8 0) := by rw [h4, ← s3]; exact heap_alloc_new w3 _
  have r43 : RowU T8 w4 (w.heap.size + 1 + 1) (List.replicate 8 0) := by rw [h4]; exact r3.keep (Below.heap_alloc _ _ _ (by omega))
  have r42 : RowU T64 w4 (w.heap.size + 1) ws := by rw [h4]; exact r32.keep (Below.heap_alloc _ _ _ (by omega))
  have r41 : RowU T8 w4 w.heap.size s.toL := by rw [h4]; exact r31.keep (Below.heap_alloc _ _ _ (by omega))
  have b4 : Below w.heap.size w w4 := by rw [h4]; exact b3.alloc (by omega) _
  rw [← h4]
  refine ⟨r4, ⟨r41.keep (heap_setCells_other _ _ _ _ _ (by omega)), r43.keep (heap_setCells_other _ _ _ _ _ (by omega)), r4.over (by simp [St.toL]), Below.setCells b4 (by omega) _ _⟩, r42.keep (heap_setCells_other _ _ _ _ _ (by omega)), r31⟩

theorem Rows3.set {T8 : TypeId} {n : Nat} {ls l lz : List Nat} {w wr : World} (h : RowU T8 wr n ls ∧ RowU T8 wr (n + 1 + 1) lz ∧ RowU T8 wr (n + 1 + 1 + 1) l ∧ Below n w wr) (i v : Nat) :
    RowU T8 (wr.setCell ⟨n + 1 + 1 + 1, i, none⟩ (.int .u32 (v : Int))) n ls ∧ RowU T8 (wr.setCell ⟨n + 1 + 1 + 1, i, none⟩ (.int .u32 (v : Int))) (n + 1 + 1) lz ∧ RowU T8 (wr.setCell ⟨n + 1 + 1 + 1, i, none⟩ (.int .u32 (v : Int))) (n + 1 + 1 + 1) (l.set i v) ∧ Below n w (wr.setCell ⟨n + 1 + 1 + 1, i, none⟩ (.int .u32 (v : Int))) :=
  ⟨h.1.keep (Below.heap_setCell _ _ _ _ (by show _ ≠ n + 1 + 1 + 1; omega)), h.2.1.keep (Below.heap_setCell _ _ _ _ (by show _ ≠ n + 1 + 1 + 1; omega)), h.2.2.1.set i v, h.2.2.2.setCell (p := ⟨n + 1 + 1 + 1, i, none⟩) (by show n ≤ n + 1 + 1 + 1; omega) _⟩
theorem Laid4.over {T8 T64 : TypeId} {n : Nat} {s t : St} {ws : List Nat} {w wr : World} (h : Laid4 T8 T64 n s ws t w wr) (v0 v1 v2 v3 v4 v5 v6 v7 : Nat) :
    Laid4 T8 T64 n s ws ⟨v0, v1, v2, v3, v4, v5, v6, v7⟩ w ((((((((wr.setCell ⟨n + 1 + 1 + 1, 0, none⟩ (.int .u32 (v0 : Int))).setCell ⟨n + 1 + 1 + 1, 1, none⟩ (.int .u32 (v1 : Int))).setCell ⟨n + 1 + 1 + 1, 2, none⟩ (.int .u32 (v2 : Int))).setCell ⟨n + 1 + 1 + 1, 3, none⟩ (.int .u32 (v3 : Int))).setCell ⟨n + 1 + 1 + 1, 4, none⟩ (.int .u32 (v4 : Int))).setCell ⟨n + 1 + 1 + 1, 5, none⟩ (.int .u32 (v5 : Int))).setCell ⟨n + 1 + 1 + 1, 6, none⟩ (.int .u32 (v6 : Int))).setCell ⟨n + 1 + 1 + 1, 7, none⟩ (.int .u32 (v7 : Int))).drew.drew := by
  have := Rows3.set (Rows3.set (Rows3.set (Rows3.set (Rows3.set (Rows3.set (Rows3.set (Rows3.set h 0 v0) 1 v1) 2 v2) 3 v3) 4 v4) 5 v5) 6 v6) 7 v7
  exact ⟨this.1.drew.drew, this.2.1.drew.drew, this.2.2.1.drew.drew, this.2.2.2.drew.drew⟩

def plusTo (s t : St) (k : Nat) : List Nat := (s.plus t).toL.take k ++ s.toL.drop k
theorem plusTo_length (s t : St) (k : Nat) (h : k ≤ 8) : (plusTo s t k).length = 8 := by
  simp [plusTo, St.toL]; omega
theorem plusTo_at (s t : St) (k : Nat) (h : k < 8) : (plusTo s t k).getD k 0 = s.toL.getD k 0 := by
  match k, h with
  | 0, _ | 1, _ | 2, _ | 3, _ | 4, _ | 5, _ | 6, _ | 7, _ => rfl
theorem plusTo_set (s t : St) (k : Nat) (h : k < 8) (v : Nat) (hv : v = (s.toL.getD k 0 + t.toL.getD k 0) % 4294967296) : (plusTo s t k).set k v = plusTo s t (k + 1) := by
  subst hv
  match k, h with
  | 0, _ | 1, _ | 2, _ | 3, _ | 4, _ | 5, _ | 6, _ | 7, _ => rfl

set_option maxHeartbeats 1000000 in
set_option maxRecDepth 100000 in
theorem nextI (ms ws : List Nat) (s : St) (hs : s.ok) (w : World) (hms : RowG w ms) (hml : ms.length = 64) (hmm : ∀ x ∈ ms, x < 4294967296) (hwl : ws.length = 64) (hww : ∀ x ∈ ws, x < 4294967296) :
    Calls Tryz.prog 57 #[.agg (uCells s.toL), .agg (uCells ws)] w fun e w' => e = .returned (.agg (uCells (s.plus (rounds ms ws s 64)).toL)) ∧ Below w.heap.size w w' := by
  have Z : Hid (_ ∧ _ ∧ _ ∧ _) := laid4 109 112 s ws w
  go_enter Tryz.func57, Tryz.ntmps57
  go_upto_region 1 with fail
  refine wp_region_list ?_
  refine wpList_load_mid rfl 109 _ rfl w.heap.size 0 rfl (uCells s.toL).toList _ ?_ Tryz.underlying109 rfl (by rw [size8, Array.length_toList, uCells_size]; rfl) ?_
  · exact Z.out.2.2.2.range
  rw [Array.toArray_toList]
  go_wp2
  obtain ⟨z1, z2, z3, z4⟩ := Z.out
  rw [zerosU8, run_storeCellsU z1 s.toL rfl]
  obtain ⟨W, hW⟩ : ∃ W, W = (((((w.alloc (.cells (uCells s.toL) 109)).alloc (.cells (uCells ws) 112)).alloc (.cells (uCells (List.replicate 8 0)) 109)).alloc (.cells (uCells (List.replicate 8 0)) 109)).setCells (w.heap.size + 1 + 1 + 1) 0 (uCells s.toL).toList) := ⟨_, rfl⟩
  rw [← hW] at z2 z3 ⊢
  clear hW z1 z4 Z
  have Hmm : Hid (∀ x ∈ ms, x < 4294967296) := hmm
  have Hww : Hid (∀ x ∈ ws, x < 4294967296) := hww
  have HZ : Hid (Laid4 109 112 w.heap.size s ws s w W) := z2
  clear hmm hww z2
  go_upto_region 2 with fail
  refine wp_region_list ?_
  refine wpList_load_mid rfl 112 _ rfl (w.heap.size + 1) 0 rfl (uCells ws).toList _ z3.range Tryz.underlying112 rfl (by rw [size64, Array.length_toList, uCells_size, hwl]) ?_
  rw [Array.toArray_toList]
  clear z3
  go_wp2
  go_loopw [13] (fun i wr => ∃ k : Nat, k ≤ 64 ∧ i = .int .i64 (k : Int) ∧ Hid (Laid4 109 112 w.heap.size s ws (rounds ms ws s k) w wr)) (fun i _ => 64 - (intOf i).toNat)
  case atStart => exact ⟨0, by omega, rfl, HZ⟩
  case round =>
    clear HZ
    obtain ⟨k, hk, rfl, HR⟩ := hrel
    by_cases hlt : k < 64
    · have hok := rounds_ok ms ws s hs k
      obtain ⟨t, ht⟩ : ∃ t, t = rounds ms ws s k := ⟨_, rfl⟩
      rw [← ht] at HR hok
      have HT : Hid (t = rounds ms ws s k) := ht
      clear ht
      obtain ⟨a, b, c, d, e, f, g, h⟩ := t
      obtain ⟨la, lb, lc, ld, le, lf, lg, lh⟩ := hok
      simp only at la lb lc ld le lf lg lh
      have hr := HR.out.2.2.1
      have c0 : wr.cell? ⟨w.heap.size + 1 + 1 + 1, 0, none⟩ = some (.int .u32 (a : Int)) := hr.cell 0 (by show _ < 8; decide)
      have c1 : wr.cell? ⟨w.heap.size + 1 + 1 + 1, 1, none⟩ = some (.int .u32 (b : Int)) := hr.cell 1 (by show _ < 8; decide)
      have c2 : wr.cell? ⟨w.heap.size + 1 + 1 + 1, 2, none⟩ = some (.int .u32 (c : Int)) := hr.cell 2 (by show _ < 8; decide)
      have c3 : wr.cell? ⟨w.heap.size + 1 + 1 + 1, 3, none⟩ = some (.int .u32 (d : Int)) := hr.cell 3 (by show _ < 8; decide)
      have c4 : wr.cell? ⟨w.heap.size + 1 + 1 + 1, 4, none⟩ = some (.int .u32 (e : Int)) := hr.cell 4 (by show _ < 8; decide)
      have c5 : wr.cell? ⟨w.heap.size + 1 + 1 + 1, 5, none⟩ = some (.int .u32 (f : Int)) := hr.cell 5 (by show _ < 8; decide)
      have c6 : wr.cell? ⟨w.heap.size + 1 + 1 + 1, 6, none⟩ = some (.int .u32 (g : Int)) := hr.cell 6 (by show _ < 8; decide)
      have c7 : wr.cell? ⟨w.heap.size + 1 + 1 + 1, 7, none⟩ = some (.int .u32 (h : Int)) := hr.cell 7 (by show _ < 8; decide)
      have f0 := hr.frozen 0
      have f1 := hr.frozen 1
      have f2 := hr.frozen 2
      have f3 := hr.frozen 3
      have f4 := hr.frozen 4
      have f5 := hr.frozen 5
      have f6 := hr.frozen 6
      have f7 := hr.frozen 7
      clear hr
      obtain ⟨m, hm⟩ : ∃ m, m = ms.getD k 0 := ⟨_, rfl⟩
      obtain ⟨x, hx⟩ : ∃ x, x = ws.getD k 0 := ⟨_, rfl⟩
      have lm : m < 4294967296 := by rw [hm]; exact getD_lt Hmm.out _
      have lx : x < 4294967296 := by rw [hx]; exact getD_lt Hww.out _
      have cm : wr.cell? ⟨1, k, none⟩ = some (.int .u32 (m : Int)) := by
        rw [HR.out.2.2.2.cell (p := ⟨1, k, none⟩) hms.lt, hm]
        exact hms.cell k (by omega)
      have cx : ∀ w : World, (Instr.index 112 (.agg (uCells ws)) (.int .i64 (k : Int))).run Tryz.prog w = .ok (.int .u32 (x : Int)) w := by intro w; rw [hx]; exact indexU ws hwl k hlt w
      have lk : (k : Int) < 64 := by omega
      obtain ⟨v1, hv1⟩ : ∃ v : Nat, v = (h + big1 e + chs e f g + m + x) % 4294967296 := ⟨_, rfl⟩
      obtain ⟨v2, hv2⟩ : ∃ v : Nat, v = (big0 a + maj a b c) % 4294967296 := ⟨_, rfl⟩
      obtain ⟨v3, hv3⟩ : ∃ v : Nat, v = (v1 + v2) % 4294967296 := ⟨_, rfl⟩
      obtain ⟨v4, hv4⟩ : ∃ v : Nat, v = (d + v1) % 4294967296 := ⟨_, rfl⟩
      have r1 : IntKind.u32.wrap (IntKind.u32.wrap (IntKind.u32.wrap (IntKind.u32.wrap ((h : Int) + ((big1 e : Nat) : Int)) + ((chs e f g : Nat) : Int)) + (m : Int)) + (x : Int)) = (v1 : Int) := by
        rw [hv1]; simp only [IntKind.wrap_u32]; omega
      have r2 : IntKind.u32.wrap (((big0 a : Nat) : Int) + ((maj a b c : Nat) : Int)) = (v2 : Int) := by
        rw [hv2]; simp only [IntKind.wrap_u32]; omega
      have r3 : IntKind.u32.wrap ((v1 : Int) + (v2 : Int)) = (v3 : Int) := by
        rw [hv3]; simp only [IntKind.wrap_u32]; omega
      have r4 : IntKind.u32.wrap ((d : Int) + (v1 : Int)) = (v4 : Int) := by
        rw [hv4]; simp only [IntKind.wrap_u32]; omega
      have HN : Hid ((⟨v3, a, b, c, v4, e, f, g⟩ : St) = rounds ms ws s (k + 1)) := by
        show _ = _
        rw [rounds, ← HT.out, St.step, ← hm, ← hx, hv3, hv4, hv1, hv2]
        simp only [St.mk.injEq, true_and, and_true]
        omega
      clear hv1 hv2 hv3 hv4 hm hx hms HT
      go_wp2_with fail
      go_region_held2 (fun W => W.cell? ⟨w.heap.size + 1 + 1 + 1, 7, none⟩ = some (.int .u32 (h : Int)) ∧ W.cell? ⟨w.heap.size + 1 + 1 + 1, 4, none⟩ = some (.int .u32 (e : Int)) ∧ W.cell? ⟨w.heap.size + 1 + 1 + 1, 5, none⟩ = some (.int .u32 (f : Int)) ∧ W.cell? ⟨w.heap.size + 1 + 1 + 1, 6, none⟩ = some (.int .u32 (g : Int)) ∧ W.cell? ⟨1, k, none⟩ = some (.int .u32 (m : Int))) (exact ⟨c7, c4, c5, c6, cm⟩) (first | (go_at_call 95; refine (fifthI _ _ le).mono ?_; rintro e w1 ⟨rfl, rfl⟩) | (go_at_call 96; refine (chooseI _ _ _ _ le lf lg).mono ?_; rintro e w1 ⟨rfl, rfl⟩))
      go_wp2_with fail
      go_region_held2 (fun W => W.cell? ⟨w.heap.size + 1 + 1 + 1, 0, none⟩ = some (.int .u32 (a : Int)) ∧ W.cell? ⟨w.heap.size + 1 + 1 + 1, 1, none⟩ = some (.int .u32 (b : Int)) ∧ W.cell? ⟨w.heap.size + 1 + 1 + 1, 2, none⟩ = some (.int .u32 (c : Int))) (exact ⟨c0, c1, c2⟩) (first | (go_at_call 97; refine (firstI _ _ la).mono ?_; rintro e w1 ⟨rfl, rfl⟩) | (go_at_call 98; refine (mostI _ _ _ _ la lb lc).mono ?_; rintro e w1 ⟨rfl, rfl⟩))
      go_wp2
      go_roundw
      case rel =>
        refine ⟨k + 1, by omega, by go_num, ?_⟩
        have := HR.out.over v3 a b c v4 e f g
        rw [HN.out] at this
        exact this
      case measure => simp [intOf]; omega
    · obtain ⟨t, ht⟩ : ∃ t, t = rounds ms ws s 64 := ⟨_, rfl⟩
      have hk64 : k = 64 := by omega
      rw [hk64, ← ht] at HR
      have HT : Hid (t = rounds ms ws s 64) := ht
      obtain ⟨k0, hk0⟩ : ∃ k0 : Nat, k0 = k := ⟨_, rfl⟩
      rw [← hk0] at hlt ⊢
      clear ht hk0 hk64 hk
      go_wp2
      go_loopw [69] (fun i wr => ∃ k : Nat, k ≤ 8 ∧ i = .int .i64 (k : Int) ∧ Hid (RowU 109 wr w.heap.size (plusTo s t k) ∧ RowU 109 wr (w.heap.size + 1 + 1) (List.replicate 8 0) ∧ RowU 109 wr (w.heap.size + 1 + 1 + 1) t.toL ∧ Below w.heap.size w wr)) (fun i _ => 8 - (intOf i).toNat)
      case atStart => exact ⟨0, by omega, rfl, HR.out⟩
      case round =>
        clear HR
        obtain ⟨k, hk, rfl, HR⟩ := hrel
        by_cases hk8 : k < 8
        · obtain ⟨x, hx⟩ : ∃ x, x = s.toL.getD k 0 := ⟨_, rfl⟩
          obtain ⟨y, hy⟩ : ∃ y, y = t.toL.getD k 0 := ⟨_, rfl⟩
          have cx : wr.cell? ⟨w.heap.size, k, none⟩ = some (.int .u32 (x : Int)) := by
            rw [hx, ← plusTo_at s t k hk8]; exact HR.out.1.cell k (by rw [plusTo_length _ _ _ hk]; exact hk8)
          have cy : wr.cell? ⟨w.heap.size + 1 + 1 + 1, k, none⟩ = some (.int .u32 (y : Int)) := by
            rw [hy]; exact HR.out.2.2.1.cell k (by show k < 8; exact hk8)
          have hfz := HR.out.1.frozen k
          obtain ⟨v, hv⟩ : ∃ v : Nat, v = (x + y) % 4294967296 := ⟨_, rfl⟩
          have rv : IntKind.u32.wrap ((x : Int) + (y : Int)) = (v : Int) := by
            rw [hv]; simp only [IntKind.wrap_u32]; omega
          have HV : Hid ((plusTo s t k).set k v = plusTo s t (k + 1)) := by
            show _ = _
            refine plusTo_set s t k hk8 v ?_
            rw [hv, hx, hy]
          have lk : (k : Int) < 8 := by omega
          clear hx hy hv hlt hk
          go_wp2
          go_region
          go_wp2
          go_roundw
          case rel =>
            refine ⟨k + 1, by omega, by go_num, ?_⟩
            have h1 := HR.out.1.set k v
            rw [HV.out] at h1
            exact ⟨h1, HR.out.2.1.keep (Below.heap_setCell _ _ _ _ (by show _ ≠ w.heap.size; omega)), HR.out.2.2.1.keep (Below.heap_setCell _ _ _ _ (by show _ ≠ w.heap.size; omega)), (HR.out.2.2.2.setCell (p := ⟨w.heap.size, k, none⟩) (Nat.le_refl _) _).drew⟩
          case measure => simp [intOf]; omega
        · have HF : Hid (RowU 109 wr w.heap.size (s.plus t).toL) := by
            show RowU _ _ _ _
            have := HR.out.1
            rw [show k = 8 from by omega] at this
            exact this
          obtain ⟨L, hL⟩ : ∃ L, L = (s.plus t).toL := ⟨_, rfl⟩
          have hlen : L.length = 8 := by rw [hL]; rfl
          rw [← hL] at HF
          have HL : Hid (L = (s.plus (rounds ms ws s 64)).toL) := by show _ = _; rw [← HT.out]; exact hL
          have hout : RowU 109 (wr.setCells (w.heap.size + 1 + 1) 0 (uCells L).toList) (w.heap.size + 1 + 1) L := HR.out.2.1.over (by rw [hlen]; rfl)
          have hbo : Below w.heap.size w (wr.setCells (w.heap.size + 1 + 1) 0 (uCells L).toList) := Below.setCells HR.out.2.2.2 (by omega) _ 0
          have hlv := run_loadVar_mid (P := Tryz.prog) (wr.setCells (w.heap.size + 1 + 1) 0 (uCells L).toList) (w.heap.size + 1 + 1) 0 109 (uCells L).toList _ hout.range Tryz.underlying109 rfl (by rw [size8, Array.length_toList, uCells_size, hlen])
          rw [Array.toArray_toList] at hlv
          have Hlv : Hid (_ = _) := hlv
          have Hbo : Hid (Below w.heap.size w (wr.setCells (w.heap.size + 1 + 1) 0 (uCells L).toList)) := hbo
          clear hL hlv hout hbo
          go_upto_region 14 with fail
          refine wp_region_list ?_
          refine wpList_load_mid rfl 109 _ rfl w.heap.size 0 rfl (uCells L).toList _ HF.out.range Tryz.underlying109 rfl (by rw [size8, Array.length_toList, uCells_size, hlen]) ?_
          rw [Array.toArray_toList]
          refine wpList_store_mid rfl 109 _ _ rfl (w.heap.size + 1 + 1) 0 (uCells L) rfl rfl (HR.out.2.1.there _ (by rw [uCells_size, hlen]; simp)) (by rw [size8, uCells_size, hlen]) (uCells_one _) ?_
          go_wp2
          rw [← HL.out]
          exact bodyPost_ret (v := .agg (uCells L)) (results_cell1 (p := 4) (b := w.heap.size + 1 + 1) rfl _ _ _ rfl Hlv) rfl ⟨rfl, Hbo.out⟩

end Go.Proofs.YtkajpkfhedfmaaaGreatDoor

set_option linter.unusedVariables false
namespace Go.Proofs.YtkajpkfhedfmaaaGreatDoor
open Go.RowKit

theorem fig_digit (x j : Nat) (hx : x < 4294967296) (hj : j < 8) : x * 16 ^ j % 4294967296 / 268435456 = x / 2 ^ (4 * (7 - j)) % 16 := by
  match j, hj with
  | 0, _ => simp; omega
  | 1, _ => simp; omega
  | 2, _ => simp; omega
  | 3, _ => simp; omega
  | 4, _ => simp; omega
  | 5, _ => simp; omega
  | 6, _ => simp; omega
  | 7, _ => simp; omega

set_option maxHeartbeats 1000000 in
set_option maxRecDepth 100000 in
theorem figuresI (x : Nat) (w : World) (hx : x < 4294967296) :
    Calls Tryz.prog 59 #[.int .u32 x] w fun e w' => e = .returned (.string ⟨(hexOf x).toArray⟩) ∧ Below w.heap.size w w' := by
  go_enter Tryz.func59, Tryz.ntmps59
  go_wp2
  go_loopw [0, 4] (fun v i wr => ∃ j y : Nat, j ≤ 8 ∧ i = .int .i64 j ∧ v = .int .u32 y ∧ Hid (y = x * 16 ^ j % 4294967296) ∧ Lib.IsBuilderF 61 5 w.heap.size w.heap.size (Lib.byteCells ((hexOf x).take j)) wr ∧ Below w.heap.size w wr) (fun _ i _ => 8 - (intOf i).toNat)
  case atStart =>
    exact ⟨0, x, by omega, rfl, rfl, by show x = _; simp; omega, Lib.IsBuilderF.of (Lib.fresh_isBuilder 61 5 w), (Below.refl _ w).alloc (Nat.le_refl _) _⟩
  case round =>
    obtain ⟨j, y, hj, rfl, rfl, hy, hI, hbw⟩ := hrel
    have hsz := hbw.size
    have hyl : y < 4294967296 := by rw [hy.out]; exact Nat.mod_lt _ (by decide)
    by_cases hlt : j < 8
    · obtain ⟨d, hd⟩ : ∃ d : Nat, d = y / 268435456 := ⟨_, rfl⟩
      have rd : (y : Int) / 268435456 = (d : Int) := by rw [hd]; simp
      have hd16 : d < 16 := by rw [hd]; omega
      have HD : Hid (d = x / 2 ^ (4 * (7 - j)) % 16) := by show d = _; rw [hd, hy.out]; exact fig_digit x j hx hlt
      have HY : Hid (y * 16 % 4294967296 = x * 16 ^ (j + 1) % 4294967296) := by
        show _ = _
        rw [hy.out, Nat.pow_succ, ← Nat.mul_assoc, Nat.mod_mul_mod]
      clear hd
      go_wp2_with fail
      refine (writeByte _ _ _ _ _ hI (by rw [Lib.byteCells_length]; simp; omega) hsz).mono ?_
      rintro e w1 ⟨rfl, h1, b1, k1⟩
      have h2 : Lib.IsBuilderF 61 5 w.heap.size w.heap.size (Lib.byteCells ((hexOf x).take (j + 1))) w1 := by
        rw [hexOf_take x j hlt, ← HD.out, ← figs_at d hd16 (by show d < 16; exact hd16), Lib.byteCells_append]
        exact h1
      clear h1
      go_wp2
      go_roundw
      case rel => exact ⟨j + 1, y * 16 % 4294967296, by omega, by go_num, by go_num, HY, h2, hbw.trans b1⟩
      case measure => simp [intOf]; omega
    · have hl8 : (hexOf x).take j = hexOf x := List.take_of_length_le (by simp [hexOf]; omega)
      rw [hl8] at hI
      clear hl8
      go_wp2_with fail
      refine (Tryz.Builder_String_any_k _ _ _ _ hI hsz).mono ?_
      rintro e w2 ⟨rfl, _, b2, _⟩
      go_wp2
      go_ret
      exact ⟨rfl, hbw.trans b2⟩

end Go.Proofs.YtkajpkfhedfmaaaGreatDoor

namespace Go.Proofs.YtkajpkfhedfmaaaGreatDoor
open Go.RowKit

theorem endB8 (A : List Nat) (n : Nat) : endB (A ++ [0, 0, 0, 0, 0, 0, 0, 0]) n 8 = A ++ [n / 2 ^ 56 % 256, n / 2 ^ 48 % 256, n / 2 ^ 40 % 256, n / 2 ^ 32 % 256, n / 2 ^ 24 % 256, n / 2 ^ 16 % 256, n / 2 ^ 8 % 256, n / 2 ^ 0 % 256] := by
  have hl : (A ++ [0, 0, 0, 0, 0, 0, 0, 0]).length = A.length + 8 := by simp
  simp only [endB, hl]
  rw [show A.length + 8 - 1 - 0 = A.length + 7 from by omega, show A.length + 8 - 1 - 1 = A.length + 6 from by omega, show A.length + 8 - 1 - 2 = A.length + 5 from by omega, show A.length + 8 - 1 - 3 = A.length + 4 from by omega,
    show A.length + 8 - 1 - 4 = A.length + 3 from by omega, show A.length + 8 - 1 - 5 = A.length + 2 from by omega, show A.length + 8 - 1 - 6 = A.length + 1 from by omega, show A.length + 8 - 1 - 7 = A.length + 0 from by omega]
  repeat rw [List.set_append_right _ _ (by omega)]
  simp only [Nat.add_sub_cancel_left]
  rfl
theorem ofNat_mod (x : Nat) : (UInt8.ofNat (x % 256)).toNat = x % 256 := by
  simp
theorem padN_padB (t : List UInt8) : padN t = (padB t).map (·.toNat) := by
  have hz : padLen t.length - t.length - 1 = padZ t.length + 8 := by simp only [padZ, padLen]; omega
  have hr : List.replicate (padZ t.length + 8) (0 : Nat) = List.replicate (padZ t.length) 0 ++ [0, 0, 0, 0, 0, 0, 0, 0] := by
    rw [← List.replicate_append_replicate]; rfl
  rw [padN, hz, hr, show t.map (·.toNat) ++ 128 :: (List.replicate (padZ t.length) 0 ++ [0, 0, 0, 0, 0, 0, 0, 0]) = (t.map (·.toNat) ++ 128 :: List.replicate (padZ t.length) 0) ++ [0, 0, 0, 0, 0, 0, 0, 0] from by simp, endB8]
  simp only [padB, List.map_append, List.map_cons, List.map_replicate, lenB]
  congr 1
  simp only [List.map_map]
  show _ = List.map _ [0, 1, 2, 3, 4, 5, 6, 7]
  simp only [List.map_cons, List.map_nil, Function.comp, ofNat_mod]

end Go.Proofs.YtkajpkfhedfmaaaGreatDoor

set_option linter.unusedVariables false
namespace Go.Proofs.YtkajpkfhedfmaaaGreatDoor
open Go.RowKit

theorem sha0_cells : uCells sha0.toL = #[Value.int .u32 1779033703, Value.int .u32 3144134277, Value.int .u32 1013904242, Value.int .u32 2773480762, Value.int .u32 1359893119, Value.int .u32 2600822924, Value.int .u32 528734635, Value.int .u32 1541459225] := rfl
theorem shaK_len : shaK.length = 64 := rfl
theorem loadU8 (l : List Nat) (hl : l.length = 8) (g : Nat) (w : World) (h : RowU 109 w g l) : (Instr.loadAt 109 (.pointer (some ⟨g, 0, none⟩))).run Tryz.prog w = .ok (.agg (uCells l)) w := by
  have := run_loadAt_mid (P := Tryz.prog) w g 0 109 (uCells l).toList _ h.range Tryz.underlying109 rfl (by rw [size8, Array.length_toList, uCells_size, hl])
  rw [Array.toArray_toList] at this
  exact this
theorem storeU8 (l m : List Nat) (hl : l.length = 8) (hm : m.length = 8) (g : Nat) (w : World) (h : RowU 109 w g m) : (Instr.storeAt 109 (.pointer (some ⟨g, 0, none⟩)) (.agg (uCells l))).run Tryz.prog w = .ok () (w.setCells g 0 (uCells l).toList) :=
  run_storeAt_mid (P := Tryz.prog) w g 0 109 (uCells l) (h.there _ (by rw [uCells_size, hl, hm])) (by rw [size8, uCells_size, hl]) (uCells_one _)

theorem scheduleI2 (bs : List Nat) (g o cap : Nat) (w : World) (hn : ∀ i, i < bs.length → w.cell? ⟨g, o + i, none⟩ = some (.int .u8 ((bs.getD i 0 : Nat) : Int))) (hl : bs.length = 64) (hbb : ∀ x ∈ bs, x < 256) (hg : g < w.heap.size) :
    Calls Tryz.prog 58 #[.slice (some ⟨g, o, none⟩) 64 cap] w fun e w' => ∃ ws, e = .returned (.agg (uCells ws)) ∧ Hid (ws = schedTo bs 48) ∧ Hid (Below w.heap.size w w') :=
  (scheduleI bs g o cap w hn hl hbb hg).mono fun e w' h => ⟨_, h.1, rfl, h.2⟩
theorem nextI2 (bs : List Nat) (hbb : ∀ x ∈ bs, x < 256) (ws : List Nat) (hws : ws = schedTo bs 48) (s : St) (hs : s.ok) (w : World) (hms : RowG w shaK) :
    Calls Tryz.prog 57 #[.agg (uCells s.toL), .agg (uCells ws)] w fun e w' => ∃ l, e = .returned (.agg (uCells l)) ∧ Hid (l = (mix shaK s bs).toL) ∧ Hid (Below w.heap.size w w') := by
  have h1 := schedTo_length bs 48
  have h2 := schedTo_lt bs hbb 48
  have h3 : mix shaK s bs = s.plus (rounds shaK (schedTo bs 48) s 64) := rfl
  rw [← hws] at h1 h2 h3
  exact (nextI shaK ws s hs w hms shaK_len shaK_ok h1 h2).mono fun e w' h => ⟨_, h.1, by rw [h3]; rfl, h.2⟩

theorem toL_len (s : St) : s.toL.length = 8 := rfl
theorem cells8 {T : TypeId} {w : World} {G a b c d e f g h : Nat} (H : RowU T w G (St.toL ⟨a, b, c, d, e, f, g, h⟩)) : w.cell? ⟨G, 0, none⟩ = some (.int .u32 (a : Int)) ∧ w.cell? ⟨G, 1, none⟩ = some (.int .u32 (b : Int)) ∧ w.cell? ⟨G, 2, none⟩ = some (.int .u32 (c : Int)) ∧ w.cell? ⟨G, 3, none⟩ = some (.int .u32 (d : Int)) ∧ w.cell? ⟨G, 4, none⟩ = some (.int .u32 (e : Int)) ∧ w.cell? ⟨G, 5, none⟩ = some (.int .u32 (f : Int)) ∧ w.cell? ⟨G, 6, none⟩ = some (.int .u32 (g : Int)) ∧ w.cell? ⟨G, 7, none⟩ = some (.int .u32 (h : Int)) :=
  ⟨H.cell 0 (by show _ < 8; decide), H.cell 1 (by show _ < 8; decide), H.cell 2 (by show _ < 8; decide), H.cell 3 (by show _ < 8; decide), H.cell 4 (by show _ < 8; decide), H.cell 5 (by show _ < 8; decide), H.cell 6 (by show _ < 8; decide), H.cell 7 (by show _ < 8; decide)⟩
theorem nextI3 (bs : List Nat) (hbb : ∀ x ∈ bs, x < 256) (ws : List Nat) (hws : ws = schedTo bs 48) (a b c d e f g h : Nat) (hs : (⟨a, b, c, d, e, f, g, h⟩ : St).ok) (w : World) (hms : RowG w shaK) :
    Calls Tryz.prog 57 #[.agg #[.int .u32 (a : Int), .int .u32 (b : Int), .int .u32 (c : Int), .int .u32 (d : Int), .int .u32 (e : Int), .int .u32 (f : Int), .int .u32 (g : Int), .int .u32 (h : Int)], .agg (uCells ws)] w fun e' w' => ∃ l, e' = .returned (.agg (uCells l)) ∧ Hid (l = (mix shaK ⟨a, b, c, d, e, f, g, h⟩ bs).toL) ∧ Hid (Below w.heap.size w w') :=
  nextI2 bs hbb ws hws ⟨a, b, c, d, e, f, g, h⟩ hs w hms

set_option maxHeartbeats 1000000 in
set_option maxRecDepth 100000 in
theorem implSum (s : ByteArray) (w : World) (hs : s.size ≤ 1073741824) (hK : RowG w shaK) :
    Calls Tryz.prog 26 #[.string s] w fun e w' => e = .returned (.string ⟨(sumB s.data.toList).toArray⟩) ∧ Below w.heap.size w w' := by
  obtain ⟨W, hW⟩ : ∃ W, W = w.alloc (.cells (uCells sha0.toL) 109) := ⟨_, rfl⟩
  have HZ : Hid (RowU 109 W w.heap.size sha0.toL ∧ W.heap.size = w.heap.size + 1 ∧ Below w.heap.size w W) := by
    refine ⟨?_, ?_, ?_⟩
    · rw [hW]; exact heap_alloc_new w _
    · rw [hW]; simp
    · rw [hW]; exact (Below.refl _ w).alloc (Nat.le_refl _) _
  have HW : Hid (W = w.alloc (.cells (uCells sha0.toL) 109)) := hW
  have HK : Hid (RowG w shaK) := hK
  clear hW hK
  go_enter Tryz.func26, Tryz.ntmps26
  go_wp2_with fail
  rw [← sha0_cells, ← HW.out]
  refine (paddedI s _ hs).mono ?_
  rintro e w1 ⟨g, cap, rfl, hrow, b1⟩
  have hg := hrow.lt
  have hcells : ∀ i, i < padLen s.size → w1.cell? ⟨g, i, none⟩ = some (.int .u8 (((padN s.data.toList).getD i 0 : Nat) : Int)) := by
    intro i hi
    have hlB : i < (padB s.data.toList).length := by rw [padB_length]; simpa using hi
    rw [hrow.cells i hlB, padN_padB]
    simp [List.getElem?_eq_getElem hlB]
  have hcap : padLen s.size ≤ cap ∧ cap ≤ maxLen := by
    obtain ⟨g', cap', cur, fz, hv, _, _, _, h1, h2, _⟩ := hrow
    simp only [Value.slice.injEq, Option.some.injEq, Addr.mk.injEq, and_true] at hv
    obtain ⟨_, _, rfl⟩ := hv
    rw [padB_length] at h1
    exact ⟨by simpa using h1, h2⟩
  have hlen := padN_length s.data.toList
  rw [show s.data.toList.length = s.size from by simp] at hlen
  have hpl := padN_lt s.data.toList
  have HSH : Hid (sha s.data.toList = mixTo (padN s.data.toList) (padLen s.size / 64)) := by
    show _ = _
    rw [sha, show s.data.toList.length = s.size from by simp]
  generalize padN s.data.toList = P at hcells hlen hpl HSH
  obtain ⟨L, hL⟩ : ∃ L, L = padLen s.size := ⟨_, rfl⟩
  have hL2 : L ≤ s.size + 72 := by rw [hL]; unfold padLen; omega
  have HLm : Hid (L % 64 = 0) := by show _ = _; rw [hL]; exact padLen_mod _
  rw [← hL] at hcells hcap hlen HSH ⊢
  have HL : Hid (P.length = L) := hlen
  have HC : Hid (∀ i, i < L → w1.cell? ⟨g, i, none⟩ = some (.int .u8 ((P.getD i 0 : Nat) : Int))) := hcells
  have HG : Hid (w.heap.size + 1 ≤ g ∧ g < w1.heap.size) := by
    refine ⟨?_, hg.2⟩
    have := hg.1
    rw [HZ.out.2.1] at this
    exact this
  have hw0 : 1 < w.heap.size := HK.out.lt
  have HB : Hid (RowU 109 w1 w.heap.size sha0.toL ∧ RowG w1 shaK ∧ Below w.heap.size w w1) := by
    have hb := HZ.out.2.2.trans (b1.mono (by rw [HZ.out.2.1]; omega))
    exact ⟨HZ.out.1.below b1 (by rw [HZ.out.2.1]; omega), HK.out.below hb hw0, hb⟩
  have hc2 := hcap.1
  have hc3 : cap ≤ 9223372036854775807 := by have := hcap.2; simp only [maxLen] at this; omega
  clear hlen hL hg hcells hrow b1 HZ HW hcap
  go_wp2
  go_loopw [5] (fun i wr => ∃ (j m : Nat), m ≤ L ∧ i = .int .i64 (m : Int) ∧ Hid (m = 64 * j) ∧ Hid (RowU 109 wr w.heap.size (mixTo P j).toL) ∧ Hid (RowG wr shaK) ∧ Hid (∀ i, i < L → wr.cell? ⟨g, i, none⟩ = some (.int .u8 ((P.getD i 0 : Nat) : Int))) ∧ Hid (g < wr.heap.size) ∧ Hid (Below w.heap.size w wr)) (fun i _ => L - (intOf i).toNat)
  case atStart => exact ⟨0, 0, by omega, rfl, rfl, HB.out.1, HB.out.2.1, HC, HG.out.2, HB.out.2.2⟩
  case round =>
    obtain ⟨j, m, hm, rfl, HM, HR, HK1, HC1, HG1, HB1⟩ := hrel
    have hm64 : m < L → m + 64 ≤ L := by have h1 := HLm.out; have h2 := HM.out; omega
    by_cases hlt : m < L
    · have hm2 := hm64 hlt
      have hsl : ((P.drop m).take 64).length = 64 := by simp [HL.out]; omega
      have hsb : ∀ x ∈ (P.drop m).take 64, x < 256 := fun x hx => hpl x (List.mem_of_mem_drop (List.mem_of_mem_take hx))
      have HNX : Hid (mixTo P (j + 1) = mix shaK (mixTo P j) ((P.drop m).take 64)) := by show _ = _; rw [mixTo, ← HM.out]
      have HN : Hid (∀ i, i < ((P.drop m).take 64).length → wr.cell? ⟨g, m + i, none⟩ = some (.int .u8 ((((P.drop m).take 64).getD i 0 : Nat) : Int))) := by
        intro i hi
        rw [hsl] at hi
        rw [HC1.out (m + i) (by omega)]
        simp [hi]
      generalize (P.drop m).take 64 = bs at HN hsl hsb HNX
      have Hsb : Hid (∀ x ∈ bs, x < 256) := hsb
      obtain ⟨m2, hm2e⟩ : ∃ m2 : Nat, m2 = m + 64 := ⟨_, rfl⟩
      have lw : IntKind.i64.wrap ((m : Int) + 64) = (m2 : Int) := by rw [IntKind.wrap_i64, hm2e]; omega
      have lm0 : (0 : Int) ≤ (m : Int) := by omega
      have lm1 : (m : Int) ≤ (m2 : Int) := by omega
      have lm2 : (m2 : Int) ≤ (cap : Int) := by omega
      have lm3 : (0 : Int) ≤ (m2 : Int) := by omega
      have ld1 : m2 - m = 64 := by omega
      have lne : ¬ cap = m := by omega
      have ld2 : ((m2 : Int) - (m : Int)).toNat = 64 := by omega
      have ld3 : (m2 : Int) - (m : Int) = 64 := by omega
      have HM2 : Hid (m2 = m + 64) := hm2e
      clear hm2e
      clear hm64 hsb
      have hmo := mixTo_ok P j
      generalize mixTo P j = st at HR HNX hmo
      have hwlt : w.heap.size < wr.heap.size := HR.out.lt
      have hw0lt : 1 < wr.heap.size := by omega
      obtain ⟨a, b, c, d, e, f, gg, h⟩ := st
      have Hok : Hid ((⟨a, b, c, d, e, f, gg, h⟩ : St).ok) := hmo
      obtain ⟨c0, c1, c2, c3, c4, c5, c6, c7⟩ := cells8 HR.out
      clear hmo
      go_wp2_with fail
      go_region_with (first | (go_at_call 58; refine (scheduleI2 bs g m _ _ ?_ hsl Hsb.out ?_).mono ?_; exact HN.out; exact HG1.out; rintro e w2 ⟨ws, rfl, HWS, b2⟩; have hr2 : Hid (RowU 109 w2 w.heap.size (St.toL ⟨a, b, c, d, e, f, gg, h⟩)) := HR.out.drew.below b2.out hwlt; have hk2 : Hid (RowG w2 shaK) := HK1.out.drew.below b2.out hw0lt; obtain ⟨d0, d1, d2, d3, d4, d5, d6, d7⟩ := cells8 hr2.out) | (go_at_call 57; refine (nextI3 bs Hsb.out ws HWS.out a b c d e f gg h Hok.out _ ?_).mono ?_; exact hk2.out; rintro e w3 ⟨l3, rfl, HL3, b3⟩; have hr3 : Hid (RowU 109 w3 w.heap.size (St.toL ⟨a, b, c, d, e, f, gg, h⟩)) := hr2.out.below b3.out hr2.out.lt; have hk3 : Hid (RowG w3 shaK) := hk2.out.below b3.out hk2.out.lt; have hsz : (uCells l3).size = 8 := (by rw [uCells_size, HL3.out]; exact toL_len _); have hst := run_storeCellsU (P := Tryz.prog) hr3.out l3 (by rw [HL3.out, toL_len, toL_len])))
      all_goals
        go_wp2
        go_roundw
        case rel =>
          have hbb : Below w.heap.size w w3 := (HB1.out.drew.trans (b2.out.mono (Nat.le_of_lt hwlt))).trans (b3.out.mono (Nat.le_of_lt hr2.out.lt))
          have hg3 : g < w3.heap.size := Nat.lt_of_lt_of_le HG1.out (Nat.le_trans b2.out.size b3.out.size)
          have hg2 : g < w2.heap.size := Nat.lt_of_lt_of_le HG1.out b2.out.size
          refine ⟨j + 1, m + 64, by omega, by go_num, ?_, ?_, ?_, ?_, ?_, ?_⟩
          · show m + 64 = 64 * (j + 1)
            have := HM.out
            omega
          · show RowU _ _ _ _
            rw [HNX.out, ← HL3.out]
            exact hr3.out.over (by rw [HL3.out, toL_len, toL_len])
          · exact hk3.out.keep (heap_setCells_other _ _ _ _ _ (by omega))
          · intro i hi
            rw [World.cell?_setCells_out _ _ _ _ _ (fun h1 _ => absurd h1 (by have := HG.out.1; show ¬ g = w.heap.size; omega))]
            rw [b3.out.cell (p := ⟨g, i, none⟩) hg2, b2.out.cell (p := ⟨g, i, none⟩) HG1.out]
            exact HC1.out i hi
          · exact Nat.lt_of_lt_of_le hg3 (Below.setCells (Below.refl w.heap.size w3) (Nat.le_refl _) _ _).size
          · exact Below.setCells hbb (Nat.le_refl _) _ _
        case measure => simp [intOf]; omega
    · have HJ : Hid (j = L / 64) := by show j = L / 64; have h1 := HLm.out; have h2 := HM.out; omega
      have HSB : Hid (sumB s.data.toList = hexOf (mixTo P j).a ++ hexOf (mixTo P j).b) := by
        show _ = _
        rw [sumB, HSH.out, ← HJ.out]
      have hok := mixTo_ok P j
      generalize mixTo P j = t at HR hok HSB
      have c0 : wr.cell? ⟨w.heap.size, 0, none⟩ = some (.int .u32 (t.a : Int)) := HR.out.cell 0 (by simp [St.toL])
      have c1 : wr.cell? ⟨w.heap.size, 1, none⟩ = some (.int .u32 (t.b : Int)) := HR.out.cell 1 (by simp [St.toL])
      have hg := HR.out.lt
      have la := hok.1
      have lb := hok.2.1
      have hl8 : ∀ x, (hexOf x).length = 8 := fun x => by simp [hexOf]
      clear hm64 hok
      go_wp2_with fail
      go_region_with (first | (go_at_call_of 59 (Value.int .u32 (t.a : Int)); refine (figuresI _ _ la).mono ?_; rintro e w2 ⟨rfl, b2⟩; have d1 : w2.cell? ⟨w.heap.size, 1, none⟩ = some (.int .u32 (t.b : Int)) := (b2.cell (p := ⟨w.heap.size, 1, none⟩) hg).trans c1) | (go_at_call_of 59 (Value.int .u32 (t.b : Int)); refine (figuresI _ _ lb).mono ?_; rintro e w3 ⟨rfl, b3⟩))
      all_goals
        go_wp2
        go_ret
        rw [HSB.out]
        have hcat : (⟨(hexOf t.a).toArray⟩ : ByteArray) ++ ⟨(hexOf t.b).toArray⟩ = ⟨(hexOf t.a ++ hexOf t.b).toArray⟩ := by
          apply ByteArray.ext; simp
        rw [← hcat]
        have b12 := HB1.out.trans (((Below.drew (Below.refl _ wr)).trans b2).mono HB1.out.size)
        exact ⟨rfl, b12.trans (b3.mono b12.size)⟩

end Go.Proofs.YtkajpkfhedfmaaaGreatDoor

set_option linter.unusedVariables false
namespace Go.Proofs.YtkajpkfhedfmaaaGreatDoor
open Go.RowKit

theorem headT_len {h : HeadV} (hok : headOkB h = true) : (headT h).length ≤ 200 := by
  obtain ⟨h1, h2, h3, h4, h5⟩ := headOk_in hok
  have hps := sum_size h1
  have hrs := sum_size h2
  have htl : (Lib.decDigits h.time.toNat).length ≤ 19 := decLen (by omega)
  have hdl : (Lib.decDigits h.diff.toNat).length ≤ 19 := decLen (by omega)
  have hnl : (Lib.decDigits h.nonce.toNat).length ≤ 19 := decLen (by omega)
  have e1 : h.prev.data.toList.length = 16 := by simpa using hps
  have e2 : h.root.data.toList.length = 16 := by simpa using hrs
  have e1' : h.prev.data.size = 16 := by simpa using hps
  have e2' : h.root.data.size = 16 := by simpa using hrs
  simp [headT, joinTo, headL, e1', e2']
  omega
/-- The text of which a head's sum is the sum. -/
def headX (h : HeadV) : List UInt8 := [104, 101, 97, 100, 32] ++ headT h
def headSum (h : HeadV) : List UInt8 := if headOkB h = true then sumB (headX h) else []
def headMeets (h : HeadV) : Bool := headOkB h && decide ((headOf (headX h) : Int) / 65536 * h.diff < 32768)
theorem headSum_no {h : HeadV} (hok : headOkB h = false) : headSum h = [] := by rw [headSum, hok]; rfl
theorem headSum_yes {h : HeadV} (hok : headOkB h = true) : headSum h = sumB (headX h) := by rw [headSum, if_pos hok]
theorem headXs (h : HeadV) : ((⟨#[104, 101, 97, 100, 32]⟩ : ByteArray) ++ ⟨(headT h).toArray⟩).data.toList = headX h := by simp [headX]
theorem headXz {h : HeadV} (hok : headOkB h = true) : ((⟨#[104, 101, 97, 100, 32]⟩ : ByteArray) ++ ⟨(headT h).toArray⟩).size ≤ 1073741824 := by
  have := headT_len hok
  have e1 : (⟨#[104, 101, 97, 100, 32]⟩ : ByteArray).size = 5 := rfl
  have e3 : (⟨(headT h).toArray⟩ : ByteArray).size = (headT h).length := by simp [ByteArray.size]
  rw [ByteArray.size_append, e1, e3]
  omega

set_option maxHeartbeats 1000000 in
set_option maxRecDepth 100000 in
theorem implHeadSum (h : HeadV) (w : World) (hK : RowG w shaK) (hP : TabP w) :
    Calls Tryz.prog 88 #[headVal h] w fun e w' => e = .returned (.string ⟨(headSum h).toArray⟩) ∧ Below w.heap.size w w' := by
  have HK : Hid (RowG w shaK) := hK
  have HP : Hid (∀ w', Below w.heap.size w w' → TabP w') := fun w' hb => TabP.below hP hb (Nat.le_refl _)
  clear hK hP
  have hck := fun w' => implHeadOk h w'
  unfold headVal
  cases hok : headOkB h with
  | false =>
    rw [headSum_no hok]
    simp only [hok] at hck
    go_enter Tryz.func88, Tryz.ntmps88
    go_wp2_with (go_at_call 60; refine (hck _).mono ?_; rintro e w1 ⟨rfl, b1⟩)
    go_ret
    exact ⟨rfl, ((Below.refl _ w).alloc (Nat.le_refl _) _).trans (b1.mono (by simp))⟩
  | true =>
    rw [headSum_yes hok]
    have e : headPut h = headT h := by rw [headPut, if_pos hok]
    have hpt := fun w' hp => implHeadPut h w' hp
    rw [e] at hpt
    have hsz := headXz hok
    have HX : Hid (_ = headX h) := headXs h
    have htl := headT_len hok
    simp only [hok] at hck
    generalize headT h = ht at hpt hsz HX htl
    generalize headX h = hx at HX
    have S0 : HSt w _ w.heap.size h.prev h.root h.time h.diff h.nonce := HSt.new w 36 h.prev h.root h.time h.diff h.nonce
    clear e hok
    go_enter Tryz.func88, Tryz.ntmps88
    go_wp2_with fail
    refine (hck _).mono ?_
    rintro e w1 ⟨rfl, b1⟩
    have S1 := S0.call b1
    obtain ⟨c0, c1, c2, c3, c4⟩ := S1.out
    go_wp2_with fail
    refine (hpt _ (HP.out _ S1.2.1)).mono ?_
    rintro e w2 ⟨rfl, b2⟩
    have S2 := S1.call b2
    clear c0 c1 c2 c3 c4 hpt hck
    go_wp2_with fail
    refine (implSum _ _ hsz (HK.out.below S2.2.1 HK.out.lt)).mono ?_
    rintro e w3 ⟨rfl, b3⟩
    rw [HX.out]
    go_wp2_with fail
    go_ret
    exact ⟨rfl, (S2.call b3).2.1⟩

set_option maxHeartbeats 1000000 in
set_option maxRecDepth 100000 in
theorem specL3Sum (h : HeadV) (w : World) (hok : headOkB h = true) :
    Calls Tryz.prog 113 #[headVal h] w fun e w' => e = .returned (.string ⟨(sumB (headX h)).toArray⟩) ∧ Below w.heap.size w w' := by
  unfold headVal
  have hpt := fun w' => specL3Put h w' hok
  have hsz := headXz hok
  have HX : Hid (_ = headX h) := headXs h
  have htl := headT_len hok
  generalize headT h = ht at hpt hsz HX htl
  generalize headX h = hx at HX
  have S0 : HSt w _ w.heap.size h.prev h.root h.time h.diff h.nonce := HSt.new w 36 h.prev h.root h.time h.diff h.nonce
  clear hok
  go_enter Tryz.func113, Tryz.ntmps113
  go_wp2_with fail
  refine (hpt _).mono ?_
  rintro e w2 ⟨rfl, b2⟩
  have S2 := S0.call b2
  clear hpt
  go_wp2_with fail
  refine (specSum _ _ hsz).mono ?_
  rintro e w3 ⟨rfl, b3⟩
  rw [HX.out]
  go_wp2_with fail
  go_ret
  exact ⟨rfl, (S2.call b3).2.1⟩

end Go.Proofs.YtkajpkfhedfmaaaGreatDoor

set_option linter.unusedVariables false
namespace Go.Proofs.YtkajpkfhedfmaaaGreatDoor
open Go.RowKit

theorem meets_yes {h : HeadV} (hok : headOkB h = true) : headMeets h = decide ((headOf (headX h) : Int) / 65536 * h.diff < 32768) := by rw [headMeets, hok, Bool.true_and]
theorem meets_no {h : HeadV} (hok : headOkB h = false) : headMeets h = false := by rw [headMeets, hok, Bool.false_and]

set_option maxHeartbeats 1000000 in
set_option maxRecDepth 100000 in
theorem implHeadMeets (h : HeadV) (w : World) (hK : RowG w shaK) (hP : TabP w) :
    Calls Tryz.prog 49 #[headVal h] w fun e w' => e = .returned (.bool (headMeets h)) ∧ Below w.heap.size w w' := by
  have HK : Hid (RowG w shaK) := hK
  have HP : Hid (∀ w', Below w.heap.size w w' → TabP w') := fun w' hb => TabP.below hP hb (Nat.le_refl _)
  clear hK hP
  have hck := fun w' => implHeadOk h w'
  cases hok : headOkB h with
  | false =>
    rw [meets_no hok]
    unfold headVal
    simp only [hok] at hck
    go_enter Tryz.func49, Tryz.ntmps49
    go_wp2_with (go_at_call 60; refine (hck _).mono ?_; rintro e w1 ⟨rfl, b1⟩)
    go_ret
    exact ⟨rfl, ((Below.refl _ w).alloc (Nat.le_refl _) _).trans (b1.mono (by simp))⟩
  | true =>
    rw [meets_yes hok]
    have hpt := fun w' hk hp => implHeadSum h w' hk hp
    rw [headSum_yes hok] at hpt
    have hsh := fun w' => implSumHead ⟨(sumB (headX h)).toArray⟩ w'
    have e1 : sumHead (⟨(sumB (headX h)).toArray⟩ : ByteArray).data.toList = (headOf (headX h) : Int) := sumHead_sumB _
    rw [e1] at hsh
    clear e1
    have hhl := headOf_lt (headX h)
    generalize sumB (headX h) = sb at hpt hsh
    generalize headOf (headX h) = hd at hsh hhl ⊢
    obtain ⟨_, _, h3, h4, h5⟩ := headOk_in hok
    simp only [hok] at hck
    unfold headVal at hpt ⊢
    clear hok
    obtain ⟨p, r, t, d, n⟩ := h
    dsimp only at h3 h4 h5 hpt hck ⊢
    have ed : (hd : Int).tdiv 65536 = (hd : Int) / 65536 := Int.tdiv_eq_ediv_of_nonneg (by omega)
    have hq0 : 0 ≤ (hd : Int) / 65536 := by omega
    have hq1 : (hd : Int) / 65536 ≤ 32767 := by omega
    generalize (hd : Int) / 65536 = q at ed hq0 hq1 ⊢
    have hm1 : q * d ≤ 32767 * 8 := Int.mul_le_mul hq1 h4.2 (by omega) (by omega)
    have hm0 : 0 ≤ q * d := Int.mul_nonneg hq0 (by omega)
    have wq : IntKind.i64.wrap q = q := by rw [IntKind.wrap_i64]; omega
    have wm : IntKind.i64.wrap (q * d) = q * d := by generalize q * d = x at hm0 hm1 ⊢; rw [IntKind.wrap_i64]; omega
    have S0 : HSt w _ w.heap.size p r t d n := HSt.new w 36 p r t d n
    go_enter Tryz.func49, Tryz.ntmps49
    go_wp2_with fail
    refine (hck _).mono ?_
    rintro e w1 ⟨rfl, b1⟩
    have S1 := S0.call b1
    obtain ⟨c0, c1, c2, c3, c4⟩ := S1.out
    go_wp2_with fail
    go_region_held3 (fun w' => w'.cell? ⟨w.heap.size, 0, none⟩ = some (.string p) ∧ w'.cell? ⟨w.heap.size, 1, none⟩ = some (.string r) ∧ w'.cell? ⟨w.heap.size, 2, none⟩ = some (.int .i64 t) ∧ w'.cell? ⟨w.heap.size, 3, none⟩ = some (.int .i64 d) ∧ w'.cell? ⟨w.heap.size, 4, none⟩ = some (.int .i64 n))
      (first | (with_reducible first | exact S2.out | exact S1.out | exact S1.drew.out) | go_keep)
      (first
        | (go_at_call 88; refine (hpt _ (HK.out.below S1.drew.2.1 HK.out.lt) (HP.out _ S1.drew.2.1)).mono ?_; rintro e w2 ⟨rfl, b2⟩; have S2 : HSt w w2 w.heap.size p r t d n := S1.drew.call b2)
        | (go_at_call 87; refine (hsh _).mono ?_; rintro e w3 ⟨rfl, rfl⟩))
    go_wp2_with fail
    go_ret
    exact ⟨rfl, S2.2.1⟩

set_option maxHeartbeats 1000000 in
set_option maxRecDepth 100000 in
theorem specL3Meets (h : HeadV) (w : World) (hok : headOkB h = true) :
    Calls Tryz.prog 78 #[headVal h] w fun e w' => e = .returned (.bool (headMeets h)) ∧ Below w.heap.size w w' := by
  rw [meets_yes hok]
  have hpt := fun w' => specL3Sum h w' hok
  have hsh := fun w' => specHead ⟨(sumB (headX h)).toArray⟩ w' (isSum_sumB _)
  have e1 : ((hexN ((⟨(sumB (headX h)).toArray⟩ : ByteArray).data.toList.take 8) / 2 : Nat) : Int) = (headOf (headX h) : Int) := rfl
  rw [e1] at hsh
  clear e1
  have hhl := headOf_lt (headX h)
  generalize sumB (headX h) = sb at hpt hsh
  generalize headOf (headX h) = hd at hsh hhl ⊢
  obtain ⟨_, _, h3, h4, h5⟩ := headOk_in hok
  unfold headVal at hpt ⊢
  clear hok
  obtain ⟨p, r, t, d, n⟩ := h
  dsimp only at h3 h4 h5 hpt ⊢
  have ed : (hd : Int).tdiv 65536 = (hd : Int) / 65536 := Int.tdiv_eq_ediv_of_nonneg (by omega)
  have hq0 : 0 ≤ (hd : Int) / 65536 := by omega
  have hq1 : (hd : Int) / 65536 ≤ 32767 := by omega
  generalize (hd : Int) / 65536 = q at ed hq0 hq1 ⊢
  have hm1 : q * d ≤ 32767 * 8 := Int.mul_le_mul hq1 h4.2 (by omega) (by omega)
  have hm0 : 0 ≤ q * d := Int.mul_nonneg hq0 (by omega)
  have wq : IntKind.i64.wrap q = q := by rw [IntKind.wrap_i64]; omega
  have wm : IntKind.i64.wrap (q * d) = q * d := by generalize q * d = x at hm0 hm1 ⊢; rw [IntKind.wrap_i64]; omega
  have S1 : HSt w _ w.heap.size p r t d n := HSt.new w 36 p r t d n
  go_enter Tryz.func78, Tryz.ntmps78
  go_wp2_with fail
  go_region_held3 (fun w' => w'.cell? ⟨w.heap.size, 0, none⟩ = some (.string p) ∧ w'.cell? ⟨w.heap.size, 1, none⟩ = some (.string r) ∧ w'.cell? ⟨w.heap.size, 2, none⟩ = some (.int .i64 t) ∧ w'.cell? ⟨w.heap.size, 3, none⟩ = some (.int .i64 d) ∧ w'.cell? ⟨w.heap.size, 4, none⟩ = some (.int .i64 n))
    (first | (with_reducible first | exact S2.out | exact S1.out | exact S1.drew.out) | go_keep)
    (first
      | (go_at_call 113; refine (hpt _).mono ?_; rintro e w2 ⟨rfl, b2⟩; have S2 : HSt w w2 w.heap.size p r t d n := S1.drew.call b2)
      | (go_at_call 112; refine (hsh _).mono ?_; rintro e w3 ⟨rfl, rfl⟩))
  go_wp2_with fail
  go_ret
  exact ⟨rfl, S2.2.1⟩

end Go.Proofs.YtkajpkfhedfmaaaGreatDoor

set_option linter.unusedVariables false
namespace Go.Proofs.YtkajpkfhedfmaaaGreatDoor
open Go.RowKit Go.Deep

theorem firstC {p : Nat → Bool} : ∀ (n k : Nat), k < n → p k = true → (∀ j, j < k → p j = false) → (List.range n).find? p = some k
  | 0, k, hk, _, _ => by omega
  | n + 1, k, hk, hp, hj => by
    rw [List.range_succ, List.find?_append]
    by_cases h : k < n
    · rw [firstC n k h hp hj]
      rfl
    · obtain rfl : k = n := by omega
      have : (List.range k).find? p = none := List.find?_eq_none.2 fun j hj' => by rw [hj j (List.mem_range.1 hj')]; decide
      rw [this]
      simp [hp]
theorem noneC {p : Nat → Bool} {n : Nat} (h : ∀ j, j < n → p j = false) : (List.range n).find? p = none := List.find?_eq_none.2 fun j hj' => by rw [h j (List.mem_range.1 hj')]; decide
theorem getD_take {l : List HeadV} {i j : Nat} (h : j < i) : (l.take i).getD j default = l.getD j default := by
  simp [h]
theorem AtHead.take {w : World} {g : Nat} {l : List HeadV} (h : AtHead w g l) (i : Nat) : AtHead w g (l.take i) :=
  ⟨h.1, fun a b ha hb => by
    have h1 : a < i ∧ a < l.length := by rw [List.length_take] at ha; omega
    rw [getD_take h1.1]
    exact h.2 a b h1.2 hb⟩

def zeros16 : ByteArray := ⟨#[48, 48, 48, 48, 48, 48, 48, 48, 48, 48, 48, 48, 48, 48, 48, 48]⟩
def lastH (l : List HeadV) : HeadV := l.getD (l.length - 1) default
/-- The time between the last and the one three ahead of it. -/
def spanH (l : List HeadV) : Int := (lastH l).time - (l.getD (l.length - 4) default).time
def hardV (l : List HeadV) : Int :=
  if l.length = 0 then 1
  else if l.length % 4 = 0 then
    if spanH l < 20 then min ((lastH l).diff + 1) 8
    else if 60 < spanH l then max ((lastH l).diff - 1) 1
    else (lastH l).diff
  else (lastH l).diff
def sumH (h : HeadV) : ByteArray := ⟨(sumB (headX h)).toArray⟩
def prevV (l : List HeadV) : ByteArray := if l.length = 0 then zeros16 else sumH (lastH l)
def laterB (l : List HeadV) (t : Int) : Bool := decide (l.length = 0 ∨ (lastH l).time < t)
def fitsB (l : List HeadV) (h : HeadV) : Bool := headOkB h && (headMeets h && (decide (h.diff = hardV l) && (decide (h.prev = prevV l) && laterB l h.time)))
def standsB (l : List HeadV) (h : HeadV) : Bool := fitsB l h && decide (l.length < 20)
def stepC (l : List HeadV) (i : Nat) : Bool := standsB (l.take i) (l.getD i default)
def chainCk (l : List HeadV) : Nat := match (List.range l.length).find? fun i => !(stepC l i) with
  | some i => i + 1
  | none => 0
theorem ck_bad {l : List HeadV} {i : Nat} (hi : i < l.length) (hf : stepC l i = false) (hj : ∀ j, j < i → stepC l j = true) : chainCk l = i + 1 := by
  unfold chainCk
  rw [firstC l.length i hi (by rw [hf]; rfl) (fun j h => by rw [hj j h]; rfl)]
theorem ck_good {l : List HeadV} (hj : ∀ j, j < l.length → stepC l j = true) : chainCk l = 0 := by
  unfold chainCk
  rw [noneC (fun j h => by rw [hj j h]; rfl)]
theorem ck_zero {l : List HeadV} (h : chainCk l = 0) : ∀ j, j < l.length → stepC l j = true := by
  unfold chainCk at h
  split at h
  · omega
  · rename_i hn
    rw [List.find?_eq_none] at hn
    intro j hj
    have := hn j (List.mem_range.2 hj)
    simpa using this
theorem step_ok {l : List HeadV} {i : Nat} (h : stepC l i = true) : headOkB (l.getD i default) = true := by
  simp only [stepC, standsB, fitsB, Bool.and_eq_true] at h
  exact h.1.1
theorem step_lt {l : List HeadV} {i : Nat} (hi : i < l.length) (h : stepC l i = true) : i < 20 := by
  simp only [stepC, standsB, Bool.and_eq_true, decide_eq_true_eq, List.length_take] at h
  omega
theorem ck_len {l : List HeadV} (h : chainCk l = 0) : l.length ≤ 20 := by
  rcases Nat.lt_or_ge 20 l.length with h' | h'
  · have := step_lt h' (ck_zero h 20 h')
    omega
  · exact h'
theorem ck_ok {l : List HeadV} (h : chainCk l = 0) : ∀ i, i < l.length → headOkB (l.getD i default) = true := fun i hi => step_ok (ck_zero h i hi)
theorem ck_le (l : List HeadV) : chainCk l ≤ l.length := by
  unfold chainCk
  split
  · rename_i i hi
    have := List.mem_of_find?_eq_some hi
    have := List.mem_range.1 this
    omega
  · omega
theorem take_ok {l : List HeadV} {i : Nat} (h : ∀ j, j < i → stepC l j = true) : ∀ j, j < (l.take i).length → headOkB ((l.take i).getD j default) = true := by
  intro j hj
  have h1 : j < i ∧ j < l.length := by rw [List.length_take] at hj; omega
  rw [getD_take h1.1]
  exact step_ok (h j h1.1)
theorem lastH_ok {l : List HeadV} (hn : 0 < l.length) (h : ∀ i, i < l.length → headOkB (l.getD i default) = true) : headOkB (lastH l) = true := h _ (by omega)
theorem hard_in {l : List HeadV} (h : ∀ i, i < l.length → headOkB (l.getD i default) = true) : 1 ≤ hardV l ∧ hardV l ≤ 8 := by
  unfold hardV
  split
  · omega
  · rename_i hn
    have := headOk_in (lastH_ok (by omega) h)
    split <;> (try split) <;> (try split) <;> omega

end Go.Proofs.YtkajpkfhedfmaaaGreatDoor

