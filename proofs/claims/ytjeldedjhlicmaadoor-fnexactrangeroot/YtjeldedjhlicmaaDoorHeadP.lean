/-
  Heads written: the program, the specification.
-/
import Derived.Test.YtjeldedjhlicmaaDoorHeadM
import Derived.Test.YtjeldedjhlicmaaDoorLaidQ
import Derived.Deep.RegionHeld3
import Derived.Lib.AppendIntMem
set_option linter.unusedVariables false
namespace Go.Proofs.YtjeldedjhlicmaaDoor
open Go.RowKit

theorem sum_size {s : ByteArray} (h : isSum s.data.toList = true) : s.size = 16 := by simpa using isSum_len h
/-- The five cells of a head. -/
def HAt (w : World) (g : Nat) (p r : ByteArray) (t d n : Int) : Prop := w.cell? ⟨g, 0, none⟩ = some (.string p) ∧ w.cell? ⟨g, 1, none⟩ = some (.string r) ∧ w.cell? ⟨g, 2, none⟩ = some (.int .i64 t) ∧ w.cell? ⟨g, 3, none⟩ = some (.int .i64 d) ∧ w.cell? ⟨g, 4, none⟩ = some (.int .i64 n)
theorem HAt.below {w w' : World} {g B : Nat} {p r : ByteArray} {t d n : Int} (h : HAt w g p r t d n) (hb : Below B w w') (hg : g < B) : HAt w' g p r t d n :=
  ⟨(hb.cell (p := ⟨g, 0, none⟩) hg).trans h.1, (hb.cell (p := ⟨g, 1, none⟩) hg).trans h.2.1, (hb.cell (p := ⟨g, 2, none⟩) hg).trans h.2.2.1, (hb.cell (p := ⟨g, 3, none⟩) hg).trans h.2.2.2.1, (hb.cell (p := ⟨g, 4, none⟩) hg).trans h.2.2.2.2⟩
theorem HAt.drew {w : World} {g : Nat} {p r : ByteArray} {t d n : Int} (h : HAt w g p r t d n) : HAt w.drew g p r t d n := h
theorem HAt.new (w : World) (T : TypeId) (p r : ByteArray) (t d n : Int) : HAt (w.alloc (.cells #[.string p, .string r, .int .i64 t, .int .i64 d, .int .i64 n] T)) w.heap.size p r t d n := by
  have hh := heap_alloc_new w (.cells #[.string p, .string r, .int .i64 t, .int .i64 d, .int .i64 n] T)
  refine ⟨?_, ?_, ?_, ?_, ?_⟩ <;> (rw [Lib.cell_of_heap hh]; rfl)

set_option maxHeartbeats 2000000 in
set_option maxRecDepth 100000 in
theorem specL3Put (h : HeadV) (w : World) (hok : headOkB h = true) :
    Calls Tryd.prog 73 #[.agg #[.string h.prev, .string h.root, .int .i64 h.time, .int .i64 h.diff, .int .i64 h.nonce]] w fun e w' => e = .returned (.string ⟨(headT h).toArray⟩) ∧ Below w.heap.size w w' := by
  obtain ⟨h1, h2, h3, h4, h5⟩ := headOk_in hok
  have HEQ : Hid (h.prev ++ ⟨#[32]⟩ ++ h.root ++ ⟨#[32]⟩ ++ ⟨(Lib.decDigits h.time.toNat).toArray⟩ ++ ⟨#[32]⟩ ++ ⟨(Lib.decDigits h.diff.toNat).toArray⟩ ++ ⟨#[32]⟩ ++ ⟨(Lib.decDigits h.nonce.toNat).toArray⟩ = (⟨(headT h).toArray⟩ : ByteArray)) := by
    show _ = _
    apply ByteArray.ext
    simp [headT, joinTo, headL]
  generalize (⟨(headT h).toArray⟩ : ByteArray) = T at HEQ
  obtain ⟨p, r, t, d, n⟩ := h
  dsimp only at h1 h2 h3 h4 h5 HEQ ⊢
  obtain ⟨tn, rfl⟩ : ∃ x : Nat, t = (x : Int) := ⟨t.toNat, by omega⟩
  obtain ⟨dn, rfl⟩ : ∃ x : Nat, d = (x : Int) := ⟨d.toNat, by omega⟩
  obtain ⟨nn, rfl⟩ : ∃ x : Nat, n = (x : Int) := ⟨n.toNat, by omega⟩
  simp only [Int.toNat_natCast] at HEQ
  have hps := sum_size h1
  have hrs := sum_size h2
  have ht := fun w' => specDec tn w' (by omega)
  have hd := fun w' => specDec dn w' (by omega)
  have hn := fun w' => specDec nn w' (by omega)
  have htl : (Lib.decDigits tn).length ≤ 19 := decLen (by omega)
  have hdl : (Lib.decDigits dn).length ≤ 19 := decLen (by omega)
  have hnl : (Lib.decDigits nn).length ≤ 19 := decLen (by omega)
  generalize Lib.decDigits tn = dt at ht htl HEQ
  generalize Lib.decDigits dn = dd at hd hdl HEQ
  generalize Lib.decDigits nn = dnn at hn hnl HEQ
  have H0 := HAt.new w 41 p r (tn : Int) (dn : Int) (nn : Int)
  have B0 : Below w.heap.size w (w.alloc (.cells #[.string p, .string r, .int .i64 (tn : Int), .int .i64 (dn : Int), .int .i64 (nn : Int)] 41)) := (Below.refl _ w).alloc (Nat.le_refl _) _
  have L0 : w.heap.size < (w.alloc (.cells #[.string p, .string r, .int .i64 (tn : Int), .int .i64 (dn : Int), .int .i64 (nn : Int)] 41)).heap.size := by simp
  have q1 : ¬ 9223372036854775807 < 34 + dt.length := by omega
  have q2 : ¬ 9223372036854775807 < 34 + dt.length + 1 := by omega
  have q3 : ¬ 9223372036854775807 < 34 + dt.length + 1 + dd.length := by omega
  have q4 : ¬ 9223372036854775807 < 34 + dt.length + 1 + dd.length + 1 := by omega
  have q5 : ¬ 9223372036854775807 < 34 + dt.length + 1 + dd.length + 1 + dnn.length := by omega
  clear hok h1 h2
  go_enter Tryd.func73, Tryd.ntmps73
  go_wp2_with fail
  go_region_held3 (fun w' => w'.cell? ⟨w.heap.size, 0, none⟩ = some (.string p) ∧ w'.cell? ⟨w.heap.size, 1, none⟩ = some (.string r) ∧ w'.cell? ⟨w.heap.size, 2, none⟩ = some (.int .i64 (tn : Int)) ∧ w'.cell? ⟨w.heap.size, 3, none⟩ = some (.int .i64 (dn : Int)) ∧ w'.cell? ⟨w.heap.size, 4, none⟩ = some (.int .i64 (nn : Int)))
    (first | exact H3 | exact H2 | exact H1 | exact H0 | go_keep)
    (first
      | (go_at_call_of 95 (Value.int IntKind.i64 (tn : Int)); refine (ht _).mono ?_; rintro e w1 ⟨rfl, b1⟩; have H1 : HAt w1 w.heap.size p r (tn : Int) (dn : Int) (nn : Int) := H0.drew.below b1 L0; have B1 : Below w.heap.size w w1 := B0.drew.trans (b1.mono B0.size); have L1 : w.heap.size < w1.heap.size := Nat.lt_of_lt_of_le L0 b1.size)
      | (go_at_call_of 95 (Value.int IntKind.i64 (dn : Int)); refine (hd _).mono ?_; rintro e w2 ⟨rfl, b2⟩; have H2 : HAt w2 w.heap.size p r (tn : Int) (dn : Int) (nn : Int) := H1.below b2 L1; have B2 : Below w.heap.size w w2 := B1.trans (b2.mono B1.size); have L2 : w.heap.size < w2.heap.size := Nat.lt_of_lt_of_le L1 b2.size)
      | (go_at_call_of 95 (Value.int IntKind.i64 (nn : Int)); refine (hn _).mono ?_; rintro e w3 ⟨rfl, b3⟩; have H3 : HAt w3 w.heap.size p r (tn : Int) (dn : Int) (nn : Int) := H2.below b3 L2; have B3 : Below w.heap.size w w3 := B2.trans (b3.mono B2.size)))
  go_wp2_with fail
  go_ret
  refine ⟨?_, B3⟩
  rw [← HEQ.out]
  rfl

theorem itoa_nat (k : Nat) : Lib.itoa (k : Int) = Lib.decDigits k := by
  rw [Lib.itoa, if_neg (by omega)]
  rfl
theorem implItoa (k : Nat) (w : World) (hk : k ≤ 1000000000) (hP : TabP w) :
    Calls Tryd.prog 79 #[.int .i64 (k : Int)] w fun e w' => e = .returned (.string ⟨(Lib.decDigits k).toArray⟩) ∧ Below w.heap.size w w' := by
  refine (Tryd.strconv_Itoa (k : Int) (by omega) (by omega) w hP).mono ?_
  rintro e w' ⟨rfl, hw⟩
  rw [itoa_nat]
  refine ⟨rfl, ?_⟩
  obtain ⟨a, os, rfl⟩ := hw
  exact Lib.below_grow w.heap.size w (Nat.le_refl _) a os

/-- A head at block g of w', which came from w. -/
def HSt (w w' : World) (g : Nat) (p r : ByteArray) (t d n : Int) : Prop := HAt w' g p r t d n ∧ Below w.heap.size w w' ∧ g < w'.heap.size
theorem HSt.drew {w w' : World} {g : Nat} {p r : ByteArray} {t d n : Int} (h : HSt w w' g p r t d n) : HSt w w'.drew g p r t d n := ⟨h.1, h.2.1.drew, h.2.2⟩
theorem HSt.call {w w' w'' : World} {g : Nat} {p r : ByteArray} {t d n : Int} (h : HSt w w' g p r t d n) (hb : Below w'.heap.size w' w'') : HSt w w'' g p r t d n :=
  ⟨h.1.below hb h.2.2, h.2.1.trans (hb.mono h.2.1.size), Nat.lt_of_lt_of_le h.2.2 hb.size⟩
theorem HSt.alloc {w w' : World} {g : Nat} {p r : ByteArray} {t d n : Int} (h : HSt w w' g p r t d n) (o : Obj) : HSt w (w'.alloc o) g p r t d n :=
  h.call ((Below.refl _ w').alloc (Nat.le_refl _) o)
theorem HSt.new (w : World) (T : TypeId) (p r : ByteArray) (t d n : Int) : HSt w (w.alloc (.cells #[.string p, .string r, .int .i64 t, .int .i64 d, .int .i64 n] T)) w.heap.size p r t d n :=
  ⟨HAt.new w T p r t d n, (Below.refl _ w).alloc (Nat.le_refl _) _, by simp⟩
theorem HSt.out {w w' : World} {g : Nat} {p r : ByteArray} {t d n : Int} (h : HSt w w' g p r t d n) : w'.cell? ⟨g, 0, none⟩ = some (.string p) ∧ w'.cell? ⟨g, 1, none⟩ = some (.string r) ∧ w'.cell? ⟨g, 2, none⟩ = some (.int .i64 t) ∧ w'.cell? ⟨g, 3, none⟩ = some (.int .i64 d) ∧ w'.cell? ⟨g, 4, none⟩ = some (.int .i64 n) := h.1
theorem HSt.ne {w w' : World} {g : Nat} {p r : ByteArray} {t d n : Int} (h : HSt w w' g p r t d n) : ¬ g = w'.heap.size := by have := h.2.2; omega
theorem HSt.en {w w' : World} {g : Nat} {p r : ByteArray} {t d n : Int} (h : HSt w w' g p r t d n) : ¬ w'.heap.size = g := by have := h.2.2; omega
/-- Five empty texts in a block. -/
def FiveE (w : World) (b : Nat) : Prop := w.heap[b]? = some (.cells #[.string ⟨#[]⟩, .string ⟨#[]⟩, .string ⟨#[]⟩, .string ⟨#[]⟩, .string ⟨#[]⟩] 121 (0, 0))
theorem FiveE.call {w w' : World} {b : Nat} (h : FiveE w b) (hb : Below w.heap.size w w') : FiveE w' b := by
  unfold FiveE at h ⊢
  rw [hb.block b ?_]
  · exact h
  · rcases Nat.lt_or_ge b w.heap.size with h' | h'
    · exact h'
    · simp [Array.getElem?_eq_none h'] at h
theorem FiveE.drew {w : World} {b : Nat} (h : FiveE w b) : FiveE w.drew b := h
theorem FiveE.new (w : World) : FiveE (w.alloc (.cells #[.string ⟨#[]⟩, .string ⟨#[]⟩, .string ⟨#[]⟩, .string ⟨#[]⟩, .string ⟨#[]⟩] 121)) w.heap.size := heap_alloc_new w _

theorem FiveE.facts {w : World} {b : Nat} (h : FiveE w b) : w.cell? ⟨b, 0, none⟩ = some (.string ⟨#[]⟩) ∧ w.cell? ⟨b, 1, none⟩ = some (.string ⟨#[]⟩) ∧ w.cell? ⟨b, 2, none⟩ = some (.string ⟨#[]⟩) ∧ w.cell? ⟨b, 3, none⟩ = some (.string ⟨#[]⟩) ∧ w.cell? ⟨b, 4, none⟩ = some (.string ⟨#[]⟩) ∧ w.frozen? ⟨b, 0, none⟩ = false ∧ w.frozen? ⟨b, 1, none⟩ = false ∧ w.frozen? ⟨b, 2, none⟩ = false ∧ w.frozen? ⟨b, 3, none⟩ = false ∧ w.frozen? ⟨b, 4, none⟩ = false := by
  refine ⟨?_, ?_, ?_, ?_, ?_, Lib.frozen_of_heap h 0, Lib.frozen_of_heap h 1, Lib.frozen_of_heap h 2, Lib.frozen_of_heap h 3, Lib.frozen_of_heap h 4⟩ <;> (rw [Lib.cell_of_heap h]; rfl)

theorem thenAt {K : Act → World → Prop} {Q : Exit → Act → World → Prop} {e : Exit} {a : Act} {W : World} {A : World → Prop} (hA : A W) (h : ∀ W', A W' → Exit.then K Q e a W') : Exit.then K Q e a W := h W hA
theorem five_cells {w : World} {b : Nat} {T : TypeId} {x0 x1 x2 x3 x4 : ByteArray} (h : w.heap[b]? = some (.cells #[.string x0, .string x1, .string x2, .string x3, .string x4] T (0, 0))) : AtS w b [x0, x1, x2, x3, x4] := by
  refine ⟨?_, ?_⟩
  · rcases Nat.lt_or_ge b w.heap.size with h' | h'
    · exact h'
    · simp [Array.getElem?_eq_none h'] at h
  · intro i hi
    rw [Lib.cell_of_heap h]
    match i, hi with
    | 0, _ => rfl
    | 1, _ => rfl
    | 2, _ => rfl
    | 3, _ => rfl
    | 4, _ => rfl
theorem five_new (w : World) (T : TypeId) (x0 x1 x2 x3 x4 : ByteArray) : AtS (w.alloc (.cells #[.string x0, .string x1, .string x2, .string x3, .string x4] T)) w.heap.size [x0, x1, x2, x3, x4] := five_cells (heap_alloc_new w _)
theorem five_put {w : World} {b : Nat} (h : FiveE w b) (x0 x1 x2 x3 x4 : ByteArray) : AtS (((((w.setCell ⟨b, 0, none⟩ (.string x0)).setCell ⟨b, 1, none⟩ (.string x1)).setCell ⟨b, 2, none⟩ (.string x2)).setCell ⟨b, 3, none⟩ (.string x3)).setCell ⟨b, 4, none⟩ (.string x4)) b [x0, x1, x2, x3, x4] := by
  refine five_cells (T := 121) ?_
  unfold FiveE at h
  simp [World.setCell, Array.getElem?_modify, h]
theorem five_below {w0 w : World} {b : Nat} (h : Below w0.heap.size w0 w) (hb : w0.heap.size ≤ b) (x0 x1 x2 x3 x4 : ByteArray) : Below w0.heap.size w0 (((((w.setCell ⟨b, 0, none⟩ (.string x0)).setCell ⟨b, 1, none⟩ (.string x1)).setCell ⟨b, 2, none⟩ (.string x2)).setCell ⟨b, 3, none⟩ (.string x3)).setCell ⟨b, 4, none⟩ (.string x4)) :=
  ((((h.setCell (p := ⟨b, 0, none⟩) hb _).setCell (p := ⟨b, 1, none⟩) hb _).setCell (p := ⟨b, 2, none⟩) hb _).setCell (p := ⟨b, 3, none⟩) hb _).setCell (p := ⟨b, 4, none⟩) hb _
theorem five_size {hl : List ByteArray} {p r : ByteArray} {dt dd dn : List UInt8} (hl5 : hl = [p, r, ⟨dt.toArray⟩, ⟨dd.toArray⟩, ⟨dn.toArray⟩]) (h0 : p.size ≤ 1000) (h1 : r.size ≤ 1000) (h2 : dt.length ≤ 1000) (h3 : dd.length ≤ 1000) (h4 : dn.length ≤ 1000) : ∀ i, i < hl.length → (hl.getD i ByteArray.empty).size ≤ 1000 := by
  subst hl5
  intro i hi
  match i, hi with
  | 0, _ => exact h0
  | 1, _ => exact h1
  | 2, _ => exact h2
  | 3, _ => exact h3
  | 4, _ => exact h4

set_option maxHeartbeats 4000000 in
set_option maxRecDepth 100000 in
theorem implHeadPut (h : HeadV) (w : World) (hP : TabP w) :
    Calls Tryd.prog 67 #[.agg #[.string h.prev, .string h.root, .int .i64 h.time, .int .i64 h.diff, .int .i64 h.nonce]] w fun e w' => e = .returned (.string ⟨(headPut h).toArray⟩) ∧ Below w.heap.size w w' := by
  have hck := implHeadOk h
  cases hok : headOkB h with
  | false =>
    have e : headPut h = [] := by rw [headPut, hok]; rfl
    rw [e]
    simp only [hok] at hck
    go_enter Tryd.func67, Tryd.ntmps67
    go_wp2_with (go_at_call 50; refine (hck _).mono ?_; rintro e w1 ⟨rfl, b1⟩)
    go_ret
    exact ⟨rfl, ((Below.refl _ w).alloc (Nat.le_refl _) _).trans (b1.mono (by simp))⟩
  | true =>
    have e : headPut h = headT h := by rw [headPut, if_pos hok]
    rw [e]
    clear e
    simp only [hok] at hck
    obtain ⟨h1, h2, h3, h4, h5⟩ := headOk_in hok
    have HT : Hid (headT h = joinTo (headL h) [32] 4) := rfl
    have HL : Hid (headL h = [h.prev, h.root, ⟨(Lib.decDigits h.time.toNat).toArray⟩, ⟨(Lib.decDigits h.diff.toNat).toArray⟩, ⟨(Lib.decDigits h.nonce.toNat).toArray⟩]) := rfl
    generalize headL h = hl at HL HT
    generalize headT h = tx at HT
    obtain ⟨p, r, t, d, n⟩ := h
    dsimp only at h1 h2 h3 h4 h5 HL hck ⊢
    obtain ⟨tn, rfl⟩ : ∃ x : Nat, t = (x : Int) := ⟨t.toNat, by omega⟩
    obtain ⟨dn, rfl⟩ : ∃ x : Nat, d = (x : Int) := ⟨d.toNat, by omega⟩
    obtain ⟨nn, rfl⟩ : ∃ x : Nat, n = (x : Int) := ⟨n.toNat, by omega⟩
    simp only [Int.toNat_natCast] at HL
    have hps := sum_size h1
    have hrs := sum_size h2
    have ht := fun w' h' => implItoa tn w' (by omega) h'
    have hd := fun w' h' => implItoa dn w' (by omega) h'
    have hn := fun w' h' => implItoa nn w' (by omega) h'
    have htl : (Lib.decDigits tn).length ≤ 19 := decLen (by omega)
    have hdl : (Lib.decDigits dn).length ≤ 19 := decLen (by omega)
    have hnl : (Lib.decDigits nn).length ≤ 19 := decLen (by omega)
    generalize Lib.decDigits tn = dt at ht htl HL
    generalize Lib.decDigits dn = dd at hd hdl HL
    generalize Lib.decDigits nn = dnn at hn hnl HL
    have S00 : HSt w _ w.heap.size p r (tn : Int) (dn : Int) (nn : Int) := HSt.new w 41 p r (tn : Int) (dn : Int) (nn : Int)
    have HP : Hid (∀ w', Below w.heap.size w w' → TabP w') := fun w' hb => TabP.below hP hb (Nat.le_refl _)
    clear hok h1 h2 hP
    go_enter Tryd.func67, Tryd.ntmps67
    go_wp2_with (go_at_call 50; refine (hck _).mono ?_; rintro e w0 ⟨rfl, b0⟩)
    have S0 : HSt w w0 w.heap.size p r (tn : Int) (dn : Int) (nn : Int) := S00.call b0
    clear S00 b0 hck
    have n0 := HSt.ne S0
    have m0 := HSt.en S0
    go_region_held3 (fun w' => w'.cell? ⟨w.heap.size, 0, none⟩ = some (.string p) ∧ w'.cell? ⟨w.heap.size, 1, none⟩ = some (.string r) ∧ w'.cell? ⟨w.heap.size, 2, none⟩ = some (.int .i64 (tn : Int)) ∧ w'.cell? ⟨w.heap.size, 3, none⟩ = some (.int .i64 (dn : Int)) ∧ w'.cell? ⟨w.heap.size, 4, none⟩ = some (.int .i64 (nn : Int)))
      (first | (with_reducible first | exact S3.out | exact (S3.alloc _).out | exact S2.out | exact (S2.alloc _).out | exact S1.out | exact (S1.alloc _).out | exact S0.out | exact S0.drew.out | exact (S0.alloc _).drew.out) | go_keep)
      (first
        | (go_at_call_of 79 (Value.int IntKind.i64 (tn : Int)); refine (ht _ (HP.out _ (by first | exact S0.drew.2.1 | exact (S0.alloc _).drew.2.1))).mono ?_; rintro e w1 ⟨rfl, b1⟩; have S1 : HSt w w1 w.heap.size p r (tn : Int) (dn : Int) (nn : Int) := (by first | exact S0.drew.call b1 | exact (S0.alloc _).drew.call b1); have n1 := HSt.ne S1; have m1 := HSt.en S1; try have F1 := (FiveE.new w0).drew.call b1)
        | (go_at_call_of 79 (Value.int IntKind.i64 (dn : Int)); refine (hd _ (HP.out _ (by first | exact S1.2.1 | exact (S1.alloc _).2.1))).mono ?_; rintro e w2 ⟨rfl, b2⟩; have S2 : HSt w w2 w.heap.size p r (tn : Int) (dn : Int) (nn : Int) := (by first | exact S1.call b2 | exact (S1.alloc _).call b2); have n2 := HSt.ne S2; have m2 := HSt.en S2; (first | have F2 := F1.call b2 | have F2 := (FiveE.new w1).call b2 | skip))
        | (go_at_call_of 79 (Value.int IntKind.i64 (nn : Int)); refine (hn _ (HP.out _ (by first | exact S2.2.1 | exact (S2.alloc _).2.1))).mono ?_; rintro e w3 ⟨rfl, b3⟩; have S3 : HSt w w3 w.heap.size p r (tn : Int) (dn : Int) (nn : Int) := (by first | exact S2.call b3 | exact (S2.alloc _).call b3); (first | have F3 := F2.call b3 | have F3 := (FiveE.new w2).call b3 | skip); (first | obtain ⟨c0, c1, c2, c3, c4, z0, z1, z2, z3, z4⟩ := F3.facts | skip)))
    · refine thenAt (A := fun W' => AtS W' (w3.heap.size) hl ∧ Below w.heap.size w W') ⟨(by rw [HL.out]; exact five_new w3 _ p r _ _ _), (by exact (S3.alloc _).2.1)⟩ ?_
      rintro W ⟨HA, HB⟩
      have HZ : ∀ i, i < hl.length → (hl.getD i ByteArray.empty).size ≤ 1000 := five_size HL.out (by omega) (by omega) (by omega) (by omega) (by omega)
      have hlen : hl.length = 5 := by rw [HL.out]; rfl
      generalize w3.heap.size = b at HA ⊢
      clear S0 S1 S2 S3 b1 b2 b3 ht hd hn HP HL
      go_wp2_with fail
      refine (joinW b hl W HA hlen HZ).mono ?_
      rintro e w5 ⟨rfl, b5⟩
      go_wp2_with fail
      go_ret
      exact ⟨by rw [HT.out]; rfl, HB.trans (b5.mono HB.size)⟩
    · refine thenAt (A := fun W' => AtS W' (w2.heap.size) hl ∧ Below w.heap.size w W') ⟨(by rw [HL.out]; exact five_put F3 p r _ _ _), (by exact five_below S3.2.1 S2.2.1.size p r _ _ _)⟩ ?_
      rintro W ⟨HA, HB⟩
      have HZ : ∀ i, i < hl.length → (hl.getD i ByteArray.empty).size ≤ 1000 := five_size HL.out (by omega) (by omega) (by omega) (by omega) (by omega)
      have hlen : hl.length = 5 := by rw [HL.out]; rfl
      generalize w2.heap.size = b at HA ⊢
      clear S0 S1 S2 S3 b1 b2 b3 ht hd hn HP HL
      go_wp2_with fail
      refine (joinW b hl W HA hlen HZ).mono ?_
      rintro e w5 ⟨rfl, b5⟩
      go_wp2_with fail
      go_ret
      exact ⟨by rw [HT.out]; rfl, HB.trans (b5.mono HB.size)⟩
    · refine thenAt (A := fun W' => AtS W' (w1.heap.size) hl ∧ Below w.heap.size w W') ⟨(by rw [HL.out]; exact five_put F3 p r _ _ _), (by exact five_below S3.2.1 S1.2.1.size p r _ _ _)⟩ ?_
      rintro W ⟨HA, HB⟩
      have HZ : ∀ i, i < hl.length → (hl.getD i ByteArray.empty).size ≤ 1000 := five_size HL.out (by omega) (by omega) (by omega) (by omega) (by omega)
      have hlen : hl.length = 5 := by rw [HL.out]; rfl
      generalize w1.heap.size = b at HA ⊢
      clear S0 S1 S2 S3 b1 b2 b3 ht hd hn HP HL
      go_wp2_with fail
      refine (joinW b hl W HA hlen HZ).mono ?_
      rintro e w5 ⟨rfl, b5⟩
      go_wp2_with fail
      go_ret
      exact ⟨by rw [HT.out]; rfl, HB.trans (b5.mono HB.size)⟩
    · refine thenAt (A := fun W' => AtS W' (w0.heap.size) hl ∧ Below w.heap.size w W') ⟨(by rw [HL.out]; exact five_put F3 p r _ _ _), (by exact five_below S3.2.1 S0.2.1.size p r _ _ _)⟩ ?_
      rintro W ⟨HA, HB⟩
      have HZ : ∀ i, i < hl.length → (hl.getD i ByteArray.empty).size ≤ 1000 := five_size HL.out (by omega) (by omega) (by omega) (by omega) (by omega)
      have hlen : hl.length = 5 := by rw [HL.out]; rfl
      generalize w0.heap.size = b at HA ⊢
      clear S0 S1 S2 S3 b1 b2 b3 ht hd hn HP HL
      go_wp2_with fail
      refine (joinW b hl W HA hlen HZ).mono ?_
      rintro e w5 ⟨rfl, b5⟩
      go_wp2_with fail
      go_ret
      exact ⟨by rw [HT.out]; rfl, HB.trans (b5.mono HB.size)⟩

end Go.Proofs.YtjeldedjhlicmaaDoor
