/-
  A range's root: the model, the program, the specification, the law.
-/
import Derived.Test.YtjeldedjhlicmaaDoorRangeS
import Derived.Test.YtjeldedjhlicmaaDoorRangeL
import Derived.Test.YtjeldedjhlicmaaDoorRangeN
import Derived.Test.YtjeldedjhlicmaaDoorHeadS
import Derived.Test.YtjeldedjhlicmaaDoorJoinB
import Derived.Test.YtjeldedjhlicmaaDoorShaI6
import Derived.Test.YtjeldedjhlicmaaDoorShaS5
import Derived.Shelf.Strings.MapGrows
import Derived.Deep.RegionHeld3
set_option linter.unusedVariables false
namespace Go.Proofs.YtjeldedjhlicmaaDoor
open Go.RowKit Go.Deep

def peakB (p : PeakV) : ByteArray := p.sum ++ ⟨#[32]⟩ ++ ⟨(Lib.decDigits p.work.toNat).toArray⟩ ++ ⟨#[32]⟩ ++ ⟨(Lib.decDigits p.count.toNat).toArray⟩
def rrT (ps : List PeakV) : Nat → List UInt8
  | 0 => [114, 97, 110, 103, 101]
  | k + 1 => rrT ps k ++ ([32] ++ (peakB (ps.getD k default)).data.toList)
def rangeRoot (ps : List PeakV) : List UInt8 := if rangeOkB ps = true then sumB (rrT ps ps.length) else []
theorem rr_no {ps : List PeakV} (h : rangeOkB ps = false) : rangeRoot ps = [] := by rw [rangeRoot, h]; rfl
theorem rr_yes {ps : List PeakV} (h : rangeOkB ps = true) : rangeRoot ps = sumB (rrT ps ps.length) := by rw [rangeRoot, if_pos h]
theorem rangeOk_peak {ps : List PeakV} (h : rangeOkB ps = true) (i : Nat) (hi : i < ps.length) : peakOkB (ps.getD i default) = true := by
  rw [rangeOkB, Bool.and_eq_true, List.all_eq_true] at h
  have := h.1 i (List.mem_range.2 hi)
  rw [stepOk, Bool.and_eq_true] at this
  exact this.1
theorem cnt_ge {ps : List PeakV} (h : rangeOkB ps = true) : ∀ k, k ≤ ps.length → (k : Int) ≤ cntTo ps k
  | 0, _ => by simp [cntTo]
  | k + 1, hk => by
    have ih := cnt_ge h k (by omega)
    have := (rangeOk_at h k (by omega)).1
    rw [cntTo]
    omega
theorem range_len {ps : List PeakV} (h : rangeOkB ps = true) : ps.length ≤ 20 := by
  have h1 := cnt_ge h ps.length (Nat.le_refl _)
  rw [rangeOkB, Bool.and_eq_true, decide_eq_true_eq] at h
  omega
theorem peakOk_sum {p : PeakV} (h : peakOkB p = true) : isSum p.sum.data.toList = true := by
  simp only [peakOkB, Bool.and_eq_true] at h
  exact h.1
theorem peakB_size {p : PeakV} (h : peakOkB p = true) : (peakB p).size ≤ 100 := by
  have h1 := sum_size (peakOk_sum h)
  have h2 := peakOk_in h
  have hw : (Lib.decDigits p.work.toNat).length ≤ 19 := decLen (by omega)
  have hc : (Lib.decDigits p.count.toNat).length ≤ 19 := decLen (by omega)
  have e1 : (⟨(Lib.decDigits p.work.toNat).toArray⟩ : ByteArray).size = (Lib.decDigits p.work.toNat).length := by show (Lib.decDigits p.work.toNat).toArray.size = _; simp
  have e2 : (⟨(Lib.decDigits p.count.toNat).toArray⟩ : ByteArray).size = (Lib.decDigits p.count.toNat).length := by show (Lib.decDigits p.count.toNat).toArray.size = _; simp
  have e32 : (⟨#[32]⟩ : ByteArray).size = 1 := rfl
  unfold peakB
  rw [ByteArray.size_append, ByteArray.size_append, ByteArray.size_append, ByteArray.size_append, h1, e1, e2, e32]
  omega
theorem rrT_len {ps : List PeakV} (h : rangeOkB ps = true) : ∀ k, k ≤ ps.length → (rrT ps k).length ≤ 5 + 101 * k
  | 0, _ => by simp [rrT]
  | k + 1, hk => by
    have ih := rrT_len h k (by omega)
    have h1 := peakB_size (rangeOk_peak h k (by omega))
    have e : (peakB (ps.getD k default)).data.toList.length = (peakB (ps.getD k default)).size := by simp
    rw [rrT, List.length_append, List.length_append, e, show ([32] : List UInt8).length = 1 from rfl]
    omega
/-- A peak's block. -/
def PSt (w w' : World) (g : Nat) (s : ByteArray) (a b : Int) : Prop := (w'.cell? ⟨g, 0, none⟩ = some (.string s) ∧ w'.cell? ⟨g, 1, none⟩ = some (.int .i64 a) ∧ w'.cell? ⟨g, 2, none⟩ = some (.int .i64 b)) ∧ Below w.heap.size w w' ∧ g < w'.heap.size
theorem PSt.out {w w' : World} {g : Nat} {s : ByteArray} {a b : Int} (h : PSt w w' g s a b) : w'.cell? ⟨g, 0, none⟩ = some (.string s) ∧ w'.cell? ⟨g, 1, none⟩ = some (.int .i64 a) ∧ w'.cell? ⟨g, 2, none⟩ = some (.int .i64 b) := h.1
theorem PSt.drew {w w' : World} {g : Nat} {s : ByteArray} {a b : Int} (h : PSt w w' g s a b) : PSt w w'.drew g s a b := ⟨h.1, h.2.1.drew, h.2.2⟩
theorem PSt.call {w w' w'' : World} {g : Nat} {s : ByteArray} {a b : Int} (h : PSt w w' g s a b) (hb : Below w'.heap.size w' w'') : PSt w w'' g s a b :=
  ⟨⟨(hb.cell (p := ⟨g, 0, none⟩) h.2.2).trans h.1.1, (hb.cell (p := ⟨g, 1, none⟩) h.2.2).trans h.1.2.1, (hb.cell (p := ⟨g, 2, none⟩) h.2.2).trans h.1.2.2⟩, h.2.1.trans (hb.mono h.2.1.size), Nat.lt_of_lt_of_le h.2.2 hb.size⟩
theorem PSt.new (w : World) (T : TypeId) (s : ByteArray) (a b : Int) : PSt w (w.alloc (.cells #[.string s, .int .i64 a, .int .i64 b] T)) w.heap.size s a b := by
  refine ⟨⟨?_, ?_, ?_⟩, (Below.refl _ w).alloc (Nat.le_refl _) _, by simp⟩ <;> (rw [Lib.cell_of_heap (heap_alloc_new w _)]; rfl)

set_option maxHeartbeats 1000000 in
set_option maxRecDepth 100000 in
theorem implPeakPut (p : PeakV) (w : World) (hok : peakOkB p = true) (hP : TabP w) :
    Calls Tryd.prog 53 #[.agg #[.string p.sum, .int .i64 p.work, .int .i64 p.count], .string ⟨#[32]⟩] w fun e w' => e = .returned (.string (peakB p)) ∧ Below w.heap.size w w' := by
  have h2 := peakOk_in hok
  obtain ⟨s, wk, ct⟩ := p
  dsimp only at h2 ⊢
  obtain ⟨a, rfl⟩ : ∃ a : Nat, wk = (a : Int) := ⟨wk.toNat, by omega⟩
  obtain ⟨b, rfl⟩ : ∃ b : Nat, ct = (b : Int) := ⟨ct.toNat, by omega⟩
  have HV : Hid (peakB ⟨s, (a : Int), (b : Int)⟩ = s ++ ⟨#[32]⟩ ++ ⟨(Lib.decDigits a).toArray⟩ ++ ⟨#[32]⟩ ++ ⟨(Lib.decDigits b).toArray⟩) := rfl
  have HP : Hid (∀ w', Below w.heap.size w w' → TabP w') := fun w' hb => TabP.below hP hb (Nat.le_refl _)
  have hia := fun w' hp => implItoa a w' (by omega) hp
  have hib := fun w' hp => implItoa b w' (by omega) hp
  have hps := sum_size (peakOk_sum hok)
  dsimp only at hps
  have hal : (Lib.decDigits a).length ≤ 19 := decLen (by omega)
  have hbl : (Lib.decDigits b).length ≤ 19 := decLen (by omega)
  generalize peakB ⟨s, (a : Int), (b : Int)⟩ = R at HV ⊢
  generalize Lib.decDigits a = da at hia HV hal
  generalize Lib.decDigits b = db at hib HV hbl
  have q1 : ¬ 9223372036854775807 < 17 + da.length := by omega
  have q2 : ¬ 9223372036854775807 < 17 + da.length + 1 := by omega
  have q3 : ¬ 9223372036854775807 < 17 + da.length + 1 + db.length := by omega
  have S0 : PSt w _ w.heap.size s (a : Int) (b : Int) := PSt.new w 63 s (a : Int) (b : Int)
  clear hP hok h2
  go_enter Tryd.func53, Tryd.ntmps53
  go_wp2_with fail
  go_region_held3 (fun w' => w'.cell? ⟨w.heap.size, 0, none⟩ = some (.string s) ∧ w'.cell? ⟨w.heap.size, 1, none⟩ = some (.int .i64 (a : Int)) ∧ w'.cell? ⟨w.heap.size, 2, none⟩ = some (.int .i64 (b : Int)))
    (first | (with_reducible first | exact S2.out | exact S1.out | exact S0.out | exact S0.drew.out) | go_keep)
    (first
      | (go_at_call 79; refine (hib _ (HP.out _ S1.2.1)).mono ?_; rintro e w2 ⟨rfl, b2⟩; have S2 : PSt w w2 w.heap.size s (a : Int) (b : Int) := S1.call b2)
      | (go_at_call 79; refine (hia _ (HP.out _ S0.drew.2.1)).mono ?_; rintro e w1 ⟨rfl, b1⟩; have S1 : PSt w w1 w.heap.size s (a : Int) (b : Int) := S0.drew.call b1))
  go_wp2_with fail
  go_ret
  exact ⟨by rw [HV.out]; rfl, S2.2.1⟩

set_option maxHeartbeats 1000000 in
set_option maxRecDepth 100000 in
theorem specPeakText (p : PeakV) (w : World) (hok : peakOkB p = true) :
    Calls Tryd.prog 77 #[.agg #[.string p.sum, .int .i64 p.work, .int .i64 p.count]] w fun e w' => e = .returned (.string (peakB p)) ∧ Below w.heap.size w w' := by
  have h2 := peakOk_in hok
  obtain ⟨s, wk, ct⟩ := p
  dsimp only at h2 ⊢
  obtain ⟨a, rfl⟩ : ∃ a : Nat, wk = (a : Int) := ⟨wk.toNat, by omega⟩
  obtain ⟨b, rfl⟩ : ∃ b : Nat, ct = (b : Int) := ⟨ct.toNat, by omega⟩
  have HV : Hid (peakB ⟨s, (a : Int), (b : Int)⟩ = s ++ ⟨#[32]⟩ ++ ⟨(Lib.decDigits a).toArray⟩ ++ ⟨#[32]⟩ ++ ⟨(Lib.decDigits b).toArray⟩) := rfl
  have hia := fun w' => specDec a w' (by omega)
  have hib := fun w' => specDec b w' (by omega)
  have hps := sum_size (peakOk_sum hok)
  dsimp only at hps
  have hal : (Lib.decDigits a).length ≤ 19 := decLen (by omega)
  have hbl : (Lib.decDigits b).length ≤ 19 := decLen (by omega)
  generalize peakB ⟨s, (a : Int), (b : Int)⟩ = R at HV ⊢
  generalize Lib.decDigits a = da at hia HV hal
  generalize Lib.decDigits b = db at hib HV hbl
  have q1 : ¬ 9223372036854775807 < 17 + da.length := by omega
  have q2 : ¬ 9223372036854775807 < 17 + da.length + 1 := by omega
  have q3 : ¬ 9223372036854775807 < 17 + da.length + 1 + db.length := by omega
  have S0 : PSt w _ w.heap.size s (a : Int) (b : Int) := PSt.new w 63 s (a : Int) (b : Int)
  clear hok h2
  go_enter Tryd.func77, Tryd.ntmps77
  go_wp2_with fail
  go_region_held3 (fun w' => w'.cell? ⟨w.heap.size, 0, none⟩ = some (.string s) ∧ w'.cell? ⟨w.heap.size, 1, none⟩ = some (.int .i64 (a : Int)) ∧ w'.cell? ⟨w.heap.size, 2, none⟩ = some (.int .i64 (b : Int)))
    (first | (with_reducible first | exact S2.out | exact S1.out | exact S0.out | exact S0.drew.out) | go_keep)
    (first
      | (go_at_call 95; have q9 := S1.out; refine (hib _).mono ?_; rintro e w2 ⟨rfl, b2⟩; have S2 : PSt w w2 w.heap.size s (a : Int) (b : Int) := S1.call b2)
      | (go_at_call 95; refine (hia _).mono ?_; rintro e w1 ⟨rfl, b1⟩; have S1 : PSt w w1 w.heap.size s (a : Int) (b : Int) := S0.drew.call b1))
  go_wp2_with fail
  go_ret
  exact ⟨by rw [HV.out]; rfl, S2.2.1⟩

set_option maxHeartbeats 1000000 in
set_option maxRecDepth 100000 in
theorem implRangeRoot (g n cap : Nat) (ps : List PeakV) (w : World) (h : AtP w g ps) (hn : n = ps.length) (hm : n ≤ 1048576) (hK : RowG w shaK) (hP : TabP w) :
    Calls Tryd.prog 24 #[.slice (some ⟨g, 0, none⟩) n cap] w fun e w' => e = .returned (.string ⟨(rangeRoot ps).toArray⟩) ∧ Below w.heap.size w w' := by
  have hok := implRangeOk g n cap ps w h hn (by omega)
  have HA : Hid (AtP w g ps) := h
  have HN : Hid (n = ps.length) := hn
  have HK : Hid (RowG w shaK) := hK
  have HP : Hid (TabP w) := hP
  clear h hn hK hP
  cases hr : rangeOkB ps with
  | false =>
    have HV : Hid (rangeRoot ps = []) := rr_no hr
    rw [hr] at hok
    go_enter Tryd.func24, Tryd.ntmps24
    go_wp2_with fail
    refine hok.mono ?_
    rintro e w1 ⟨rfl, b1⟩
    go_wp2_with fail
    go_ret
    exact ⟨by rw [HV.out]; rfl, b1⟩
  | true =>
    have HV : Hid (rangeRoot ps = sumB (rrT ps n)) := by show _ = _; rw [rr_yes hr, HN.out]
    have HPK : Hid (∀ i, i < ps.length → peakOkB (ps.getD i default) = true) := fun i hi => rangeOk_peak hr i hi
    have HRL : Hid (∀ k, k ≤ n → (rrT ps k).length ≤ 5 + 101 * k) := fun k hk => rrT_len hr k (by rw [← HN.out]; exact hk)
    have hn20 : n ≤ 20 := by rw [HN.out]; exact range_len hr
    rw [hr] at hok
    clear hr
    go_enter Tryd.func24, Tryd.ntmps24
    go_wp2_with fail
    refine hok.mono ?_
    rintro e w1 ⟨rfl, b1⟩
    have B1 : Hid (Below w.heap.size w w1) := b1
    clear b1 hok
    have hwl0 : ([] : List Value).length + (⟨#[114, 97, 110, 103, 101]⟩ : ByteArray).size ≤ 140737488355328 := by
      have e5 : (⟨#[114, 97, 110, 103, 101]⟩ : ByteArray).size = 5 := rfl
      rw [e5]
      decide
    have hD0 := Lib.IsBuilderF.of (Lib.fresh_isBuilder 80 5 w1)
    have B2 : Hid (Below w1.heap.size w1 (w1.alloc (.cells #[.pointer none, .slice none 0 0] 80))) := (Below.refl _ w1).alloc (Nat.le_refl _) _
    have hsz2 := B2.out.size
    go_wp2_with fail
    refine (writeString w1.heap.size w1.heap.size [] ⟨#[114, 97, 110, 103, 101]⟩ _ hD0 hwl0 hsz2).mono ?_
    rintro e w3 ⟨rfl, hbd3, b3, _⟩
    have D3 : Hid (Lib.IsBuilderF 80 5 w1.heap.size w1.heap.size (Lib.byteCells (rrT ps 0)) w3) := .inr hbd3
    have B3 : Hid (Below w1.heap.size w1 w3) := B2.out.trans b3
    clear hbd3 b3 hD0 B2 hsz2
    go_wp2_with fail
    go_loopw [12] (fun i wr => ∃ k : Nat, k ≤ n ∧ i = .int .i64 (k : Int) ∧ Hid (Lib.IsBuilderF 80 5 w1.heap.size w1.heap.size (Lib.byteCells (rrT ps k)) wr) ∧ Hid (Below w1.heap.size w1 wr)) (fun i _ => n - (intOf i).toNat)
    case atStart => exact ⟨0, by omega, rfl, D3, B3⟩
    case round =>
      clear D3 B3
      obtain ⟨k, hk, rfl, D, HB⟩ := hrel
      have HBW : Hid (Below w.heap.size w wr) := B1.out.trans (HB.out.mono B1.out.size)
      by_cases hlt : k < n
      · have hkl : k < ps.length := by rw [← HN.out]; exact hlt
        have HAr : Hid (AtP wr g ps) := HA.out.below HBW.out HA.out.1
        have c0 := AtP.c0 HAr.out k hkl
        have c1 := AtP.c1 HAr.out k hkl
        have c2 := AtP.c2 HAr.out k hkl
        have lk : (k : Int) < (n : Int) := by omega
        have lk0 : (0 : Int) ≤ (k : Int) := by omega
        have HK1 : Hid (k + 1 ≤ n) := hlt
        have HT : Hid (rrT ps (k + 1) = rrT ps k ++ ([32] ++ (peakB (ps.getD k default)).data.toList)) := rfl
        have hpp := fun w' (hp : TabP w') => implPeakPut (ps.getD k default) w' (HPK.out k hkl) hp
        have hpz := peakB_size (HPK.out k hkl)
        have hrl := HRL.out k hk
        generalize peakB (ps.getD k default) = pb at hpp hpz HT
        generalize ps.getD k default = p at c0 c1 c2 hpp
        generalize rrT ps k = rt at D HT hrl
        have S0 : PSt wr _ wr.heap.size p.sum p.work p.count := PSt.new wr 63 p.sum p.work p.count
        have B4 : Hid (Below w.heap.size w (wr.alloc (.cells #[.string p.sum, .int .i64 p.work, .int .i64 p.count] 63))) := HBW.out.alloc HBW.out.size _
        have q1 : ¬ 9223372036854775807 < 1 + pb.size := by omega
        have hwl : (Lib.byteCells rt).length + ((⟨#[32]⟩ : ByteArray) ++ pb).size ≤ 140737488355328 := by
          have e32 : (⟨#[32]⟩ : ByteArray).size = 1 := rfl
          rw [Lib.byteCells_length, ByteArray.size_append, e32]
          omega
        clear hkl
        go_wp2_with fail
        refine (hpp _ (TabP.below HP.out B4.out (Nat.le_refl _))).mono ?_
        rintro e w5 ⟨rfl, b5⟩
        have S5 := S0.call b5
        have D5 : Hid (Lib.IsBuilderF 80 5 w1.heap.size w1.heap.size (Lib.byteCells rt) w5) := D.out.below S5.2.1
        have B5 : Hid (Below w1.heap.size w1 w5) := HB.out.trans (S5.2.1.mono HB.out.size)
        have hsz5 := B5.out.size
        clear D S0 b5 hpp c0 c1 c2
        go_wp2_with fail
        refine (writeString w1.heap.size w1.heap.size (Lib.byteCells rt) ((⟨#[32]⟩ : ByteArray) ++ pb) w5 D5.out hwl hsz5).mono ?_
        rintro e w6 ⟨rfl, hbd6, b6, _⟩
        have D6 : Hid (Lib.IsBuilderF 80 5 w1.heap.size w1.heap.size (Lib.byteCells (rrT ps (k + 1))) w6) := by
          refine .inr ?_
          have e1 : Lib.strCells ((⟨#[32]⟩ : ByteArray) ++ pb) = Lib.byteCells ([32] ++ pb.data.toList) := by simp [Lib.strCells, Lib.byteCells]
          rw [HT.out, Lib.byteCells_append, ← e1]
          exact hbd6
        have B6 : Hid (Below w1.heap.size w1 w6) := B5.out.trans b6
        clear hbd6 b6 D5 B5 S5
        go_wp2_with fail
        go_roundw
        case rel => exact ⟨k + 1, HK1.out, by go_num, D6, B6⟩
        case measure => have := HK1.out; simp [intOf]; omega
      · obtain rfl : k = n := by omega
        have hszx := HB.out.size
        have hrl := HRL.out k hk
        have hsm := fun w' hk' => implSum ⟨(rrT ps k).toArray⟩ w' (by show (rrT ps k).toArray.size ≤ _; simp; omega) hk'
        have e1 : (⟨(rrT ps k).toArray⟩ : ByteArray).data.toList = rrT ps k := rfl
        rw [e1] at hsm
        clear e1
        go_wp2_with fail
        refine (Tryd.Builder_String_any_f w1.heap.size w1.heap.size (rrT ps k) wr D.out hszx).mono ?_
        rintro e w5 ⟨rfl, _, b5⟩
        have B5 : Hid (Below w.heap.size w w5) := B1.out.trans ((HB.out.trans b5).mono B1.out.size)
        go_wp2_with fail
        refine (hsm _ (HK.out.below B5.out HK.out.lt)).mono ?_
        rintro e w6 ⟨rfl, b6⟩
        go_wp2_with fail
        go_ret
        exact ⟨by rw [HV.out]; rfl, B5.out.trans (b6.mono B5.out.size)⟩

set_option maxHeartbeats 1000000 in
set_option maxRecDepth 100000 in
theorem specL5Root (g n cap : Nat) (ps : List PeakV) (w : World) (h : AtP w g ps) (hn : n = ps.length) (hr : rangeOkB ps = true) :
    Calls Tryd.prog 51 #[.slice (some ⟨g, 0, none⟩) n cap] w fun e w' => e = .returned (.string ⟨(sumB (rrT ps n)).toArray⟩) ∧ Below w.heap.size w w' := by
  have HA : Hid (AtP w g ps) := h
  have HN : Hid (n = ps.length) := hn
  have HPK : Hid (∀ i, i < ps.length → peakOkB (ps.getD i default) = true) := fun i hi => rangeOk_peak hr i hi
  have HRL : Hid (∀ k, k ≤ n → (rrT ps k).length ≤ 5 + 101 * k) := fun k hk => rrT_len hr k (by rw [← hn]; exact hk)
  have hn20 : n ≤ 20 := by rw [hn]; exact range_len hr
  clear h hn hr
  go_enter Tryd.func51, Tryd.ntmps51
  go_wp2_with fail
  go_loopw [3, 4] (fun v i wr => ∃ (k : Nat) (s : ByteArray), k ≤ n ∧ i = .int .i64 (k : Int) ∧ v = .string s ∧ s.size ≤ 5 + 101 * k ∧ Hid (s.data.toList = rrT ps k) ∧ Hid (Below w.heap.size w wr)) (fun _ i _ => n - (intOf i).toNat)
  case atStart => exact ⟨0, ⟨#[114, 97, 110, 103, 101]⟩, by omega, rfl, rfl, (by show (#[114, 97, 110, 103, 101] : Array UInt8).size ≤ _; simp), rfl, Below.refl _ _⟩
  case round =>
    obtain ⟨k, s, hk, rfl, rfl, hs, HS, HB⟩ := hrel
    by_cases hlt : k < n
    · have hkl : k < ps.length := by rw [← HN.out]; exact hlt
      have HAr : Hid (AtP wr g ps) := HA.out.below HB.out HA.out.1
      have c0 := AtP.c0 HAr.out k hkl
      have c1 := AtP.c1 HAr.out k hkl
      have c2 := AtP.c2 HAr.out k hkl
      have lk : (k : Int) < (n : Int) := by omega
      have lk0 : (0 : Int) ≤ (k : Int) := by omega
      have wk : IntKind.i64.wrap ((k : Int) + 1) = (k : Int) + 1 := by rw [IntKind.wrap_i64]; omega
      have HK1 : Hid (k + 1 ≤ n) := hlt
      have HT : Hid (rrT ps (k + 1) = rrT ps k ++ ([32] ++ (peakB (ps.getD k default)).data.toList)) := rfl
      have hpp := fun w' => specPeakText (ps.getD k default) w' (HPK.out k hkl)
      have hpz := peakB_size (HPK.out k hkl)
      generalize peakB (ps.getD k default) = pb at hpp hpz HT
      generalize ps.getD k default = p at c0 c1 c2 hpp
      have q1 : ¬ 9223372036854775807 < s.size + 1 := by omega
      have q2 : ¬ 9223372036854775807 < s.size + 1 + pb.size := by omega
      have HZ : Hid ((s ++ ⟨#[32]⟩ ++ pb).size ≤ 5 + 101 * (k + 1)) := by
        have e32 : (⟨#[32]⟩ : ByteArray).size = 1 := rfl
        show _ ≤ _
        rw [ByteArray.size_append, ByteArray.size_append, e32]
        omega
      have HS2 : Hid ((s ++ ⟨#[32]⟩ ++ pb).data.toList = rrT ps (k + 1)) := by
        show _ = _
        rw [HT.out, ← HS.out]
        simp
      clear hkl
      go_wp2_with fail
      refine (hpp _).mono ?_
      rintro e w5 ⟨rfl, b5⟩
      have B5 : Hid (Below w.heap.size w w5) := HB.out.trans (b5.mono HB.out.size)
      clear b5 c0 c1 c2 hpp
      go_wp2_with fail
      go_roundw
      case rel => exact ⟨k + 1, s ++ ⟨#[32]⟩ ++ pb, HK1.out, by go_num, rfl, HZ.out, HS2, B5⟩
      case measure => have := HK1.out; simp [intOf]; omega
    · obtain rfl : k = n := by omega
      have hsm := fun w' => specSum s w' (by omega)
      rw [HS.out] at hsm
      go_wp2_with fail
      refine (hsm _).mono ?_
      rintro e w6 ⟨rfl, b6⟩
      go_wp2_with fail
      go_ret
      exact ⟨rfl, HB.out.trans (b6.mono HB.out.size)⟩

set_option maxHeartbeats 1000000 in
set_option maxRecDepth 100000 in
theorem specRangeRoot (g n cap : Nat) (ps : List PeakV) (w : World) (h : AtP w g ps) (hn : n = ps.length) (hm : n ≤ 1048576) (hz : ∀ i, i < ps.length → (ps.getD i default).sum.size ≤ maxLen) :
    Calls Tryd.prog 23 #[.slice (some ⟨g, 0, none⟩) n cap] w fun e w' => e = .returned (.string ⟨(rangeRoot ps).toArray⟩) ∧ Below w.heap.size w w' := by
  have hok := specL5Ok g n cap ps w h hn (by omega) hz
  cases hr : rangeOkB ps with
  | false =>
    have HV : Hid (rangeRoot ps = []) := rr_no hr
    rw [hr] at hok
    clear h hn hz
    go_enter Tryd.func23, Tryd.ntmps23
    go_wp2_with fail
    refine hok.mono ?_
    rintro e w1 ⟨rfl, b1⟩
    go_wp2_with fail
    go_ret
    exact ⟨by rw [HV.out]; rfl, b1⟩
  | true =>
    have HV : Hid (rangeRoot ps = sumB (rrT ps n)) := by show _ = _; rw [rr_yes hr, hn]
    have hrt := fun w' (hb : Below w.heap.size w w') => specL5Root g n cap ps w' (h.below hb h.1) hn hr
    rw [hr] at hok
    generalize rangeRoot ps = R at HV ⊢
    generalize sumB (rrT ps n) = R2 at HV hrt
    clear h hn hz hr
    go_enter Tryd.func23, Tryd.ntmps23
    go_wp2_with fail
    refine hok.mono ?_
    rintro e w1 ⟨rfl, b1⟩
    go_wp2_with fail
    refine (hrt _ b1).mono ?_
    rintro e w2 ⟨rfl, b2⟩
    go_wp2_with fail
    go_ret
    exact ⟨by rw [HV.out]; rfl, b1.trans (b2.mono b1.size)⟩

set_option maxHeartbeats 1000000 in
set_option maxRecDepth 100000 in
theorem walk_FnExactRangeRoot (a : Option Addr) (len cap : Nat) (ps : List PeakV) (w : World) (h : IsPeaks w a len cap ps) (hK : RowG w shaK) (hP : TabP w) :
    Calls Tryd.prog 5 #[.slice a len cap] w fun e w' => e = .returned (.bool true) ∧ Below w.heap.size w w' := by
  have H0 : Hid (IsPeaks w a len cap ps) := h
  have HLn : Hid (len = ps.length) := h.len.symm
  have HK : Hid (RowG w shaK) := hK
  have HP : Hid (TabP w) := hP
  clear h hK hP
  go_enter Tryd.func5, Tryd.ntmps5
  go_wp2_with fail
  refine (szPeaks a len cap ps w H0.out).mono ?_
  rintro e w0 ⟨b0, rfl | ⟨r, rfl, hl3, hsm⟩⟩
  · go_wp2_with fail
    go_ret
    exact ⟨rfl, b0⟩
  have HZ : Hid (∀ i, i < ps.length → (ps.getD i default).sum.size ≤ maxLen) := by
    intro i hi
    have := hsm i (by rw [HLn.out]; exact hi)
    unfold maxLen
    omega
  clear hsm
  have hl4 : len ≤ 1073741824 := by omega
  have hr0 : ¬ (r : Int) < 0 := by omega
  go_wp2_with fail
  refine (toPeaks a len cap ps _ w H0.out b0 hl3).mono ?_
  rintro e w1 ⟨rfl, r1, b1⟩
  have HB1 : Hid (Below w.heap.size w w1) := b0.trans (b1.mono b0.size)
  go_wp2_with fail
  refine (specRangeRoot w0.heap.size len len ps _ (r1.at 3 pEnc_len) HLn.out hl3 HZ.out).mono ?_
  rintro e w2 ⟨rfl, b2⟩
  have HB2 : Hid (Below w.heap.size w w2) := HB1.out.trans (b2.mono HB1.out.size)
  clear r1 b1 b2 b0 HB1
  have HI : Hid (∀ w', AtP w' w2.heap.size ps → Below w.heap.size w w' → Calls Tryd.prog 24 #[.slice (some ⟨w2.heap.size, 0, none⟩) len len] w' fun e w'' => e = .returned (.string ⟨(rangeRoot ps).toArray⟩) ∧ Below w'.heap.size w' w'') := fun w' h1 hb => implRangeRoot w2.heap.size len len ps w' h1 HLn.out hl3 (HK.out.below hb HK.out.lt) (TabP.below HP.out hb (Nat.le_refl _))
  generalize rangeRoot ps = R at HI ⊢
  go_wp2_with fail
  refine (toPeaks a len cap ps _ w H0.out HB2.out hl3).mono ?_
  rintro e w3 ⟨rfl, r3, b3⟩
  have HR3 : Hid (RowP w3 w2.heap.size ps) := r3
  have HB3 : Hid (Below w.heap.size w w3) := HB2.out.trans (b3.mono HB2.out.size)
  clear r3 b3
  go_wp2_with fail
  refine (HI.out _ (HR3.out.at 3 pEnc_len) HB3.out).mono ?_
  rintro e w4 ⟨rfl, b4⟩
  have HR4 : Hid (RowP w4 w2.heap.size ps) := HR3.out.below b4 HR3.out.lt
  have HB4 : Hid (Below w.heap.size w w4) := HB3.out.trans (b4.mono HB3.out.size)
  clear b4 HI
  go_wp2_with fail
  refine (toPeaks a len cap ps _ w H0.out HB4.out hl3).mono ?_
  rintro e w5 ⟨rfl, r5, b5⟩
  have HR5 : Hid (RowP w5 w4.heap.size ps) := r5
  have HR45 : Hid (RowP w5 w2.heap.size ps) := HR4.out.below b5 HR4.out.lt
  have HB5 : Hid (Below w.heap.size w w5) := HB4.out.trans (b5.mono HB4.out.size)
  clear r5 b5
  go_wp2_with fail
  refine (eqPeaks w2.heap.size w4.heap.size len len len ps _ (HR45.out.at 3 pEnc_len) (HR5.out.at 3 pEnc_len) HLn.out hl4).mono ?_
  rintro e w6 ⟨rfl, b6⟩
  go_wp2_with fail
  go_ret
  exact ⟨rfl, HB5.out.trans (b6.mono HB5.out.size)⟩

end Go.Proofs.YtjeldedjhlicmaaDoor
