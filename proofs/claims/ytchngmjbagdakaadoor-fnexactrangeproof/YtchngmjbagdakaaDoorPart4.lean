/-
  Texts that the last part needs, joined.
-/
import Derived.Test.YtchngmjbagdakaaDoorPart1
import Derived.Test.YtchngmjbagdakaaDoorPart2
import Derived.Test.YtchngmjbagdakaaDoorPart3
import Derived.Shelf.Strings.MapGrows
import Derived.Deep.RegionHeld3
import Derived.WalkKit
import Derived.Below
import Derived.ProofKit
import Derived.OpenShut
import Derived.ShutString
import Derived.ChangeOld
import Derived.ChangeArms
import Derived.WideShapes
import Derived.BigRegion
import Derived.Deep.RegionWith
import Derived.Deep.OwnRows
import Derived.Laws.Rows
import Derived.SliceStrings
import Derived.Laws.StructEq
import Derived.Test.YtchngmjbagdakaaDoorProg
import Derived.WalkSpells
import Derived.BigQuiet
import Derived.Deep.QuietTactic
import Derived.Lib.Builder
import Derived.Laws.BitsLemmas
import Derived.Lib.SmallJoins
import Derived.Lib.FrozenHead2
import Derived.Deep.AppendLies
set_option linter.unusedVariables false
namespace Go.Proofs.YtchngmjbagdakaaDoor
open Go.RowKit

theorem headT_len {h : HeadV} (hok : headOkB h = true) : (headT h).length ≤ 200 := by
  obtain ⟨h1, h2, h3, h4, h5⟩ := headOk_in hok
  have hps := sum_size h1
  have hrs := sum_size h2
  have htl : (Lib.decDigits h.time.toNat).length ≤ 19 := decLen (by omega)
  have hdl : (Lib.decDigits h.diff.toNat).length ≤ 19 := decLen (by omega)
  have hnl : (Lib.decDigits h.nonce.toNat).length ≤ 19 := decLen (by omega)
  have e1 : h.prev.data.toList.length = 16 := by simpa using hps
  have e2 : h.root.data.toList.length = 16 := by simpa using hrs
  have e1' : h.prev.data.size = 16 := by simpa using hps
  have e2' : h.root.data.size = 16 := by simpa using hrs
  simp [headT, joinTo, headL, e1', e2']
  omega
/-- The text of which a head's sum is the sum. -/
def headX (h : HeadV) : List UInt8 := [104, 101, 97, 100, 32] ++ headT h
def headSum (h : HeadV) : List UInt8 := if headOkB h = true then sumB (headX h) else []
def headMeets (h : HeadV) : Bool := headOkB h && decide ((headOf (headX h) : Int) / 65536 * h.diff < 32768)
theorem headSum_no {h : HeadV} (hok : headOkB h = false) : headSum h = [] := by rw [headSum, hok]; rfl
theorem headSum_yes {h : HeadV} (hok : headOkB h = true) : headSum h = sumB (headX h) := by rw [headSum, if_pos hok]
theorem headXs (h : HeadV) : ((⟨#[104, 101, 97, 100, 32]⟩ : ByteArray) ++ ⟨(headT h).toArray⟩).data.toList = headX h := by simp [headX]
theorem headXz {h : HeadV} (hok : headOkB h = true) : ((⟨#[104, 101, 97, 100, 32]⟩ : ByteArray) ++ ⟨(headT h).toArray⟩).size ≤ 1073741824 := by
  have := headT_len hok
  have e1 : (⟨#[104, 101, 97, 100, 32]⟩ : ByteArray).size = 5 := rfl
  have e3 : (⟨(headT h).toArray⟩ : ByteArray).size = (headT h).length := by simp [ByteArray.size]
  rw [ByteArray.size_append, e1, e3]
  omega

end Go.Proofs.YtchngmjbagdakaaDoor

set_option linter.unusedVariables false
namespace Go.Proofs.YtchngmjbagdakaaDoor
open Go.RowKit Go.Deep

def peakB (p : PeakV) : ByteArray := p.sum ++ ⟨#[32]⟩ ++ ⟨(Lib.decDigits p.work.toNat).toArray⟩ ++ ⟨#[32]⟩ ++ ⟨(Lib.decDigits p.count.toNat).toArray⟩
def rrT (ps : List PeakV) : Nat → List UInt8
  | 0 => [114, 97, 110, 103, 101]
  | k + 1 => rrT ps k ++ ([32] ++ (peakB (ps.getD k default)).data.toList)
def rangeRoot (ps : List PeakV) : List UInt8 := if rangeOkB ps = true then sumB (rrT ps ps.length) else []
theorem rr_no {ps : List PeakV} (h : rangeOkB ps = false) : rangeRoot ps = [] := by rw [rangeRoot, h]; rfl
theorem rr_yes {ps : List PeakV} (h : rangeOkB ps = true) : rangeRoot ps = sumB (rrT ps ps.length) := by rw [rangeRoot, if_pos h]
theorem rangeOk_peak {ps : List PeakV} (h : rangeOkB ps = true) (i : Nat) (hi : i < ps.length) : peakOkB (ps.getD i default) = true := by
  rw [rangeOkB, Bool.and_eq_true, List.all_eq_true] at h
  have := h.1 i (List.mem_range.2 hi)
  rw [stepOk, Bool.and_eq_true] at this
  exact this.1
theorem cnt_ge {ps : List PeakV} (h : rangeOkB ps = true) : ∀ k, k ≤ ps.length → (k : Int) ≤ cntTo ps k
  | 0, _ => by simp [cntTo]
  | k + 1, hk => by
    have ih := cnt_ge h k (by omega)
    have := (rangeOk_at h k (by omega)).1
    rw [cntTo]
    omega
theorem range_len {ps : List PeakV} (h : rangeOkB ps = true) : ps.length ≤ 20 := by
  have h1 := cnt_ge h ps.length (Nat.le_refl _)
  rw [rangeOkB, Bool.and_eq_true, decide_eq_true_eq] at h
  omega
theorem peakOk_sum {p : PeakV} (h : peakOkB p = true) : isSum p.sum.data.toList = true := by
  simp only [peakOkB, Bool.and_eq_true] at h
  exact h.1
theorem peakB_size {p : PeakV} (h : peakOkB p = true) : (peakB p).size ≤ 100 := by
  have h1 := sum_size (peakOk_sum h)
  have h2 := peakOk_in h
  have hw : (Lib.decDigits p.work.toNat).length ≤ 19 := decLen (by omega)
  have hc : (Lib.decDigits p.count.toNat).length ≤ 19 := decLen (by omega)
  have e1 : (⟨(Lib.decDigits p.work.toNat).toArray⟩ : ByteArray).size = (Lib.decDigits p.work.toNat).length := by show (Lib.decDigits p.work.toNat).toArray.size = _; simp
  have e2 : (⟨(Lib.decDigits p.count.toNat).toArray⟩ : ByteArray).size = (Lib.decDigits p.count.toNat).length := by show (Lib.decDigits p.count.toNat).toArray.size = _; simp
  have e32 : (⟨#[32]⟩ : ByteArray).size = 1 := rfl
  unfold peakB
  rw [ByteArray.size_append, ByteArray.size_append, ByteArray.size_append, ByteArray.size_append, h1, e1, e2, e32]
  omega
theorem rrT_len {ps : List PeakV} (h : rangeOkB ps = true) : ∀ k, k ≤ ps.length → (rrT ps k).length ≤ 5 + 101 * k
  | 0, _ => by simp [rrT]
  | k + 1, hk => by
    have ih := rrT_len h k (by omega)
    have h1 := peakB_size (rangeOk_peak h k (by omega))
    have e : (peakB (ps.getD k default)).data.toList.length = (peakB (ps.getD k default)).size := by simp
    rw [rrT, List.length_append, List.length_append, e, show ([32] : List UInt8).length = 1 from rfl]
    omega
/-- A peak's block. -/
def PSt (w w' : World) (g : Nat) (s : ByteArray) (a b : Int) : Prop := (w'.cell? ⟨g, 0, none⟩ = some (.string s) ∧ w'.cell? ⟨g, 1, none⟩ = some (.int .i64 a) ∧ w'.cell? ⟨g, 2, none⟩ = some (.int .i64 b)) ∧ Below w.heap.size w w' ∧ g < w'.heap.size
theorem PSt.out {w w' : World} {g : Nat} {s : ByteArray} {a b : Int} (h : PSt w w' g s a b) : w'.cell? ⟨g, 0, none⟩ = some (.string s) ∧ w'.cell? ⟨g, 1, none⟩ = some (.int .i64 a) ∧ w'.cell? ⟨g, 2, none⟩ = some (.int .i64 b) := h.1
theorem PSt.drew {w w' : World} {g : Nat} {s : ByteArray} {a b : Int} (h : PSt w w' g s a b) : PSt w w'.drew g s a b := ⟨h.1, h.2.1.drew, h.2.2⟩
theorem PSt.call {w w' w'' : World} {g : Nat} {s : ByteArray} {a b : Int} (h : PSt w w' g s a b) (hb : Below w'.heap.size w' w'') : PSt w w'' g s a b :=
  ⟨⟨(hb.cell (p := ⟨g, 0, none⟩) h.2.2).trans h.1.1, (hb.cell (p := ⟨g, 1, none⟩) h.2.2).trans h.1.2.1, (hb.cell (p := ⟨g, 2, none⟩) h.2.2).trans h.1.2.2⟩, h.2.1.trans (hb.mono h.2.1.size), Nat.lt_of_lt_of_le h.2.2 hb.size⟩
theorem PSt.new (w : World) (T : TypeId) (s : ByteArray) (a b : Int) : PSt w (w.alloc (.cells #[.string s, .int .i64 a, .int .i64 b] T)) w.heap.size s a b := by
  refine ⟨⟨?_, ?_, ?_⟩, (Below.refl _ w).alloc (Nat.le_refl _) _, by simp⟩ <;> (rw [Lib.cell_of_heap (heap_alloc_new w _)]; rfl)

set_option maxHeartbeats 1000000 in
set_option maxRecDepth 100000 in
theorem implPeakPut (p : PeakV) (w : World) (hok : peakOkB p = true) (hP : TabP w) :
    Calls Tryd.prog 43 #[.agg #[.string p.sum, .int .i64 p.work, .int .i64 p.count], .string ⟨#[32]⟩] w fun e w' => e = .returned (.string (peakB p)) ∧ Below w.heap.size w w' := by
  have h2 := peakOk_in hok
  obtain ⟨s, wk, ct⟩ := p
  dsimp only at h2 ⊢
  obtain ⟨a, rfl⟩ : ∃ a : Nat, wk = (a : Int) := ⟨wk.toNat, by omega⟩
  obtain ⟨b, rfl⟩ : ∃ b : Nat, ct = (b : Int) := ⟨ct.toNat, by omega⟩
  have HV : Hid (peakB ⟨s, (a : Int), (b : Int)⟩ = s ++ ⟨#[32]⟩ ++ ⟨(Lib.decDigits a).toArray⟩ ++ ⟨#[32]⟩ ++ ⟨(Lib.decDigits b).toArray⟩) := rfl
  have HP : Hid (∀ w', Below w.heap.size w w' → TabP w') := fun w' hb => TabP.below hP hb (Nat.le_refl _)
  have hia := fun w' hp => implItoa a w' (by omega) hp
  have hib := fun w' hp => implItoa b w' (by omega) hp
  have hps := sum_size (peakOk_sum hok)
  dsimp only at hps
  have hal : (Lib.decDigits a).length ≤ 19 := decLen (by omega)
  have hbl : (Lib.decDigits b).length ≤ 19 := decLen (by omega)
  generalize peakB ⟨s, (a : Int), (b : Int)⟩ = R at HV ⊢
  generalize Lib.decDigits a = da at hia HV hal
  generalize Lib.decDigits b = db at hib HV hbl
  have q1 : ¬ 9223372036854775807 < 17 + da.length := by omega
  have q2 : ¬ 9223372036854775807 < 17 + da.length + 1 := by omega
  have q3 : ¬ 9223372036854775807 < 17 + da.length + 1 + db.length := by omega
  have S0 : PSt w _ w.heap.size s (a : Int) (b : Int) := PSt.new w 47 s (a : Int) (b : Int)
  clear hP hok h2
  go_enter Tryd.func43, Tryd.ntmps43
  go_wp2_with fail
  go_region_held3 (fun w' => w'.cell? ⟨w.heap.size, 0, none⟩ = some (.string s) ∧ w'.cell? ⟨w.heap.size, 1, none⟩ = some (.int .i64 (a : Int)) ∧ w'.cell? ⟨w.heap.size, 2, none⟩ = some (.int .i64 (b : Int)))
    (first | (with_reducible first | exact S2.out | exact S1.out | exact S0.out | exact S0.drew.out) | go_keep)
    (first
      | (go_at_call 56; refine (hib _ (HP.out _ S1.2.1)).mono ?_; rintro e w2 ⟨rfl, b2⟩; have S2 : PSt w w2 w.heap.size s (a : Int) (b : Int) := S1.call b2)
      | (go_at_call 56; refine (hia _ (HP.out _ S0.drew.2.1)).mono ?_; rintro e w1 ⟨rfl, b1⟩; have S1 : PSt w w1 w.heap.size s (a : Int) (b : Int) := S0.drew.call b1))
  go_wp2_with fail
  go_ret
  exact ⟨by rw [HV.out]; rfl, S2.2.1⟩

set_option maxHeartbeats 1000000 in
set_option maxRecDepth 100000 in
theorem specPeakText (p : PeakV) (w : World) (hok : peakOkB p = true) :
    Calls Tryd.prog 63 #[.agg #[.string p.sum, .int .i64 p.work, .int .i64 p.count]] w fun e w' => e = .returned (.string (peakB p)) ∧ Below w.heap.size w w' := by
  have h2 := peakOk_in hok
  obtain ⟨s, wk, ct⟩ := p
  dsimp only at h2 ⊢
  obtain ⟨a, rfl⟩ : ∃ a : Nat, wk = (a : Int) := ⟨wk.toNat, by omega⟩
  obtain ⟨b, rfl⟩ : ∃ b : Nat, ct = (b : Int) := ⟨ct.toNat, by omega⟩
  have HV : Hid (peakB ⟨s, (a : Int), (b : Int)⟩ = s ++ ⟨#[32]⟩ ++ ⟨(Lib.decDigits a).toArray⟩ ++ ⟨#[32]⟩ ++ ⟨(Lib.decDigits b).toArray⟩) := rfl
  have hia := fun w' => specDec a w' (by omega)
  have hib := fun w' => specDec b w' (by omega)
  have hps := sum_size (peakOk_sum hok)
  dsimp only at hps
  have hal : (Lib.decDigits a).length ≤ 19 := decLen (by omega)
  have hbl : (Lib.decDigits b).length ≤ 19 := decLen (by omega)
  generalize peakB ⟨s, (a : Int), (b : Int)⟩ = R at HV ⊢
  generalize Lib.decDigits a = da at hia HV hal
  generalize Lib.decDigits b = db at hib HV hbl
  have q1 : ¬ 9223372036854775807 < 17 + da.length := by omega
  have q2 : ¬ 9223372036854775807 < 17 + da.length + 1 := by omega
  have q3 : ¬ 9223372036854775807 < 17 + da.length + 1 + db.length := by omega
  have S0 : PSt w _ w.heap.size s (a : Int) (b : Int) := PSt.new w 47 s (a : Int) (b : Int)
  clear hok h2
  go_enter Tryd.func63, Tryd.ntmps63
  go_wp2_with fail
  go_region_held3 (fun w' => w'.cell? ⟨w.heap.size, 0, none⟩ = some (.string s) ∧ w'.cell? ⟨w.heap.size, 1, none⟩ = some (.int .i64 (a : Int)) ∧ w'.cell? ⟨w.heap.size, 2, none⟩ = some (.int .i64 (b : Int)))
    (first | (with_reducible first | exact S2.out | exact S1.out | exact S0.out | exact S0.drew.out) | go_keep)
    (first
      | (go_at_call 62; have q9 := S1.out; refine (hib _).mono ?_; rintro e w2 ⟨rfl, b2⟩; have S2 : PSt w w2 w.heap.size s (a : Int) (b : Int) := S1.call b2)
      | (go_at_call 62; refine (hia _).mono ?_; rintro e w1 ⟨rfl, b1⟩; have S1 : PSt w w1 w.heap.size s (a : Int) (b : Int) := S0.drew.call b1))
  go_wp2_with fail
  go_ret
  exact ⟨by rw [HV.out]; rfl, S2.2.1⟩

end Go.Proofs.YtchngmjbagdakaaDoor

set_option linter.unusedVariables false
namespace Go.Proofs.YtchngmjbagdakaaDoor
open Go.RowKit Go.Deep

def leafX (h : HeadV) : List UInt8 := [108, 101, 97, 102, 32] ++ headT h
def leafP (h : HeadV) : PeakV := ⟨⟨(sumB (leafX h)).toArray⟩, h.diff, 1⟩
def bothX (a b : PeakV) : ByteArray := ((⟨#[112, 101, 97, 107, 32]⟩ : ByteArray) ++ peakB a) ++ (⟨#[32]⟩ : ByteArray) ++ peakB b
def bothP (a b : PeakV) : PeakV := ⟨⟨(sumB (bothX a b).data.toList).toArray⟩, a.work + b.work, a.count + b.count⟩
theorem leafXs (h : HeadV) : ((⟨#[108, 101, 97, 102, 32]⟩ : ByteArray) ++ ⟨(headT h).toArray⟩).data.toList = leafX h := by simp [leafX]
theorem leafXz {h : HeadV} (hok : headOkB h = true) : ((⟨#[108, 101, 97, 102, 32]⟩ : ByteArray) ++ ⟨(headT h).toArray⟩).size ≤ 1073741824 := by
  have := headT_len hok
  have e1 : (⟨#[108, 101, 97, 102, 32]⟩ : ByteArray).size = 5 := rfl
  have e3 : (⟨(headT h).toArray⟩ : ByteArray).size = (headT h).length := by simp [ByteArray.size]
  rw [ByteArray.size_append, e1, e3]
  omega
theorem bothX_size {a b : PeakV} (ha : peakOkB a = true) (hb : peakOkB b = true) : (bothX a b).size ≤ 1073741824 := by
  have h1 := peakB_size ha
  have h2 := peakB_size hb
  have e1 : (⟨#[112, 101, 97, 107, 32]⟩ : ByteArray).size = 5 := rfl
  have e2 : (⟨#[32]⟩ : ByteArray).size = 1 := rfl
  unfold bothX
  rw [ByteArray.size_append, ByteArray.size_append, ByteArray.size_append, e1, e2]
  omega
/-- The peak and the work on the left of it, so many steps up. -/
def walkTo (p : PeakV) (at_ : Nat) (ss : List PeakV) : Nat → Option (PeakV × Int)
  | 0 => some (p, 0)
  | i + 1 => match walkTo p at_ ss i with
    | none => none
    | some (q, l) => if (peakOkB (ss.getD i default) && decide ((ss.getD i default).count = q.count)) = true then (if at_ / 2 ^ i % 2 = 1 then some (bothP (ss.getD i default) q, l + (ss.getD i default).work) else some (bothP q (ss.getD i default), l)) else none
theorem walk_none {p : PeakV} {a : Nat} {ss : List PeakV} {i : Nat} (h : walkTo p a ss i = none) : ∀ j, walkTo p a ss (i + j) = none
  | 0 => h
  | j + 1 => by rw [← Nat.add_assoc, walkTo, walk_none h j]
theorem walk_bad {p : PeakV} {a : Nat} {ss : List PeakV} {i : Nat} {q : PeakV} {l : Int} (h : walkTo p a ss i = some (q, l)) (hb : (peakOkB (ss.getD i default) && decide ((ss.getD i default).count = q.count)) = false) (hi : i < ss.length) : walkTo p a ss ss.length = none := by
  have h1 : walkTo p a ss (i + 1) = none := by rw [walkTo, h]; simp only [hb]; rfl
  have := walk_none h1 (ss.length - (i + 1))
  rwa [show i + 1 + (ss.length - (i + 1)) = ss.length from by omega] at this
theorem walk_notok {p : PeakV} {a : Nat} {ss : List PeakV} {i : Nat} (hi : i < ss.length) (hb : peakOkB (ss.getD i default) = false) : walkTo p a ss ss.length = none := by
  cases h : walkTo p a ss i with
  | none =>
    have := walk_none h (ss.length - i)
    rwa [show i + (ss.length - i) = ss.length from by omega] at this
  | some y =>
    obtain ⟨q, l⟩ := y
    exact walk_bad h (by rw [hb]; rfl) hi
theorem walk_left {p : PeakV} {a : Nat} {ss : List PeakV} {i : Nat} {q : PeakV} {l : Int} (h : walkTo p a ss i = some (q, l)) (hb : (peakOkB (ss.getD i default) && decide ((ss.getD i default).count = q.count)) = true) (hm : a / 2 ^ i % 2 = 1) : walkTo p a ss (i + 1) = some (bothP (ss.getD i default) q, l + (ss.getD i default).work) := by
  rw [walkTo, h]; simp only [hb, if_pos hm]; rfl
theorem walk_right {p : PeakV} {a : Nat} {ss : List PeakV} {i : Nat} {q : PeakV} {l : Int} (h : walkTo p a ss i = some (q, l)) (hb : (peakOkB (ss.getD i default) && decide ((ss.getD i default).count = q.count)) = true) (hm : ¬ a / 2 ^ i % 2 = 1) : walkTo p a ss (i + 1) = some (bothP q (ss.getD i default), l) := by
  rw [walkTo, h]; simp only [hb, if_neg hm]; rfl
/-- A peak that stands so many steps up. -/
structure Fine (q : PeakV) (l : Int) (i : Nat) : Prop where
  cnt : q.count = ((2 ^ i : Nat) : Int)
  hi : i ≤ 5
  sum : isSum q.sum.data.toList = true
  wk : q.count ≤ q.work ∧ q.work ≤ q.count * 8
  l0 : 0 ≤ l
  l1 : l ≤ q.work
theorem fine_leaf {h : HeadV} (hok : headOkB h = true) : Fine (leafP h) 0 0 := by
  have h1 := headOk_in hok
  refine ⟨rfl, by omega, by show isSum (sumB (leafX h)).toArray.toList = true; rw [List.toList_toArray]; exact isSum_sumB _, ?_, by omega, ?_⟩
  · show (1 : Int) ≤ h.diff ∧ h.diff ≤ 1 * 8
    omega
  · show (0 : Int) ≤ h.diff
    omega
theorem fine_ok {q : PeakV} {l : Int} {i : Nat} (h : Fine q l i) (h5 : q.count ≤ 20) : peakOkB q = true := by
  have := h.wk
  have hp : (0 : Int) < ((2 ^ i : Nat) : Int) := by exact_mod_cast Nat.two_pow_pos i
  have hc := h.cnt
  simp only [peakOkB, h.sum, Bool.true_and, Bool.and_eq_true, decide_eq_true_eq]
  omega
theorem fine_lt {q s : PeakV} {l : Int} {i : Nat} (h : Fine q l i) (hb : (peakOkB s && decide (s.count = q.count)) = true) : peakOkB s = true ∧ s.count = q.count ∧ peakOkB q = true ∧ i ≤ 4 := by
  rw [Bool.and_eq_true, decide_eq_true_eq] at hb
  have h1 := peakOk_in hb.1
  refine ⟨hb.1, hb.2, fine_ok h (by omega), ?_⟩
  rcases Nat.lt_or_ge 4 i with h' | h'
  · obtain rfl : i = 5 := by have := h.hi; omega
    have := h.cnt
    have e : ((2 ^ 5 : Nat) : Int) = 32 := rfl
    omega
  · exact h'
theorem isSum_both (a b : PeakV) : isSum (bothP a b).sum.data.toList = true := by
  show isSum (sumB _).toArray.toList = true
  rw [List.toList_toArray]
  exact isSum_sumB _
theorem fine_left {q s : PeakV} {l : Int} {i : Nat} (h : Fine q l i) (hb : (peakOkB s && decide (s.count = q.count)) = true) : Fine (bothP s q) (l + s.work) (i + 1) := by
  obtain ⟨h1, h2, _, h4⟩ := fine_lt h hb
  have h5 := peakOk_in h1
  have hw := h.wk
  have e : ((2 ^ (i + 1) : Nat) : Int) = 2 * ((2 ^ i : Nat) : Int) := by rw [Nat.pow_succ]; push_cast; omega
  have hc := h.cnt
  have h0 := h.l0
  have hl := h.l1
  refine ⟨?_, by omega, isSum_both _ _, ?_, by omega, ?_⟩
  · show s.count + q.count = _
    omega
  · show s.count + q.count ≤ s.work + q.work ∧ s.work + q.work ≤ (s.count + q.count) * 8
    omega
  · show l + s.work ≤ s.work + q.work
    omega
theorem fine_right {q s : PeakV} {l : Int} {i : Nat} (h : Fine q l i) (hb : (peakOkB s && decide (s.count = q.count)) = true) : Fine (bothP q s) l (i + 1) := by
  obtain ⟨h1, h2, _, h4⟩ := fine_lt h hb
  have h5 := peakOk_in h1
  have hw := h.wk
  have e : ((2 ^ (i + 1) : Nat) : Int) = 2 * ((2 ^ i : Nat) : Int) := by rw [Nat.pow_succ]; push_cast; omega
  have hc := h.cnt
  have h0 := h.l0
  have hl := h.l1
  refine ⟨?_, by omega, isSum_both _ _, ?_, by omega, ?_⟩
  · show q.count + s.count = _
    omega
  · show q.count + s.count ≤ q.work + s.work ∧ q.work + s.work ≤ (q.count + s.count) * 8
    omega
  · show l ≤ q.work + s.work
    omega
/-- The bit of a place that tells in which half it is. -/
theorem bit_half : ∀ (a : Fin 21) (i : Fin 5), (bits .and .i64 ((a.val : Nat) : Int) ((2 ^ i.val : Nat) : Int) != 0) = decide (a.val / 2 ^ i.val % 2 = 1) := by decide +kernel
def samePB (p q : PeakV) : Bool := p.sum.toList == q.sum.toList && (p.work == q.work && p.count == q.count)
/-- What a head's way to a peak tells: the work on the left of it, or nothing. -/
def climbV (top : PeakV) (h : HeadV) (a : Nat) (ss : List PeakV) : Int := match walkTo (leafP h) a ss ss.length with
  | none => -1
  | some (q, l) => if samePB q top = true then l else -1
theorem climb_none {top : PeakV} {h : HeadV} {a : Nat} {ss : List PeakV} (hw : walkTo (leafP h) a ss ss.length = none) : climbV top h a ss = -1 := by rw [climbV, hw]
theorem climb_some {top : PeakV} {h : HeadV} {a : Nat} {ss : List PeakV} {q : PeakV} {l : Int} (hw : walkTo (leafP h) a ss ss.length = some (q, l)) : climbV top h a ss = if samePB q top = true then l else -1 := by rw [climbV, hw]
/-- The peak in which a place is. -/
def placeP (ps : List PeakV) (a : Int) : Option Nat := (List.range ps.length).find? fun k => decide (a < cntTo ps (k + 1))
theorem place_at {ps : List PeakV} {a : Int} {k : Nat} (hk : k < ps.length) (h : a < cntTo ps (k + 1)) (hj : ∀ j, j < k → ¬ a < cntTo ps (j + 1)) : placeP ps a = some k := by
  rw [placeP, List.find?_range_eq_some]
  exact ⟨decide_eq_true h, List.mem_range.2 hk, fun j hjk => by rw [decide_eq_false (hj j hjk)]; rfl⟩
theorem place_no {ps : List PeakV} {a : Int} (hj : ∀ j, j < ps.length → ¬ a < cntTo ps (j + 1)) : placeP ps a = none := by
  rw [placeP, List.find?_eq_none]
  intro j hj2
  simpa using hj j (List.mem_range.1 hj2)
/-- What a proof tells of a head at a place: the work ahead of it, or nothing. -/
def checkV (root : ByteArray) (h : HeadV) (a : Int) (ps ss : List PeakV) : Int :=
  if headOkB h = true ∧ 0 ≤ a ∧ ss.length ≤ 8 ∧ rangeOkB ps = true ∧ (⟨(rangeRoot ps).toArray⟩ : ByteArray) = root then
    match placeP ps a with
    | none => -1
    | some k => if climbV (ps.getD k default) h (a - cntTo ps k).toNat ss < 0 then -1 else wrkTo ps k + climbV (ps.getD k default) h (a - cntTo ps k).toNat ss
  else -1
theorem check_no {root : ByteArray} {h : HeadV} {a : Int} {ps ss : List PeakV} (hn : ¬ (headOkB h = true ∧ 0 ≤ a ∧ ss.length ≤ 8 ∧ rangeOkB ps = true ∧ (⟨(rangeRoot ps).toArray⟩ : ByteArray) = root)) : checkV root h a ps ss = -1 := by rw [checkV, if_neg hn]
theorem check_none {root : ByteArray} {h : HeadV} {a : Int} {ps ss : List PeakV} (hp : placeP ps a = none) : checkV root h a ps ss = -1 := by
  unfold checkV
  split
  · rw [hp]
  · rfl
theorem check_some {root : ByteArray} {h : HeadV} {a : Int} {ps ss : List PeakV} {k : Nat} (hy : headOkB h = true ∧ 0 ≤ a ∧ ss.length ≤ 8 ∧ rangeOkB ps = true ∧ (⟨(rangeRoot ps).toArray⟩ : ByteArray) = root) (hp : placeP ps a = some k) : checkV root h a ps ss = if climbV (ps.getD k default) h (a - cntTo ps k).toNat ss < 0 then -1 else wrkTo ps k + climbV (ps.getD k default) h (a - cntTo ps k).toNat ss := by
  rw [checkV, if_pos hy, hp]

/-- Whether peaks can stand beside a way. -/
def stepsB (ss : List PeakV) : Bool := decide (ss.length ≤ 8) && ss.all peakOkB
theorem steps_at {ss : List PeakV} (h : stepsB ss = true) (i : Nat) (hi : i < ss.length) : peakOkB (ss.getD i default) = true := by
  rw [stepsB, Bool.and_eq_true, List.all_eq_true] at h
  rw [List.getD_eq_getElem?_getD, List.getElem?_eq_getElem hi]
  exact h.2 _ (List.getElem_mem hi)
theorem steps_len {ss : List PeakV} (h : stepsB ss = true) : ss.length ≤ 8 := by
  rw [stepsB, Bool.and_eq_true, decide_eq_true_eq] at h
  exact h.1
theorem steps_long {ss : List PeakV} (h : ¬ ss.length ≤ 8) : stepsB ss = false := by rw [stepsB, decide_eq_false h]; rfl
theorem steps_bad {ss : List PeakV} {i : Nat} (hi : i < ss.length) (h : peakOkB (ss.getD i default) = false) : stepsB ss = false := by
  cases hs : stepsB ss with
  | false => rfl
  | true => rw [steps_at hs i hi] at h; cases h
theorem steps_good {ss : List PeakV} (h8 : ss.length ≤ 8) (h : ∀ i, i < ss.length → peakOkB (ss.getD i default) = true) : stepsB ss = true := by
  rw [stepsB, decide_eq_true h8, Bool.true_and, List.all_eq_true]
  intro q hq
  obtain ⟨j, hj, rfl⟩ := List.mem_iff_getElem.1 hq
  have := h j hj
  rwa [List.getD_eq_getElem?_getD, List.getElem?_eq_getElem hj] at this
theorem check_steps {root : ByteArray} {h : HeadV} {a : Int} {ps ss : List PeakV} (hs : stepsB ss = false) : checkV root h a ps ss = -1 := by
  by_cases h8 : ss.length ≤ 8
  · have hex : ∃ i, i < ss.length ∧ peakOkB (ss.getD i default) = false := by
      refine Classical.byContradiction fun hn => ?_
      have := steps_good h8 (fun i hi => by
        cases hp : peakOkB (ss.getD i default) with
        | true => rfl
        | false => exact absurd ⟨i, hi, hp⟩ hn)
      rw [this] at hs
      cases hs
    obtain ⟨i, hi, hb⟩ := hex
    unfold checkV
    split
    · split
      · rfl
      · rw [climb_none (walk_notok hi hb)]
        rfl
    · rfl
  · exact check_no (fun hh => h8 hh.2.2.1)

end Go.Proofs.YtchngmjbagdakaaDoor

set_option linter.unusedVariables false
namespace Go.Proofs.YtchngmjbagdakaaDoor
open Go.ChangeShapes Go.WideShapes Go.ChangeAt Go.RowKit Go.Deep

def enHead (p : HeadV) : List Value := [.string p.prev, .string p.root, .int .i64 p.time, .int .i64 p.diff, .int .i64 p.nonce]
theorem enHead_len (p : HeadV) : (enHead p).length = 5 := rfl
/-- Its texts can be held. -/
def wfHead (p : HeadV) : Prop := p.prev.size ≤ maxLen ∧ p.root.size ≤ maxLen
/-- Its texts are small. -/
def smallHead (p : HeadV) : Prop := p.prev.size ≤ 1048576 ∧ p.root.size ≤ 1048576
abbrev IsHeads (w : World) (a : Option Addr) (len cap : Nat) (l : List HeadV) : Prop := IsFlat enHead wfHead 5 w a len cap l
abbrev RowHead (w : World) (g : Nat) (l : List HeadV) : Prop := RowF enHead 44 w g l
abbrev AtHead (w : World) (g : Nat) (l : List HeadV) : Prop := AtF enHead 5 w g l
theorem AtHead.c0 {w : World} {g : Nat} {l : List HeadV} (h : AtHead w g l) (i : Nat) (hi : i < l.length) : w.cell? ⟨g, i * 5, none⟩ = some (.string (l.getD i default).prev) := h.2 i 0 hi (by decide)
theorem AtHead.c1 {w : World} {g : Nat} {l : List HeadV} (h : AtHead w g l) (i : Nat) (hi : i < l.length) : w.cell? ⟨g, i * 5 + 1, none⟩ = some (.string (l.getD i default).root) := h.2 i 1 hi (by decide)
theorem AtHead.c2 {w : World} {g : Nat} {l : List HeadV} (h : AtHead w g l) (i : Nat) (hi : i < l.length) : w.cell? ⟨g, i * 5 + 2, none⟩ = some (.int .i64 (l.getD i default).time) := h.2 i 2 hi (by decide)
theorem AtHead.c3 {w : World} {g : Nat} {l : List HeadV} (h : AtHead w g l) (i : Nat) (hi : i < l.length) : w.cell? ⟨g, i * 5 + 3, none⟩ = some (.int .i64 (l.getD i default).diff) := h.2 i 3 hi (by decide)
theorem AtHead.c4 {w : World} {g : Nat} {l : List HeadV} (h : AtHead w g l) (i : Nat) (hi : i < l.length) : w.cell? ⟨g, i * 5 + 4, none⟩ = some (.int .i64 (l.getD i default).nonce) := h.2 i 4 hi (by decide)
theorem cellsHead {w : World} {x : Addr} {p : HeadV} (h : ∀ j, j < 5 → w.cell? (x.add j) = (enHead p)[j]?) : w.cell? x = some (.string p.prev) ∧ w.cell? ⟨x.block, x.off + 1, none⟩ = some (.string p.root) ∧ w.cell? ⟨x.block, x.off + 2, none⟩ = some (.int .i64 p.time) ∧ w.cell? ⟨x.block, x.off + 3, none⟩ = some (.int .i64 p.diff) ∧ w.cell? ⟨x.block, x.off + 4, none⟩ = some (.int .i64 p.nonce) := by
  exact ⟨h 0 (by decide), h 1 (by decide), h 2 (by decide), h 3 (by decide), h 4 (by decide)⟩
theorem partsHead {cs : List Value} {a0 a1 a2 a3 a4 : Value} (hl : cs.length = 5) (h0 : (cs.drop 0).take 1 = [a0]) (h1 : (cs.drop 1).take 1 = [a1]) (h2 : (cs.drop 2).take 1 = [a2]) (h3 : (cs.drop 3).take 1 = [a3]) (h4 : (cs.drop 4).take 1 = [a4]) : cs = [a0, a1, a2, a3, a4] := by
  match cs, hl with
  | [x0, x1, x2, x3, x4], _ =>
    simp at h0 h1 h2 h3 h4
    subst h0 h1 h2 h3 h4
    rfl
theorem oneHead_i : Tryd.prog.cellsOf 3 = 1 := by kernel_rfl
theorem oneHead_s : Tryd.prog.cellsOf 9 = 1 := by kernel_rfl
theorem sizeHead : Tryd.prog.cellsOf 41 = 5 := by kernel_rfl
set_option maxRecDepth 100000 in
theorem invHead {H : Type} {enc : TypeId × Value → H} {W : World} {base : Nat} {sp : Nat → Bool} {held : Bool} (n : Nat) (cs : List Value) (y : DataW H × List MemPlace) (h : DataW.trod enc Tryd.prog W base sp held n 41 cs = some y) (hl : cs.length = 5) : ∃ v : HeadV, cs = enHead v ∧ wfHead v := by
  obtain ⟨xs, n, _, _, _, hlen, hx⟩ := DataW.trod_struct Tryd.underlying41 h
  match xs, hlen with
  | [y0, y1, y2, y3, y4], _ =>
    have g0 := hx 0 _ rfl
    have g1 := hx 1 _ rfl
    have g2 := hx 2 _ rfl
    have g3 := hx 3 _ rfl
    have g4 := hx 4 _ rfl
    obtain ⟨s0, e0, _, z0⟩ := DataW.trod_string Tryd.underlying9 g0
    replace e0 : (cs.drop 0).take (Tryd.prog.cellsOf 9) = [_] := e0
    rw [oneHead_s] at e0
    obtain ⟨s1, e1, _, z1⟩ := DataW.trod_string Tryd.underlying9 g1
    replace e1 : (cs.drop 1).take (Tryd.prog.cellsOf 9) = [_] := e1
    rw [oneHead_s] at e1
    obtain ⟨s2, e2, _, z2⟩ := DataW.trod_int Tryd.underlying3 g2
    replace e2 : (cs.drop 2).take (Tryd.prog.cellsOf 3) = [_] := e2
    rw [oneHead_i] at e2
    obtain ⟨s3, e3, _, z3⟩ := DataW.trod_int Tryd.underlying3 g3
    replace e3 : (cs.drop 3).take (Tryd.prog.cellsOf 3) = [_] := e3
    rw [oneHead_i] at e3
    obtain ⟨s4, e4, _, z4⟩ := DataW.trod_int Tryd.underlying3 g4
    replace e4 : (cs.drop 4).take (Tryd.prog.cellsOf 3) = [_] := e4
    rw [oneHead_i] at e4
    exact ⟨⟨s0, s1, s2, s3, s4⟩, partsHead hl e0 e1 e2 e3 e4, z0, z1⟩
theorem open_heads {H : Type} {enc : TypeId × Value → H} {W : World} {base : Nat} {sp : Nat → Bool} {held : Bool} {a : Option Addr} {len cap : Nat} {d : DataW H} {p : List MemPlace} (h : DataW.Trod enc Tryd.prog W base sp held 22 (.slice a len cap) d p) : ∃ l : List HeadV, IsHeads W a len cap l :=
  open_flat enHead wfHead Tryd.underlying22 sizeHead (fun n cs y h1 h2 => invHead n cs y h1 h2) h

set_option maxHeartbeats 1000000 in
set_option maxRecDepth 100000 in
theorem szHead1 (p : HeadV) (r : Nat) (w : World) (hr : r ≤ 1048576) (hs : wfHead p) :
    Calls Tryd.prog 19 #[.agg #[.string p.prev, .string p.root, .int .i64 p.time, .int .i64 p.diff, .int .i64 p.nonce], .int .i64 (r : Int)] w fun e w' => Below w.heap.size w w' ∧ (e = .returned (.int .i64 (-1)) ∨ ∃ q : Nat, e = .returned (.int .i64 (q : Int)) ∧ q ≤ r ∧ smallHead p) := by
  unfold wfHead maxLen at hs
  have hb : ∀ o, Below w.heap.size w (w.alloc o) := fun o => (Below.refl _ w).alloc (Nat.le_refl _) o
  have hw_prev : IntKind.i64.wrap ((r : Int) - (p.prev.size : Int)) = (r : Int) - (p.prev.size : Int) := by rw [IntKind.wrap_i64]; omega
  by_cases hl_prev : (r : Int) - (p.prev.size : Int) < 0
  · go_enter Tryd.func19, Tryd.ntmps19
    go_wp2
    go_ret
    exact ⟨hb _, .inl rfl⟩
  have hw_root : IntKind.i64.wrap ((r : Int) - (p.prev.size : Int) - (p.root.size : Int)) = (r : Int) - (p.prev.size : Int) - (p.root.size : Int) := by rw [IntKind.wrap_i64]; omega
  by_cases hl_root : (r : Int) - (p.prev.size : Int) - (p.root.size : Int) < 0
  · go_enter Tryd.func19, Tryd.ntmps19
    go_wp2
    go_ret
    exact ⟨hb _, .inl rfl⟩
  have HS : Hid (smallHead p) := by show smallHead p; unfold smallHead; omega
  go_enter Tryd.func19, Tryd.ntmps19
  go_wp2
  go_ret
  refine ⟨hb _, .inr ⟨r - p.prev.size - p.root.size, ?_, by omega, HS.out⟩⟩
  show Ending.returned (Value.int IntKind.i64 ((r : Int) - (p.prev.size : Int) - (p.root.size : Int))) = _
  congr 2
  omega
set_option maxHeartbeats 1000000 in
set_option maxRecDepth 100000 in
theorem toHeadA (p : HeadV) (w : World) :
    Calls Tryd.prog 23 #[.agg #[.string p.prev, .string p.root, .int .i64 p.time, .int .i64 p.diff, .int .i64 p.nonce]] w fun e w' => e = .returned (.agg #[.string p.prev, .string p.root, .int .i64 p.time, .int .i64 p.diff, .int .i64 p.nonce]) ∧ Below w.heap.size w w' := by
  go_enter Tryd.func23, Tryd.ntmps23
  go_wp2
  exact bodyPost_ret (results_cell_row (p := 2) rfl _ _ (w.heap.size + 1) 44 #[.string p.prev, .string p.root, .int .i64 p.time, .int .i64 p.diff, .int .i64 p.nonce] (0, 0) _ rfl (alloc3_midH _ _ _ _) Tryd.underlying44 rfl (by kernel_rfl)) rfl ⟨rfl, (((Below.refl _ w).alloc (Nat.le_refl _) _).alloc (by simp) _).alloc (by simp; omega) _⟩
set_option maxHeartbeats 1000000 in
set_option maxRecDepth 100000 in
theorem eqHeadA (p : HeadV) (w : World) :
    Calls Tryd.prog 31 #[.agg #[.string p.prev, .string p.root, .int .i64 p.time, .int .i64 p.diff, .int .i64 p.nonce], .agg #[.string p.prev, .string p.root, .int .i64 p.time, .int .i64 p.diff, .int .i64 p.nonce]] w fun e w' => e = .returned (.bool true) ∧ Below w.heap.size w w' := by
  go_enter Tryd.func31, Tryd.ntmps31
  go_wp2
  go_ret
  exact ⟨rfl, ((Below.refl _ w).alloc (Nat.le_refl _) _).alloc (by simp) _⟩

set_option maxHeartbeats 1000000 in
set_option maxRecDepth 100000 in
theorem szHeads (a : Option Addr) (len cap : Nat) (ps : List HeadV) (w : World) (h : IsHeads w a len cap ps) :
    Calls Tryd.prog 5 #[.slice a len cap, .int .i64 1048576] w fun e w' => Below w.heap.size w w' ∧ (e = .returned (.int .i64 (-1)) ∨ ∃ r : Nat, e = .returned (.int .i64 (r : Int)) ∧ r ≤ 1048576 ∧ len ≤ 1048576 ∧ ∀ i, i < len → smallHead (ps.getD i default)) := by
  have HP : Hid (IsHeads w a len cap ps) := h
  have hlm : len ≤ maxLen := h.max
  unfold maxLen at hlm
  have hw : IntKind.i64.wrap (1048576 - (len : Int)) = 1048576 - (len : Int) := by rw [IntKind.wrap_i64]; omega
  clear h
  by_cases hl : 1048576 < len
  · have hl' : (1048576 : Int) - (len : Int) < 0 := by omega
    go_enter Tryd.func5, Tryd.ntmps5
    go_wp2_with fail
    go_ret
    exact ⟨Below.refl _ _, .inl rfl⟩
  · have hl' : ¬ (1048576 : Int) - (len : Int) < 0 := by omega
    go_enter Tryd.func5, Tryd.ntmps5
    go_wp2_with fail
    clear hw hl'
    go_loopw [1, 5] (fun l i wr => ∃ (r k : Nat), k ≤ len ∧ r ≤ 1048576 ∧ i = .int .i64 (k : Int) ∧ l = .int .i64 (r : Int) ∧ Hid (Below w.heap.size w wr) ∧ Hid (∀ i, i < k → smallHead (ps.getD i default))) (fun _ i _ => len - (intOf i).toNat)
    case atStart => exact ⟨1048576 - len, 0, by omega, by omega, rfl, by go_num, Below.refl _ _, fun i hi => by omega⟩
    case round =>
      obtain ⟨r, k, hk, hr, rfl, rfl, HB, HS⟩ := hrel
      by_cases hlt : k < len
      · obtain ⟨x, rfl, hp, hsz⟩ := HP.out.at enHead_len HB.out k hlt
        obtain ⟨c0, c1, c2, c3, c4⟩ := cellsHead hp
        have lk : (k : Int) < (len : Int) := by omega
        have HK : Hid (k + 1 ≤ len) := hlt
        have HN : Hid (smallHead (ps.getD k default) → ∀ i, i < k + 1 → smallHead (ps.getD i default)) := by
          intro h1 i hi
          rcases Nat.lt_or_ge i k with h' | h'
          · exact HS.out i h'
          · obtain rfl : i = k := by omega
            exact h1
        clear hp
        generalize ps.getD k default = p at c0 c1 c2 c3 c4 hsz HN
        go_wp2_with fail
        refine (szHead1 p r _ hr hsz).mono ?_
        rintro e w1 ⟨b1, rfl | ⟨q, rfl, hq, hps⟩⟩
        · go_wp2_with fail
          go_ret
          exact ⟨HB.out.trans (b1.mono HB.out.size), .inl rfl⟩
        · have HQ2 : Hid (∀ i, i < k + 1 → smallHead (ps.getD i default)) := HN.out hps
          clear HN hps
          have hq0 : ¬ (q : Int) < 0 := by omega
          go_wp2_with fail
          go_roundw
          case rel => exact ⟨q, k + 1, HK.out, by omega, by go_num, rfl, HB.out.trans (b1.mono HB.out.size), HQ2⟩
          case measure => have := HK.out; simp [intOf]; omega
      · go_wp2_with fail
        go_ret
        exact ⟨HB.out, .inr ⟨r, rfl, by omega, by omega, fun i hi => HS.out i (by omega)⟩⟩

theorem infoHead : (Tryd.prog.info? 44).map (fun i => (i.zero, i.size, i.bytes)) = some (some (.agg #[.string ⟨#[]⟩, .string ⟨#[]⟩, .int .i64 0, .int .i64 0, .int .i64 0]), 5, 56) := by kernel_rfl
def zeroHead : HeadV := ⟨⟨#[]⟩, ⟨#[]⟩, 0, 0, 0⟩
theorem makeHead (n : Nat) (hn : n ≤ 1099511627776) (w : World) : (Instr.makeSlice 28 (.int .i64 (n : Int)) (.int .i64 (n : Int))).run Tryd.prog w = .ok (.slice (some ⟨w.heap.size, 0, none⟩) n n) (w.alloc (.cells ((List.replicate n zeroHead).flatMap enHead).toArray 44)) := by
  obtain ⟨i, hi, hz, hs, hb⟩ := info_parts infoHead
  have hb' : (i.bytes : Int) * (n : Int) ≤ 281474976710656 := by rw [hb]; omega
  have hr := run_make (P := Tryd.prog) w 28 44 i _ Tryd.underlying28 hi hz .i64 .i64 (n : Int) (n : Int) (by omega) (by omega) hb' (by omega)
  simp only [Int.toNat_natCast, hs, Value.cells] at hr
  rw [← made_flat 5 enHead enHead_len (by decide) zeroHead n]
  exact hr
theorem RowHead.put {w : World} {g : Nat} {l : List HeadV} (h : RowHead w g l) (i : Nat) (hi : i < l.length) (p : HeadV) :
    RowHead (((((w.setCell ⟨g, i * 5, none⟩ (.string p.prev)).setCell ⟨g, i * 5 + 1, none⟩ (.string p.root)).setCell ⟨g, i * 5 + 2, none⟩ (.int .i64 p.time)).setCell ⟨g, i * 5 + 3, none⟩ (.int .i64 p.diff)).setCell ⟨g, i * 5 + 4, none⟩ (.int .i64 p.nonce)) g (l.set i p) := by
  show _ = _
  rw [← flat_put 5 enHead enHead_len l i p hi]
  exact (rowSet (rowSet (rowSet (rowSet (rowSet h _) _) _) _) _)

set_option maxHeartbeats 1000000 in
set_option maxRecDepth 100000 in
theorem toHeads (a : Option Addr) (len cap : Nat) (ps : List HeadV) (w w0 : World) (h0 : IsHeads w0 a len cap ps) (hw : Below w0.heap.size w0 w) (hn : len ≤ 1048576) :
    Calls Tryd.prog 7 #[.slice a len cap] w fun e w' => e = .returned (.slice (some ⟨w.heap.size, 0, none⟩) len len) ∧ RowHead w' w.heap.size ps ∧ Below w.heap.size w w' := by
  have hmk := makeHead len (by omega)
  have HP : Hid (IsHeads w0 a len cap ps) := h0
  have HW : Hid (Below w0.heap.size w0 w) := hw
  have HLn : Hid (ps.length = len) := h0.len
  clear h0 hw
  go_enter Tryd.func7, Tryd.ntmps7
  go_wp2_with fail
  clear hmk
  go_loopw [4] (fun i wr => ∃ k : Nat, k ≤ len ∧ i = .int .i64 (k : Int) ∧ Hid (RowHead wr w.heap.size (ps.take k ++ List.replicate (len - k) zeroHead)) ∧ Hid (Below w.heap.size w wr)) (fun i _ => len - (intOf i).toNat)
  case atStart => exact ⟨0, by omega, rfl, heap_alloc_new w _, (Below.refl _ w).alloc (Nat.le_refl _) _⟩
  case round =>
    obtain ⟨k, hk, rfl, HR, HB⟩ := hrel
    by_cases hlt : k < len
    · obtain ⟨x, rfl, hp, _⟩ := HP.out.at enHead_len (HW.out.trans (HB.out.mono HW.out.size)) k hlt
      obtain ⟨c0, c1, c2, c3, c4⟩ := cellsHead hp
      have HK : Hid (k + 1 ≤ len) := hlt
      have HS : Hid ((ps.take k ++ List.replicate (len - k) zeroHead).set k (ps.getD k default) = ps.take (k + 1) ++ List.replicate (len - (k + 1)) zeroHead) := set_nextF zeroHead ps len k (by rw [HLn.out]; exact hlt) hlt
      have HKL : Hid (k < (ps.take k ++ List.replicate (len - k) zeroHead).length) := by show _ < _; simp [HLn.out]; omega
      have lk : (k : Int) < (len : Int) := by omega
      clear hp
      generalize ps.getD k default = p at c0 c1 c2 c3 c4 HS
      go_wp2_with fail
      refine (toHeadA p _).mono ?_
      rintro e w1 ⟨rfl, b1⟩
      have HR1 : Hid (RowHead w1 w.heap.size (ps.take k ++ List.replicate (len - k) zeroHead)) := HR.out.below b1 HR.out.lt
      have HB1 : Hid (Below w.heap.size w w1) := HB.out.trans (b1.mono HB.out.size)
      have f0 := HR1.out.frozen (k * 5)
      have f1 := HR1.out.frozen (k * 5 + 1)
      have f2 := HR1.out.frozen (k * 5 + 2)
      have f3 := HR1.out.frozen (k * 5 + 3)
      have f4 := HR1.out.frozen (k * 5 + 4)
      have d0 := AtHead.c0 (HR1.out.at 5 enHead_len) k HKL.out
      have d1 := AtHead.c1 (HR1.out.at 5 enHead_len) k HKL.out
      have d2 := AtHead.c2 (HR1.out.at 5 enHead_len) k HKL.out
      have d3 := AtHead.c3 (HR1.out.at 5 enHead_len) k HKL.out
      have d4 := AtHead.c4 (HR1.out.at 5 enHead_len) k HKL.out
      generalize (ps.take k ++ List.replicate (len - k) zeroHead).getD k default = o at d0 d1 d2 d3 d4
      clear b1 c0 c1 c2 c3 c4
      go_wp2_with fail
      go_roundw
      case rel =>
        refine ⟨k + 1, HK.out, by go_num, ?_, (((((HB1.out.setCell (p := ⟨w.heap.size, k * 5, none⟩) (Nat.le_refl _) _).setCell (p := ⟨w.heap.size, k * 5 + 1, none⟩) (Nat.le_refl _) _).setCell (p := ⟨w.heap.size, k * 5 + 2, none⟩) (Nat.le_refl _) _).setCell (p := ⟨w.heap.size, k * 5 + 3, none⟩) (Nat.le_refl _) _).setCell (p := ⟨w.heap.size, k * 5 + 4, none⟩) (Nat.le_refl _) _)⟩
        have := RowHead.put HR1.out k HKL.out p
        rw [HS.out] at this
        exact this
      case measure => have := HK.out; simp [intOf]; omega
    · have HE : Hid (ps.take k ++ List.replicate (len - k) zeroHead = ps) := by
        show _ = _
        rw [List.take_of_length_le (by rw [HLn.out]; omega), show len - k = 0 from by omega]
        simp
      go_wp2_with fail
      go_ret
      refine ⟨rfl, ?_, HB.out⟩
      rw [← HE.out]
      exact HR.out

set_option maxHeartbeats 1000000 in
set_option maxRecDepth 100000 in
theorem eqHeads (g1 g2 n c1 c2 : Nat) (ps : List HeadV) (w : World) (h1 : AtHead w g1 ps) (h2 : AtHead w g2 ps) (hn : n = ps.length) (hm : n ≤ 1073741824) :
    Calls Tryd.prog 10 #[.slice (some ⟨g1, 0, none⟩) n c1, .slice (some ⟨g2, 0, none⟩) n c2] w fun e w' => e = .returned (.bool true) ∧ Below w.heap.size w w' := by
  have HA : Hid (AtHead w g1 ps ∧ AtHead w g2 ps ∧ Below w.heap.size w w) := ⟨h1, h2, Below.refl _ w⟩
  have HN : Hid (n = ps.length) := hn
  clear h1 h2 hn
  go_enter Tryd.func10, Tryd.ntmps10
  go_wp2_with fail
  go_loopw [5] (fun i wr => ∃ k : Nat, k ≤ n ∧ i = .int .i64 (k : Int) ∧ Hid (AtHead wr g1 ps ∧ AtHead wr g2 ps ∧ Below w.heap.size w wr)) (fun i _ => n - (intOf i).toNat)
  case atStart => exact ⟨0, by omega, rfl, HA⟩
  case round =>
    clear HA
    obtain ⟨k, hk, rfl, HA⟩ := hrel
    by_cases hlt : k < n
    · have hkz : k < ps.length := by rw [← HN.out]; exact hlt
      have d0 := AtHead.c0 HA.out.1 k hkz
      have e0 := AtHead.c0 HA.out.2.1 k hkz
      have d1 := AtHead.c1 HA.out.1 k hkz
      have e1 := AtHead.c1 HA.out.2.1 k hkz
      have d2 := AtHead.c2 HA.out.1 k hkz
      have e2 := AtHead.c2 HA.out.2.1 k hkz
      have d3 := AtHead.c3 HA.out.1 k hkz
      have e3 := AtHead.c3 HA.out.2.1 k hkz
      have d4 := AtHead.c4 HA.out.1 k hkz
      have e4 := AtHead.c4 HA.out.2.1 k hkz
      have HK : Hid (k + 1 ≤ n) := hlt
      generalize ps.getD k default = p at d0 e0 d1 e1 d2 e2 d3 e3 d4 e4
      have lk : (k : Int) < (n : Int) := by omega
      clear hkz
      go_wp2_with fail
      go_region_with (go_at_call 31; refine (eqHeadA p _).mono ?_; rintro e w1 ⟨rfl, b1⟩)
      all_goals
        have HA1 : Hid (AtHead w1 g1 ps ∧ AtHead w1 g2 ps ∧ Below w.heap.size w w1) := ⟨HA.out.1.drew.below b1 HA.out.1.1, HA.out.2.1.drew.below b1 HA.out.2.1.1, HA.out.2.2.drew.trans (b1.mono HA.out.2.2.size)⟩
        clear b1
        go_wp2_with fail
        go_roundw
        case rel => exact ⟨k + 1, HK.out, by go_num, HA1⟩
        case measure => have := HK.out; simp [intOf]; omega
    · go_wp2_with fail
      go_ret
      exact ⟨rfl, HA.out.2.2⟩

end Go.Proofs.YtchngmjbagdakaaDoor

set_option linter.unusedVariables false
namespace Go.Proofs.YtchngmjbagdakaaDoor
open Go.RowKit

def SzOk (zs : List ByteArray) (len : Nat) (e : Ending) : Prop := e = .returned (.int .i64 (-1)) ∨ ∃ r : Nat, e = .returned (.int .i64 (r : Int)) ∧ len ≤ 1048576 ∧ ∀ i, i < len → (zs.getD i ByteArray.empty).size ≤ 1048576
end Go.Proofs.YtchngmjbagdakaaDoor

set_option linter.unusedVariables false
namespace Go.Proofs.YtchngmjbagdakaaDoor
open Go.ChangeShapes Go.WideShapes Go.ChangeAt Go.RowKit Go.Deep

def blockVal (h : HeadV) (s : Value) : Value := .agg #[.string h.prev, .string h.root, .int .i64 h.time, .int .i64 h.diff, .int .i64 h.nonce, s]
theorem six_of_parts {cs : Array Value} {b : Value} {h : List Value} (hl : cs.toList.length = 6) (h0 : (cs.toList.drop 0).take 5 = h) (h1 : (cs.toList.drop 5).take 1 = [b]) : cs.toList = h ++ [b] := by
  rw [← h0, ← h1, List.drop_zero, List.take_of_length_le (l := cs.toList.drop 5) (by rw [List.length_drop, hl]; decide), List.take_append_drop]
theorem cellsStrs : Tryd.prog.cellsOf 87 = 1 := by kernel_rfl
/-- A block of memory, its cells written out. -/
def CBk (w : World) (g : Nat) (T : TypeId) (cs : Array Value) : Prop := w.heap[g]? = some (.cells cs T (0, 0))
theorem CBk.lt {w : World} {g : Nat} {T : TypeId} {cs : Array Value} (h : CBk w g T cs) : g < w.heap.size := by
  rcases Nat.lt_or_ge g w.heap.size with h' | h'
  · exact h'
  · simp [CBk, Array.getElem?_eq_none h'] at h
theorem CBk.below {w w' : World} {g B : Nat} {T : TypeId} {cs : Array Value} (h : CBk w g T cs) (hb : Below B w w') (hg : g < B) : CBk w' g T cs := by
  unfold CBk at h ⊢
  rw [hb.block g hg]
  exact h
theorem CBk.call {w w' : World} {g : Nat} {T : TypeId} {cs : Array Value} (h : CBk w g T cs) (hb : Below w.heap.size w w') : CBk w' g T cs := h.below hb h.lt
theorem CBk.alloc {w : World} {g : Nat} {T : TypeId} {cs : Array Value} (h : CBk w g T cs) (o : Obj) : CBk (w.alloc o) g T cs := h.call ((Below.refl _ w).alloc (Nat.le_refl _) o)
theorem CBk.new (w : World) (T : TypeId) (cs : Array Value) : CBk (w.alloc (.cells cs T)) w.heap.size T cs := heap_alloc_new w _
theorem CBk.cell {w : World} {g : Nat} {T : TypeId} {cs : Array Value} (h : CBk w g T cs) (i : Nat) : w.cell? ⟨g, i, none⟩ = cs[i]? := by rw [Lib.cell_of_heap h]
theorem CBk.frozen {w : World} {g : Nat} {T : TypeId} {cs : Array Value} (h : CBk w g T cs) (i : Nat) : w.frozen? ⟨g, i, none⟩ = false := Lib.frozen_of_heap h i
theorem CBk.set {w : World} {g : Nat} {T : TypeId} {cs : Array Value} (h : CBk w g T cs) (i : Nat) (v : Value) : CBk (w.setCell ⟨g, i, none⟩ v) g T (cs.setIfInBounds i v) := by
  unfold CBk at h ⊢
  simp only [World.setCell, Array.getElem?_modify, h]
  simp
theorem CBk.other {w : World} {g g' j : Nat} {T : TypeId} {cs : Array Value} (h : CBk w g T cs) (hg : g' ≠ g) (v : Value) : CBk (w.setCell ⟨g', j, none⟩ v) g T cs := by
  unfold CBk at h ⊢; simp [World.setCell, Array.getElem?_modify, h, hg]
theorem CBk.six {w : World} {g : Nat} {T : TypeId} {a b c d e f : Value} (h : CBk w g T #[a, b, c, d, e, f]) : w.cell? ⟨g, 0, none⟩ = some a ∧ w.cell? ⟨g, 1, none⟩ = some b ∧ w.cell? ⟨g, 2, none⟩ = some c ∧ w.cell? ⟨g, 3, none⟩ = some d ∧ w.cell? ⟨g, 4, none⟩ = some e ∧ w.cell? ⟨g, 5, none⟩ = some f ∧ w.frozen? ⟨g, 0, none⟩ = false ∧ w.frozen? ⟨g, 1, none⟩ = false ∧ w.frozen? ⟨g, 2, none⟩ = false ∧ w.frozen? ⟨g, 3, none⟩ = false ∧ w.frozen? ⟨g, 4, none⟩ = false ∧ w.frozen? ⟨g, 5, none⟩ = false :=
  ⟨h.cell 0, h.cell 1, h.cell 2, h.cell 3, h.cell 4, h.cell 5, h.frozen 0, h.frozen 1, h.frozen 2, h.frozen 3, h.frozen 4, h.frozen 5⟩

theorem rowS_other {w : World} {g g' : Nat} {l : List ByteArray} (h : RowS w g l) (hg : g' ≠ g) (j : Nat) (v : Value) : RowS (w.setCell ⟨g', j, none⟩ v) g l := by
  unfold RowS at h ⊢; simp [World.setCell, Array.getElem?_modify, h, hg]
/-- What a copy of a block leaves. -/
def BackB (h : HeadV) (len : Nat) (zs : List ByteArray) (w : World) (e : Ending) (w' : World) : Prop := ∃ g, e = .returned (blockVal h (.slice (some ⟨g, 0, none⟩) len len)) ∧ RowS w' g (zs.take len) ∧ w.heap.size ≤ g ∧ Below w.heap.size w w'

end Go.Proofs.YtchngmjbagdakaaDoor

set_option linter.unusedVariables false
namespace Go.Proofs.YtchngmjbagdakaaDoor
open Go.RowKit Go.Deep

def peakVal (p : PeakV) : Value := .agg #[.string p.sum, .int .i64 p.work, .int .i64 p.count]
theorem CBk.cells5 {w : World} {g : Nat} {T : TypeId} {a b c d e : Value} (h : CBk w g T #[a, b, c, d, e]) : w.cell? ⟨g, 0, none⟩ = some a ∧ w.cell? ⟨g, 1, none⟩ = some b ∧ w.cell? ⟨g, 2, none⟩ = some c ∧ w.cell? ⟨g, 3, none⟩ = some d ∧ w.cell? ⟨g, 4, none⟩ = some e := ⟨h.cell 0, h.cell 1, h.cell 2, h.cell 3, h.cell 4⟩
theorem CBk.cells3 {w : World} {g : Nat} {T : TypeId} {a b c : Value} (h : CBk w g T #[a, b, c]) : w.cell? ⟨g, 0, none⟩ = some a ∧ w.cell? ⟨g, 1, none⟩ = some b ∧ w.cell? ⟨g, 2, none⟩ = some c := ⟨h.cell 0, h.cell 1, h.cell 2⟩
theorem CBk.drew2 {w : World} {g : Nat} {T : TypeId} {cs : Array Value} (h : CBk w g T cs) : CBk w.drew g T cs := h
theorem CBk.free3 {w : World} {g : Nat} {T : TypeId} {cs : Array Value} (h : CBk w g T cs) : w.frozen? ⟨g, 0, none⟩ = false ∧ w.frozen? ⟨g, 1, none⟩ = false ∧ w.frozen? ⟨g, 2, none⟩ = false := ⟨h.frozen 0, h.frozen 1, h.frozen 2⟩
/-- Behind a store of three cells. -/
theorem CBk.set3 {w : World} {g : Nat} {T : TypeId} {x y z a b c : Value} (h : CBk w g T #[x, y, z]) : CBk (((w.setCell ⟨g, 0, none⟩ a).setCell ⟨g, 1, none⟩ b).setCell ⟨g, 2, none⟩ c) g T #[a, b, c] := ((h.set 0 a).set 1 b).set 2 c

set_option maxHeartbeats 2000000 in
set_option maxRecDepth 100000 in
theorem implPeakHead (h : HeadV) (w : World) (hok : headOkB h = true) (hK : RowG w shaK) (hP : TabP w) :
    Calls Tryd.prog 30 #[headVal h] w fun e w' => e = .returned (peakVal (leafP h)) ∧ Below w.heap.size w w' := by
  have HK : Hid (RowG w shaK) := hK
  have HP : Hid (TabP w) := hP
  have e : headPut h = headT h := by rw [headPut, if_pos hok]
  have hpt := fun w' hp => implHeadPut h w' hp
  rw [e] at hpt
  clear e
  have hsz := leafXz hok
  have HX : Hid (_ = leafX h) := leafXs h
  have htl := headT_len hok
  unfold peakVal leafP
  dsimp only
  generalize headT h = ht at hpt hsz HX htl
  generalize leafX h = hx at HX ⊢
  unfold headVal
  have q1 : ¬ 9223372036854775807 < 5 + ht.length := by omega
  have A0 : Hid (CBk ((w.alloc (.cells #[.string h.prev, .string h.root, .int .i64 h.time, .int .i64 h.diff, .int .i64 h.nonce] 44)).alloc (.cells #[.string ⟨#[]⟩, .int .i64 0, .int .i64 0] 47)) w.heap.size 44 #[.string h.prev, .string h.root, .int .i64 h.time, .int .i64 h.diff, .int .i64 h.nonce]) := (CBk.new w _ _).alloc _
  have A1 : Hid (CBk ((w.alloc (.cells #[.string h.prev, .string h.root, .int .i64 h.time, .int .i64 h.diff, .int .i64 h.nonce] 44)).alloc (.cells #[.string ⟨#[]⟩, .int .i64 0, .int .i64 0] 47)) (w.heap.size + 1) 47 #[.string ⟨#[]⟩, .int .i64 0, .int .i64 0]) := by
    have := CBk.new (w.alloc (.cells #[.string h.prev, .string h.root, .int .i64 h.time, .int .i64 h.diff, .int .i64 h.nonce] 44)) 47 #[.string ⟨#[]⟩, .int .i64 0, .int .i64 0]
    rwa [show (w.alloc (.cells #[.string h.prev, .string h.root, .int .i64 h.time, .int .i64 h.diff, .int .i64 h.nonce] 44)).heap.size = w.heap.size + 1 from by simp] at this
  have L0 : Hid (Below w.heap.size w ((w.alloc (.cells #[.string h.prev, .string h.root, .int .i64 h.time, .int .i64 h.diff, .int .i64 h.nonce] 44)).alloc (.cells #[.string ⟨#[]⟩, .int .i64 0, .int .i64 0] 47))) := ((Below.refl _ w).alloc (Nat.le_refl _) _).alloc (by simp) _
  clear hok hK hP
  go_enter Tryd.func30, Tryd.ntmps30
  go_wp2_with fail
  generalize (w.alloc (.cells #[.string h.prev, .string h.root, .int .i64 h.time, .int .i64 h.diff, .int .i64 h.nonce] 44)).alloc (.cells #[.string ⟨#[]⟩, .int .i64 0, .int .i64 0] 47) = W0 at A0 A1 L0 ⊢
  obtain ⟨g0, hg0⟩ : ∃ g0, g0 = w.heap.size := ⟨_, rfl⟩
  have HG : Hid (g0 = w.heap.size) := hg0
  rw [← hg0] at A0 A1 ⊢
  clear hg0
  have hne : ¬ g0 = g0 + 1 := by omega
  have hne2 : ¬ g0 + 1 = g0 := by omega
  obtain ⟨c0, c1, c2, c3, c4⟩ := A0.out.drew2.cells5
  obtain ⟨d0, d1, d2⟩ := A1.out.drew2.cells3
  obtain ⟨f0, f1, f2⟩ := A1.out.drew2.free3
  go_region_held3 (fun w' => w'.cell? ⟨g0, 0, none⟩ = some (.string h.prev) ∧ w'.cell? ⟨g0, 1, none⟩ = some (.string h.root) ∧ w'.cell? ⟨g0, 2, none⟩ = some (.int .i64 h.time) ∧ w'.cell? ⟨g0, 3, none⟩ = some (.int .i64 h.diff) ∧ w'.cell? ⟨g0, 4, none⟩ = some (.int .i64 h.nonce))
    (first | (with_reducible first | exact A0.out.drew2.cells5 | exact B0.out.cells5 | exact C0.out.cells5) | go_keep)
    (first
      | (go_at_call 44; refine (hpt _ (TabP.below HP.out L0.out.drew (Nat.le_refl _))).mono ?_; rintro e w1 ⟨rfl, b1⟩; have B0 : Hid (CBk w1 g0 44 #[.string h.prev, .string h.root, .int .i64 h.time, .int .i64 h.diff, .int .i64 h.nonce]) := A0.out.drew2.call b1; have B1 : Hid (CBk w1 (g0 + 1) 47 #[.string ⟨#[]⟩, .int .i64 0, .int .i64 0]) := A1.out.drew2.call b1; have L1 : Hid (Below w.heap.size w w1) := L0.out.drew.trans (b1.mono L0.out.size))
      | (go_at_call 42; refine (implSum _ _ hsz (HK.out.below L1.out HK.out.lt)).mono ?_; rintro e w2 ⟨rfl, b2⟩; rw [HX.out]; have C0 : Hid (CBk w2 g0 44 #[.string h.prev, .string h.root, .int .i64 h.time, .int .i64 h.diff, .int .i64 h.nonce]) := B0.out.call b2; have C1 : Hid (CBk w2 (g0 + 1) 47 #[.string ⟨#[]⟩, .int .i64 0, .int .i64 0]) := B1.out.call b2; have L2 : Hid (Below w.heap.size w w2) := L1.out.trans (b2.mono L1.out.size); obtain ⟨e0, e1, e2⟩ := C1.out.cells3; obtain ⟨k0, k1, k2⟩ := C1.out.free3))
  have T3 : Hid (CBk (((w2.setCell ⟨g0 + 1, 0, none⟩ (.string ⟨(sumB hx).toArray⟩)).setCell ⟨g0 + 1, 1, none⟩ (.int .i64 h.diff)).setCell ⟨g0 + 1, 2, none⟩ (.int .i64 1)) (g0 + 1) 47 #[.string ⟨(sumB hx).toArray⟩, .int .i64 h.diff, .int .i64 1]) := C1.out.set3
  have LF : Hid (Below w.heap.size w (((w2.setCell ⟨g0 + 1, 0, none⟩ (.string ⟨(sumB hx).toArray⟩)).setCell ⟨g0 + 1, 1, none⟩ (.int .i64 h.diff)).setCell ⟨g0 + 1, 2, none⟩ (.int .i64 1))) := by
    have e4 := HG.out
    exact ((L2.out.setCell (p := ⟨g0 + 1, 0, none⟩) (by show w.heap.size ≤ g0 + 1; omega) _).setCell (p := ⟨g0 + 1, 1, none⟩) (by show w.heap.size ≤ g0 + 1; omega) _).setCell (p := ⟨g0 + 1, 2, none⟩) (by show w.heap.size ≤ g0 + 1; omega) _
  go_wp2_with fail
  exact bodyPost_ret (results_cell_row (p := 2) rfl _ _ (g0 + 1) 47 #[.string ⟨(sumB hx).toArray⟩, .int .i64 h.diff, .int .i64 1] (0, 0) _ rfl T3.out Tryd.underlying47 rfl (by kernel_rfl)) rfl ⟨rfl, LF.out⟩

set_option maxHeartbeats 2000000 in
set_option maxRecDepth 100000 in
theorem specL5Leaf (h : HeadV) (w : World) (hok : headOkB h = true) :
    Calls Tryd.prog 39 #[headVal h] w fun e w' => e = .returned (peakVal (leafP h)) ∧ Below w.heap.size w w' := by
  have hpt := fun w' => specL3Put h w' hok
  have hsz := leafXz hok
  have HX : Hid (_ = leafX h) := leafXs h
  have htl := headT_len hok
  unfold peakVal leafP
  dsimp only
  generalize headT h = ht at hpt hsz HX htl
  generalize leafX h = hx at HX ⊢
  unfold headVal
  have q1 : ¬ 9223372036854775807 < 5 + ht.length := by omega
  have A0 : Hid (CBk ((w.alloc (.cells #[.string h.prev, .string h.root, .int .i64 h.time, .int .i64 h.diff, .int .i64 h.nonce] 44)).alloc (.cells #[.string ⟨#[]⟩, .int .i64 0, .int .i64 0] 47)) w.heap.size 44 #[.string h.prev, .string h.root, .int .i64 h.time, .int .i64 h.diff, .int .i64 h.nonce]) := (CBk.new w _ _).alloc _
  have A1 : Hid (CBk ((w.alloc (.cells #[.string h.prev, .string h.root, .int .i64 h.time, .int .i64 h.diff, .int .i64 h.nonce] 44)).alloc (.cells #[.string ⟨#[]⟩, .int .i64 0, .int .i64 0] 47)) (w.heap.size + 1) 47 #[.string ⟨#[]⟩, .int .i64 0, .int .i64 0]) := by
    have := CBk.new (w.alloc (.cells #[.string h.prev, .string h.root, .int .i64 h.time, .int .i64 h.diff, .int .i64 h.nonce] 44)) 47 #[.string ⟨#[]⟩, .int .i64 0, .int .i64 0]
    rwa [show (w.alloc (.cells #[.string h.prev, .string h.root, .int .i64 h.time, .int .i64 h.diff, .int .i64 h.nonce] 44)).heap.size = w.heap.size + 1 from by simp] at this
  have L0 : Hid (Below w.heap.size w ((w.alloc (.cells #[.string h.prev, .string h.root, .int .i64 h.time, .int .i64 h.diff, .int .i64 h.nonce] 44)).alloc (.cells #[.string ⟨#[]⟩, .int .i64 0, .int .i64 0] 47))) := ((Below.refl _ w).alloc (Nat.le_refl _) _).alloc (by simp) _
  clear hok
  go_enter Tryd.func39, Tryd.ntmps39
  go_wp2_with fail
  generalize (w.alloc (.cells #[.string h.prev, .string h.root, .int .i64 h.time, .int .i64 h.diff, .int .i64 h.nonce] 44)).alloc (.cells #[.string ⟨#[]⟩, .int .i64 0, .int .i64 0] 47) = W0 at A0 A1 L0 ⊢
  obtain ⟨g0, hg0⟩ : ∃ g0, g0 = w.heap.size := ⟨_, rfl⟩
  have HG : Hid (g0 = w.heap.size) := hg0
  rw [← hg0] at A0 A1 ⊢
  clear hg0
  have hne : ¬ g0 = g0 + 1 := by omega
  have hne2 : ¬ g0 + 1 = g0 := by omega
  obtain ⟨c0, c1, c2, c3, c4⟩ := A0.out.drew2.cells5
  obtain ⟨d0, d1, d2⟩ := A1.out.drew2.cells3
  obtain ⟨f0, f1, f2⟩ := A1.out.drew2.free3
  go_region_held3 (fun w' => w'.cell? ⟨g0, 0, none⟩ = some (.string h.prev) ∧ w'.cell? ⟨g0, 1, none⟩ = some (.string h.root) ∧ w'.cell? ⟨g0, 2, none⟩ = some (.int .i64 h.time) ∧ w'.cell? ⟨g0, 3, none⟩ = some (.int .i64 h.diff) ∧ w'.cell? ⟨g0, 4, none⟩ = some (.int .i64 h.nonce))
    (first | (with_reducible first | exact A0.out.drew2.cells5 | exact B0.out.cells5 | exact C0.out.cells5) | go_keep)
    (first
      | (go_at_call 49; refine (hpt _).mono ?_; rintro e w1 ⟨rfl, b1⟩; have B0 : Hid (CBk w1 g0 44 #[.string h.prev, .string h.root, .int .i64 h.time, .int .i64 h.diff, .int .i64 h.nonce]) := A0.out.drew2.call b1; have B1 : Hid (CBk w1 (g0 + 1) 47 #[.string ⟨#[]⟩, .int .i64 0, .int .i64 0]) := A1.out.drew2.call b1; have L1 : Hid (Below w.heap.size w w1) := L0.out.drew.trans (b1.mono L0.out.size))
      | (go_at_call 48; refine (specSum _ _ hsz).mono ?_; rintro e w2 ⟨rfl, b2⟩; rw [HX.out]; have C0 : Hid (CBk w2 g0 44 #[.string h.prev, .string h.root, .int .i64 h.time, .int .i64 h.diff, .int .i64 h.nonce]) := B0.out.call b2; have C1 : Hid (CBk w2 (g0 + 1) 47 #[.string ⟨#[]⟩, .int .i64 0, .int .i64 0]) := B1.out.call b2; have L2 : Hid (Below w.heap.size w w2) := L1.out.trans (b2.mono L1.out.size); obtain ⟨e0, e1, e2⟩ := C1.out.cells3; obtain ⟨k0, k1, k2⟩ := C1.out.free3))
  have T3 : Hid (CBk (((w2.setCell ⟨g0 + 1, 0, none⟩ (.string ⟨(sumB hx).toArray⟩)).setCell ⟨g0 + 1, 1, none⟩ (.int .i64 h.diff)).setCell ⟨g0 + 1, 2, none⟩ (.int .i64 1)) (g0 + 1) 47 #[.string ⟨(sumB hx).toArray⟩, .int .i64 h.diff, .int .i64 1]) := C1.out.set3
  have LF : Hid (Below w.heap.size w (((w2.setCell ⟨g0 + 1, 0, none⟩ (.string ⟨(sumB hx).toArray⟩)).setCell ⟨g0 + 1, 1, none⟩ (.int .i64 h.diff)).setCell ⟨g0 + 1, 2, none⟩ (.int .i64 1))) := by
    have e4 := HG.out
    exact ((L2.out.setCell (p := ⟨g0 + 1, 0, none⟩) (by show w.heap.size ≤ g0 + 1; omega) _).setCell (p := ⟨g0 + 1, 1, none⟩) (by show w.heap.size ≤ g0 + 1; omega) _).setCell (p := ⟨g0 + 1, 2, none⟩) (by show w.heap.size ≤ g0 + 1; omega) _
  go_wp2_with fail
  exact bodyPost_ret (results_cell_row (p := 2) rfl _ _ (g0 + 1) 47 #[.string ⟨(sumB hx).toArray⟩, .int .i64 h.diff, .int .i64 1] (0, 0) _ rfl T3.out Tryd.underlying47 rfl (by kernel_rfl)) rfl ⟨rfl, LF.out⟩

set_option maxHeartbeats 4000000 in
set_option maxRecDepth 100000 in
theorem implPeakBoth (a b : PeakV) (w : World) (ha : peakOkB a = true) (hb : peakOkB b = true) (hK : RowG w shaK) (hP : TabP w) :
    Calls Tryd.prog 28 #[peakVal a, peakVal b] w fun e w' => e = .returned (peakVal (bothP a b)) ∧ Below w.heap.size w w' := by
  have HK : Hid (RowG w shaK) := hK
  have HP : Hid (TabP w) := hP
  have hpa := fun w' hp => implPeakPut a w' ha hp
  have hpb := fun w' hp => implPeakPut b w' hb hp
  have hsa := peakB_size ha
  have hsb := peakB_size hb
  have hia := peakOk_in ha
  have hib := peakOk_in hb
  have hsz := bothX_size ha hb
  have HXE : Hid (((⟨#[112, 101, 97, 107, 32]⟩ : ByteArray) ++ peakB a) ++ (⟨#[32]⟩ : ByteArray) ++ peakB b = bothX a b) := rfl
  have hw1 : IntKind.i64.wrap (a.work + b.work) = a.work + b.work := by rw [IntKind.wrap_i64]; omega
  have hw2 : IntKind.i64.wrap (a.count + b.count) = a.count + b.count := by rw [IntKind.wrap_i64]; omega
  unfold peakVal bothP
  dsimp only
  generalize peakB a = pa at hpa hsa HXE
  generalize peakB b = pb at hpb hsb HXE
  generalize bothX a b = X at hsz HXE ⊢
  have q1 : ¬ 9223372036854775807 < 5 + pa.size := by omega
  have q2 : ¬ 9223372036854775807 < 5 + pa.size + 1 := by omega
  have q3 : ¬ 9223372036854775807 < 5 + pa.size + 1 + pb.size := by omega
  have A0 : Hid (CBk (((w.alloc (.cells #[.string a.sum, .int .i64 a.work, .int .i64 a.count] 47)).alloc (.cells #[.string b.sum, .int .i64 b.work, .int .i64 b.count] 47)).alloc (.cells #[.string ⟨#[]⟩, .int .i64 0, .int .i64 0] 47)) w.heap.size 47 #[.string a.sum, .int .i64 a.work, .int .i64 a.count]) := ((CBk.new w _ _).alloc _).alloc _
  have A1 : Hid (CBk (((w.alloc (.cells #[.string a.sum, .int .i64 a.work, .int .i64 a.count] 47)).alloc (.cells #[.string b.sum, .int .i64 b.work, .int .i64 b.count] 47)).alloc (.cells #[.string ⟨#[]⟩, .int .i64 0, .int .i64 0] 47)) (w.heap.size + 1) 47 #[.string b.sum, .int .i64 b.work, .int .i64 b.count]) := by
    have := (CBk.new (w.alloc (.cells #[.string a.sum, .int .i64 a.work, .int .i64 a.count] 47)) 47 #[.string b.sum, .int .i64 b.work, .int .i64 b.count]).alloc (.cells #[.string ⟨#[]⟩, .int .i64 0, .int .i64 0] 47)
    rwa [show (w.alloc (.cells #[.string a.sum, .int .i64 a.work, .int .i64 a.count] 47)).heap.size = w.heap.size + 1 from by simp] at this
  have A2 : Hid (CBk (((w.alloc (.cells #[.string a.sum, .int .i64 a.work, .int .i64 a.count] 47)).alloc (.cells #[.string b.sum, .int .i64 b.work, .int .i64 b.count] 47)).alloc (.cells #[.string ⟨#[]⟩, .int .i64 0, .int .i64 0] 47)) (w.heap.size + 1 + 1) 47 #[.string ⟨#[]⟩, .int .i64 0, .int .i64 0]) := by
    have := CBk.new ((w.alloc (.cells #[.string a.sum, .int .i64 a.work, .int .i64 a.count] 47)).alloc (.cells #[.string b.sum, .int .i64 b.work, .int .i64 b.count] 47)) 47 #[.string ⟨#[]⟩, .int .i64 0, .int .i64 0]
    rwa [show ((w.alloc (.cells #[.string a.sum, .int .i64 a.work, .int .i64 a.count] 47)).alloc (.cells #[.string b.sum, .int .i64 b.work, .int .i64 b.count] 47)).heap.size = w.heap.size + 1 + 1 from by simp] at this
  have L0 : Hid (Below w.heap.size w (((w.alloc (.cells #[.string a.sum, .int .i64 a.work, .int .i64 a.count] 47)).alloc (.cells #[.string b.sum, .int .i64 b.work, .int .i64 b.count] 47)).alloc (.cells #[.string ⟨#[]⟩, .int .i64 0, .int .i64 0] 47))) := (((Below.refl _ w).alloc (Nat.le_refl _) _).alloc (by simp) _).alloc (by simp; omega) _
  clear ha hb hK hP hia hib
  go_enter Tryd.func28, Tryd.ntmps28
  go_wp2_with fail
  generalize ((w.alloc (.cells #[.string a.sum, .int .i64 a.work, .int .i64 a.count] 47)).alloc (.cells #[.string b.sum, .int .i64 b.work, .int .i64 b.count] 47)).alloc (.cells #[.string ⟨#[]⟩, .int .i64 0, .int .i64 0] 47) = W0 at A0 A1 A2 L0 ⊢
  obtain ⟨g0, hg0⟩ : ∃ g0, g0 = w.heap.size := ⟨_, rfl⟩
  have HG : Hid (g0 = w.heap.size) := hg0
  rw [← hg0] at A0 A1 A2 ⊢
  clear hg0
  have hne : ¬ g0 = g0 + 1 + 1 := by omega
  have hne2 : ¬ g0 + 1 + 1 = g0 := by omega
  have hne3 : ¬ g0 + 1 = g0 + 1 + 1 := by omega
  have hne4 : ¬ g0 + 1 + 1 = g0 + 1 := by omega
  obtain ⟨c0, c1, c2⟩ := A0.out.drew2.cells3
  obtain ⟨m0, m1, m2⟩ := A1.out.drew2.cells3
  go_region_held3 (fun w' => (w'.cell? ⟨g0, 0, none⟩ = some (.string a.sum) ∧ w'.cell? ⟨g0, 1, none⟩ = some (.int .i64 a.work) ∧ w'.cell? ⟨g0, 2, none⟩ = some (.int .i64 a.count)) ∧ (w'.cell? ⟨g0 + 1, 0, none⟩ = some (.string b.sum) ∧ w'.cell? ⟨g0 + 1, 1, none⟩ = some (.int .i64 b.work) ∧ w'.cell? ⟨g0 + 1, 2, none⟩ = some (.int .i64 b.count)))
    (first | (with_reducible first | exact ⟨A0.out.drew2.cells3, A1.out.drew2.cells3⟩ | exact ⟨B0.out.cells3, B1.out.cells3⟩ | exact ⟨C0.out.cells3, C1.out.cells3⟩ | exact ⟨D0.out.cells3, D1.out.cells3⟩) | go_keep)
    (first
      | (go_at_call 43; have q9 := B0.out.cells3; clear q9; refine (hpb _ (TabP.below HP.out L1.out (Nat.le_refl _))).mono ?_; rintro e w2 ⟨rfl, b2⟩; have C0 : Hid (CBk w2 g0 47 #[.string a.sum, .int .i64 a.work, .int .i64 a.count]) := B0.out.call b2; have C1 : Hid (CBk w2 (g0 + 1) 47 #[.string b.sum, .int .i64 b.work, .int .i64 b.count]) := B1.out.call b2; have C2 : Hid (CBk w2 (g0 + 1 + 1) 47 #[.string ⟨#[]⟩, .int .i64 0, .int .i64 0]) := B2.out.call b2; have L2 : Hid (Below w.heap.size w w2) := L1.out.trans (b2.mono L1.out.size))
      | (go_at_call 43; refine (hpa _ (TabP.below HP.out L0.out.drew (Nat.le_refl _))).mono ?_; rintro e w1 ⟨rfl, b1⟩; have B0 : Hid (CBk w1 g0 47 #[.string a.sum, .int .i64 a.work, .int .i64 a.count]) := A0.out.drew2.call b1; have B1 : Hid (CBk w1 (g0 + 1) 47 #[.string b.sum, .int .i64 b.work, .int .i64 b.count]) := A1.out.drew2.call b1; have B2 : Hid (CBk w1 (g0 + 1 + 1) 47 #[.string ⟨#[]⟩, .int .i64 0, .int .i64 0]) := A2.out.drew2.call b1; have L1 : Hid (Below w.heap.size w w1) := L0.out.drew.trans (b1.mono L0.out.size))
      | (go_at_call 42; rw [HXE.out]; refine (implSum _ _ hsz (HK.out.below L2.out HK.out.lt)).mono ?_; rintro e w3 ⟨rfl, b3⟩; have D0 : Hid (CBk w3 g0 47 #[.string a.sum, .int .i64 a.work, .int .i64 a.count]) := C0.out.call b3; have D1 : Hid (CBk w3 (g0 + 1) 47 #[.string b.sum, .int .i64 b.work, .int .i64 b.count]) := C1.out.call b3; have D2 : Hid (CBk w3 (g0 + 1 + 1) 47 #[.string ⟨#[]⟩, .int .i64 0, .int .i64 0]) := C2.out.call b3; have L3 : Hid (Below w.heap.size w w3) := L2.out.trans (b3.mono L2.out.size)))
  obtain ⟨p0, p1, p2⟩ := D0.out.cells3
  obtain ⟨r0, r1, r2⟩ := D1.out.cells3
  obtain ⟨e0, e1, e2⟩ := D2.out.cells3
  obtain ⟨k0, k1, k2⟩ := D2.out.free3
  clear c0 c1 c2 m0 m1 m2
  have T3 : Hid (CBk (((w3.setCell ⟨g0 + 1 + 1, 0, none⟩ (.string ⟨(sumB X.data.toList).toArray⟩)).setCell ⟨g0 + 1 + 1, 1, none⟩ (.int .i64 (a.work + b.work))).setCell ⟨g0 + 1 + 1, 2, none⟩ (.int .i64 (a.count + b.count))) (g0 + 1 + 1) 47 #[.string ⟨(sumB X.data.toList).toArray⟩, .int .i64 (a.work + b.work), .int .i64 (a.count + b.count)]) := D2.out.set3
  have LF : Hid (Below w.heap.size w (((w3.setCell ⟨g0 + 1 + 1, 0, none⟩ (.string ⟨(sumB X.data.toList).toArray⟩)).setCell ⟨g0 + 1 + 1, 1, none⟩ (.int .i64 (a.work + b.work))).setCell ⟨g0 + 1 + 1, 2, none⟩ (.int .i64 (a.count + b.count)))) := by
    have e4 := HG.out
    exact ((L3.out.setCell (p := ⟨g0 + 1 + 1, 0, none⟩) (by show w.heap.size ≤ g0 + 1 + 1; omega) _).setCell (p := ⟨g0 + 1 + 1, 1, none⟩) (by show w.heap.size ≤ g0 + 1 + 1; omega) _).setCell (p := ⟨g0 + 1 + 1, 2, none⟩) (by show w.heap.size ≤ g0 + 1 + 1; omega) _
  go_wp2_with fail
  exact bodyPost_ret (results_cell_row (p := 4) rfl _ _ (g0 + 1 + 1) 47 #[.string ⟨(sumB X.data.toList).toArray⟩, .int .i64 (a.work + b.work), .int .i64 (a.count + b.count)] (0, 0) _ rfl T3.out Tryd.underlying47 rfl (by kernel_rfl)) rfl ⟨rfl, LF.out⟩

set_option maxHeartbeats 4000000 in
set_option maxRecDepth 100000 in
theorem specL5Both (a b : PeakV) (w : World) (ha : peakOkB a = true) (hb : peakOkB b = true) :
    Calls Tryd.prog 50 #[peakVal a, peakVal b] w fun e w' => e = .returned (peakVal (bothP a b)) ∧ Below w.heap.size w w' := by
  have hpa := fun w' => specPeakText a w' ha
  have hpb := fun w' => specPeakText b w' hb
  have hsa := peakB_size ha
  have hsb := peakB_size hb
  have hia := peakOk_in ha
  have hib := peakOk_in hb
  have hsz := bothX_size ha hb
  have HXE : Hid (((⟨#[112, 101, 97, 107, 32]⟩ : ByteArray) ++ peakB a) ++ (⟨#[32]⟩ : ByteArray) ++ peakB b = bothX a b) := rfl
  have hw1 : IntKind.i64.wrap (a.work + b.work) = a.work + b.work := by rw [IntKind.wrap_i64]; omega
  have hw2 : IntKind.i64.wrap (a.count + b.count) = a.count + b.count := by rw [IntKind.wrap_i64]; omega
  unfold peakVal bothP
  dsimp only
  generalize peakB a = pa at hpa hsa HXE
  generalize peakB b = pb at hpb hsb HXE
  generalize bothX a b = X at hsz HXE ⊢
  have q1 : ¬ 9223372036854775807 < 5 + pa.size := by omega
  have q2 : ¬ 9223372036854775807 < 5 + pa.size + 1 := by omega
  have q3 : ¬ 9223372036854775807 < 5 + pa.size + 1 + pb.size := by omega
  have A0 : Hid (CBk (((w.alloc (.cells #[.string a.sum, .int .i64 a.work, .int .i64 a.count] 47)).alloc (.cells #[.string b.sum, .int .i64 b.work, .int .i64 b.count] 47)).alloc (.cells #[.string ⟨#[]⟩, .int .i64 0, .int .i64 0] 47)) w.heap.size 47 #[.string a.sum, .int .i64 a.work, .int .i64 a.count]) := ((CBk.new w _ _).alloc _).alloc _
  have A1 : Hid (CBk (((w.alloc (.cells #[.string a.sum, .int .i64 a.work, .int .i64 a.count] 47)).alloc (.cells #[.string b.sum, .int .i64 b.work, .int .i64 b.count] 47)).alloc (.cells #[.string ⟨#[]⟩, .int .i64 0, .int .i64 0] 47)) (w.heap.size + 1) 47 #[.string b.sum, .int .i64 b.work, .int .i64 b.count]) := by
    have := (CBk.new (w.alloc (.cells #[.string a.sum, .int .i64 a.work, .int .i64 a.count] 47)) 47 #[.string b.sum, .int .i64 b.work, .int .i64 b.count]).alloc (.cells #[.string ⟨#[]⟩, .int .i64 0, .int .i64 0] 47)
    rwa [show (w.alloc (.cells #[.string a.sum, .int .i64 a.work, .int .i64 a.count] 47)).heap.size = w.heap.size + 1 from by simp] at this
  have A2 : Hid (CBk (((w.alloc (.cells #[.string a.sum, .int .i64 a.work, .int .i64 a.count] 47)).alloc (.cells #[.string b.sum, .int .i64 b.work, .int .i64 b.count] 47)).alloc (.cells #[.string ⟨#[]⟩, .int .i64 0, .int .i64 0] 47)) (w.heap.size + 1 + 1) 47 #[.string ⟨#[]⟩, .int .i64 0, .int .i64 0]) := by
    have := CBk.new ((w.alloc (.cells #[.string a.sum, .int .i64 a.work, .int .i64 a.count] 47)).alloc (.cells #[.string b.sum, .int .i64 b.work, .int .i64 b.count] 47)) 47 #[.string ⟨#[]⟩, .int .i64 0, .int .i64 0]
    rwa [show ((w.alloc (.cells #[.string a.sum, .int .i64 a.work, .int .i64 a.count] 47)).alloc (.cells #[.string b.sum, .int .i64 b.work, .int .i64 b.count] 47)).heap.size = w.heap.size + 1 + 1 from by simp] at this
  have L0 : Hid (Below w.heap.size w (((w.alloc (.cells #[.string a.sum, .int .i64 a.work, .int .i64 a.count] 47)).alloc (.cells #[.string b.sum, .int .i64 b.work, .int .i64 b.count] 47)).alloc (.cells #[.string ⟨#[]⟩, .int .i64 0, .int .i64 0] 47))) := (((Below.refl _ w).alloc (Nat.le_refl _) _).alloc (by simp) _).alloc (by simp; omega) _
  clear ha hb hia hib
  go_enter Tryd.func50, Tryd.ntmps50
  go_wp2_with fail
  generalize ((w.alloc (.cells #[.string a.sum, .int .i64 a.work, .int .i64 a.count] 47)).alloc (.cells #[.string b.sum, .int .i64 b.work, .int .i64 b.count] 47)).alloc (.cells #[.string ⟨#[]⟩, .int .i64 0, .int .i64 0] 47) = W0 at A0 A1 A2 L0 ⊢
  obtain ⟨g0, hg0⟩ : ∃ g0, g0 = w.heap.size := ⟨_, rfl⟩
  have HG : Hid (g0 = w.heap.size) := hg0
  rw [← hg0] at A0 A1 A2 ⊢
  clear hg0
  have hne : ¬ g0 = g0 + 1 + 1 := by omega
  have hne2 : ¬ g0 + 1 + 1 = g0 := by omega
  have hne3 : ¬ g0 + 1 = g0 + 1 + 1 := by omega
  have hne4 : ¬ g0 + 1 + 1 = g0 + 1 := by omega
  obtain ⟨c0, c1, c2⟩ := A0.out.drew2.cells3
  obtain ⟨m0, m1, m2⟩ := A1.out.drew2.cells3
  go_region_held3 (fun w' => (w'.cell? ⟨g0, 0, none⟩ = some (.string a.sum) ∧ w'.cell? ⟨g0, 1, none⟩ = some (.int .i64 a.work) ∧ w'.cell? ⟨g0, 2, none⟩ = some (.int .i64 a.count)) ∧ (w'.cell? ⟨g0 + 1, 0, none⟩ = some (.string b.sum) ∧ w'.cell? ⟨g0 + 1, 1, none⟩ = some (.int .i64 b.work) ∧ w'.cell? ⟨g0 + 1, 2, none⟩ = some (.int .i64 b.count)))
    (first | (with_reducible first | exact ⟨A0.out.drew2.cells3, A1.out.drew2.cells3⟩ | exact ⟨B0.out.cells3, B1.out.cells3⟩ | exact ⟨C0.out.cells3, C1.out.cells3⟩ | exact ⟨D0.out.cells3, D1.out.cells3⟩) | go_keep)
    (first
      | (go_at_call 63; have q9 := B0.out.cells3; clear q9; refine (hpb _).mono ?_; rintro e w2 ⟨rfl, b2⟩; have C0 : Hid (CBk w2 g0 47 #[.string a.sum, .int .i64 a.work, .int .i64 a.count]) := B0.out.call b2; have C1 : Hid (CBk w2 (g0 + 1) 47 #[.string b.sum, .int .i64 b.work, .int .i64 b.count]) := B1.out.call b2; have C2 : Hid (CBk w2 (g0 + 1 + 1) 47 #[.string ⟨#[]⟩, .int .i64 0, .int .i64 0]) := B2.out.call b2; have L2 : Hid (Below w.heap.size w w2) := L1.out.trans (b2.mono L1.out.size))
      | (go_at_call 63; refine (hpa _).mono ?_; rintro e w1 ⟨rfl, b1⟩; have B0 : Hid (CBk w1 g0 47 #[.string a.sum, .int .i64 a.work, .int .i64 a.count]) := A0.out.drew2.call b1; have B1 : Hid (CBk w1 (g0 + 1) 47 #[.string b.sum, .int .i64 b.work, .int .i64 b.count]) := A1.out.drew2.call b1; have B2 : Hid (CBk w1 (g0 + 1 + 1) 47 #[.string ⟨#[]⟩, .int .i64 0, .int .i64 0]) := A2.out.drew2.call b1; have L1 : Hid (Below w.heap.size w w1) := L0.out.drew.trans (b1.mono L0.out.size))
      | (go_at_call 48; rw [HXE.out]; refine (specSum _ _ hsz).mono ?_; rintro e w3 ⟨rfl, b3⟩; have D0 : Hid (CBk w3 g0 47 #[.string a.sum, .int .i64 a.work, .int .i64 a.count]) := C0.out.call b3; have D1 : Hid (CBk w3 (g0 + 1) 47 #[.string b.sum, .int .i64 b.work, .int .i64 b.count]) := C1.out.call b3; have D2 : Hid (CBk w3 (g0 + 1 + 1) 47 #[.string ⟨#[]⟩, .int .i64 0, .int .i64 0]) := C2.out.call b3; have L3 : Hid (Below w.heap.size w w3) := L2.out.trans (b3.mono L2.out.size); obtain ⟨e0, e1, e2⟩ := D2.out.cells3; obtain ⟨k0, k1, k2⟩ := D2.out.free3))
  have T3 : Hid (CBk (((w3.setCell ⟨g0 + 1 + 1, 0, none⟩ (.string ⟨(sumB X.data.toList).toArray⟩)).setCell ⟨g0 + 1 + 1, 1, none⟩ (.int .i64 (a.work + b.work))).setCell ⟨g0 + 1 + 1, 2, none⟩ (.int .i64 (a.count + b.count))) (g0 + 1 + 1) 47 #[.string ⟨(sumB X.data.toList).toArray⟩, .int .i64 (a.work + b.work), .int .i64 (a.count + b.count)]) := D2.out.set3
  have LF : Hid (Below w.heap.size w (((w3.setCell ⟨g0 + 1 + 1, 0, none⟩ (.string ⟨(sumB X.data.toList).toArray⟩)).setCell ⟨g0 + 1 + 1, 1, none⟩ (.int .i64 (a.work + b.work))).setCell ⟨g0 + 1 + 1, 2, none⟩ (.int .i64 (a.count + b.count)))) := by
    have e4 := HG.out
    exact ((L3.out.setCell (p := ⟨g0 + 1 + 1, 0, none⟩) (by show w.heap.size ≤ g0 + 1 + 1; omega) _).setCell (p := ⟨g0 + 1 + 1, 1, none⟩) (by show w.heap.size ≤ g0 + 1 + 1; omega) _).setCell (p := ⟨g0 + 1 + 1, 2, none⟩) (by show w.heap.size ≤ g0 + 1 + 1; omega) _
  go_wp2_with fail
  exact bodyPost_ret (results_cell_row (p := 4) rfl _ _ (g0 + 1 + 1) 47 #[.string ⟨(sumB X.data.toList).toArray⟩, .int .i64 (a.work + b.work), .int .i64 (a.count + b.count)] (0, 0) _ rfl T3.out Tryd.underlying47 rfl (by kernel_rfl)) rfl ⟨rfl, LF.out⟩

end Go.Proofs.YtchngmjbagdakaaDoor

set_option linter.unusedVariables false
namespace Go.Proofs.YtchngmjbagdakaaDoor
open Go.RowKit

def sameHB (p q : HeadV) : Bool := p.prev.toList == q.prev.toList && (p.root.toList == q.root.toList && (p.time == q.time && (p.diff == q.diff && p.nonce == q.nonce)))
theorem fieldsHead : (Tryd.prog.fieldsOf 44).toList.map (fun f => (f.name != "_", f.type, f.offset)) = [(true, 9, 0), (true, 9, 1), (true, 3, 2), (true, 3, 3), (true, 3, 4)] := by kernel_rfl
theorem eqHeadT : Tryd.prog.underlying 44 = some (.struct (Tryd.prog.fieldsOf 44)) := by kernel_rfl
theorem eqHeadS : Tryd.prog.stoodInHeld 44 = false := by kernel_rfl
theorem eqHeadG : Tryd.prog.eqGuardType Tryd.prog.depth 44 = false := by kernel_rfl
theorem eqStep {P : Program} {d : Nat} {xs ys : Array Value} {f : Field} {fs : List Field} {w : World} {t o : Nat} {a b : Value} {r r2 : Bool} (hn : (f.name != "_") = true) (ht : f.type = t) (ho : f.offset = o) (ha : (part t xs o).run P w = .ok a w) (hb : (part t ys o).run P w = .ok b w)
    (hr : (Op.equalIn d t a b).run P w = .ok r w) (h2 : (Op.eqFields d xs ys fs).run P w = .ok r2 w) : (Op.eqFields d xs ys (f :: fs)).run P w = .ok (r && r2) w := by
  have hn' : f.name ≠ "_" := by simpa using hn
  subst ht ho
  unfold Op.eqFields
  rw [if_pos hn']
  simp only [Sem.run_bind, ha, hb, hr, Result.andThen_ok, Sem.run_ite, Sem.run_pure, h2]
  cases r <;> simp
theorem runSameHead (p q : HeadV) (w : World) : (Op.equalIn 10000 44 (.agg #[.string p.prev, .string p.root, .int .i64 p.time, .int .i64 p.diff, .int .i64 p.nonce]) (.agg #[.string q.prev, .string q.root, .int .i64 q.time, .int .i64 q.diff, .int .i64 q.nonce])).run Tryd.prog w = .ok (sameHB p q) w := by
  rw [run_equalIn_struct w 9999 _ _ _ eqHeadT eqHeadS]
  have hf := fieldsHead
  generalize (Tryd.prog.fieldsOf 44).toList = fs at hf
  rcases fs with _ | ⟨f0, _ | ⟨f1, _ | ⟨f2, _ | ⟨f3, _ | ⟨f4, _ | ⟨f5, fs⟩⟩⟩⟩⟩⟩
  all_goals try (simp at hf; done)
  simp only [List.map_cons, List.map_nil, List.cons.injEq, Prod.mk.injEq, and_true] at hf
  obtain ⟨⟨n0, t0, o0⟩, ⟨n1, t1, o1⟩, ⟨n2, t2, o2⟩, ⟨n3, t3, o3⟩, n4, t4, o4⟩ := hf
  refine eqStep n0 t0 o0 (by kernel_rfl) (by kernel_rfl) (run_equalIn_string w 9998 _ _ _ Tryd.underlying9) ?_
  refine eqStep n1 t1 o1 (by kernel_rfl) (by kernel_rfl) (run_equalIn_string w 9998 _ _ _ Tryd.underlying9) ?_
  refine eqStep n2 t2 o2 (by kernel_rfl) (by kernel_rfl) (run_equalIn_int w 9998 _ .i64 _ _ _ Tryd.underlying3) ?_
  refine eqStep n3 t3 o3 (by kernel_rfl) (by kernel_rfl) (run_equalIn_int w 9998 _ .i64 _ _ _ Tryd.underlying3) ?_
  have h4 := eqStep (d := 9999) (xs := #[.string p.prev, .string p.root, .int .i64 p.time, .int .i64 p.diff, .int .i64 p.nonce]) (ys := #[.string q.prev, .string q.root, .int .i64 q.time, .int .i64 q.diff, .int .i64 q.nonce]) (fs := []) (w := w) (P := Tryd.prog) (r2 := true) n4 t4 o4 (by kernel_rfl) (by kernel_rfl) (run_equalIn_int w 9998 _ .i64 _ p.nonce q.nonce Tryd.underlying3) (by simp [Op.eqFields])
  rw [Bool.and_true] at h4
  exact h4
theorem runHeadEq (p q : HeadV) (w : World) : (binOp .eql 44 (.agg #[.string p.prev, .string p.root, .int .i64 p.time, .int .i64 p.diff, .int .i64 p.nonce]) (.agg #[.string q.prev, .string q.root, .int .i64 q.time, .int .i64 q.diff, .int .i64 q.nonce])).run Tryd.prog w = .ok (.bool (sameHB p q)) w := by
  rw [run_eql_struct, runSameHead]
  rfl
theorem runHeadNe (p q : HeadV) (w : World) : (binOp .neq 44 (.agg #[.string p.prev, .string p.root, .int .i64 p.time, .int .i64 p.diff, .int .i64 p.nonce]) (.agg #[.string q.prev, .string q.root, .int .i64 q.time, .int .i64 q.diff, .int .i64 q.nonce])).run Tryd.prog w = .ok (.bool (!sameHB p q)) w := by
  rw [run_neq_struct, runSameHead]
  rfl
theorem sameHB_iff (p q : HeadV) : sameHB p q = true ↔ p = q := by
  have hs : ∀ a b : ByteArray, a.toList = b.toList → a = b := fun a b h => by
    rw [ByteArray.toList_eq, ByteArray.toList_eq] at h
    exact ByteArray.ext (by simpa using h)
  constructor
  · intro h
    simp only [sameHB, Bool.and_eq_true, beq_iff_eq] at h
    obtain ⟨h0, h1, h2, h3, h4⟩ := h
    cases p
    cases q
    simp_all
    exact ⟨hs _ _ h0, hs _ _ h1⟩
  · rintro rfl
    simp [sameHB]

end Go.Proofs.YtchngmjbagdakaaDoor

set_option linter.unusedVariables false
namespace Go.Proofs.YtchngmjbagdakaaDoor
open Go.RowKit Go.Deep

theorem fieldsPk : (Tryd.prog.fieldsOf 47).toList.map (fun f => (f.name != "_", f.type, f.offset)) = [(true, 9, 0), (true, 3, 1), (true, 3, 2)] := by kernel_rfl
theorem eqPkT : Tryd.prog.underlying 47 = some (.struct (Tryd.prog.fieldsOf 47)) := by kernel_rfl
theorem eqPkS : Tryd.prog.stoodInHeld 47 = false := by kernel_rfl
theorem eqPkG : Tryd.prog.eqGuardType Tryd.prog.depth 47 = false := by kernel_rfl
theorem runSamePk (p q : PeakV) (w : World) : (Op.equalIn 10000 47 (.agg #[.string p.sum, .int .i64 p.work, .int .i64 p.count]) (.agg #[.string q.sum, .int .i64 q.work, .int .i64 q.count])).run Tryd.prog w = .ok (samePB p q) w := by
  rw [run_equalIn_struct w 9999 _ _ _ eqPkT eqPkS]
  have hf := fieldsPk
  generalize (Tryd.prog.fieldsOf 47).toList = fs at hf
  rcases fs with _ | ⟨f0, _ | ⟨f1, _ | ⟨f2, _ | ⟨f3, fs⟩⟩⟩⟩
  all_goals try (simp at hf; done)
  simp only [List.map_cons, List.map_nil, List.cons.injEq, Prod.mk.injEq, and_true] at hf
  obtain ⟨⟨n0, t0, o0⟩, ⟨n1, t1, o1⟩, n2, t2, o2⟩ := hf
  refine eqStep n0 t0 o0 (by kernel_rfl) (by kernel_rfl) (run_equalIn_string w 9998 _ _ _ Tryd.underlying9) ?_
  refine eqStep n1 t1 o1 (by kernel_rfl) (by kernel_rfl) (run_equalIn_int w 9998 _ .i64 _ _ _ Tryd.underlying3) ?_
  have h4 := eqStep (d := 9999) (xs := #[.string p.sum, .int .i64 p.work, .int .i64 p.count]) (ys := #[.string q.sum, .int .i64 q.work, .int .i64 q.count]) (fs := []) (w := w) (P := Tryd.prog) (r2 := true) n2 t2 o2 (by kernel_rfl) (by kernel_rfl) (run_equalIn_int w 9998 _ .i64 _ p.count q.count Tryd.underlying3) (by simp [Op.eqFields])
  rw [Bool.and_true] at h4
  exact h4

set_option maxHeartbeats 1000000 in
set_option maxRecDepth 100000 in
theorem implPeakAlike (a b : PeakV) (w : World) :
    Calls Tryd.prog 26 #[peakVal a, peakVal b] w fun e w' => e = .returned (.bool (a.count == b.count)) ∧ Below w.heap.size w w' := by
  unfold peakVal
  have L0 : Hid (Below w.heap.size w ((w.alloc (.cells #[.string a.sum, .int .i64 a.work, .int .i64 a.count] 47)).alloc (.cells #[.string b.sum, .int .i64 b.work, .int .i64 b.count] 47))) := ((Below.refl _ w).alloc (Nat.le_refl _) _).alloc (by simp) _
  go_enter Tryd.func26, Tryd.ntmps26
  go_wp2
  go_ret
  exact ⟨rfl, L0.out⟩

/-- What stands while a head climbs: the peak that is looked for, the head, the peak so far. -/
structure ClimbW (w wr : World) (g0 g9 : Nat) (top q : PeakV) : Prop where
  t : CBk wr g0 47 #[.string top.sum, .int .i64 top.work, .int .i64 top.count]
  p : CBk wr g9 47 #[.string q.sum, .int .i64 q.work, .int .i64 q.count]
  ne : g0 < g9
  lo : w.heap.size ≤ g0
  b : Below w.heap.size w wr
theorem ClimbW.call {w wr w' : World} {g0 g9 : Nat} {top q : PeakV} (h : ClimbW w wr g0 g9 top q) (hb : Below wr.heap.size wr w') : ClimbW w w' g0 g9 top q :=
  ⟨h.t.call hb, h.p.call hb, h.ne, h.lo, h.b.trans (hb.mono h.b.size)⟩
theorem ClimbW.store {w wr : World} {g0 g9 : Nat} {top q : PeakV} (h : ClimbW w wr g0 g9 top q) (r : PeakV) : ClimbW w (((wr.setCell ⟨g9, 0, none⟩ (.string r.sum)).setCell ⟨g9, 1, none⟩ (.int .i64 r.work)).setCell ⟨g9, 2, none⟩ (.int .i64 r.count)) g0 g9 top r := by
  have h1 := h.ne
  have h2 := h.lo
  exact ⟨((h.t.other (by omega) _).other (by omega) _).other (by omega) _, h.p.set3, h1, h2, ((h.b.setCell (p := ⟨g9, 0, none⟩) (by show w.heap.size ≤ g9; omega) _).setCell (p := ⟨g9, 1, none⟩) (by show w.heap.size ≤ g9; omega) _).setCell (p := ⟨g9, 2, none⟩) (by show w.heap.size ≤ g9; omega) _⟩

end Go.Proofs.YtchngmjbagdakaaDoor

set_option linter.unusedVariables false
namespace Go.Proofs.YtchngmjbagdakaaDoor
open Go.RowKit

/-- A slice of integers that came in: it is nil; or it leads to a row of cells, the numbers zs. -/
def IsRow (k : IntKind) (w : World) (a : Option Addr) (len cap : Nat) (zs : List Int) : Prop :=
  (a = none ∧ len = 0 ∧ cap = 0 ∧ zs = []) ∨
  ∃ x, a = some x ∧ len ≤ cap ∧ cap ≤ maxLen ∧ zs.length = cap ∧ (∀ i, i < zs.length → w.cell? (x.add i) = some (.int k (zs.getD i 0))) ∧ ∀ n ∈ zs, (Lit.int k n).wf = true

theorem xor_nat (X Y : Int) (hX : 0 ≤ X) (hX' : X < 4611686018427387904) (hY : 0 ≤ Y) (hY' : Y < 4611686018427387904) : ∃ u : Nat, bits .xor .i64 X Y = (u : Int) := by
  obtain ⟨a, rfl⟩ := Int.eq_ofNat_of_zero_le hX
  obtain ⟨b, rfl⟩ := Int.eq_ofNat_of_zero_le hY
  refine ⟨a ^^^ b, ?_⟩
  have hx : a ^^^ b < 2 ^ 62 := Nat.xor_lt_two_pow (by omega) (by omega)
  have h1 : (BitVec.ofInt 64 (a : Int)).toNat = a := by
    rw [BitVec.ofInt_natCast, BitVec.toNat_ofNat]; exact Nat.mod_eq_of_lt (by omega)
  have h2 : (BitVec.ofInt 64 (b : Int)).toNat = b := by
    rw [BitVec.ofInt_natCast, BitVec.toNat_ofNat]; exact Nat.mod_eq_of_lt (by omega)
  show IntKind.i64.wrap ((BitVec.ofInt 64 (a : Int) ^^^ BitVec.ofInt 64 (b : Int)).toNat : Int) = _
  rw [BitVec.toNat_xor, h1, h2, IntKind.wrap_i64]
  omega

/-- Block b alone has turned. -/
structure Only (b : Nat) (w w' : World) : Prop where
  os : w'.os = w.os
  tape : w'.tape = w.tape
  output : w'.output = w.output
  size : w'.heap.size = w.heap.size
  block : ∀ c, c ≠ b → w'.heap[c]? = w.heap[c]?
theorem Only.below {B b : Nat} {w w' : World} (h : Only b w w') (hb : B ≤ b) : Below B w w' :=
  ⟨h.os, h.tape, h.output, by rw [h.size]; exact Nat.le_refl _, fun k hk => h.block k (by omega)⟩
theorem Only.refl (b : Nat) (w : World) : Only b w w := ⟨rfl, rfl, rfl, rfl, fun _ _ => rfl⟩
theorem Only.trans {b : Nat} {u v w : World} (h : Only b u v) (k : Only b v w) : Only b u w :=
  ⟨k.os.trans h.os, k.tape.trans h.tape, k.output.trans h.output, k.size.trans h.size, fun c hc => (k.block c hc).trans (h.block c hc)⟩
theorem Only.setCell (b o : Nat) (v : Value) (w : World) : Only b w (w.setCell ⟨b, o, none⟩ v) :=
  ⟨rfl, rfl, rfl, by simp [World.setCell], fun c hc => Below.heap_setCell _ _ _ _ hc⟩
theorem Only.drew {b : Nat} {w w' : World} (h : Only b w w') : Only b w w'.drew := ⟨h.os, h.tape, h.output, h.size, h.block⟩
theorem Only.drewN {b : Nat} {w w' : World} (h : Only b w w') (n : Nat) : Only b w (w'.drewN n) := ⟨h.os, h.tape, h.output, h.size, h.block⟩

/-- The cells of a list of numbers, of texts, that lies whole in a block. -/
theorem cells_ints {w : World} {g : Nat} {zs : List Int} {cs : Array Value} {T : TypeId} {fr : Nat × Nat} (h : w.heap[g]? = some (.cells cs T fr)) (he : cs = (zs.map (Value.int .i64)).toArray) (n : Nat) (hn : n ≤ zs.length) :
    ∀ i, i < n → w.cell? ⟨g, i, none⟩ = some (.int .i64 (zs.getD i 0)) := by
  intro i hi
  rw [Lib.cell_of_heap h, he]
  have : i < zs.length := by omega
  simp [List.getElem?_eq_getElem this]
theorem cells_texts {w : World} {g : Nat} {ss : List ByteArray} {cs : Array Value} {T : TypeId} {fr : Nat × Nat} (h : w.heap[g]? = some (.cells cs T fr)) (he : cs = (ss.map Value.string).toArray) (n : Nat) (hn : n ≤ ss.length) :
    ∀ i, i < n → w.cell? ⟨g, i, none⟩ = some (.string (ss.getD i ByteArray.empty)) := by
  intro i hi
  rw [Lib.cell_of_heap h, he]
  have : i < ss.length := by omega
  simp [List.getElem?_eq_getElem this]

end Go.Proofs.YtchngmjbagdakaaDoor

set_option linter.unusedVariables false
namespace Go.Proofs.YtchngmjbagdakaaDoor
open Go.RowKit Go.Deep

end Go.Proofs.YtchngmjbagdakaaDoor

set_option linter.unusedVariables false
namespace Go.Proofs.YtchngmjbagdakaaDoor
open Go.ChangeShapes Go.WideShapes Go.ChangeAt Go.RowKit Go.Deep Go.Joins

theorem CBk.two {w : World} {g : Nat} {T : TypeId} {a b : Value} (h : CBk w g T #[a, b]) : w.cell? ⟨g, 0, none⟩ = some a ∧ w.cell? ⟨g, 1, none⟩ = some b ∧ w.frozen? ⟨g, 0, none⟩ = false ∧ w.frozen? ⟨g, 1, none⟩ = false :=
  ⟨h.cell 0, h.cell 1, h.frozen 0, h.frozen 1⟩
theorem CBk.out2 {w : World} {g : Nat} {T : TypeId} {a b : Value} (h : CBk w g T #[a, b]) : w.cell? ⟨g, 0, none⟩ = some a ∧ w.cell? ⟨g, 1, none⟩ = some b := ⟨h.cell 0, h.cell 1⟩
/-- A proof of the laws. -/
structure LPrf where
  pa : Option Addr
  pn : Nat
  pc : Nat
  pl : List PeakV
  sa : Option Addr
  sn : Nat
  sc : Nat
  sl : List PeakV
def lprfVal (L : LPrf) : Value := .agg #[.slice L.pa L.pn L.pc, .slice L.sa L.sn L.sc]
structure IsPrf (w : World) (L : LPrf) : Prop where
  p : IsPeaks w L.pa L.pn L.pc L.pl
  s : IsPeaks w L.sa L.sn L.sc L.sl
theorem peaks_below {w w' : World} {a : Option Addr} {len cap : Nat} {ps : List PeakV} (h : IsPeaks w a len cap ps) (hb : Below w.heap.size w w') : IsPeaks w' a len cap ps := by
  have hat := fun i hi => h.at hb i hi
  rcases h with h1 | ⟨x, hx, h1, h2, h3, h4, h5⟩
  · exact .inl h1
  · refine .inr ⟨x, hx, h1, h2, h3, fun i hi => ?_, h5⟩
    obtain ⟨y, hy, hc⟩ := hat i hi
    rw [hx] at hy
    obtain rfl := Option.some.inj hy
    exact hc
theorem IsPrf.below {w w' : World} {L : LPrf} (h : IsPrf w L) (hb : Below w.heap.size w w') : IsPrf w' L := ⟨peaks_below h.p hb, peaks_below h.s hb⟩
theorem shape_slice2 {P : Program} {H : Type} {enc : TypeId × Value → H} {W : World} {base : Nat} {sp : Nat → Bool} {held : Bool} {n : Nat} {t e : TypeId} {v : Value} {y : DataW H × List MemPlace} (ht : P.underlying t = some (.slice e)) (h : DataW.trod enc P W base sp held n t [v] = some y) : ∃ a len cap, v = .slice a len cap := by
  rcases open_slice ht h with ⟨hcs, _⟩ | ⟨x, l, c, m, n, D, Pl, hcs, _⟩
  · simp at hcs
    exact ⟨_, _, _, hcs⟩
  · simp at hcs
    exact ⟨_, _, _, hcs⟩
structure SmallPrf (L : LPrf) : Prop where
  pn : L.pn ≤ 1048576
  ps : ∀ i, i < L.pn → (L.pl.getD i default).sum.size ≤ 1048576
  sn : L.sn ≤ 1048576
  ss : ∀ i, i < L.sn → (L.sl.getD i default).sum.size ≤ 1048576
/-- A proof in memory of its own. -/
structure PrfV where
  g : Nat
  n : Nat
  c : Nat
  ps : List PeakV
  sg : Nat
  sn : Nat
  sc : Nat
  ss : List PeakV
def prfVal (s : PrfV) : Value := .agg #[.slice (some ⟨s.g, 0, none⟩) s.n s.c, .slice (some ⟨s.sg, 0, none⟩) s.sn s.sc]
structure CopyPrf (B : Nat) (L : LPrf) (v : PrfV) (w : World) : Prop where
  p : RowP w v.g L.pl
  ps : v.ps = L.pl
  pn : v.n = L.pn
  pc : v.c = v.n
  st : RowP w v.sg L.sl
  ss : v.ss = L.sl
  sn : v.sn = L.sn
  sc : v.sc = v.sn
  lo : B ≤ v.g
  up : v.g < v.sg
theorem CopyPrf.below {B : Nat} {L : LPrf} {s : PrfV} {w w' : World} (h : CopyPrf B L s w) (hb : Below w.heap.size w w') : CopyPrf B L s w' :=
  ⟨h.p.below hb h.p.lt, h.ps, h.pn, h.pc, h.st.below hb h.st.lt, h.ss, h.sn, h.sc, h.lo, h.up⟩
theorem rowP_other {w : World} {g g' : Nat} {l : List PeakV} (h : RowP w g l) (hg : g' ≠ g) (j : Nat) (v : Value) : RowP (w.setCell ⟨g', j, none⟩ v) g l := by
  unfold RowP RowF at h ⊢; simp [World.setCell, Array.getElem?_modify, h, hg]

set_option maxHeartbeats 2000000 in
set_option maxRecDepth 100000 in
theorem eqProof1 (L : LPrf) (s t : PrfV) (B C : Nat) (w : World) (hs : SmallPrf L) (hp : L.pl.length = L.pn) (hq : L.sl.length = L.sn) (h1 : CopyPrf B L s w) (h2 : CopyPrf C L t w) :
    Calls Tryd.prog 9 #[prfVal s, prfVal t] w fun e w' => e = .returned (.bool true) ∧ Below w.heap.size w w' := by
  have e1 : t.n = s.n := by rw [h1.pn, h2.pn]
  have e2 : t.sn = s.sn := by rw [h1.sn, h2.sn]
  have hq1 := fun (w' : World) (hb : Below w.heap.size w w') => eqPeaks s.g t.g s.n s.c t.c L.pl w' ((h1.below hb).p.at 3 pEnc_len) ((h2.below hb).p.at 3 pEnc_len) (by rw [h1.pn, hp]) (by rw [h1.pn]; have := hs.pn; omega)
  have hq2 := fun (w' : World) (hb : Below w.heap.size w w') => eqPeaks s.sg t.sg s.sn s.sc t.sc L.sl w' ((h1.below hb).st.at 3 pEnc_len) ((h2.below hb).st.at 3 pEnc_len) (by rw [h1.sn, hq]) (by rw [h1.sn]; have := hs.sn; omega)
  unfold prfVal
  rw [e1, e2]
  clear h1 h2 hs e1 e2 hp hq
  have C0 : Hid (CBk ((w.alloc (.cells #[.slice (some ⟨s.g, 0, none⟩) s.n s.c, .slice (some ⟨s.sg, 0, none⟩) s.sn s.sc] 26)).alloc (.cells #[.slice (some ⟨t.g, 0, none⟩) s.n t.c, .slice (some ⟨t.sg, 0, none⟩) s.sn t.sc] 26)) w.heap.size 26 #[.slice (some ⟨s.g, 0, none⟩) s.n s.c, .slice (some ⟨s.sg, 0, none⟩) s.sn s.sc]) := (CBk.new w _ _).alloc _
  have D0 : Hid (CBk ((w.alloc (.cells #[.slice (some ⟨s.g, 0, none⟩) s.n s.c, .slice (some ⟨s.sg, 0, none⟩) s.sn s.sc] 26)).alloc (.cells #[.slice (some ⟨t.g, 0, none⟩) s.n t.c, .slice (some ⟨t.sg, 0, none⟩) s.sn t.sc] 26)) (w.heap.size + 1) 26 #[.slice (some ⟨t.g, 0, none⟩) s.n t.c, .slice (some ⟨t.sg, 0, none⟩) s.sn t.sc]) := by
    have := CBk.new (w.alloc (.cells #[.slice (some ⟨s.g, 0, none⟩) s.n s.c, .slice (some ⟨s.sg, 0, none⟩) s.sn s.sc] 26)) 26 #[.slice (some ⟨t.g, 0, none⟩) s.n t.c, .slice (some ⟨t.sg, 0, none⟩) s.sn t.sc]
    rwa [show (w.alloc (.cells #[.slice (some ⟨s.g, 0, none⟩) s.n s.c, .slice (some ⟨s.sg, 0, none⟩) s.sn s.sc] 26)).heap.size = w.heap.size + 1 from by simp] at this
  have L0 : Hid (Below w.heap.size w ((w.alloc (.cells #[.slice (some ⟨s.g, 0, none⟩) s.n s.c, .slice (some ⟨s.sg, 0, none⟩) s.sn s.sc] 26)).alloc (.cells #[.slice (some ⟨t.g, 0, none⟩) s.n t.c, .slice (some ⟨t.sg, 0, none⟩) s.sn t.sc] 26))) := ((Below.refl _ w).alloc (Nat.le_refl _) _).alloc (by simp) _
  go_enter Tryd.func9, Tryd.ntmps9
  go_wp2_with fail
  refine (hq1 _ L0.out).mono ?_
  rintro e w1 ⟨rfl, b1⟩
  have C1 : Hid (CBk w1 w.heap.size 26 #[.slice (some ⟨s.g, 0, none⟩) s.n s.c, .slice (some ⟨s.sg, 0, none⟩) s.sn s.sc]) := C0.out.call b1
  have D1 : Hid (CBk w1 (w.heap.size + 1) 26 #[.slice (some ⟨t.g, 0, none⟩) s.n t.c, .slice (some ⟨t.sg, 0, none⟩) s.sn t.sc]) := D0.out.call b1
  have L1 : Hid (Below w.heap.size w w1) := L0.out.trans (b1.mono L0.out.size)
  obtain ⟨c0, c1, _⟩ := C1.out.two
  obtain ⟨d0, d1, _⟩ := D1.out.two
  clear C0 D0 L0 b1 hq1
  go_wp2_with fail
  refine (hq2 _ L1.out).mono ?_
  rintro e w2 ⟨rfl, b2⟩
  go_wp2_with fail
  go_ret
  exact ⟨rfl, L1.out.trans (b2.mono L1.out.size)⟩

end Go.Proofs.YtchngmjbagdakaaDoor

set_option linter.unusedVariables false
namespace Go.Proofs.YtchngmjbagdakaaDoor
open Go.RowKit Go.Deep

theorem sameR (a b : ByteArray) : (a.toList == b.toList) = decide (a = b) := by
  rw [Bool.eq_iff_iff, beq_iff_eq, decide_eq_true_eq, ByteArray.toList_eq, ByteArray.toList_eq]
  constructor
  · intro h
    exact ByteArray.ext (by simpa using h)
  · intro h
    rw [h]
theorem walk_fine {h : HeadV} (hok : headOkB h = true) {a : Nat} {ss : List PeakV} : ∀ (i : Nat) (q : PeakV) (l : Int), walkTo (leafP h) a ss i = some (q, l) → Fine q l i
  | 0, q, l, hw => by
    simp only [walkTo, Option.some.injEq, Prod.mk.injEq] at hw
    obtain ⟨rfl, rfl⟩ := hw
    exact fine_leaf hok
  | i + 1, q, l, hw => by
    rw [walkTo] at hw
    cases hx : walkTo (leafP h) a ss i with
    | none => rw [hx] at hw; cases hw
    | some y =>
      obtain ⟨q0, l0⟩ := y
      have ih := walk_fine hok i q0 l0 hx
      rw [hx] at hw
      dsimp only at hw
      cases hb : (peakOkB (ss.getD i default) && decide ((ss.getD i default).count = q0.count)) with
      | false => rw [hb] at hw; cases hw
      | true =>
        rw [hb] at hw
        simp only [if_true] at hw
        split at hw
        · simp only [Option.some.injEq, Prod.mk.injEq] at hw
          obtain ⟨rfl, rfl⟩ := hw
          exact fine_left ih hb
        · simp only [Option.some.injEq, Prod.mk.injEq] at hw
          obtain ⟨rfl, rfl⟩ := hw
          exact fine_right ih hb
theorem fine_le {q : PeakV} {l : Int} {i : Nat} (h : Fine q l i) : l ≤ 256 := by
  have h1 := h.l1
  have h2 := h.wk
  have h3 := h.cnt
  have h4 := h.hi
  have h5 : (2 ^ i : Nat) ≤ 32 := by
    have : i = 0 ∨ i = 1 ∨ i = 2 ∨ i = 3 ∨ i = 4 ∨ i = 5 := by omega
    rcases this with rfl | rfl | rfl | rfl | rfl | rfl <;> decide
  omega
theorem climb_le {top : PeakV} {h : HeadV} (hok : headOkB h = true) (a : Nat) (ss : List PeakV) : -1 ≤ climbV top h a ss ∧ climbV top h a ss ≤ 256 := by
  unfold climbV
  cases hx : walkTo (leafP h) a ss ss.length with
  | none => dsimp only; omega
  | some y =>
    obtain ⟨q, l⟩ := y
    have hf := walk_fine hok _ q l hx
    have := fine_le hf
    have := hf.l0
    dsimp only
    split <;> omega
theorem wrk_in {ps : List PeakV} (h : rangeOkB ps = true) : ∀ k, k ≤ ps.length → 0 ≤ wrkTo ps k ∧ wrkTo ps k ≤ 160 * (k : Int)
  | 0, _ => by simp [wrkTo]
  | k + 1, hk => by
    have ih := wrk_in h k (by omega)
    have := rangeOk_at h k (by omega)
    rw [wrkTo]
    push_cast
    omega
theorem cnt_in {ps : List PeakV} (h : rangeOkB ps = true) : ∀ k, k ≤ ps.length → 0 ≤ cntTo ps k ∧ cntTo ps k ≤ 20 * (k : Int)
  | 0, _ => by simp [cntTo]
  | k + 1, hk => by
    have ih := cnt_in h k (by omega)
    have := rangeOk_at h k (by omega)
    rw [cntTo]
    push_cast
    omega
/-- A proof in memory. -/
structure PrfAt (s : PrfV) (w : World) : Prop where
  p : AtP w s.g s.ps
  pl : s.n = s.ps.length
  pm : s.n ≤ 1048576
  pc : s.n ≤ s.c
  t : AtP w s.sg s.ss
  tl : s.sn = s.ss.length
  tm : s.sn ≤ 1048576
theorem PrfAt.below {s : PrfV} {w w' : World} (h : PrfAt s w) (hb : Below w.heap.size w w') : PrfAt s w' :=
  ⟨h.p.below hb h.p.1, h.pl, h.pm, h.pc, h.t.below hb h.t.1, h.tl, h.tm⟩
theorem check_root {root : ByteArray} {h : HeadV} {a : Int} {ps ss : List PeakV} (hn : (⟨(rangeRoot ps).toArray⟩ : ByteArray) ≠ root) : checkV root h a ps ss = -1 := check_no (fun hh => hn hh.2.2.2.2)

end Go.Proofs.YtchngmjbagdakaaDoor

set_option linter.unusedVariables false
namespace Go.Proofs.YtchngmjbagdakaaDoor
open Go.RowKit

theorem cells_new (w : World) (e : TypeId) (news : List Value) : ∀ j u, news[j]? = some u → (w.alloc (.cells news.toArray e)).cell? ((⟨w.heap.size, 0, none⟩ : Addr).add j) = some u := by
  intro j u hj
  have e1 : (⟨w.heap.size, 0, none⟩ : Addr).add j = ⟨w.heap.size, j, none⟩ := by unfold Addr.add; split <;> simp_all
  rw [e1, Lib.cell_of_heap (heap_alloc_new w _)]
  simpa using hj
theorem wp_appN {P : Program} {w : World} {ops : Array Oper} {rest : List Oper} {o : Oper} {a : Act} {Q : Exit → Act → World → Prop} (hgd : o.guard = none) (s x : Operand) (t : TypeId)
    (ho : o.op = .call { callee := .builtin .append, args := #[s, x], argTypes := #[t, t] })
    (base : Nat) (e : TypeId) (i : TypeInfo) (z : Value) (size bytes m : Nat) (ht : P.underlying t = some (.slice e)) (hi : P.info? e = some i) (hz : i.zero = some z)
    (hsize : i.size = size) (hby : i.bytes = bytes) (hzs : z.cells.size = size) (hs0 : 0 < size) (hm0 : 0 < m)
    (v : Value) (n : Nat) (xs : List Value) (hs : a.eval s = v) (hown : w.ownsRow base e size v n xs)
    (news : List Value) (hx : a.eval x = .slice (some ⟨w.heap.size, 0, none⟩) m m) (hl : news.length = m * size) (hu : ∀ u ∈ news, u.oneCell' = true)
    (h63 : n + m ≤ maxLen) (hbytes : (n + m) * bytes ≤ 140737488355328) (hbase : base ≤ w.heap.size)
    (h : ∀ g cap w', w'.ownsRow base e size (.slice (some ⟨g, 0, none⟩) (n + m) cap) (n + m) (xs ++ news) → Below base w w' → (∀ b, b < w.heap.size → v.ownBlock ≠ some b → w'.heap[b]? = w.heap[b]?) →
      wpList P ops Q rest (a.put o.dst (.slice (some ⟨g, 0, none⟩) (n + m) cap)) w') :
    wpList P ops Q (o :: rest) a (w.alloc (.cells news.toArray e)) := by
  refine wpList_append_own _ hgd s x t ho base e i z size bytes ht hi hz hsize hby hzs hs0 v n xs hs (hown.alloc _) ⟨w.heap.size, 0, none⟩ m m news hx hl ?_ hu h63 hbytes (by simp; omega) ?_
  · intro j u hj
    have e1 : (⟨w.heap.size, 0, none⟩ : Addr).add j = ⟨w.heap.size, j, none⟩ := by unfold Addr.add; split <;> simp_all
    rw [e1, Lib.cell_of_heap (heap_alloc_new w _)]
    simpa using hj
  · intro v' w' hown' hg _
    obtain ⟨g, cap, rfl⟩ : ∃ g cap, v' = .slice (some ⟨g, 0, none⟩) (n + m) cap := by
      rcases hown'.2 with ⟨_, h0⟩ | ⟨g, cap, cur, hv, _⟩
      · omega
      · exact ⟨g, cap, hv⟩
    refine h g cap w' hown' (((Below.refl base w).alloc hbase _).grown hg (by simp; omega) (fun k hk => (hown.lt k hk).1)) ?_
    intro b hb hne
    rw [hg.block b (by simp; omega) (fun e => hne e.symm)]
    exact Below.heap_alloc _ _ _ hb

end Go.Proofs.YtchngmjbagdakaaDoor

set_option linter.unusedVariables false
namespace Go.Proofs.YtchngmjbagdakaaDoor
open Go.RowKit

section frow
variable {α : Type}
def FRow (enc : α → List Value) (T : TypeId) (k B : Nat) (v : Value) (l : List α) (w : World) : Prop := (∃ g cap, v = .slice (some ⟨g, 0, none⟩) l.length cap) ∧ w.ownsRow B T k v l.length (l.flatMap enc)
theorem frow_new (enc : α → List Value) (T : TypeId) (k : Nat) (w : World) : FRow enc T k w.heap.size (.slice (some ⟨w.heap.size, 0, none⟩) 0 0) [] (w.alloc (.cells #[] T)) :=
  ⟨⟨_, _, rfl⟩, by simp, .inr ⟨w.heap.size, 0, #[], rfl, Nat.le_refl _, heap_alloc_new w _, Nat.le_refl _, Nat.zero_le _, by simp, by simp⟩⟩
theorem frow_cap (enc : α → List Value) (T : TypeId) (k n : Nat) (hk : ∀ a, (enc a).length = k) (a : α) (w : World) (hn : n ≤ maxLen) : FRow enc T k w.heap.size (.slice (some ⟨w.heap.size, 0, none⟩) 0 n) [] (w.alloc (.cells ((List.replicate n a).flatMap enc).toArray T)) :=
  ⟨⟨_, _, rfl⟩, by simp, .inr ⟨w.heap.size, n, _, rfl, Nat.le_refl _, heap_alloc_new w _, Nat.zero_le _, hn, by simp [flat_length k enc hk], by simp⟩⟩
theorem FRow.block {enc : α → List Value} {T : TypeId} {k B : Nat} {v : Value} {l : List α} {w : World} (h : FRow enc T k B v l w) : ∃ g cap cur, v = .slice (some ⟨g, 0, none⟩) l.length cap ∧ B ≤ g ∧ g < w.heap.size ∧ w.heap[g]? = some (.cells cur T (0, 0)) ∧ cur.toList.take (l.length * k) = l.flatMap enc ∧ l.length ≤ cap := by
  obtain ⟨⟨g, cap, rfl⟩, _, h2⟩ := h
  rcases h2 with ⟨h3, _⟩ | ⟨g', cap', cur, hv, hB, hg, hc, _, _, ht⟩
  · cases h3
  · simp only [Value.slice.injEq, Option.some.injEq, Addr.mk.injEq, and_true] at hv
    obtain ⟨rfl, _, rfl⟩ := hv
    refine ⟨g, cap, cur, rfl, hB, ?_, hg, ht, hc⟩
    rcases Nat.lt_or_ge g w.heap.size with h' | h'
    · exact h'
    · simp [Array.getElem?_eq_none h'] at hg
theorem FRow.at [Inhabited α] {enc : α → List Value} {T : TypeId} {k B g n cap : Nat} {l : List α} {w : World} (hk : ∀ a, (enc a).length = k) (h : FRow enc T k B (.slice (some ⟨g, 0, none⟩) n cap) l w) : AtF enc k w g l ∧ n = l.length ∧ B ≤ g ∧ n ≤ cap := by
  obtain ⟨g', cap', cur, hv, hB, hlt, hg, ht, hc⟩ := h.block
  simp only [Value.slice.injEq, Option.some.injEq, Addr.mk.injEq, and_true] at hv
  obtain ⟨rfl, rfl, rfl⟩ := hv
  refine ⟨⟨hlt, fun i j hi hj => ?_⟩, rfl, hB, hc⟩
  have hlt2 : i * k + j < l.length * k := by
    have : (i + 1) * k ≤ l.length * k := Nat.mul_le_mul_right k hi
    rw [Nat.add_mul] at this
    omega
  rw [Lib.cell_of_heap hg, ← flat_at k enc hk l i j hi hj, ← ht, List.getElem?_take_of_lt hlt2]
  simp
theorem FRow.keep {enc : α → List Value} {T : TypeId} {k B : Nat} {v : Value} {l : List α} {w w' : World} (h : FRow enc T k B v l w) (hk : ∀ g, B ≤ g → g < w.heap.size → w'.heap[g]? = w.heap[g]?) : FRow enc T k B v l w' := by
  obtain ⟨⟨g, cap, rfl⟩, h1, h2⟩ := h
  refine ⟨⟨g, cap, rfl⟩, h1, ?_⟩
  rcases h2 with ⟨h3, _⟩ | ⟨g', cap', cur, hv, hB, hg, h4⟩
  · cases h3
  · have hlt : g' < w.heap.size := by
      rcases Nat.lt_or_ge g' w.heap.size with h' | h'
      · exact h'
      · simp [Array.getElem?_eq_none h'] at hg
    exact .inr ⟨g', cap', cur, hv, hB, by rw [hk g' hB hlt]; exact hg, h4⟩
theorem FRow.below {enc : α → List Value} {T : TypeId} {k B : Nat} {v : Value} {l : List α} {w w' : World} (h : FRow enc T k B v l w) (hb : Below w.heap.size w w') : FRow enc T k B v l w' := h.keep (fun g _ hg => hb.block g hg)
theorem FRow.drew {enc : α → List Value} {T : TypeId} {k B : Nat} {v : Value} {l : List α} {w : World} (h : FRow enc T k B v l w) : FRow enc T k B v l w.drew := h
theorem FRow.mono {enc : α → List Value} {T : TypeId} {k B C : Nat} {v : Value} {l : List α} {w : World} (h : FRow enc T k B v l w) (hC : C ≤ B) : FRow enc T k C v l w := by
  obtain ⟨h0, h1, h2⟩ := h
  refine ⟨h0, h1, ?_⟩
  rcases h2 with h3 | ⟨g', cap', cur, hv, hB, h4⟩
  · exact .inl h3
  · exact .inr ⟨g', cap', cur, hv, Nat.le_trans hC hB, h4⟩
theorem FRow.of {enc : α → List Value} {T : TypeId} {k B g n cap : Nat} {l : List α} {w : World} (h : w.ownsRow B T k (.slice (some ⟨g, 0, none⟩) n cap) n (l.flatMap enc)) (hn : n = l.length) : FRow enc T k B (.slice (some ⟨g, 0, none⟩) n cap) l w := by
  subst hn
  exact ⟨⟨g, cap, rfl⟩, h⟩
theorem info3 {P : Program} {t : TypeId} {z : Value} {n b : Nat} (h : (P.info? t).map (fun i => (i.zero, i.size, i.bytes)) = some (some z, n, b)) : ∃ i, P.info? t = some i ∧ i.zero = some z ∧ i.size = n ∧ i.bytes = b := by
  cases hi : P.info? t with
  | none => rw [hi] at h; cases h
  | some i =>
    rw [hi] at h
    simp only [Option.map_some, Option.some.injEq, Prod.mk.injEq] at h
    exact ⟨i, rfl, h.1, h.2.1, h.2.2⟩
end frow

end Go.Proofs.YtchngmjbagdakaaDoor

set_option linter.unusedVariables false
namespace Go.Proofs.YtchngmjbagdakaaDoor
open Go.RowKit

section
variable {P : Program} {w : World}
theorem run_append_any (t ty : TypeId) (base : Nat) (e : TypeId) (i : TypeInfo) (z : Value) (size bytes : Nat) (ht : P.underlying t = some (.slice e)) (hi : P.info? e = some i) (hz : i.zero = some z)
    (hsize : i.size = size) (hby : i.bytes = bytes) (hzs : z.cells.size = size) (hsz : 0 < size)
    (g0 c0 n : Nat) (xs : List Value) (hown : w.ownsRow base e size (.slice (some ⟨g0, 0, none⟩) n c0) n xs)
    (ad : Addr) (m c : Nat) (news : List Value) (hl : news.length = m * size) (hnews : ∀ j u, news[j]? = some u → w.cell? (ad.add j) = some u) (h1 : ∀ u ∈ news, u.oneCell' = true)
    (h63 : n + m ≤ maxLen) (hbytes : (n + m) * bytes ≤ 140737488355328) (hbase : base ≤ w.heap.size) :
    ∃ g cap w', (Builtin.append_ #[t, t] ty #[.slice (some ⟨g0, 0, none⟩) n c0, .slice (some ad) m c]).run P w = .ok (.slice (some ⟨g, 0, none⟩) (n + m) cap) w' ∧
      w'.ownsRow base e size (.slice (some ⟨g, 0, none⟩) (n + m) cap) (n + m) (xs ++ news) ∧ w.grownBy w' (some g0) ∧ (g0 = g ∨ g = w.heap.size) ∧ g < w'.heap.size := by
  obtain ⟨v', w', hr, h2, h3, _, h5⟩ := run_append_own_at (P := P) w base t ty e i z size bytes ht hi hz hsize hby hzs hsz (.slice (some ⟨g0, 0, none⟩) n c0) n xs hown ad m c news hl hnews h1 h63 hbytes hbase
  rcases h2.2 with ⟨h6, _⟩ | ⟨g, cap, cur, hv, hB, hg, _⟩
  · rw [h6] at h5
    rcases h5 with h5 | h5 <;> simp [Value.ownBlock] at h5
  · subst hv
    refine ⟨g, cap, w', hr, h2, h3, ?_, ?_⟩
    · rcases h5 with h5 | h5
      · left
        have : g = g0 := by simpa [Value.ownBlock] using h5
        exact this.symm
      · right
        simpa [Value.ownBlock] using h5
    · rcases Nat.lt_or_ge g w'.heap.size with h' | h'
      · exact h'
      · simp [Array.getElem?_eq_none h'] at hg
theorem step_append_any {ops : Array Oper} {o : Oper} {a : Act} {K : Act → World → Prop} {Q : Exit → Act → World → Prop} {E : Prop} (hgd : o.guard = none) (s x : Operand) (t : TypeId)
    (ho : o.op = .call { callee := .builtin .append, args := #[s, x], argTypes := #[t, t] })
    (base : Nat) (e : TypeId) (i : TypeInfo) (z : Value) (size bytes : Nat) (ht : P.underlying t = some (.slice e)) (hi : P.info? e = some i) (hz : i.zero = some z)
    (hsize : i.size = size) (hby : i.bytes = bytes) (hzs : z.cells.size = size) (hsz : 0 < size)
    (g0 c0 n : Nat) (xs : List Value) (hs : a.eval s = .slice (some ⟨g0, 0, none⟩) n c0) (hown : w.ownsRow base e size (.slice (some ⟨g0, 0, none⟩) n c0) n xs)
    (ad : Addr) (m c : Nat) (news : List Value) (hx : a.eval x = .slice (some ad) m c) (hl : news.length = m * size) (hnews : ∀ j u, news[j]? = some u → w.cell? (ad.add j) = some u) (h1 : ∀ u ∈ news, u.oneCell' = true)
    (h63 : n + m ≤ maxLen) (hbytes : (n + m) * bytes ≤ 140737488355328) (hbase : base ≤ w.heap.size)
    (h : ∀ g cap w', w'.ownsRow base e size (.slice (some ⟨g, 0, none⟩) (n + m) cap) (n + m) (xs ++ news) → w.grownBy w' (some g0) → Hid (g0 = g ∨ g = w.heap.size) → Hid (g < w'.heap.size) → K (a.put o.dst (.slice (some ⟨g, 0, none⟩) (n + m) cap)) w') :
    if Region.wanted o (yielded ops a.tmps) = true then Oper.wp P o a w K Q else E := by
  have hw : Region.wanted o (yielded ops a.tmps) = true := by simp [Region.wanted, hgd]
  rw [if_pos hw]
  obtain ⟨g, cap, w', hr, h2, h3, h4, h5⟩ := run_append_any (P := P) (w := w) t o.type base e i z size bytes ht hi hz hsize hby hzs hsz g0 c0 n xs hown ad m c news hl hnews h1 h63 hbytes hbase
  unfold Oper.wp execOp
  simp only [ho, resolve, invoke, builtin, Sem.run_bind, Sem.run_pure, Result.andThen_ok, List.map_toArray, List.map_cons, List.map_nil, hs, hx, hr]
  exact h g cap w' h2 h3 h4 h5
end

end Go.Proofs.YtchngmjbagdakaaDoor

