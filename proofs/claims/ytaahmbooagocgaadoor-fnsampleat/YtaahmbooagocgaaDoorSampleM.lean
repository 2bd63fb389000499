/-
  A point in some work, by a root: both ways to reckon it.
-/
import Derived.Test.YtaahmbooagocgaaDoorFilterToM
import Derived.Test.YtaahmbooagocgaaDoorSumHeadI
import Derived.Test.YtaahmbooagocgaaDoorSumHeadS
import Derived.Test.YtaahmbooagocgaaDoorShaI6
import Derived.Test.YtaahmbooagocgaaDoorShaS5
import Derived.Test.YtaahmbooagocgaaDoorSpecIn
import Derived.Test.YtaahmbooagocgaaDoorDecM
set_option linter.unusedVariables false
namespace Go.Proofs.YtaahmbooagocgaaDoor
open Go.RowKit

/-- The text whose sum tells a point. -/
def sampleT (r : List UInt8) (k : Nat) : List UInt8 := [115, 97, 109, 112, 108, 101, 32] ++ r ++ [32] ++ Lib.decDigits k
def sampleAt (r : List UInt8) (k work : Int) : Int := if isSum r = true ∧ (0 ≤ k ∧ k ≤ 5) ∧ (1 ≤ work ∧ work ≤ 160) then (headOf (sampleT r k.toNat) : Int) % work else -1
theorem sampleAt_no1 {r : List UInt8} {k work : Int} (h : isSum r = false) : sampleAt r k work = -1 := by rw [sampleAt, if_neg (by rw [h]; simp)]
theorem sampleAt_no2 {r : List UInt8} {k work : Int} (h : ¬ (0 ≤ k ∧ k ≤ 5)) : sampleAt r k work = -1 := by rw [sampleAt, if_neg (fun hh => h hh.2.1)]
theorem sampleAt_no3 {r : List UInt8} {k work : Int} (h : ¬ (1 ≤ work ∧ work ≤ 160)) : sampleAt r k work = -1 := by rw [sampleAt, if_neg (fun hh => h hh.2.2)]
theorem sampleAt_yes {r : List UInt8} {k : Nat} {work : Int} (h1 : isSum r = true) (h2 : k ≤ 5) (h3 : 1 ≤ work ∧ work ≤ 160) : sampleAt r (k : Int) work = (headOf (sampleT r k) : Int) % work := by
  rw [sampleAt, if_pos ⟨h1, by omega, h3⟩]
  rfl
theorem sampleSz {r : ByteArray} {k : Nat} (h1 : isSum r.data.toList = true) (h2 : k ≤ 5) : ((⟨#[115, 97, 109, 112, 108, 101, 32]⟩ : ByteArray) ++ r ++ (⟨#[32]⟩ : ByteArray) ++ ⟨(Lib.decDigits k).toArray⟩).size ≤ 1073741824 := by
  have hps : r.size = 16 := by have := isSum_len h1; simpa using this
  simp only [ByteArray.size_append, hps]
  have e1 : (⟨#[115, 97, 109, 112, 108, 101, 32]⟩ : ByteArray).size = 7 := rfl
  have e2 : (⟨#[32]⟩ : ByteArray).size = 1 := rfl
  have e3 : (⟨(Lib.decDigits k).toArray⟩ : ByteArray).size = (Lib.decDigits k).length := by simp [ByteArray.size]
  have := decLen (n := k) (by omega)
  omega
theorem sampleTx (r : ByteArray) (k : Nat) : ((⟨#[115, 97, 109, 112, 108, 101, 32]⟩ : ByteArray) ++ r ++ (⟨#[32]⟩ : ByteArray) ++ ⟨(Lib.decDigits k).toArray⟩).data.toList = sampleT r.data.toList k := by simp [sampleT]

set_option maxHeartbeats 1000000 in
set_option maxRecDepth 100000 in
theorem implWorkOk (r : ByteArray) (work : Int) (w : World) :
    Calls Tryd.prog 19 #[.string r, .int .i64 work] w fun e w' => e = .returned (.bool (isSum r.data.toList && decide (1 ≤ work ∧ work ≤ 160))) ∧ w = w' := by
  cases h1 : isSum r.data.toList with
  | false =>
    go_enter Tryd.func19, Tryd.ntmps19
    go_wp2_with (go_at_call 35; refine (implSumOk _ _).mono ?_; rintro e w1 ⟨rfl, rfl⟩)
    go_ret
    exact ⟨rfl, rfl⟩
  | true =>
    by_cases h2 : work < 1
    · have e : decide (1 ≤ work ∧ work ≤ 160) = false := decide_eq_false (by omega)
      rw [e]
      clear e
      go_enter Tryd.func19, Tryd.ntmps19
      go_wp2_with (go_at_call 35; refine (implSumOk _ _).mono ?_; rintro e w1 ⟨rfl, rfl⟩)
      go_ret
      exact ⟨rfl, rfl⟩
    · have e : decide (1 ≤ work ∧ work ≤ 160) = decide (work ≤ 160) := by
        rw [Bool.eq_iff_iff]
        simp
        omega
      rw [e]
      clear e
      go_enter Tryd.func19, Tryd.ntmps19
      go_wp2_with (go_at_call 35; refine (implSumOk _ _).mono ?_; rintro e w1 ⟨rfl, rfl⟩)
      go_ret
      exact ⟨rfl, rfl⟩

set_option maxHeartbeats 1000000 in
set_option maxRecDepth 100000 in
theorem implSampleAt (r : ByteArray) (k work : Int) (w : World) (hK : RowG w shaK) :
    Calls Tryd.prog 8 #[.string r, .int .i64 k, .int .i64 work] w fun e w' => e = .returned (.int .i64 (sampleAt r.data.toList k work)) ∧ Below w.heap.size w w' := by
  have HK : Hid (RowG w shaK) := hK
  have hwk := implWorkOk r work w
  clear hK
  cases h0 : (isSum r.data.toList && decide (1 ≤ work ∧ work ≤ 160)) with
  | false =>
    have e : sampleAt r.data.toList k work = -1 := by
      cases h1 : isSum r.data.toList with
      | false => exact sampleAt_no1 h1
      | true => rw [h1, Bool.true_and] at h0; exact sampleAt_no3 (of_decide_eq_false h0)
    rw [h0] at hwk
    rw [e]
    clear e h0
    go_enter Tryd.func8, Tryd.ntmps8
    go_wp2_with (go_at_call 19; refine hwk.mono ?_; rintro e w1 ⟨rfl, rfl⟩)
    go_ret
    exact ⟨rfl, Below.refl _ _⟩
  | true =>
    rw [h0] at hwk
    simp only [Bool.and_eq_true, decide_eq_true_eq] at h0
    obtain ⟨h1, h3⟩ := h0
    by_cases h2 : k < 0
    · rw [sampleAt_no2 (by omega)]
      go_enter Tryd.func8, Tryd.ntmps8
      go_wp2_with (go_at_call 19; refine hwk.mono ?_; rintro e w1 ⟨rfl, rfl⟩)
      go_ret
      exact ⟨rfl, Below.refl _ _⟩
    by_cases h4 : 6 ≤ k
    · rw [sampleAt_no2 (by omega)]
      go_enter Tryd.func8, Tryd.ntmps8
      go_wp2_with (go_at_call 19; refine hwk.mono ?_; rintro e w1 ⟨rfl, rfl⟩)
      go_ret
      exact ⟨rfl, Below.refl _ _⟩
    obtain ⟨j, rfl⟩ : ∃ j : Nat, k = (j : Int) := ⟨k.toNat, by omega⟩
    rw [sampleAt_yes h1 (by omega) h3]
    have hsz := sampleSz (r := r) (k := j) h1 (by omega)
    have HT : Hid (((⟨#[115, 97, 109, 112, 108, 101, 32]⟩ : ByteArray) ++ r ++ (⟨#[32]⟩ : ByteArray) ++ ⟨(Lib.decDigits j).toArray⟩).data.toList = sampleT r.data.toList j) := sampleTx r j
    have hdl : (Lib.decDigits j).length ≤ 19 := decLen (by omega)
    have hps : r.size = 16 := by have := isSum_len h1; simpa using this
    have hit := fun w' => Tryd.strconv_Itoa_small j (by omega) w'
    generalize Lib.decDigits j = dj at hsz HT hdl hit
    generalize sampleT r.data.toList j = tx at HT ⊢
    have hhl := headOf_lt tx
    have hne : work ≠ 0 := by omega
    go_enter Tryd.func8, Tryd.ntmps8
    go_wp2_with (first | (go_at_call 19; refine hwk.mono ?_; rintro e w1 ⟨rfl, rfl⟩) | (go_at_call 22; refine (hit _).mono ?_; rintro e w1 ⟨rfl, rfl⟩))
    refine (implSum _ _ hsz HK.out).mono ?_
    rintro e w2 ⟨rfl, b2⟩
    rw [HT.out]
    have e1 : sumHead (⟨(sumB tx).toArray⟩ : ByteArray).data.toList = (headOf tx : Int) := sumHead_sumB tx
    have hsh := implSumHead ⟨(sumB tx).toArray⟩ w2
    rw [e1] at hsh
    clear e1
    generalize sumB tx = sb at hsh ⊢
    generalize hhd : headOf tx = hd at hsh hhl ⊢
    have HHD : Hid (headOf tx = hd) := hhd
    clear hhd
    have em : (hd : Int).tmod work = (hd : Int) % work := Int.tmod_eq_emod_of_nonneg (by omega)
    go_wp2_with fail
    refine hsh.mono ?_
    rintro e w3 ⟨rfl, rfl⟩
    go_wp2_with fail
    go_ret
    exact ⟨by rw [HHD.out]; first | rfl | simp [em], b2⟩

set_option maxHeartbeats 1000000 in
set_option maxRecDepth 100000 in
theorem specL6At (r : ByteArray) (k : Nat) (work : Int) (w : World) (h1 : isSum r.data.toList = true) (h2 : k ≤ 5) (h3 : 1 ≤ work ∧ work ≤ 160) :
    Calls Tryd.prog 18 #[.string r, .int .i64 (k : Int), .int .i64 work] w fun e w' => e = .returned (.int .i64 ((headOf (sampleT r.data.toList k) : Int) % work)) ∧ Below w.heap.size w w' := by
  have hsz := sampleSz (r := r) (k := k) h1 h2
  have HT : Hid (((⟨#[115, 97, 109, 112, 108, 101, 32]⟩ : ByteArray) ++ r ++ (⟨#[32]⟩ : ByteArray) ++ ⟨(Lib.decDigits k).toArray⟩).data.toList = sampleT r.data.toList k) := sampleTx r k
  have hdl : (Lib.decDigits k).length ≤ 19 := decLen (by omega)
  have hps : r.size = 16 := by have := isSum_len h1; simpa using this
  have hit := fun w' => specDec k w' (by omega)
  generalize Lib.decDigits k = dj at hsz HT hdl hit
  generalize sampleT r.data.toList k = tx at HT ⊢
  have hhl := headOf_lt tx
  have hne : work ≠ 0 := by omega
  go_enter Tryd.func18, Tryd.ntmps18
  go_wp2_with (go_at_call 34; refine (hit _).mono ?_; rintro e w1 ⟨rfl, b1⟩)
  refine (specSum _ _ hsz).mono ?_
  rintro e w2 ⟨rfl, b2⟩
  rw [HT.out]
  have HX : Hid (isSum (⟨(sumB tx).toArray⟩ : ByteArray).data.toList = true) := isSum_sumB tx
  have hsh := specHead ⟨(sumB tx).toArray⟩ w2 HX
  have e1 : ((hexN ((⟨(sumB tx).toArray⟩ : ByteArray).data.toList.take 8) / 2 : Nat) : Int) = (headOf tx : Int) := rfl
  rw [e1] at hsh
  clear e1 HX
  generalize sumB tx = sb at hsh ⊢
  generalize hhd : headOf tx = hd at hsh hhl ⊢
  have HHD : Hid (headOf tx = hd) := hhd
  clear hhd
  have em : (hd : Int).tmod work = (hd : Int) % work := Int.tmod_eq_emod_of_nonneg (by omega)
  go_wp2_with fail
  refine hsh.mono ?_
  rintro e w3 ⟨rfl, rfl⟩
  go_wp2_with fail
  go_ret
  exact ⟨by rw [HHD.out]; first | rfl | simp [em], b1.trans (b2.mono b1.size)⟩

set_option maxHeartbeats 1000000 in
set_option maxRecDepth 100000 in
theorem specSampleAt (r : ByteArray) (k work : Int) (w : World) (hr : r.size ≤ maxLen) :
    Calls Tryd.prog 7 #[.string r, .int .i64 k, .int .i64 work] w fun e w' => e = .returned (.int .i64 (sampleAt r.data.toList k work)) ∧ Below w.heap.size w w' := by
  cases h1 : isSum r.data.toList with
  | false =>
    rw [sampleAt_no1 h1]
    go_enter Tryd.func7, Tryd.ntmps7
    go_wp2_with (go_at_call 16; refine (specIsSum _ _ hr).mono ?_; rintro e w1 ⟨rfl, rfl⟩)
    go_ret
    exact ⟨rfl, Below.refl _ _⟩
  | true =>
    by_cases h2 : 0 ≤ k ∧ k ≤ 5
    · have i2 := inB_yes h2
      by_cases h3 : 1 ≤ work ∧ work ≤ 160
      · have i3 := inB_yes h3
        obtain ⟨j, rfl⟩ : ∃ j : Nat, k = (j : Int) := ⟨k.toNat, by omega⟩
        rw [sampleAt_yes h1 (by omega) h3]
        have hat := fun w' => specL6At r j work w' h1 (by omega) h3
        go_enter Tryd.func7, Tryd.ntmps7
        go_wp2_with (first | (go_at_call 16; refine (specIsSum _ _ hr).mono ?_; rintro e w1 ⟨rfl, rfl⟩) | (go_at_call 17; refine (specIn _ _ _ _).mono ?_; rintro e w1 ⟨rfl, rfl⟩) | (go_at_call 18; refine (hat _).mono ?_; rintro e w1 ⟨rfl, b1⟩))
        go_ret
        exact ⟨rfl, b1⟩
      · have i3 := inB_no h3
        rw [sampleAt_no3 h3]
        go_enter Tryd.func7, Tryd.ntmps7
        go_wp2_with (first | (go_at_call 16; refine (specIsSum _ _ hr).mono ?_; rintro e w1 ⟨rfl, rfl⟩) | (go_at_call 17; refine (specIn _ _ _ _).mono ?_; rintro e w1 ⟨rfl, rfl⟩))
        go_ret
        exact ⟨rfl, Below.refl _ _⟩
    · have i2 := inB_no h2
      rw [sampleAt_no2 h2]
      go_enter Tryd.func7, Tryd.ntmps7
      go_wp2_with (first | (go_at_call 16; refine (specIsSum _ _ hr).mono ?_; rintro e w1 ⟨rfl, rfl⟩) | (go_at_call 17; refine (specIn _ _ _ _).mono ?_; rintro e w1 ⟨rfl, rfl⟩))
      go_ret
      exact ⟨rfl, Below.refl _ _⟩

set_option maxHeartbeats 1000000 in
set_option maxRecDepth 100000 in
theorem walk_FnExactSampleAt (r : ByteArray) (k work : Int) (w : World) (hr : r.size ≤ maxLen) (_ : (Lit.int .i64 k).wf = true) (_ : (Lit.int .i64 work).wf = true) (hK : RowG w shaK) :
    Calls Tryd.prog 3 #[.string r, .int .i64 k, .int .i64 work] w fun e w' => e = .returned (.bool true) ∧ Below w.heap.size w w' := by
  have HK : Hid (RowG w shaK) := hK
  clear hK
  by_cases hl : (1048576 : Int) < (r.size : Int)
  · go_enter Tryd.func3, Tryd.ntmps3
    go_wp2
    go_ret
    exact ⟨rfl, Below.refl _ _⟩
  have hsp := specSampleAt r k work w hr
  have him := fun w' h' => implSampleAt r k work w' h'
  generalize sampleAt r.data.toList k work = z at hsp him
  go_enter Tryd.func3, Tryd.ntmps3
  go_wp2_with fail
  refine hsp.mono ?_
  rintro e w1 ⟨rfl, b1⟩
  go_wp2_with fail
  refine (him _ (HK.out.below b1 HK.out.lt)).mono ?_
  rintro e w2 ⟨rfl, b2⟩
  go_wp2_with fail
  go_ret
  exact ⟨rfl, b1.trans (b2.mono b1.size)⟩

end Go.Proofs.YtaahmbooagocgaaDoor
