/-
  Texts that the last part needs, joined.
-/
import Derived.Test.YtpddholoehmjkaaGreatDoorPart1
import Derived.Test.YtpddholoehmjkaaGreatDoorPart2
import Derived.WalkSpells
import Derived.Test.YtpddholoehmjkaaGreatDoorProg
import Derived.WalkKit
import Derived.Below
import Derived.Shelf.Strconv.Itoa3
import Derived.Lib.Builder
import Derived.Deep.RegionWith
import Derived.ChangeArms
import Derived.WideShapes
import Derived.OpenShut
import Derived.ProofKit
import Derived.ChangeOld
import Derived.ShutString
import Derived.Deep.Slices
import Derived.DataReads
import Derived.BigRegion
import Derived.Deep.OwnRows
import Derived.Laws.Rows
import Derived.BigQuiet
import Derived.Deep.QuietTactic
import Derived.Laws.BitsLemmas
import Derived.SliceStrings
set_option linter.unusedVariables false
namespace Go.Proofs.YtpddholoehmjkaaGreatDoor
open Go.RowKit

theorem figIndex (b : UInt8) (w : World) :
    Calls Tryz.prog 112 #[.string ⟨#[48, 49, 50, 51, 52, 53, 54, 55, 56, 57, 97, 98, 99, 100, 101, 102]⟩, .int .u8 b.toNat] w fun e w' => e = .returned (.int .i64 (figAt b)) ∧ w = w' := by
  refine (Tryz.strings_IndexByte _ _ _).mono ?_
  rintro e w' ⟨rfl, rfl⟩
  refine ⟨?_, rfl⟩
  have : ((b.toNat : Int).toNat).toUInt8 = b := by simp
  rw [this]
  exact congrArg (fun x => Ending.returned (Value.int .i64 x)) (figAt_eq b)

set_option maxHeartbeats 2000000 in
set_option maxRecDepth 100000 in
theorem implSumOk (s : ByteArray) (w : World) :
    Calls Tryz.prog 66 #[.string s] w fun e w' => e = .returned (.bool (isSum s.data.toList)) ∧ w = w' := by
  by_cases hl : s.size = 16
  · have hl' : ((s.size : Int) != 16) = false := by simp [hl]
    go_enter Tryz.func66, Tryz.ntmps66
    go_wp2
    go_loop [9] (fun i => ∃ k : Nat, k ≤ s.size ∧ i = .int .i64 k ∧ Hid (∀ j (hj : j < s.size), j < k → hexB s[j] = true)) (fun i => s.size - (intOf i).toNat)
    case atStart => exact ⟨0, by omega, rfl, fun j hj h => by omega⟩
    case round =>
      obtain ⟨k, hk, rfl, hall⟩ := hrel
      by_cases hlt : k < s.size
      · cases hx : hexB s[k] with
        | true =>
          have hf : ¬ figAt s[k] < 0 := by rw [figAt_yes _ hx]; omega
          go_wp2_with (go_at_call 112; refine (figIndex _ _).mono ?_; rintro e w1 ⟨rfl, rfl⟩)
          go_round
          case rel =>
            refine ⟨k + 1, by omega, by go_num, ?_⟩
            intro j hj hjk
            rcases Nat.lt_or_ge j k with h | h
            · exact hall.out j hj h
            · obtain rfl : j = k := by omega
              exact hx
          case measure => simp [intOf]; omega
        | false =>
          have hf : figAt s[k] < 0 := by rw [figAt_no _ hx]; decide
          have hno := isSum_no k hlt hx
          go_wp2_with (go_at_call 112; refine (figIndex _ _).mono ?_; rintro e w1 ⟨rfl, rfl⟩)
          go_ret
          rw [hno]
          exact ⟨rfl, rfl⟩
      · have hyes := isSum_yes hl (fun j hj => hall.out j hj (by omega))
        go_wp2
        go_ret
        exact ⟨rfl, rfl⟩
  · have hl' : ((s.size : Int) != 16) = true := by simp; omega
    have hno : isSum s.data.toList = false := by
      cases hh : isSum s.data.toList with
      | false => rfl
      | true => exact absurd (by simpa using isSum_len hh) hl
    go_enter Tryz.func66, Tryz.ntmps66
    go_wp2
    go_ret
    rw [hno]
    exact ⟨rfl, rfl⟩

set_option maxHeartbeats 2000000 in
set_option maxRecDepth 100000 in
theorem implSumHead (s : ByteArray) (w : World) :
    Calls Tryz.prog 148 #[.string s] w fun e w' => e = .returned (.int .i64 (sumHead s.data.toList)) ∧ w = w' := by
  cases hx : isSum s.data.toList with
  | false =>
    have hv : sumHead s.data.toList = -1 := by simp [sumHead, hx]
    rw [hv]
    go_enter Tryz.func148, Tryz.ntmps148
    go_wp2_with (go_at_call 66; refine (implSumOk _ _).mono ?_; rintro e w1 ⟨rfl, rfl⟩)
    go_ret
    exact ⟨rfl, rfl⟩
  | true =>
    have HV : Hid (sumHead s.data.toList = ((hexN (s.data.toList.take 8) / 2 : Nat) : Int)) := by simp [Hid, sumHead, hx]
    have hsz : s.size = 16 := by simpa using isSum_len hx
    have HX : Hid (isSum s.data.toList = true) := hx
    go_enter Tryz.func148, Tryz.ntmps148
    go_wp2_with (go_at_call 66; refine (implSumOk _ _).mono ?_; rintro e w1 ⟨rfl, rfl⟩)
    clear hx
    go_loop [3, 8] (fun h i => ∃ k n : Nat, k ≤ 8 ∧ i = .int .i64 k ∧ h = .int .u32 n ∧ Hid (n = hexN (s.data.toList.take k))) (fun _ i => 8 - (intOf i).toNat)
    case atStart => exact ⟨0, 0, by omega, rfl, rfl, rfl⟩
    case round =>
      obtain ⟨k, n, hk, rfl, rfl, hn⟩ := hrel
      by_cases hlt : k < 8
      · have hks : k < s.size := by omega
        have hxk := isSum_at HX.out k hks
        have hf : figAt s[k] = (hexV s[k] : Int) := figAt_yes _ hxk
        have hvl := hexV_lt _ hxk
        have hall : (s.data.toList.take k).all hexB = true := by
          rw [List.all_eq_true]
          intro b hb
          have := HX.out
          simp only [isSum, Bool.and_eq_true, List.all_eq_true] at this
          exact this.2 b (List.mem_of_mem_take hb)
        have hle := hexN_le _ hall
        rw [take_len s k (by omega), ← hn.out] at hle
        have h7 : 16 ^ k ≤ 16 ^ 7 := Nat.pow_le_pow_right (by decide) (by omega)
        have hor := or16 n (hexV s[k]) (by omega) hvl
        have HN : Hid (n * 16 + hexV s[k] = hexN (s.data.toList.take (k + 1))) := by
          have := hexN_snoc (s.data.toList.take k) s[k]
          rw [← take_snoc s k hks, ← hn.out] at this
          exact this.symm
        clear hall hle h7
        go_wp2_with (go_at_call 112; refine (figIndex _ _).mono ?_; rintro e w1 ⟨rfl, rfl⟩)
        go_round
        case rel => exact ⟨k + 1, _, by omega, by go_num, rfl, HN⟩
        case measure => simp [intOf]; omega
      · obtain rfl : k = 8 := by omega
        have hall : (s.data.toList.take 8).all hexB = true := by
          rw [List.all_eq_true]
          intro b hb
          have := HX.out
          simp only [isSum, Bool.and_eq_true, List.all_eq_true] at this
          exact this.2 b (List.mem_of_mem_take hb)
        have hle := hexN_le _ hall
        rw [take_len s 8 (by omega), ← hn.out] at hle
        clear hall
        go_wp2
        go_ret
        rw [HV.out, ← hn.out]
        exact ⟨by simp, rfl⟩

end Go.Proofs.YtpddholoehmjkaaGreatDoor

set_option linter.unusedVariables false
namespace Go.Proofs.YtpddholoehmjkaaGreatDoor
open Go.RowKit

def figB (b : UInt8) : Bool := decide (48 ≤ b.toNat ∧ b.toNat ≤ 57)
theorem specFigure (b : UInt8) (w : World) :
    Calls Tryz.prog 132 #[.int .u8 b.toNat] w fun e w' => e = .returned (.bool (figB b)) ∧ w = w' := by
  by_cases h1 : (48 : Int) ≤ (b.toNat : Int)
  · by_cases h2 : (b.toNat : Int) ≤ 57
    · have h3 : figB b = true := decide_eq_true (by omega)
      rw [h3]
      go_enter Tryz.func132, Tryz.ntmps132
      go_wp2
      go_ret
      exact ⟨rfl, rfl⟩
    · have h3 : figB b = false := decide_eq_false (by omega)
      have h4 : decide ((b.toNat : Int) ≤ 57) = false := decide_eq_false h2
      rw [h3]
      go_enter Tryz.func132, Tryz.ntmps132
      go_wp2
      go_ret
      exact ⟨rfl, rfl⟩
  · have h3 : figB b = false := decide_eq_false (by omega)
    have h4 : decide ((48 : Int) ≤ (b.toNat : Int)) = false := decide_eq_false h1
    rw [h3]
    go_enter Tryz.func132, Tryz.ntmps132
    go_wp2
    go_ret
    exact ⟨rfl, rfl⟩

set_option maxHeartbeats 2000000 in
set_option maxRecDepth 100000 in
theorem specIsSum (s : ByteArray) (w : World) (hs : s.size ≤ maxLen) :
    Calls Tryz.prog 171 #[.string s] w fun e w' => e = .returned (.bool (isSum s.data.toList)) ∧ w = w' := by
  unfold maxLen at hs
  go_enter Tryz.func171, Tryz.ntmps171
  go_wp2
  go_loop [3] (fun i => ∃ k : Nat, k ≤ s.size ∧ i = .int .i64 k ∧ Hid (∀ j (hj : j < s.size), j < k → hexB s[j] = true)) (fun i => s.size - (intOf i).toNat)
  case atStart => exact ⟨0, by omega, rfl, fun j hj h => by omega⟩
  case round =>
    obtain ⟨k, hk, rfl, hall⟩ := hrel
    by_cases hlt : k < s.size
    · cases hx : hexB s[k] with
      | true =>
        have hxx := of_decide_eq_true hx
        have HX : Hid (hexB s[k] = true) := hx
        by_cases hfg : figB s[k] = true
        · clear hx
          go_wp2_with (go_at_call 132; refine (specFigure _ _).mono ?_; rintro e w1 ⟨rfl, rfl⟩)
          go_round
          case rel =>
            refine ⟨k + 1, by omega, by go_num, ?_⟩
            intro j hj hjk
            rcases Nat.lt_or_ge j k with h | h
            · exact hall.out j hj h
            · obtain rfl : j = k := by omega
              exact HX.out
          case measure => simp [intOf]; omega
        · have hff : figB s[k] = false := by simpa using hfg
          have h97 : ¬ (s[k].toNat : Int) < 97 := by
            have : ¬ (48 ≤ s[k].toNat ∧ s[k].toNat ≤ 57) := of_decide_eq_false hff
            omega
          have h102 : ¬ (102 : Int) < (s[k].toNat : Int) := by omega
          clear hx hxx hfg
          go_wp2_with (go_at_call 132; refine (specFigure _ _).mono ?_; rintro e w1 ⟨rfl, rfl⟩)
          go_round
          case rel =>
            refine ⟨k + 1, by omega, by go_num, ?_⟩
            intro j hj hjk
            rcases Nat.lt_or_ge j k with h | h
            · exact hall.out j hj h
            · obtain rfl : j = k := by omega
              exact HX.out
          case measure => simp [intOf]; omega
      | false =>
        have hno := isSum_no k hlt hx
        have hxx := of_decide_eq_false hx
        have hff : figB s[k] = false := decide_eq_false (by omega)
        have HNO : Hid (isSum s.data.toList = false) := hno
        clear hx hno
        by_cases h97 : (s[k].toNat : Int) < 97
        · go_wp2_with (go_at_call 132; refine (specFigure _ _).mono ?_; rintro e w1 ⟨rfl, rfl⟩)
          go_ret
          rw [HNO.out]
          exact ⟨rfl, rfl⟩
        · have h102 : (102 : Int) < (s[k].toNat : Int) := by omega
          go_wp2_with (go_at_call 132; refine (specFigure _ _).mono ?_; rintro e w1 ⟨rfl, rfl⟩)
          go_ret
          rw [HNO.out]
          exact ⟨rfl, rfl⟩
    · by_cases hl : s.size = 16
      · have hyes := isSum_yes hl (fun j hj => hall.out j hj (by omega))
        have hl' : ((s.size : Int) == 16) = true := by simp [hl]
        have HY : Hid (isSum s.data.toList = true) := hyes
        clear hyes hl
        go_wp2
        go_ret
        rw [HY.out]
        exact ⟨rfl, rfl⟩
      · have hl' : ((s.size : Int) == 16) = false := by simp; omega
        have hno : isSum s.data.toList = false := by
          cases hh : isSum s.data.toList with
          | false => rfl
          | true => exact absurd (by simpa using isSum_len hh) hl
        have HNO : Hid (isSum s.data.toList = false) := hno
        clear hno
        go_wp2
        go_ret
        rw [HNO.out]
        exact ⟨rfl, rfl⟩

set_option maxHeartbeats 2000000 in
set_option maxRecDepth 100000 in
theorem specHead (s : ByteArray) (w : World) (HX : Hid (isSum s.data.toList = true)) :
    Calls Tryz.prog 172 #[.string s] w fun e w' => e = .returned (.int .i64 ((hexN (s.data.toList.take 8) / 2 : Nat) : Int)) ∧ w = w' := by
  have hsz : s.size = 16 := by simpa using isSum_len HX.out
  go_enter Tryz.func172, Tryz.ntmps172
  go_wp2
  go_loop [3, 4] (fun h i => ∃ k n : Nat, k ≤ 8 ∧ i = .int .i64 k ∧ h = .int .i64 n ∧ Hid (n = hexN (s.data.toList.take k))) (fun _ i => 8 - (intOf i).toNat)
  case atStart => exact ⟨0, 0, by omega, rfl, rfl, rfl⟩
  case round =>
    obtain ⟨k, n, hk, rfl, rfl, hn⟩ := hrel
    have hall : (s.data.toList.take k).all hexB = true := by
      rw [List.all_eq_true]
      intro b hb
      have := HX.out
      simp only [isSum, Bool.and_eq_true, List.all_eq_true] at this
      exact this.2 b (List.mem_of_mem_take hb)
    have hle := hexN_le _ hall
    rw [take_len s k (by omega), ← hn.out] at hle
    have h8 : 16 ^ k ≤ 16 ^ 8 := Nat.pow_le_pow_right (by decide) (by omega)
    have hn8 : n < 4294967296 := by omega
    clear hall hle h8
    by_cases hlt : k < 8
    · have hks : k < s.size := by omega
      have hxk := isSum_at HX.out k hks
      have hxx := of_decide_eq_true hxk
      have HN : Hid (n * 16 + hexV s[k] = hexN (s.data.toList.take (k + 1))) := by
        have := hexN_snoc (s.data.toList.take k) s[k]
        rw [← take_snoc s k hks, ← hn.out] at this
        exact this.symm
      by_cases h97 : (97 : Int) ≤ (s[k].toNat : Int)
      · have hv : hexV s[k] = s[k].toNat - 87 := by unfold hexV; rw [if_neg (by omega)]
        rw [hv] at HN
        clear hxk hv
        go_wp2
        go_round
        case rel => exact ⟨k + 1, n * 16 + (s[k].toNat - 87), by omega, by go_num, by go_num, HN⟩
        case measure => simp [intOf]; omega
      · have hv : hexV s[k] = s[k].toNat - 48 := by unfold hexV; rw [if_pos (by omega)]
        rw [hv] at HN
        have h48 : (48 : Int) ≤ (s[k].toNat : Int) := by omega
        clear hxk hv
        go_wp2
        go_round
        case rel => exact ⟨k + 1, n * 16 + (s[k].toNat - 48), by omega, by go_num, by go_num, HN⟩
        case measure => simp [intOf]; omega
    · obtain rfl : k = 8 := by omega
      go_wp2
      go_ret
      rw [← hn.out]
      exact ⟨by simp, rfl⟩

end Go.Proofs.YtpddholoehmjkaaGreatDoor

set_option linter.unusedVariables false
namespace Go.Proofs.YtpddholoehmjkaaGreatDoor
open Go.RowKit

theorem convOne (W : World) (g d : Nat) (hd : d < 256) (h : W.cell? ⟨g, 0, none⟩ = some (.int .u8 (d : Int))) : (convert 35 9 (.slice (some ⟨g, 0, none⟩) 1 1)).run Tryz.prog W = .ok (.string ⟨#[UInt8.ofNat d]⟩) W := by
  refine run_convert_bytes_back (P := Tryz.prog) _ 35 9 5 ⟨g, 0, none⟩ 1 [UInt8.ofNat d] Tryz.underlying35 Tryz.underlying5 Tryz.underlying9 ?_
  intro j hj
  obtain rfl : j = 0 := by simpa using hj
  have e : ([UInt8.ofNat d][0].toNat : Int) = (d : Int) := by simp [Nat.mod_eq_of_lt hd]
  have e2 : (⟨g, 0, none⟩ : Addr).add 0 = ⟨g, 0, none⟩ := rfl
  rw [e2, h]
  first | rw [e] | simp [Nat.mod_eq_of_lt hd]
theorem nDig_le : ∀ (k u : Nat), u < 10 ^ (k + 1) → Lib.nDigits u ≤ k + 1
  | 0, u, h => by rw [Lib.nDigits_small (by omega)]; omega
  | k + 1, u, h => by
    by_cases h1 : u < 10
    · rw [Lib.nDigits_small h1]; omega
    · rw [Lib.nDigits_big h1]
      have := nDig_le k (u / 10) (by rw [Nat.pow_succ] at h; omega)
      omega
theorem decLen {n : Nat} (h : n ≤ 1000000000000000000) : (Lib.decDigits n).length ≤ 19 := by
  rw [Lib.decDigits_length]
  exact nDig_le 18 n (by omega)
theorem cellOne (w : World) (v : Value) : (w.alloc (.cells #[v] 5)).cell? ⟨w.heap.size, 0, none⟩ = some v := by
  rw [Lib.cell_of_heap (heap_alloc_new _ _)]
  rfl

set_option maxHeartbeats 1000000 in
set_option maxRecDepth 100000 in
theorem specDec1 (n : Nat) (w : World) (hn : n < 10) :
    Calls Tryz.prog 175 #[.int .i64 (n : Int)] w fun e w' => e = .returned (.string ⟨(Lib.decDigits n).toArray⟩) ∧ Below w.heap.size w w' := by
  have l1 : ¬ (n : Int) < -9223372036854775807 := by omega
  have l2 : ¬ (n : Int) < 0 := by omega
  have l3 : (n : Int) < 10 := by omega
  have hcv := convOne _ w.heap.size (48 + n) (by omega) (cellOne w _)
  have e : ((48 + n : Nat) : Int) = 48 + (n : Int) := by omega
  rw [e] at hcv
  rw [Lib.decDigits_one hn]
  go_enter Tryz.func175, Tryz.ntmps175
  go_wp2
  go_ret
  exact ⟨rfl, (Below.refl _ w).alloc (Nat.le_refl _) _⟩

set_option maxHeartbeats 1000000 in
set_option maxRecDepth 100000 in
theorem specDec (n : Nat) : ∀ (w : World), n ≤ 1000000000000000000 →
    Calls Tryz.prog 175 #[.int .i64 (n : Int)] w fun e w' => e = .returned (.string ⟨(Lib.decDigits n).toArray⟩) ∧ Below w.heap.size w w' := by
  induction n using Nat.strongRecOn with
  | ind n ih =>
    intro w hn
    by_cases h10 : n < 10
    · exact specDec1 n w h10
    · have l1 : ¬ (n : Int) < -9223372036854775807 := by omega
      have l2 : ¬ (n : Int) < 0 := by omega
      have l3 : ¬ (n : Int) < 10 := by omega
      have hr := fun w' => ih (n / 10) (by omega) w' (by omega)
      have e1 : (n : Int).tdiv 10 = ((n / 10 : Nat) : Int) := by rw [Int.tdiv_eq_ediv_of_nonneg (by omega)]; omega
      have e3 : (n : Int) / 10 = ((n / 10 : Nat) : Int) := by omega
      have e4 : (n : Int) % 10 = ((n % 10 : Nat) : Int) := by omega
      have e2 : (n : Int).tmod 10 = ((n % 10 : Nat) : Int) := by rw [Int.tmod_eq_emod_of_nonneg (by omega)]; omega
      have hd : Lib.decDigits n = Lib.decDigits (n / 10) ++ [UInt8.ofNat (48 + n % 10)] := by rw [Lib.decDigits, dif_neg h10]
      have hcv := fun W g (h : W.cell? ⟨g, 0, none⟩ = some (.int .u8 (48 + ((n % 10 : Nat) : Int)))) => convOne W g (48 + n % 10) (by omega) h
      have hlen : (Lib.decDigits (n / 10)).length ≤ 1000 := by
        rw [Lib.decDigits_length]
        have := nDig_le 18 (n / 10) (by omega)
        omega
      rw [hd]
      have lm : ((n % 10 : Nat) : Int) < 10 := by omega
      have lm0 : (0 : Int) ≤ ((n % 10 : Nat) : Int) := by omega
      generalize n / 10 = q at hr e1 e3 hd hlen
      generalize n % 10 = r at hcv e2 e4 hd lm lm0
      generalize Lib.decDigits q = dq at hr hd hlen
      have hwq : IntKind.i64.wrap (q : Int) = (q : Int) := by rw [IntKind.wrap_i64]; omega
      have hw48 : IntKind.i64.wrap (48 + (r : Int)) = 48 + (r : Int) := by rw [IntKind.wrap_i64]; omega
      have hw8 : IntKind.u8.wrap (48 + (r : Int)) = 48 + (r : Int) := by rw [IntKind.wrap_u8]; omega
      generalize UInt8.ofNat (48 + r) = u at hcv hd ⊢
      clear hd ih
      go_enter Tryz.func175, Tryz.ntmps175
      go_wp2_with fail
      go_region_with (go_at_call 175; refine (hr _).mono ?_; rintro e w1 ⟨rfl, b1⟩; try (have q1 := (b1.cell (p := ⟨w.heap.size, 0, none⟩) (by simp)).trans (cellOne w _)))
      all_goals
        go_wp2_with fail
        go_ret
        have HEQ : Hid ((⟨dq.toArray⟩ ++ ⟨#[u]⟩ : ByteArray) = ⟨(dq ++ [u]).toArray⟩) := by
          show _ = _
          apply ByteArray.ext
          simp
        refine ⟨?_, ?_⟩
        · rw [← HEQ.out]
          rfl
        · first
            | exact (((Below.refl w.heap.size w).drew).trans b1).alloc b1.size _
            | exact (((Below.refl w.heap.size w).alloc (Nat.le_refl _) _).drew).trans (b1.mono (by simp))

end Go.Proofs.YtpddholoehmjkaaGreatDoor

set_option linter.unusedVariables false
namespace Go.Proofs.YtpddholoehmjkaaGreatDoor
open Go.RowKit

structure HeadV where
  prev : ByteArray
  root : ByteArray
  time : Int
  diff : Int
  nonce : Int
instance : Inhabited HeadV := ⟨⟨⟨#[]⟩, ⟨#[]⟩, 0, 0, 0⟩⟩
def headOkB (h : HeadV) : Bool := isSum h.prev.data.toList && (isSum h.root.data.toList && (decide (0 ≤ h.time ∧ h.time ≤ 99999) && (decide (1 ≤ h.diff ∧ h.diff ≤ 8) && decide (0 ≤ h.nonce ∧ h.nonce ≤ 400))))
/-- The five texts of a head. -/
def headL (h : HeadV) : List ByteArray := [h.prev, h.root, ⟨(Lib.decDigits h.time.toNat).toArray⟩, ⟨(Lib.decDigits h.diff.toNat).toArray⟩, ⟨(Lib.decDigits h.nonce.toNat).toArray⟩]
def headT (h : HeadV) : List UInt8 := joinTo (headL h) [32] 4
def headPut (h : HeadV) : List UInt8 := if headOkB h = true then headT h else []
theorem headOk_in {h : HeadV} (hh : headOkB h = true) : isSum h.prev.data.toList = true ∧ isSum h.root.data.toList = true ∧ (0 ≤ h.time ∧ h.time ≤ 99999) ∧ (1 ≤ h.diff ∧ h.diff ≤ 8) ∧ 0 ≤ h.nonce ∧ h.nonce ≤ 400 := by
  simp only [headOkB, Bool.and_eq_true, decide_eq_true_eq] at hh
  exact hh

set_option maxHeartbeats 2000000 in
set_option maxRecDepth 100000 in
theorem implHeadOk (h : HeadV) (w : World) :
    Calls Tryz.prog 124 #[.agg #[.string h.prev, .string h.root, .int .i64 h.time, .int .i64 h.diff, .int .i64 h.nonce]] w fun e w' => e = .returned (.bool (headOkB h)) ∧ Below w.heap.size w w' := by
  have hb : ∀ o, Below w.heap.size w (w.alloc o) := fun o => (Below.refl _ w).alloc (Nat.le_refl _) o
  by_cases h1 : isSum h.prev.data.toList = false
  · have e : headOkB h = false := by simp [headOkB, h1]
    rw [e]
    clear e
    go_enter Tryz.func124, Tryz.ntmps124
    go_wp2_with (go_at_call 66; refine (implSumOk _ _).mono ?_; rintro e w1 ⟨rfl, rfl⟩)
    go_ret
    exact ⟨rfl, hb _⟩
  have k1 : isSum h.prev.data.toList = true := by simpa using h1
  clear h1
  by_cases h2 : isSum h.root.data.toList = false
  · have e : headOkB h = false := by simp [headOkB, h2]
    rw [e]
    clear e
    go_enter Tryz.func124, Tryz.ntmps124
    go_wp2_with (go_at_call 66; refine (implSumOk _ _).mono ?_; rintro e w1 ⟨rfl, rfl⟩)
    go_ret
    exact ⟨rfl, hb _⟩
  have k2 : isSum h.root.data.toList = true := by simpa using h2
  clear h2
  by_cases h3 : h.time < 0
  · have e : headOkB h = false := by
      cases hh : headOkB h with
      | false => rfl
      | true => have := headOk_in hh; omega
    rw [e]
    clear e
    go_enter Tryz.func124, Tryz.ntmps124
    go_wp2_with (go_at_call 66; refine (implSumOk _ _).mono ?_; rintro e w1 ⟨rfl, rfl⟩)
    go_ret
    exact ⟨rfl, hb _⟩
  by_cases h4 : 99999 < h.time
  · have e : headOkB h = false := by
      cases hh : headOkB h with
      | false => rfl
      | true => have := headOk_in hh; omega
    rw [e]
    clear e
    go_enter Tryz.func124, Tryz.ntmps124
    go_wp2_with (go_at_call 66; refine (implSumOk _ _).mono ?_; rintro e w1 ⟨rfl, rfl⟩)
    go_ret
    exact ⟨rfl, hb _⟩
  by_cases h5 : h.diff < 1
  · have e : headOkB h = false := by
      cases hh : headOkB h with
      | false => rfl
      | true => have := headOk_in hh; omega
    rw [e]
    clear e
    go_enter Tryz.func124, Tryz.ntmps124
    go_wp2_with (go_at_call 66; refine (implSumOk _ _).mono ?_; rintro e w1 ⟨rfl, rfl⟩)
    go_ret
    exact ⟨rfl, hb _⟩
  by_cases h6 : 8 < h.diff
  · have e : headOkB h = false := by
      cases hh : headOkB h with
      | false => rfl
      | true => have := headOk_in hh; omega
    rw [e]
    clear e
    go_enter Tryz.func124, Tryz.ntmps124
    go_wp2_with (go_at_call 66; refine (implSumOk _ _).mono ?_; rintro e w1 ⟨rfl, rfl⟩)
    go_ret
    exact ⟨rfl, hb _⟩
  by_cases h7 : h.nonce < 0
  · have e : headOkB h = false := by
      cases hh : headOkB h with
      | false => rfl
      | true => have := headOk_in hh; omega
    rw [e]
    clear e
    go_enter Tryz.func124, Tryz.ntmps124
    go_wp2_with (go_at_call 66; refine (implSumOk _ _).mono ?_; rintro e w1 ⟨rfl, rfl⟩)
    go_ret
    exact ⟨rfl, hb _⟩
  have e : headOkB h = decide (h.nonce ≤ 400) := by
    rw [headOkB, k1, k2, Bool.true_and, Bool.true_and, Bool.eq_iff_iff]
    simp
    omega
  rw [e]
  clear e
  go_enter Tryz.func124, Tryz.ntmps124
  go_wp2_with (go_at_call 66; refine (implSumOk _ _).mono ?_; rintro e w1 ⟨rfl, rfl⟩)
  go_ret
  exact ⟨rfl, hb _⟩

set_option maxHeartbeats 2000000 in
set_option maxRecDepth 100000 in
theorem specL3Ok (h : HeadV) (w : World) (hp : h.prev.size ≤ maxLen) (hr : h.root.size ≤ maxLen) :
    Calls Tryz.prog 129 #[.agg #[.string h.prev, .string h.root, .int .i64 h.time, .int .i64 h.diff, .int .i64 h.nonce]] w fun e w' => e = .returned (.bool (headOkB h)) ∧ Below w.heap.size w w' := by
  have hb : ∀ o, Below w.heap.size w (w.alloc o) := fun o => (Below.refl _ w).alloc (Nat.le_refl _) o
  by_cases h1 : isSum h.prev.data.toList = false
  · have e : headOkB h = false := by simp [headOkB, h1]
    rw [e]
    clear e
    go_enter Tryz.func129, Tryz.ntmps129
    go_wp2_with (first | (go_at_call_of 171 (Value.string h.prev); refine (specIsSum _ _ hp).mono ?_; rintro e w1 ⟨rfl, rfl⟩) | (go_at_call_of 171 (Value.string h.root); refine (specIsSum _ _ hr).mono ?_; rintro e w1 ⟨rfl, rfl⟩) | (go_at_call 90; refine (specIn _ _ _ _).mono ?_; rintro e w1 ⟨rfl, rfl⟩))
    go_ret
    exact ⟨rfl, hb _⟩
  have k1 : isSum h.prev.data.toList = true := by simpa using h1
  clear h1
  by_cases h2 : isSum h.root.data.toList = false
  · have e : headOkB h = false := by simp [headOkB, h2]
    rw [e]
    clear e
    go_enter Tryz.func129, Tryz.ntmps129
    go_wp2_with (first | (go_at_call_of 171 (Value.string h.prev); refine (specIsSum _ _ hp).mono ?_; rintro e w1 ⟨rfl, rfl⟩) | (go_at_call_of 171 (Value.string h.root); refine (specIsSum _ _ hr).mono ?_; rintro e w1 ⟨rfl, rfl⟩) | (go_at_call 90; refine (specIn _ _ _ _).mono ?_; rintro e w1 ⟨rfl, rfl⟩))
    go_ret
    exact ⟨rfl, hb _⟩
  have k2 : isSum h.root.data.toList = true := by simpa using h2
  clear h2
  by_cases h3 : ¬ (0 ≤ h.time ∧ h.time ≤ 99999)
  · have e : headOkB h = false := by
      cases hh : headOkB h with
      | false => rfl
      | true => have := headOk_in hh; omega
    have i3 := inB_no h3
    rw [e]
    clear e
    go_enter Tryz.func129, Tryz.ntmps129
    go_wp2_with (first | (go_at_call_of 171 (Value.string h.prev); refine (specIsSum _ _ hp).mono ?_; rintro e w1 ⟨rfl, rfl⟩) | (go_at_call_of 171 (Value.string h.root); refine (specIsSum _ _ hr).mono ?_; rintro e w1 ⟨rfl, rfl⟩) | (go_at_call 90; refine (specIn _ _ _ _).mono ?_; rintro e w1 ⟨rfl, rfl⟩))
    go_ret
    exact ⟨rfl, hb _⟩
  have i3 := inB_yes (by simpa using h3 : 0 ≤ h.time ∧ h.time ≤ 99999)
  by_cases h4 : ¬ (1 ≤ h.diff ∧ h.diff ≤ 8)
  · have e : headOkB h = false := by
      cases hh : headOkB h with
      | false => rfl
      | true => have := headOk_in hh; omega
    have i4 := inB_no h4
    rw [e]
    clear e
    go_enter Tryz.func129, Tryz.ntmps129
    go_wp2_with (first | (go_at_call_of 171 (Value.string h.prev); refine (specIsSum _ _ hp).mono ?_; rintro e w1 ⟨rfl, rfl⟩) | (go_at_call_of 171 (Value.string h.root); refine (specIsSum _ _ hr).mono ?_; rintro e w1 ⟨rfl, rfl⟩) | (go_at_call 90; refine (specIn _ _ _ _).mono ?_; rintro e w1 ⟨rfl, rfl⟩))
    go_ret
    exact ⟨rfl, hb _⟩
  have i4 := inB_yes (by simpa using h4 : 1 ≤ h.diff ∧ h.diff ≤ 8)
  by_cases h5 : ¬ (0 ≤ h.nonce ∧ h.nonce ≤ 400)
  · have e : headOkB h = false := by
      cases hh : headOkB h with
      | false => rfl
      | true => have := headOk_in hh; omega
    have i5 := inB_no h5
    rw [e]
    clear e
    go_enter Tryz.func129, Tryz.ntmps129
    go_wp2_with (first | (go_at_call_of 171 (Value.string h.prev); refine (specIsSum _ _ hp).mono ?_; rintro e w1 ⟨rfl, rfl⟩) | (go_at_call_of 171 (Value.string h.root); refine (specIsSum _ _ hr).mono ?_; rintro e w1 ⟨rfl, rfl⟩) | (go_at_call 90; refine (specIn _ _ _ _).mono ?_; rintro e w1 ⟨rfl, rfl⟩))
    go_ret
    exact ⟨rfl, hb _⟩
  have i5 := inB_yes (by simpa using h5 : 0 ≤ h.nonce ∧ h.nonce ≤ 400)
  have e : headOkB h = true := by
    rw [headOkB, k1, k2]
    simp
    omega
  rw [e]
  clear e
  go_enter Tryz.func129, Tryz.ntmps129
  go_wp2_with (first | (go_at_call_of 171 (Value.string h.prev); refine (specIsSum _ _ hp).mono ?_; rintro e w1 ⟨rfl, rfl⟩) | (go_at_call_of 171 (Value.string h.root); refine (specIsSum _ _ hr).mono ?_; rintro e w1 ⟨rfl, rfl⟩) | (go_at_call 90; refine (specIn _ _ _ _).mono ?_; rintro e w1 ⟨rfl, rfl⟩))
  go_ret
  exact ⟨rfl, hb _⟩

end Go.Proofs.YtpddholoehmjkaaGreatDoor

set_option linter.unusedVariables false
namespace Go.Proofs.YtpddholoehmjkaaGreatDoor
open Go.ChangeShapes Go.WideShapes Go.ChangeAt Go.RowKit

def headVal (h : HeadV) : Value := .agg #[.string h.prev, .string h.root, .int .i64 h.time, .int .i64 h.diff, .int .i64 h.nonce]
structure HeadWf (h : HeadV) : Prop where
  p : h.prev.size ≤ maxLen
  r : h.root.size ≤ maxLen
  t : (Lit.int .i64 h.time).wf = true
  d : (Lit.int .i64 h.diff).wf = true
  n : (Lit.int .i64 h.nonce).wf = true
theorem five_of_parts {cs : Array Value} {a b c d e : Value} (hl : cs.toList.length = 5) (h0 : (cs.toList.drop 0).take 1 = [a]) (h1 : (cs.toList.drop 1).take 1 = [b]) (h2 : (cs.toList.drop 2).take 1 = [c]) (h3 : (cs.toList.drop 3).take 1 = [d]) (h4 : (cs.toList.drop 4).take 1 = [e]) : cs = #[a, b, c, d, e] := by
  obtain ⟨l⟩ := cs
  match l, hl with
  | [x0, x1, x2, x3, x4], _ =>
    simp at h0 h1 h2 h3 h4
    subst h0 h1 h2 h3 h4
    rfl
theorem cellsStr : Tryz.prog.cellsOf 9 = 1 := by kernel_rfl
theorem cellsInt : Tryz.prog.cellsOf 3 = 1 := by kernel_rfl
theorem cellsLHead : Tryz.prog.cellsOf 61 = 5 := by kernel_rfl
set_option maxRecDepth 100000 in
theorem open_head {H : Type} {enc : TypeId × Value → H} {W : World} {base b0 : Nat} {sp : Nat → Bool} {held : Bool} {v : Value} {d : DataW H} {p : List MemPlace} (hv : Value.okWide Tryz.prog W .any b0 61 v) (h : DataW.Trod enc Tryz.prog W base sp held 61 v d p) :
    ∃ x : HeadV, v = headVal x ∧ HeadWf x := by
  obtain ⟨cs, rfl, hcs⟩ := okWide_struct Tryz.underlying61 hv
  obtain ⟨fuel, hf⟩ := h
  obtain ⟨xs, n, _, _, hl, hlen, hx⟩ := DataW.trod_struct Tryz.underlying61 hf
  match xs, hlen with
  | [y0, y1, y2, y3, y4], _ =>
    have g0 := hx 0 _ rfl
    have g1 := hx 1 _ rfl
    have g2 := hx 2 _ rfl
    have g3 := hx 3 _ rfl
    have g4 := hx 4 _ rfl
    obtain ⟨s0, e0, _, z0⟩ := DataW.trod_string Tryz.underlying9 g0
    obtain ⟨s1, e1, _, z1⟩ := DataW.trod_string Tryz.underlying9 g1
    obtain ⟨s2, e2, _, z2⟩ := DataW.trod_int Tryz.underlying3 g2
    obtain ⟨s3, e3, _, z3⟩ := DataW.trod_int Tryz.underlying3 g3
    obtain ⟨s4, e4, _, z4⟩ := DataW.trod_int Tryz.underlying3 g4
    replace e0 : (cs.toList.drop 0).take (Tryz.prog.cellsOf 9) = [_] := e0
    replace e1 : (cs.toList.drop 1).take (Tryz.prog.cellsOf 9) = [_] := e1
    replace e2 : (cs.toList.drop 2).take (Tryz.prog.cellsOf 3) = [_] := e2
    replace e3 : (cs.toList.drop 3).take (Tryz.prog.cellsOf 3) = [_] := e3
    replace e4 : (cs.toList.drop 4).take (Tryz.prog.cellsOf 3) = [_] := e4
    rw [cellsStr] at e0 e1
    rw [cellsInt] at e2 e3 e4
    replace hl : cs.toList.length = Tryz.prog.cellsOf 61 := hl
    rw [cellsLHead] at hl
    refine ⟨⟨s0, s1, s2, s3, s4⟩, ?_, z0, z1, z2, z3, z4⟩
    rw [headVal, five_of_parts hl e0 e1 e2 e3 e4]

theorem alloc3_midH (w : World) (o1 o2 o3 : Obj) : (((w.alloc o1).alloc o2).alloc o3).heap[w.heap.size + 1]? = some o2 := by
  have e : w.heap.size + 1 = (w.alloc o1).heap.size := by simp
  rw [e, Below.heap_alloc _ _ _ (by simp)]
  exact heap_alloc_new _ _

set_option maxHeartbeats 1000000 in
set_option maxRecDepth 100000 in
theorem szHead (h : HeadV) (w : World) (hw : HeadWf h) :
    Calls Tryz.prog 81 #[headVal h, .int .i64 1048576] w fun e w' => Below w.heap.size w w' ∧ (e = .returned (.int .i64 (-1)) ∨ ∃ r : Nat, e = .returned (.int .i64 (r : Int)) ∧ h.prev.size ≤ 1048576 ∧ h.root.size ≤ 1048576) := by
  have h1 := hw.p
  have h2 := hw.r
  unfold maxLen at h1 h2
  clear hw
  obtain ⟨p, r, t, d, n⟩ := h
  unfold headVal
  dsimp only at h1 h2 ⊢
  have hb : ∀ o, Below w.heap.size w (w.alloc o) := fun o => (Below.refl _ w).alloc (Nat.le_refl _) o
  have w1 : IntKind.i64.wrap (1048576 - (p.size : Int)) = 1048576 - (p.size : Int) := by rw [IntKind.wrap_i64]; omega
  by_cases hp : 1048576 < p.size
  · have hp' : (1048576 : Int) - (p.size : Int) < 0 := by omega
    go_enter Tryz.func81, Tryz.ntmps81
    go_wp2
    go_ret
    exact ⟨hb _, .inl rfl⟩
  have hp' : ¬ (1048576 : Int) - (p.size : Int) < 0 := by omega
  have w2 : IntKind.i64.wrap (1048576 - (p.size : Int) - (r.size : Int)) = 1048576 - (p.size : Int) - (r.size : Int) := by rw [IntKind.wrap_i64]; omega
  by_cases hr : 1048576 - (p.size : Int) - (r.size : Int) < 0
  · go_enter Tryz.func81, Tryz.ntmps81
    go_wp2
    go_ret
    exact ⟨hb _, .inl rfl⟩
  go_enter Tryz.func81, Tryz.ntmps81
  go_wp2
  go_ret
  refine ⟨hb _, .inr ⟨⟨1048576 - p.size - r.size, ?_⟩, by omega, by omega⟩⟩
  show Ending.returned (Value.int IntKind.i64 (1048576 - (p.size : Int) - (r.size : Int))) = _
  congr 2
  omega

set_option maxHeartbeats 1000000 in
set_option maxRecDepth 100000 in
theorem toHead1 (h : HeadV) (w : World) :
    Calls Tryz.prog 92 #[headVal h] w fun e w' => e = .returned (headVal h) ∧ Below w.heap.size w w' := by
  unfold headVal
  go_enter Tryz.func92, Tryz.ntmps92
  go_wp2
  exact bodyPost_ret (results_cell_row (p := 2) rfl _ _ (w.heap.size + 1) 39 #[.string h.prev, .string h.root, .int .i64 h.time, .int .i64 h.diff, .int .i64 h.nonce] (0, 0) _ rfl (alloc3_midH _ _ _ _) Tryz.underlying39 rfl (by kernel_rfl)) rfl ⟨rfl, (((Below.refl _ w).alloc (Nat.le_refl _) _).alloc (by simp) _).alloc (by simp; omega) _⟩

end Go.Proofs.YtpddholoehmjkaaGreatDoor

set_option linter.unusedVariables false
namespace Go.Proofs.YtpddholoehmjkaaGreatDoor
open Go.RowKit Go.Deep

section
variable {α : Type} [Inhabited α]
/-- A slice of elements of k cells each. -/
def IsFlat (en : α → List Value) (wf : α → Prop) (k : Nat) (w : World) (a : Option Addr) (len cap : Nat) (l : List α) : Prop :=
  (a = none ∧ len = 0 ∧ cap = 0 ∧ l = []) ∨ ∃ x : Addr, a = some x ∧ len ≤ cap ∧ cap ≤ maxLen ∧ l.length = len ∧ (∀ i j, i < len → j < k → w.cell? ((x.add (i * k)).add j) = (en (l.getD i default))[j]?) ∧ ∀ i, i < len → wf (l.getD i default)
theorem IsFlat.len {en : α → List Value} {wf : α → Prop} {k : Nat} {w : World} {a : Option Addr} {len cap : Nat} {l : List α} (h : IsFlat en wf k w a len cap l) : l.length = len := by
  rcases h with ⟨_, h1, _, h2⟩ | ⟨x, _, _, _, h1, _⟩
  · rw [h1, h2]; rfl
  · exact h1
theorem IsFlat.max {en : α → List Value} {wf : α → Prop} {k : Nat} {w : World} {a : Option Addr} {len cap : Nat} {l : List α} (h : IsFlat en wf k w a len cap l) : len ≤ maxLen := by
  rcases h with ⟨_, h1, _, h2⟩ | ⟨x, _, h1, h2, _⟩
  · omega
  · omega
theorem cell_lt {w : World} {x : Addr} {v : Value} (h : w.cell? x = some v) : x.block < w.heap.size := by
  rcases Nat.lt_or_ge x.block w.heap.size with h' | h'
  · exact h'
  · exfalso
    unfold World.cell? at h
    simp [Array.getElem?_eq_none h'] at h
theorem add_block (x : Addr) (n : Nat) : (x.add n).block = x.block := by unfold Addr.add; split <;> rfl
theorem IsFlat.at {en : α → List Value} {wf : α → Prop} {k : Nat} (hk : ∀ a, (en a).length = k) {w w' : World} {a : Option Addr} {len cap : Nat} {l : List α} (h : IsFlat en wf k w a len cap l) (hb : Below w.heap.size w w') (i : Nat) (hi : i < len) :
    ∃ x : Addr, a = some x ∧ (∀ j, j < k → w'.cell? ((x.add (i * k)).add j) = (en (l.getD i default))[j]?) ∧ wf (l.getD i default) := by
  rcases h with ⟨_, h1, _, _⟩ | ⟨x, hx, _, _, _, h2, h3⟩
  · omega
  · refine ⟨x, hx, fun j hj => ?_, h3 i hi⟩
    have := h2 i j hi hj
    rw [← this]
    have hs : ∃ v, w.cell? ((x.add (i * k)).add j) = some v := by
      rw [this]
      exact ⟨_, List.getElem?_eq_getElem (by rw [hk]; exact hj)⟩
    obtain ⟨v, hv⟩ := hs
    exact hb.cell (cell_lt hv)
theorem open_flat {P : Program} {H : Type} {enc : TypeId × Value → H} {W : World} {base : Nat} {sp : Nat → Bool} {held : Bool} {t e : TypeId} {k : Nat} {a : Option Addr} {len cap : Nat} {d : DataW H} {p : List MemPlace}
    (en : α → List Value) (wf : α → Prop) (ht : P.underlying t = some (.slice e)) (hk : P.cellsOf e = k)
    (inv : ∀ n cs y, DataW.trod enc P W base sp held n e cs = some y → cs.length = k → ∃ v : α, cs = en v ∧ wf v)
    (h : DataW.Trod enc P W base sp held t (.slice a len cap) d p) : ∃ l : List α, IsFlat en wf k W a len cap l := by
  obtain ⟨fuel, hf⟩ := h
  rcases open_slice ht hf with ⟨hcs, _⟩ | ⟨x, l, c, m, n, D, Pl, hcs, _, hl, hm, hmm, _, hel⟩
  · simp [Value.cells] at hcs
    obtain ⟨rfl, rfl, rfl⟩ := hcs
    exact ⟨[], .inl ⟨rfl, rfl, rfl, rfl⟩⟩
  · simp [Value.cells] at hcs
    obtain ⟨rfl, rfl, rfl⟩ := hcs
    have hlm : len ≤ m := by rw [hmm]; split <;> omega
    have each : ∀ i : Nat, ∃ v : α, i < len → (∀ j, j < k → W.cell? ((x.add (i * k)).add j) = (en v)[j]?) ∧ wf v := by
      intro i
      by_cases hi : i < len
      · obtain ⟨cs', h1, h2⟩ := hel i (by omega)
        rw [hk] at h1
        obtain ⟨_, h3, h4⟩ := World.cells?_some h1
        obtain ⟨v, rfl, hv⟩ := inv _ _ _ h2 h3
        exact ⟨v, fun _ => ⟨h4, hv⟩⟩
      · exact ⟨default, fun h => absurd h hi⟩
    obtain ⟨f, hf⟩ := Classical.axiomOfChoice each
    have hg : ∀ i, i < len → ((List.range len).map f).getD i default = f i := by
      intro i hi
      simp [List.getD_eq_getElem?_getD, hi]
    refine ⟨(List.range len).map f, .inr ⟨x, rfl, hl, hm, by simp, fun i j hi hj => ?_, fun i hi => ?_⟩⟩
    · rw [hg i hi]
      exact (hf i hi).1 j hj
    · rw [hg i hi]
      exact (hf i hi).2
end

end Go.Proofs.YtpddholoehmjkaaGreatDoor

set_option linter.unusedVariables false
namespace Go.Proofs.YtpddholoehmjkaaGreatDoor
open Go.ChangeShapes Go.WideShapes Go.ChangeAt Go.RowKit Go.Deep

def enHead (p : HeadV) : List Value := [.string p.prev, .string p.root, .int .i64 p.time, .int .i64 p.diff, .int .i64 p.nonce]
theorem enHead_len (p : HeadV) : (enHead p).length = 5 := rfl
/-- Its texts can be held. -/
def wfHead (p : HeadV) : Prop := p.prev.size ≤ maxLen ∧ p.root.size ≤ maxLen
/-- Its texts are small. -/
def smallHead (p : HeadV) : Prop := p.prev.size ≤ 1048576 ∧ p.root.size ≤ 1048576
abbrev IsHeads (w : World) (a : Option Addr) (len cap : Nat) (l : List HeadV) : Prop := IsFlat enHead wfHead 5 w a len cap l
abbrev RowHead (w : World) (g : Nat) (l : List HeadV) : Prop := RowF enHead 39 w g l
abbrev AtHead (w : World) (g : Nat) (l : List HeadV) : Prop := AtF enHead 5 w g l
theorem AtHead.c0 {w : World} {g : Nat} {l : List HeadV} (h : AtHead w g l) (i : Nat) (hi : i < l.length) : w.cell? ⟨g, i * 5, none⟩ = some (.string (l.getD i default).prev) := h.2 i 0 hi (by decide)
theorem AtHead.c1 {w : World} {g : Nat} {l : List HeadV} (h : AtHead w g l) (i : Nat) (hi : i < l.length) : w.cell? ⟨g, i * 5 + 1, none⟩ = some (.string (l.getD i default).root) := h.2 i 1 hi (by decide)
theorem AtHead.c2 {w : World} {g : Nat} {l : List HeadV} (h : AtHead w g l) (i : Nat) (hi : i < l.length) : w.cell? ⟨g, i * 5 + 2, none⟩ = some (.int .i64 (l.getD i default).time) := h.2 i 2 hi (by decide)
theorem AtHead.c3 {w : World} {g : Nat} {l : List HeadV} (h : AtHead w g l) (i : Nat) (hi : i < l.length) : w.cell? ⟨g, i * 5 + 3, none⟩ = some (.int .i64 (l.getD i default).diff) := h.2 i 3 hi (by decide)
theorem AtHead.c4 {w : World} {g : Nat} {l : List HeadV} (h : AtHead w g l) (i : Nat) (hi : i < l.length) : w.cell? ⟨g, i * 5 + 4, none⟩ = some (.int .i64 (l.getD i default).nonce) := h.2 i 4 hi (by decide)
theorem cellsHead {w : World} {x : Addr} {p : HeadV} (h : ∀ j, j < 5 → w.cell? (x.add j) = (enHead p)[j]?) : w.cell? x = some (.string p.prev) ∧ w.cell? ⟨x.block, x.off + 1, none⟩ = some (.string p.root) ∧ w.cell? ⟨x.block, x.off + 2, none⟩ = some (.int .i64 p.time) ∧ w.cell? ⟨x.block, x.off + 3, none⟩ = some (.int .i64 p.diff) ∧ w.cell? ⟨x.block, x.off + 4, none⟩ = some (.int .i64 p.nonce) := by
  exact ⟨h 0 (by decide), h 1 (by decide), h 2 (by decide), h 3 (by decide), h 4 (by decide)⟩
theorem partsHead {cs : List Value} {a0 a1 a2 a3 a4 : Value} (hl : cs.length = 5) (h0 : (cs.drop 0).take 1 = [a0]) (h1 : (cs.drop 1).take 1 = [a1]) (h2 : (cs.drop 2).take 1 = [a2]) (h3 : (cs.drop 3).take 1 = [a3]) (h4 : (cs.drop 4).take 1 = [a4]) : cs = [a0, a1, a2, a3, a4] := by
  match cs, hl with
  | [x0, x1, x2, x3, x4], _ =>
    simp at h0 h1 h2 h3 h4
    subst h0 h1 h2 h3 h4
    rfl
theorem oneHead_i : Tryz.prog.cellsOf 3 = 1 := by kernel_rfl
theorem oneHead_s : Tryz.prog.cellsOf 9 = 1 := by kernel_rfl
theorem sizeHead : Tryz.prog.cellsOf 61 = 5 := by kernel_rfl
set_option maxRecDepth 100000 in
theorem invHead {H : Type} {enc : TypeId × Value → H} {W : World} {base : Nat} {sp : Nat → Bool} {held : Bool} (n : Nat) (cs : List Value) (y : DataW H × List MemPlace) (h : DataW.trod enc Tryz.prog W base sp held n 61 cs = some y) (hl : cs.length = 5) : ∃ v : HeadV, cs = enHead v ∧ wfHead v := by
  obtain ⟨xs, n, _, _, _, hlen, hx⟩ := DataW.trod_struct Tryz.underlying61 h
  match xs, hlen with
  | [y0, y1, y2, y3, y4], _ =>
    have g0 := hx 0 _ rfl
    have g1 := hx 1 _ rfl
    have g2 := hx 2 _ rfl
    have g3 := hx 3 _ rfl
    have g4 := hx 4 _ rfl
    obtain ⟨s0, e0, _, z0⟩ := DataW.trod_string Tryz.underlying9 g0
    replace e0 : (cs.drop 0).take (Tryz.prog.cellsOf 9) = [_] := e0
    rw [oneHead_s] at e0
    obtain ⟨s1, e1, _, z1⟩ := DataW.trod_string Tryz.underlying9 g1
    replace e1 : (cs.drop 1).take (Tryz.prog.cellsOf 9) = [_] := e1
    rw [oneHead_s] at e1
    obtain ⟨s2, e2, _, z2⟩ := DataW.trod_int Tryz.underlying3 g2
    replace e2 : (cs.drop 2).take (Tryz.prog.cellsOf 3) = [_] := e2
    rw [oneHead_i] at e2
    obtain ⟨s3, e3, _, z3⟩ := DataW.trod_int Tryz.underlying3 g3
    replace e3 : (cs.drop 3).take (Tryz.prog.cellsOf 3) = [_] := e3
    rw [oneHead_i] at e3
    obtain ⟨s4, e4, _, z4⟩ := DataW.trod_int Tryz.underlying3 g4
    replace e4 : (cs.drop 4).take (Tryz.prog.cellsOf 3) = [_] := e4
    rw [oneHead_i] at e4
    exact ⟨⟨s0, s1, s2, s3, s4⟩, partsHead hl e0 e1 e2 e3 e4, z0, z1⟩
set_option maxHeartbeats 1000000 in
set_option maxRecDepth 100000 in
theorem szHead1 (p : HeadV) (r : Nat) (w : World) (hr : r ≤ 1048576) (hs : wfHead p) :
    Calls Tryz.prog 81 #[.agg #[.string p.prev, .string p.root, .int .i64 p.time, .int .i64 p.diff, .int .i64 p.nonce], .int .i64 (r : Int)] w fun e w' => Below w.heap.size w w' ∧ (e = .returned (.int .i64 (-1)) ∨ ∃ q : Nat, e = .returned (.int .i64 (q : Int)) ∧ q ≤ r ∧ smallHead p) := by
  unfold wfHead maxLen at hs
  have hb : ∀ o, Below w.heap.size w (w.alloc o) := fun o => (Below.refl _ w).alloc (Nat.le_refl _) o
  have hw_prev : IntKind.i64.wrap ((r : Int) - (p.prev.size : Int)) = (r : Int) - (p.prev.size : Int) := by rw [IntKind.wrap_i64]; omega
  by_cases hl_prev : (r : Int) - (p.prev.size : Int) < 0
  · go_enter Tryz.func81, Tryz.ntmps81
    go_wp2
    go_ret
    exact ⟨hb _, .inl rfl⟩
  have hw_root : IntKind.i64.wrap ((r : Int) - (p.prev.size : Int) - (p.root.size : Int)) = (r : Int) - (p.prev.size : Int) - (p.root.size : Int) := by rw [IntKind.wrap_i64]; omega
  by_cases hl_root : (r : Int) - (p.prev.size : Int) - (p.root.size : Int) < 0
  · go_enter Tryz.func81, Tryz.ntmps81
    go_wp2
    go_ret
    exact ⟨hb _, .inl rfl⟩
  have HS : Hid (smallHead p) := by show smallHead p; unfold smallHead; omega
  go_enter Tryz.func81, Tryz.ntmps81
  go_wp2
  go_ret
  refine ⟨hb _, .inr ⟨r - p.prev.size - p.root.size, ?_, by omega, HS.out⟩⟩
  show Ending.returned (Value.int IntKind.i64 ((r : Int) - (p.prev.size : Int) - (p.root.size : Int))) = _
  congr 2
  omega
set_option maxHeartbeats 1000000 in
set_option maxRecDepth 100000 in
theorem toHeadA (p : HeadV) (w : World) :
    Calls Tryz.prog 92 #[.agg #[.string p.prev, .string p.root, .int .i64 p.time, .int .i64 p.diff, .int .i64 p.nonce]] w fun e w' => e = .returned (.agg #[.string p.prev, .string p.root, .int .i64 p.time, .int .i64 p.diff, .int .i64 p.nonce]) ∧ Below w.heap.size w w' := by
  go_enter Tryz.func92, Tryz.ntmps92
  go_wp2
  exact bodyPost_ret (results_cell_row (p := 2) rfl _ _ (w.heap.size + 1) 39 #[.string p.prev, .string p.root, .int .i64 p.time, .int .i64 p.diff, .int .i64 p.nonce] (0, 0) _ rfl (alloc3_midH _ _ _ _) Tryz.underlying39 rfl (by kernel_rfl)) rfl ⟨rfl, (((Below.refl _ w).alloc (Nat.le_refl _) _).alloc (by simp) _).alloc (by simp; omega) _⟩
set_option maxHeartbeats 1000000 in
set_option maxRecDepth 100000 in
theorem eqHeadA (p : HeadV) (w : World) :
    Calls Tryz.prog 103 #[.agg #[.string p.prev, .string p.root, .int .i64 p.time, .int .i64 p.diff, .int .i64 p.nonce], .agg #[.string p.prev, .string p.root, .int .i64 p.time, .int .i64 p.diff, .int .i64 p.nonce]] w fun e w' => e = .returned (.bool true) ∧ Below w.heap.size w w' := by
  go_enter Tryz.func103, Tryz.ntmps103
  go_wp2
  go_ret
  exact ⟨rfl, ((Below.refl _ w).alloc (Nat.le_refl _) _).alloc (by simp) _⟩

theorem infoHead : (Tryz.prog.info? 39).map (fun i => (i.zero, i.size, i.bytes)) = some (some (.agg #[.string ⟨#[]⟩, .string ⟨#[]⟩, .int .i64 0, .int .i64 0, .int .i64 0]), 5, 56) := by kernel_rfl
def zeroHead : HeadV := ⟨⟨#[]⟩, ⟨#[]⟩, 0, 0, 0⟩
theorem makeHead (n : Nat) (hn : n ≤ 1099511627776) (w : World) : (Instr.makeSlice 44 (.int .i64 (n : Int)) (.int .i64 (n : Int))).run Tryz.prog w = .ok (.slice (some ⟨w.heap.size, 0, none⟩) n n) (w.alloc (.cells ((List.replicate n zeroHead).flatMap enHead).toArray 39)) := by
  obtain ⟨i, hi, hz, hs, hb⟩ := info_parts infoHead
  have hb' : (i.bytes : Int) * (n : Int) ≤ 281474976710656 := by rw [hb]; omega
  have hr := run_make (P := Tryz.prog) w 44 39 i _ Tryz.underlying44 hi hz .i64 .i64 (n : Int) (n : Int) (by omega) (by omega) hb' (by omega)
  simp only [Int.toNat_natCast, hs, Value.cells] at hr
  rw [← made_flat 5 enHead enHead_len (by decide) zeroHead n]
  exact hr
theorem RowHead.put {w : World} {g : Nat} {l : List HeadV} (h : RowHead w g l) (i : Nat) (hi : i < l.length) (p : HeadV) :
    RowHead (((((w.setCell ⟨g, i * 5, none⟩ (.string p.prev)).setCell ⟨g, i * 5 + 1, none⟩ (.string p.root)).setCell ⟨g, i * 5 + 2, none⟩ (.int .i64 p.time)).setCell ⟨g, i * 5 + 3, none⟩ (.int .i64 p.diff)).setCell ⟨g, i * 5 + 4, none⟩ (.int .i64 p.nonce)) g (l.set i p) := by
  show _ = _
  rw [← flat_put 5 enHead enHead_len l i p hi]
  exact (rowSet (rowSet (rowSet (rowSet (rowSet h _) _) _) _) _)

end Go.Proofs.YtpddholoehmjkaaGreatDoor

set_option linter.unusedVariables false
namespace Go.Proofs.YtpddholoehmjkaaGreatDoor
open Go.RowKit

/-- A slice of integers that came in: it is nil; or it leads to a row of cells, the numbers zs. -/
def IsRow (k : IntKind) (w : World) (a : Option Addr) (len cap : Nat) (zs : List Int) : Prop :=
  (a = none ∧ len = 0 ∧ cap = 0 ∧ zs = []) ∨
  ∃ x, a = some x ∧ len ≤ cap ∧ cap ≤ maxLen ∧ zs.length = cap ∧ (∀ i, i < zs.length → w.cell? (x.add i) = some (.int k (zs.getD i 0))) ∧ ∀ n ∈ zs, (Lit.int k n).wf = true

theorem xor_nat (X Y : Int) (hX : 0 ≤ X) (hX' : X < 4611686018427387904) (hY : 0 ≤ Y) (hY' : Y < 4611686018427387904) : ∃ u : Nat, bits .xor .i64 X Y = (u : Int) := by
  obtain ⟨a, rfl⟩ := Int.eq_ofNat_of_zero_le hX
  obtain ⟨b, rfl⟩ := Int.eq_ofNat_of_zero_le hY
  refine ⟨a ^^^ b, ?_⟩
  have hx : a ^^^ b < 2 ^ 62 := Nat.xor_lt_two_pow (by omega) (by omega)
  have h1 : (BitVec.ofInt 64 (a : Int)).toNat = a := by
    rw [BitVec.ofInt_natCast, BitVec.toNat_ofNat]; exact Nat.mod_eq_of_lt (by omega)
  have h2 : (BitVec.ofInt 64 (b : Int)).toNat = b := by
    rw [BitVec.ofInt_natCast, BitVec.toNat_ofNat]; exact Nat.mod_eq_of_lt (by omega)
  show IntKind.i64.wrap ((BitVec.ofInt 64 (a : Int) ^^^ BitVec.ofInt 64 (b : Int)).toNat : Int) = _
  rw [BitVec.toNat_xor, h1, h2, IntKind.wrap_i64]
  omega

/-- The reader: its block b, one of the call's own, the bytes that it reads, which came in, its place p. -/
def Rd (B b p : Nat) (w : World) : Prop :=
  B ≤ b ∧ ∃ (a : Option Addr) (n cap : Nat) (zs : List Int), n ≤ 2000 ∧ w.heap[b]? = some (.cells #[.slice a n cap, .int .i64 p] 105 (0, 0)) ∧
    (n ≠ 0 → ∃ x o, a = some ⟨x, o, none⟩ ∧ x < B ∧ (∀ i, i < n → w.cell? ⟨x, o + i, none⟩ = some (.int .u8 (zs.getD i 0)) ∧ 0 ≤ zs.getD i 0 ∧ zs.getD i 0 ≤ 255))

/-- Block b alone has turned. -/
structure Only (b : Nat) (w w' : World) : Prop where
  os : w'.os = w.os
  tape : w'.tape = w.tape
  output : w'.output = w.output
  size : w'.heap.size = w.heap.size
  block : ∀ c, c ≠ b → w'.heap[c]? = w.heap[c]?
theorem Only.below {B b : Nat} {w w' : World} (h : Only b w w') (hb : B ≤ b) : Below B w w' :=
  ⟨h.os, h.tape, h.output, by rw [h.size]; exact Nat.le_refl _, fun k hk => h.block k (by omega)⟩
theorem Only.refl (b : Nat) (w : World) : Only b w w := ⟨rfl, rfl, rfl, rfl, fun _ _ => rfl⟩
theorem Only.trans {b : Nat} {u v w : World} (h : Only b u v) (k : Only b v w) : Only b u w :=
  ⟨k.os.trans h.os, k.tape.trans h.tape, k.output.trans h.output, k.size.trans h.size, fun c hc => (k.block c hc).trans (h.block c hc)⟩
theorem Only.setCell (b o : Nat) (v : Value) (w : World) : Only b w (w.setCell ⟨b, o, none⟩ v) :=
  ⟨rfl, rfl, rfl, by simp [World.setCell], fun c hc => Below.heap_setCell _ _ _ _ hc⟩
theorem Only.drew {b : Nat} {w w' : World} (h : Only b w w') : Only b w w'.drew := ⟨h.os, h.tape, h.output, h.size, h.block⟩
theorem Only.drewN {b : Nat} {w w' : World} (h : Only b w w') (n : Nat) : Only b w (w'.drewN n) := ⟨h.os, h.tape, h.output, h.size, h.block⟩

/-- What a step leaves below block b and in b leaves the reader. -/
theorem Rd.keep {B b p : Nat} {w w' : World} (h : Rd B b p w) (hk : Below (b + 1) w w') : Rd B b p w' := by
  obtain ⟨hB, a, n, cap, zs, hn, hb, hc⟩ := h
  refine ⟨hB, a, n, cap, zs, hn, by rw [hk.block b (by omega)]; exact hb, fun h0 => ?_⟩
  obtain ⟨x, o, ha, hx, hcs⟩ := hc h0
  exact ⟨x, o, ha, hx, fun i hi => ⟨by rw [hk.cell (show (⟨x, o + i, none⟩ : Addr).block < b + 1 by show x < b + 1; omega)]; exact (hcs i hi).1, (hcs i hi).2⟩⟩
theorem Rd.lt {B b p : Nat} {w : World} (h : Rd B b p w) : b < w.heap.size := by
  obtain ⟨_, a, n, cap, zs, _, hb, _⟩ := h
  rcases Nat.lt_or_ge b w.heap.size with h' | h'
  · exact h'
  · simp [Array.getElem?_eq_none h'] at hb

set_option maxHeartbeats 2000000 in
set_option maxRecDepth 100000 in
theorem open_walk (a : Option Addr) (len cap : Nat) (zs : List Int) (w : World) (h : IsRow .u8 w a len cap zs) :
    Calls Tryz.prog 54 #[.slice a len cap] w fun e w' => e = .returned (.pointer (some ⟨w.heap.size, 0, none⟩)) ∧ Rd w.heap.size w.heap.size 0 w' ∧ Below w.heap.size w w' ∧ w'.heap.size = w.heap.size + 1 := by
  rcases h with ⟨rfl, rfl, rfl, rfl⟩ | ⟨x, rfl, hl, hm, hz, hcell, hwz⟩
  · go_enter Tryz.func54, Tryz.ntmps54
    go_wp2
    go_ret
    exact ⟨rfl, ⟨Nat.le_refl _, none, 0, 0, [], by omega, heap_alloc_new w _, fun h => absurd rfl h⟩, (Below.refl _ w).alloc (Nat.le_refl _) _, by simp⟩
  · have hrd : ∀ n, n ≤ len → n ≤ 2000 → Rd w.heap.size w.heap.size 0 (w.alloc (.cells #[.slice (some x) n cap, .int .i64 0] 105)) := by
      intro n hn hn2
      refine ⟨Nat.le_refl _, some x, n, cap, zs, hn2, heap_alloc_new w _, fun h0 => ?_⟩
      obtain ⟨b, o, spot⟩ := x
      have hc0 := hcell 0 (by omega)
      have hspot : spot = none := by simpa [Addr.add] using World.cell?_spot hc0
      subst hspot
      have hlt : b < w.heap.size := World.block_lt_of_cell? w _ hc0
      refine ⟨b, o, rfl, hlt, fun i hi => ?_⟩
      have hci := hcell i (by omega)
      refine ⟨?_, ?_⟩
      · rw [World.cell?_of_block (w := w) (a := ⟨b, o + i, none⟩) (Below.heap_alloc w _ b hlt)]
        by_cases h0 : i = 0
        · subst h0; simpa [Addr.add] using hci
        · simpa [Addr.add, h0] using hci
      · have hmem : zs.getD i 0 ∈ zs := by
          have hi' : i < zs.length := by omega
          simp [List.getElem?_eq_getElem hi']
        have := hwz _ hmem
        exact bounds_u8 this
    by_cases h2 : (2000 : Int) < (len : Int)
    · go_enter Tryz.func54, Tryz.ntmps54
      go_wp2
      go_ret
      exact ⟨rfl, hrd 2000 (by omega) (by omega), (Below.refl _ w).alloc (Nat.le_refl _) _, by simp⟩
    · go_enter Tryz.func54, Tryz.ntmps54
      go_wp2
      go_ret
      exact ⟨rfl, hrd len (by omega) (by omega), (Below.refl _ w).alloc (Nat.le_refl _) _, by simp⟩

theorem Rd.next {B b p : Nat} {w : World} (h : Rd B b p w) : Rd B b (p + 1) (w.setCell ⟨b, 1, none⟩ (.int .i64 (p + 1))) := by
  obtain ⟨hB, a, n, cap, zs, hn, hb, hc⟩ := h
  refine ⟨hB, a, n, cap, zs, hn, by simp [World.setCell, Array.getElem?_modify, hb], fun h0 => ?_⟩
  obtain ⟨x, o, ha, hx, hcs⟩ := hc h0
  refine ⟨x, o, ha, hx, fun i hi => ⟨?_, (hcs i hi).2⟩⟩
  rw [World.cell?_of_block (w := w) (a := ⟨x, o + i, none⟩) (Below.heap_setCell w ⟨b, 1, none⟩ _ x (by show x ≠ b; omega))]
  exact (hcs i hi).1

set_option maxHeartbeats 2000000 in
set_option maxRecDepth 100000 in
theorem pick_walk (B b p : Nat) (n : Int) (w : World) (h : Rd B b p w) (hp : p < 1000000000) (hn31 : n ≤ 1000000000) :
    Calls Tryz.prog 57 #[.pointer (some ⟨b, 0, none⟩), .int .i64 n] w fun e w' => ∃ x : Nat, e = .returned (.int .i64 x) ∧ (1 ≤ n → (x : Int) < n) ∧ (n < 1 → x = 0) ∧ Rd B b (p + 1) w' ∧ Only b w w' := by
  have hnext := h.next
  obtain ⟨hB, a, len, cap, zs, hlen, hb, hc⟩ := h
  have c0 : w.cell? ⟨b, 0, none⟩ = some (.slice a len cap) := by rw [Lib.cell_of_heap hb]; rfl
  have c1 : w.cell? ⟨b, 1, none⟩ = some (.int .i64 p) := by rw [Lib.cell_of_heap hb]; rfl
  have f1 : w.frozen? ⟨b, 1, none⟩ = false := Lib.frozen_of_heap hb 1
  have HO := Only.setCell b 1 (.int .i64 ((p : Int) + 1)) w
  by_cases hn : n < 1
  · go_enter Tryz.func57, Tryz.ntmps57
    go_wp2
    go_ret
    exact ⟨0, rfl, fun h => by omega, fun _ => rfl, hnext, HO⟩
  · by_cases hl0 : len = 0
    · subst hl0
      go_enter Tryz.func57, Tryz.ntmps57
      go_wp2
      go_ret
      exact ⟨0, rfl, by omega, by omega, hnext, HO⟩
    · obtain ⟨x, o, rfl, hxB, hcs⟩ := hc hl0
      have hcx : ∀ i, i < len → (w.setCell ⟨b, 1, none⟩ (.int .i64 ((p : Int) + 1))).cell? ⟨x, o + i, none⟩ = some (.int .u8 (zs.getD i 0)) := by
        intro i hi
        rw [World.cell?_of_block (w := w) (a := ⟨x, o + i, none⟩) (Below.heap_setCell w ⟨b, 1, none⟩ _ x (by show x ≠ b; omega))]
        exact (hcs i hi).1
      have hl0' : ((len : Int) == 0) = false := by simp; omega
      by_cases hpl : p < len
      · have hcp := hcx p hpl
        have hz := (hcs p hpl).2
        obtain ⟨z, hzz⟩ : ∃ z, z = zs.getD p 0 := ⟨_, rfl⟩
        rw [← hzz] at hcp hz
        clear hcx hcs hc hzz
        obtain ⟨hz0, hz1⟩ := hz
        go_enter Tryz.func57, Tryz.ntmps57
        go_wp2
        go_ret
        obtain ⟨y, hy⟩ := Int.eq_ofNat_of_zero_le (Int.emod_nonneg z (show n ≠ 0 by omega))
        have hyl : (y : Int) < n := by rw [← hy]; exact Int.emod_lt_of_pos _ (by omega)
        exact ⟨y, congrArg (fun t => Ending.returned (Value.int .i64 t)) hy, by first | exact fun _ => hyl | exact hyl, by omega, hnext, HO⟩
      · clear hc
        obtain ⟨q1, hq1⟩ : ∃ q : Nat, (p : Int) % (len : Int) = (q : Int) := ⟨p % len, by simp⟩
        have hq1l : (q1 : Int) < (len : Int) := by rw [← hq1]; exact Int.emod_lt_of_pos _ (by omega)
        obtain ⟨q2, hq2⟩ : ∃ q : Nat, ((p : Int) * 7 + 3) % (len : Int) = (q : Int) := ⟨(p * 7 + 3) % len, by simp⟩
        have hq2l : (q2 : Int) < (len : Int) := by rw [← hq2]; exact Int.emod_lt_of_pos _ (by omega)
        obtain ⟨q3, hq3⟩ : ∃ q : Nat, (p : Int) / (len : Int) = (q : Int) := ⟨p / len, by simp⟩
        have hq3l : q3 ≤ p := by
          have : p / len ≤ p := Nat.div_le_self _ _
          have h2 : ((p / len : Nat) : Int) = (q3 : Int) := by rw [← hq3]; simp
          omega
        have hc1 := hcx q1 (by omega)
        have hz1 := (hcs q1 (by omega)).2
        have hc2 := hcx q2 (by omega)
        have hz2 := (hcs q2 (by omega)).2
        obtain ⟨z1, hzz1⟩ : ∃ z, z = zs.getD q1 0 := ⟨_, rfl⟩
        obtain ⟨z2, hzz2⟩ : ∃ z, z = zs.getD q2 0 := ⟨_, rfl⟩
        rw [← hzz1] at hc1 hz1
        rw [← hzz2] at hc2 hz2
        clear hcx hcs hzz1 hzz2
        obtain ⟨hz10, hz11⟩ := hz1
        obtain ⟨hz20, hz21⟩ := hz2
        go_enter Tryz.func57, Tryz.ntmps57
        go_wp2_with fail
        go_quiet (fail)
        go_wp2
        go_ret
        obtain ⟨u, hu⟩ := xor_nat (z1 * 131 + z2 * 1117 + (p : Int) * 29 + (q3 : Int) * 53) ((z1 * 131 + z2 * 1117 + (p : Int) * 29 + (q3 : Int) * 53) / 64) (by omega) (by omega) (by omega) (by omega)
        obtain ⟨y, hy⟩ := Int.eq_ofNat_of_zero_le (Int.emod_nonneg (u : Int) (show n ≠ 0 by omega))
        have hyl : (y : Int) < n := by rw [← hy]; exact Int.emod_lt_of_pos _ (by omega)
        have ht : (bits .xor .i64 (z1 * 131 + z2 * 1117 + (p : Int) * 29 + (q3 : Int) * 53) ((z1 * 131 + z2 * 1117 + (p : Int) * 29 + (q3 : Int) * 53) / 64)).tmod n = (y : Int) := by
          rw [hu, Int.tmod_eq_emod_of_nonneg (by omega)]; exact hy
        exact ⟨y, congrArg (fun t => Ending.returned (Value.int .i64 t)) ht, by first | exact fun _ => hyl | exact hyl, by omega, hnext.keep ⟨rfl, rfl, rfl, Nat.le_refl _, fun _ _ => rfl⟩, HO.drewN nq⟩

/-- One of a list of numbers that the call has just laid. -/
theorem one_walk (B b p : Nat) (g n cap : Nat) (zs : List Int) (w : World) (h : Rd B b p w) (hp : p < 1000000000) (hn0 : 1 ≤ n) (hn31 : n ≤ 1000000000) (hcell : ∀ i, i < n → w.cell? ⟨g, i, none⟩ = some (.int .i64 (zs.getD i 0))) (hgb : g ≠ b) :
    Calls Tryz.prog 56 #[.pointer (some ⟨b, 0, none⟩), .slice (some ⟨g, 0, none⟩) n cap] w fun e w' => ∃ x : Nat, x < n ∧ e = .returned (.int .i64 (zs.getD x 0)) ∧ Rd B b (p + 1) w' ∧ Only b w w' := by
  go_enter Tryz.func56, Tryz.ntmps56
  go_wp2_with (go_at_call 57; refine (pick_walk B b p _ _ h hp (by omega)).mono ?_)
  rintro e w1 ⟨x, rfl, hx, _, hr, ho⟩
  have hxn : (x : Int) < (n : Int) := hx (by omega)
  have hc : w1.cell? ⟨g, x, none⟩ = some (.int .i64 (zs.getD x 0)) := by
    rw [World.cell?_of_block (w := w) (a := ⟨g, x, none⟩) (ho.block g hgb)]
    exact hcell x (by omega)
  obtain ⟨z, hz⟩ : ∃ z, z = zs.getD x 0 := ⟨_, rfl⟩
  rw [← hz] at hc
  have HZ : Hid (z = zs.getD x 0) := hz
  clear hz hx hcell
  go_wp2
  go_ret
  exact ⟨x, by omega, by rw [← HZ.out]; rfl, hr, ho⟩

/-- One of a list of texts that the call has just laid. -/
theorem of_walk (B b p : Nat) (g n cap : Nat) (ss : List ByteArray) (w : World) (h : Rd B b p w) (hp : p < 1000000000) (hn0 : 1 ≤ n) (hn31 : n ≤ 1000000000) (hcell : ∀ i, i < n → w.cell? ⟨g, i, none⟩ = some (.string (ss.getD i ByteArray.empty))) (hgb : g ≠ b) :
    Calls Tryz.prog 143 #[.pointer (some ⟨b, 0, none⟩), .slice (some ⟨g, 0, none⟩) n cap] w fun e w' => ∃ x : Nat, x < n ∧ e = .returned (.string (ss.getD x ByteArray.empty)) ∧ Rd B b (p + 1) w' ∧ Only b w w' := by
  go_enter Tryz.func143, Tryz.ntmps143
  go_wp2_with (go_at_call 57; refine (pick_walk B b p _ _ h hp (by omega)).mono ?_)
  rintro e w1 ⟨x, rfl, hx, _, hr, ho⟩
  have hxn : (x : Int) < (n : Int) := hx (by omega)
  have hc : w1.cell? ⟨g, x, none⟩ = some (.string (ss.getD x ByteArray.empty)) := by
    rw [World.cell?_of_block (w := w) (a := ⟨g, x, none⟩) (ho.block g hgb)]
    exact hcell x (by omega)
  obtain ⟨z, hz⟩ : ∃ z, z = ss.getD x ByteArray.empty := ⟨_, rfl⟩
  rw [← hz] at hc
  have HZ : Hid (z = ss.getD x ByteArray.empty) := hz
  clear hz hx hcell
  go_wp2
  go_ret
  exact ⟨x, by omega, by rw [← HZ.out]; rfl, hr, ho⟩

/-- The cells of a list of numbers, of texts, that lies whole in a block. -/
theorem cells_ints {w : World} {g : Nat} {zs : List Int} {cs : Array Value} {T : TypeId} {fr : Nat × Nat} (h : w.heap[g]? = some (.cells cs T fr)) (he : cs = (zs.map (Value.int .i64)).toArray) (n : Nat) (hn : n ≤ zs.length) :
    ∀ i, i < n → w.cell? ⟨g, i, none⟩ = some (.int .i64 (zs.getD i 0)) := by
  intro i hi
  rw [Lib.cell_of_heap h, he]
  have : i < zs.length := by omega
  simp [List.getElem?_eq_getElem this]
theorem cells_texts {w : World} {g : Nat} {ss : List ByteArray} {cs : Array Value} {T : TypeId} {fr : Nat × Nat} (h : w.heap[g]? = some (.cells cs T fr)) (he : cs = (ss.map Value.string).toArray) (n : Nat) (hn : n ≤ ss.length) :
    ∀ i, i < n → w.cell? ⟨g, i, none⟩ = some (.string (ss.getD i ByteArray.empty)) := by
  intro i hi
  rw [Lib.cell_of_heap h, he]
  have : i < ss.length := by omega
  simp [List.getElem?_eq_getElem this]

end Go.Proofs.YtpddholoehmjkaaGreatDoor

set_option linter.unusedVariables false
namespace Go.Proofs.YtpddholoehmjkaaGreatDoor
open Go.RowKit Go.Deep

structure BlkV where
  h : HeadV
  g : Nat
  n : Nat
  cap : Nat
  ss : List ByteArray
instance : Inhabited BlkV := ⟨⟨default, 0, 0, 0, []⟩⟩
def enBlk (b : BlkV) : List Value := [.string b.h.prev, .string b.h.root, .int .i64 b.h.time, .int .i64 b.h.diff, .int .i64 b.h.nonce, .slice (some ⟨b.g, 0, none⟩) b.n b.cap]
theorem enBlk_len (b : BlkV) : (enBlk b).length = 6 := rfl
abbrev AtBlk (w : World) (g : Nat) (l : List BlkV) : Prop := AtF enBlk 6 w g l
/-- The items of a block in memory. -/
def ItemsAt (w : World) (b : BlkV) : Prop := AtS w b.g b.ss ∧ b.n = b.ss.length
theorem AtBlk.c0 {w : World} {g : Nat} {l : List BlkV} (h : AtBlk w g l) (i : Nat) (hi : i < l.length) : w.cell? ⟨g, i * 6, none⟩ = some (.string (l.getD i default).h.prev) := h.2 i 0 hi (by decide)
theorem AtBlk.c1 {w : World} {g : Nat} {l : List BlkV} (h : AtBlk w g l) (i : Nat) (hi : i < l.length) : w.cell? ⟨g, i * 6 + 1, none⟩ = some (.string (l.getD i default).h.root) := h.2 i 1 hi (by decide)
theorem AtBlk.c2 {w : World} {g : Nat} {l : List BlkV} (h : AtBlk w g l) (i : Nat) (hi : i < l.length) : w.cell? ⟨g, i * 6 + 2, none⟩ = some (.int .i64 (l.getD i default).h.time) := h.2 i 2 hi (by decide)
theorem AtBlk.c3 {w : World} {g : Nat} {l : List BlkV} (h : AtBlk w g l) (i : Nat) (hi : i < l.length) : w.cell? ⟨g, i * 6 + 3, none⟩ = some (.int .i64 (l.getD i default).h.diff) := h.2 i 3 hi (by decide)
theorem AtBlk.c4 {w : World} {g : Nat} {l : List BlkV} (h : AtBlk w g l) (i : Nat) (hi : i < l.length) : w.cell? ⟨g, i * 6 + 4, none⟩ = some (.int .i64 (l.getD i default).h.nonce) := h.2 i 4 hi (by decide)
theorem AtBlk.c5 {w : World} {g : Nat} {l : List BlkV} (h : AtBlk w g l) (i : Nat) (hi : i < l.length) : w.cell? ⟨g, i * 6 + 5, none⟩ = some (.slice (some ⟨(l.getD i default).g, 0, none⟩) (l.getD i default).n (l.getD i default).cap) := h.2 i 5 hi (by decide)
abbrev HRow (B : Nat) (v : Value) (l : List HeadV) (w : World) : Prop := FRow enHead 39 5 B v l w
abbrev BRow (B : Nat) (v : Value) (l : List BlkV) (w : World) : Prop := FRow enBlk 41 6 B v l w
theorem getD_map {l : List BlkV} {i : Nat} (h : i < l.length) : (l.map (·.h)).getD i default = (l.getD i default).h := by
  simp [List.getElem?_eq_getElem h]
theorem take_map {l : List BlkV} {k : Nat} (hk : k < l.length) : (l.take (k + 1)).map (·.h) = (l.take k).map (·.h) ++ [(l.getD k default).h] := by
  rw [List.take_add_one, List.getElem?_eq_getElem hk, List.map_append]
  simp [List.getElem?_eq_getElem hk]
theorem enHead_one (h : HeadV) : ∀ u ∈ enHead h, u.oneCell' = true := by
  intro u hu
  simp only [enHead, List.mem_cons, List.not_mem_nil, or_false] at hu
  rcases hu with rfl | rfl | rfl | rfl | rfl <;> rfl
theorem enBlk_one (b : BlkV) : ∀ u ∈ enBlk b, u.oneCell' = true := by
  intro u hu
  simp only [enBlk, List.mem_cons, List.not_mem_nil, or_false] at hu
  rcases hu with rfl | rfl | rfl | rfl | rfl | rfl <;> rfl

set_option maxHeartbeats 2000000 in
set_option maxRecDepth 100000 in
theorem specL4Heads (g n cap : Nat) (bs : List BlkV) (w : World) (h : AtBlk w g bs) (hn : n = bs.length) (hm : n ≤ 1048576) :
    Calls Tryz.prog 84 #[.slice (some ⟨g, 0, none⟩) n cap] w fun e w' => ∃ v, e = .returned v ∧ HRow w.heap.size v (bs.map (·.h)) w' ∧ Below w.heap.size w w' := by
  obtain ⟨i0, hi, hz0, hz1, hz2⟩ := info3 infoHead
  have HA : Hid (AtBlk w g bs) := h
  have HN : Hid (n = bs.length) := hn
  have HE : Hid (bs.map (·.h) = (bs.take n).map (·.h)) := by show _ = _; rw [hn, List.take_length]
  have R0 : Hid (HRow w.heap.size (.slice (some ⟨w.heap.size, 0, none⟩) 0 0) [] (w.alloc (.cells #[] 39))) := frow_new _ _ _ w
  have B0 : Hid (Below w.heap.size w (w.alloc (.cells #[] 39))) := (Below.refl _ w).alloc (Nat.le_refl _) _
  clear h hn
  go_enter Tryz.func84, Tryz.ntmps84
  go_wp2_with fail
  go_loopw [3, 4] (fun v i wr => ∃ k g2 c2 : Nat, k ≤ n ∧ i = .int .i64 (k : Int) ∧ v = .slice (some ⟨g2, 0, none⟩) k c2 ∧ Hid (HRow w.heap.size v ((bs.take k).map (·.h)) wr) ∧ Hid (Below w.heap.size w wr)) (fun _ i _ => n - (intOf i).toNat)
  case atStart => exact ⟨0, w.heap.size, 0, by omega, rfl, rfl, R0, B0⟩
  case round =>
    clear R0 B0
    obtain ⟨k, g2, c2, hk, rfl, rfl, R, HB⟩ := hrel
    by_cases hlt : k < n
    · have hkl : k < bs.length := by rw [← HN.out]; exact hlt
      have HAr : Hid (AtBlk wr g bs) := HA.out.below HB.out HA.out.1
      have q0 := AtBlk.c0 HAr.out k hkl
      have q1 := AtBlk.c1 HAr.out k hkl
      have q2 := AtBlk.c2 HAr.out k hkl
      have q3 := AtBlk.c3 HAr.out k hkl
      have q4 := AtBlk.c4 HAr.out k hkl
      have lk : (k : Int) < (n : Int) := by omega
      have lk0 : (0 : Int) ≤ (k : Int) := by omega
      have wk : IntKind.i64.wrap ((k : Int) + 1) = (k : Int) + 1 := by rw [IntKind.wrap_i64]; omega
      have HK : Hid (k + 1 ≤ n) := hlt
      have HL : Hid ((bs.take k).length = k) := by show _ = _; rw [List.length_take]; omega
      have HT : Hid ((bs.take (k + 1)).map (·.h) = (bs.take k).map (·.h) ++ [(bs.getD k default).h]) := take_map hkl
      have HOW : Hid (wr.ownsRow w.heap.size 39 5 (.slice (some ⟨g2, 0, none⟩) k c2) k (((bs.take k).map (·.h)).flatMap enHead)) := by
        have := R.out.2
        rw [List.length_map, HL.out] at this
        exact this
      have hsz := HB.out.size
      generalize (bs.getD k default).h = p at q0 q1 q2 q3 q4 HT
      have hu := enHead_one p
      have hx1 : k + 1 ≤ maxLen := by unfold maxLen; omega
      have hx2 : (k + 1) * 56 ≤ 140737488355328 := by omega
      clear hkl R
      go_wp2_with (at_builtin; refine wp_appN rfl _ _ 44 rfl w.heap.size 39 i0 (.agg #[.string ⟨#[]⟩, .string ⟨#[]⟩, .int .i64 0, .int .i64 0, .int .i64 0]) 5 56 1 Tryz.underlying44 hi hz0 hz1 hz2 rfl (by decide) (by decide) _ _ _ rfl HOW.out (enHead p) rfl rfl hu hx1 hx2 hsz ?_; intro g4 c4 w4 hown4 hb4 hkeep4)
      have R4 : Hid (HRow w.heap.size (.slice (some ⟨g4, 0, none⟩) (k + 1) c4) ((bs.take (k + 1)).map (·.h)) w4) := by
        refine FRow.of ?_ ?_
        · rw [HT.out, List.flatMap_append]
          simpa using hown4
        · rw [HT.out, List.length_append, List.length_map, HL.out]; rfl
      have B4 : Hid (Below w.heap.size w w4) := HB.out.trans hb4
      clear hown4 hb4 hkeep4
      go_wp2_with fail
      go_roundw
      case rel => exact ⟨k + 1, g4, c4, HK.out, by go_num, rfl, R4, B4⟩
      case measure => have := HK.out; simp [intOf]; omega
    · obtain rfl : k = n := by omega
      go_wp2_with fail
      go_ret
      exact ⟨_, rfl, by rw [HE.out]; exact R.out, HB.out⟩

end Go.Proofs.YtpddholoehmjkaaGreatDoor

set_option linter.unusedVariables false
namespace Go.Proofs.YtpddholoehmjkaaGreatDoor
open Go.RowKit

set_option maxHeartbeats 1000000 in
set_option maxRecDepth 100000 in
theorem toStrs (a : Option Addr) (len cap : Nat) (zs : List ByteArray) (w w0 : World) (h0 : IsTexts w0 a len cap zs) (hw : Below w0.heap.size w0 w) (hn : len ≤ 1048576) :
    Calls Tryz.prog 13 #[.slice a len cap] w fun e w' => e = .returned (.slice (some ⟨w.heap.size, 0, none⟩) len len) ∧ RowS w' w.heap.size (zs.take len) ∧ Below w.heap.size w w' := by
  have hmk := makeS len (by omega)
  have HF : Hid (∀ k, k < len → ∀ w', Below w.heap.size w w' → ∃ x : Addr, a = some x ∧ w'.cell? (x.add k) = some (.string ((zs.take len).getD k ByteArray.empty))) := by
    intro k hk w' hb'
    rcases h0 with ⟨_, hl, _⟩ | ⟨x, hx, hlc, _, hzl, hcell, _⟩
    · omega
    · refine ⟨x, hx, ?_⟩
      have hc := hcell k (by omega)
      have hlt : (x.add k).block < w0.heap.size := World.block_lt_of_cell? w0 _ hc
      rw [hb'.cell (Nat.lt_of_lt_of_le hlt hw.size), hw.cell hlt, hc]
      simp [hk]
  have HLn : Hid ((zs.take len).length = len) := h0.len.symm
  generalize zs.take len = f at HF HLn
  clear h0 hw
  go_enter Tryz.func13, Tryz.ntmps13
  go_wp2
  clear hmk
  go_loopw [4] (fun i wr => ∃ k : Nat, k ≤ len ∧ i = .int .i64 (k : Int) ∧ Hid (RowS wr w.heap.size (f.take k ++ List.replicate (len - k) (⟨#[]⟩ : ByteArray))) ∧ Hid (Below w.heap.size w wr)) (fun i _ => len - (intOf i).toNat)
  case atStart => exact ⟨0, by omega, rfl, heap_alloc_new w _, (Below.refl _ w).alloc (Nat.le_refl _) _⟩
  case round =>
    obtain ⟨k, hk, rfl, HR, HB⟩ := hrel
    by_cases hlt : k < len
    · obtain ⟨x, rfl, hc⟩ := HF.out k hlt wr HB.out
      have HK : Hid (k + 1 ≤ len) := hlt
      have hfz := HR.out.frozen k
      have hck := HR.out.cell k (by simp [HLn.out]; omega)
      have HS : Hid ((f.take k ++ List.replicate (len - k) (⟨#[]⟩ : ByteArray)).set k (f.getD k ByteArray.empty) = f.take (k + 1) ++ List.replicate (len - (k + 1)) (⟨#[]⟩ : ByteArray)) := set_nextS f len k (by rw [HLn.out]; exact hlt) hlt
      generalize (f.take k ++ List.replicate (len - k) (⟨#[]⟩ : ByteArray)).getD k ByteArray.empty = old at hck
      generalize f.getD k ByteArray.empty = z at hc HS
      go_wp2_with fail
      go_roundw
      case rel =>
        refine ⟨k + 1, HK.out, by go_num, ?_, HB.out.setCell (p := ⟨w.heap.size, k, none⟩) (Nat.le_refl _) _⟩
        have := HR.out.set k z
        rw [HS.out] at this
        exact this
      case measure => have := HK.out; simp [intOf]; omega
    · have HE : Hid (f.take k ++ List.replicate (len - k) (⟨#[]⟩ : ByteArray) = f) := by
        show _ = _
        rw [List.take_of_length_le (by rw [HLn.out]; omega), show len - k = 0 from by omega]
        simp
      go_wp2_with fail
      go_ret
      refine ⟨rfl, ?_, HB.out⟩
      rw [← HE.out]
      exact HR.out

set_option maxHeartbeats 1000000 in
set_option maxRecDepth 100000 in
theorem eqStrs (g1 g2 n c1 c2 : Nat) (zs : List ByteArray) (w : World) (h1 : AtS w g1 zs) (h2 : AtS w g2 zs) (hn : n = zs.length) (hm : n ≤ 1073741824) :
    Calls Tryz.prog 16 #[.slice (some ⟨g1, 0, none⟩) n c1, .slice (some ⟨g2, 0, none⟩) n c2] w fun e w' => e = .returned (.bool true) ∧ Below w.heap.size w w' := by
  have HA : Hid (AtS w g1 zs ∧ AtS w g2 zs ∧ Below w.heap.size w w) := ⟨h1, h2, Below.refl _ w⟩
  have HN : Hid (n = zs.length) := hn
  clear h1 h2 hn
  go_enter Tryz.func16, Tryz.ntmps16
  go_wp2
  go_loopw [5] (fun i wr => ∃ k : Nat, k ≤ n ∧ i = .int .i64 (k : Int) ∧ Hid (AtS wr g1 zs ∧ AtS wr g2 zs ∧ Below w.heap.size w wr)) (fun i _ => n - (intOf i).toNat)
  case atStart => exact ⟨0, by omega, rfl, HA⟩
  case round =>
    clear HA
    obtain ⟨k, hk, rfl, HA⟩ := hrel
    by_cases hlt : k < n
    · have hkz : k < zs.length := by rw [← HN.out]; exact hlt
      have d1 := HA.out.1.2 k hkz
      have d2 := HA.out.2.1.2 k hkz
      have HK : Hid (k + 1 ≤ n) := hlt
      generalize zs.getD k ByteArray.empty = z at d1 d2
      have lk : (k : Int) < (n : Int) := by omega
      clear hkz
      go_wp2_with fail
      go_region
      go_wp2_with fail
      go_roundw
      case rel => exact ⟨k + 1, HK.out, by go_num, HA.out.1.drew, HA.out.2.1.drew, HA.out.2.2.drew⟩
      case measure => have := HK.out; simp [intOf]; omega
    · go_wp2_with fail
      go_ret
      exact ⟨rfl, HA.out.2.2⟩

def SzOk (zs : List ByteArray) (len : Nat) (e : Ending) : Prop := e = .returned (.int .i64 (-1)) ∨ ∃ r : Nat, e = .returned (.int .i64 (r : Int)) ∧ len ≤ 1048576 ∧ ∀ i, i < len → (zs.getD i ByteArray.empty).size ≤ 1048576
set_option maxHeartbeats 1000000 in
set_option maxRecDepth 100000 in
theorem szStrs (a : Option Addr) (len cap : Nat) (zs : List ByteArray) (w : World) (h0 : IsTexts w a len cap zs) :
    Calls Tryz.prog 10 #[.slice a len cap, .int .i64 1048576] w fun e w' => w = w' ∧ SzOk zs len e := by
  by_cases hl : (1048576 : Int) < (len : Int)
  · have hneg : (1048576 : Int) - (len : Int) < 0 := by omega
    have hlm : len ≤ 140737488355328 ∨ True := .inr trivial
    have hcap : len ≤ maxLen := by
      rcases h0 with ⟨_, hl0, _⟩ | ⟨x, _, hlc, hm, _⟩
      · omega
      · omega
    unfold maxLen at hcap
    clear h0 hlm
    go_enter Tryz.func10, Tryz.ntmps10
    go_wp2
    go_ret
    exact ⟨rfl, .inl rfl⟩
  · have hn : len ≤ 1048576 := by omega
    have HF : Hid (∀ k, k < len → ∃ x : Addr, a = some x ∧ w.cell? (x.add k) = some (.string (zs.getD k ByteArray.empty)) ∧ (zs.getD k ByteArray.empty).size ≤ maxLen) := by
      intro k hk
      rcases h0 with ⟨_, hl, _⟩ | ⟨x, hx, hlc, _, hzl, hcell, hsz⟩
      · omega
      · refine ⟨x, hx, hcell k (by omega), hsz _ ?_⟩
        have : k < zs.length := by omega
        simp [List.getElem?_eq_getElem this]
    have hneg : ¬ (1048576 : Int) - (len : Int) < 0 := by omega
    clear h0
    go_enter Tryz.func10, Tryz.ntmps10
    go_wp2
    go_loop [1, 5] (fun l i => ∃ k r : Nat, k ≤ len ∧ r ≤ 1048576 ∧ l = .int .i64 (r : Int) ∧ i = .int .i64 (k : Int) ∧ Hid (∀ j, j < k → (zs.getD j ByteArray.empty).size ≤ 1048576)) (fun _ i => len - (intOf i).toNat)
    case atStart => exact ⟨0, 1048576 - len, by omega, by omega, by go_num, rfl, fun j hj => by omega⟩
    case round =>
      obtain ⟨k, r, hk, hr, rfl, rfl, HA⟩ := hrel
      by_cases hlt : k < len
      · obtain ⟨x, rfl, hc, hz⟩ := HF.out k hlt
        have HK : Hid (k + 1 ≤ len) := hlt
        have HZ : Hid (∀ z : ByteArray, z = zs.getD k ByteArray.empty → z.size ≤ 1048576 → ∀ j, j < k + 1 → (zs.getD j ByteArray.empty).size ≤ 1048576) := by
          intro z hz1 hz2 j hj
          rcases Nat.lt_or_ge j k with h' | h'
          · exact HA.out j h'
          · obtain rfl : j = k := by omega
            rw [← hz1]; exact hz2
        obtain ⟨z, hze⟩ : ∃ z, z = zs.getD k ByteArray.empty := ⟨_, rfl⟩
        rw [← hze] at hc hz
        have HE : Hid (z = zs.getD k ByteArray.empty) := hze
        unfold maxLen at hz
        clear hze
        have lk : (k : Int) < (len : Int) := by omega
        by_cases hneg2 : (r : Int) - (z.size : Int) < 0
        · go_wp2_with fail
          go_ret
          exact ⟨rfl, .inl rfl⟩
        · have HS : Hid (z.size ≤ r) := by show _ ≤ _; omega
          go_wp2_with fail
          go_round
          case rel => exact ⟨k + 1, r - z.size, HK.out, by omega, by have := HS.out; show Value.int .i64 _ = Value.int .i64 _; congr 1; omega, by go_num, HZ.out z HE.out (by have := HS.out; omega)⟩
          case measure => have := HK.out; simp [intOf]; omega
      · go_wp2_with fail
        go_ret
        exact ⟨rfl, .inr ⟨r, rfl, hn, fun i hi => HA.out i (by omega)⟩⟩

end Go.Proofs.YtpddholoehmjkaaGreatDoor

set_option linter.unusedVariables false
namespace Go.Proofs.YtpddholoehmjkaaGreatDoor
open Go.ChangeShapes Go.WideShapes Go.ChangeAt Go.RowKit Go.Deep

def blockVal (h : HeadV) (s : Value) : Value := .agg #[.string h.prev, .string h.root, .int .i64 h.time, .int .i64 h.diff, .int .i64 h.nonce, s]
theorem six_of_parts {cs : Array Value} {b : Value} {h : List Value} (hl : cs.toList.length = 6) (h0 : (cs.toList.drop 0).take 5 = h) (h1 : (cs.toList.drop 5).take 1 = [b]) : cs.toList = h ++ [b] := by
  rw [← h0, ← h1, List.drop_zero, List.take_of_length_le (l := cs.toList.drop 5) (by rw [List.length_drop, hl]; decide), List.take_append_drop]
theorem cellsLBlock : Tryz.prog.cellsOf 63 = 6 := by kernel_rfl
theorem cellsStrs : Tryz.prog.cellsOf 23 = 1 := by kernel_rfl
set_option maxRecDepth 100000 in
theorem open_block {H : Type} {enc : TypeId × Value → H} {W : World} {base b0 : Nat} {held : Bool} {v : Value} {d : DataW H} {p : List MemPlace} (hv : Value.okWide Tryz.prog W .any b0 63 v) (h : DataW.Trod enc Tryz.prog W base (fun _ => true) held 63 v d p) :
    ∃ (x : HeadV) (a : Option Addr) (len cap : Nat) (zs : List ByteArray), v = blockVal x (.slice a len cap) ∧ wfHead x ∧ IsTexts W a len cap zs := by
  obtain ⟨cs, rfl, hcs⟩ := okWide_struct Tryz.underlying63 hv
  obtain ⟨fuel, hf⟩ := h
  obtain ⟨xs, n, _, _, hl, hlen, hx⟩ := DataW.trod_struct Tryz.underlying63 hf
  match xs, hlen with
  | [y0, y1], _ =>
    have g0 := hx 0 _ rfl
    have g1 := hx 1 _ rfl
    replace hl : cs.toList.length = Tryz.prog.cellsOf 63 := hl
    rw [cellsLBlock] at hl
    replace g0 : DataW.trod enc Tryz.prog W base (fun _ => true) held n 61 ((cs.toList.drop 0).take (Tryz.prog.cellsOf 61)) = some y0 := g0
    replace g1 : DataW.trod enc Tryz.prog W base (fun _ => true) held n 23 ((cs.toList.drop 5).take (Tryz.prog.cellsOf 23)) = some y1 := g1
    rw [sizeHead] at g0
    rw [cellsStrs] at g1
    obtain ⟨x, hx0, hxw⟩ := invHead _ _ _ g0 (by rw [List.length_take, List.length_drop, hl]; decide)
    rcases open_strings Tryz.underlying23 Tryz.underlying9 (by kernel_rfl) g1 with ⟨hcs1, _⟩ | ⟨a, l, c, zs, hcs1, _, hl1, hm, hz, _, hcell, hwz⟩
    · refine ⟨x, none, 0, 0, [], ?_, hxw, .inl ⟨rfl, rfl, rfl, rfl⟩⟩
      have := six_of_parts hl hx0 hcs1
      rw [blockVal]
      congr 1
      exact Array.ext' this
    · refine ⟨x, some a, l, c, zs, ?_, hxw, .inr ⟨a, rfl, hl1, hm, by simpa using hz, hcell, hwz⟩⟩
      have := six_of_parts hl hx0 hcs1
      rw [blockVal]
      congr 1
      exact Array.ext' this

set_option maxHeartbeats 1000000 in
set_option maxRecDepth 100000 in
theorem szStrsR (r0 : Nat) (hr0 : r0 ≤ 1048576) (a : Option Addr) (len cap : Nat) (zs : List ByteArray) (w : World) (h0 : IsTexts w a len cap zs) :
    Calls Tryz.prog 10 #[.slice a len cap, .int .i64 (r0 : Int)] w fun e w' => w = w' ∧ SzOk zs len e := by
  by_cases hl : (r0 : Int) < (len : Int)
  · have hneg : (r0 : Int) - (len : Int) < 0 := by omega
    have hlm : len ≤ 140737488355328 ∨ True := .inr trivial
    have hcap : len ≤ maxLen := by
      rcases h0 with ⟨_, hl0, _⟩ | ⟨x, _, hlc, hm, _⟩
      · omega
      · omega
    unfold maxLen at hcap
    have hwr : IntKind.i64.wrap ((r0 : Int) - (len : Int)) = (r0 : Int) - (len : Int) := by rw [IntKind.wrap_i64]; omega
    clear h0 hlm
    go_enter Tryz.func10, Tryz.ntmps10
    go_wp2
    go_ret
    exact ⟨rfl, .inl rfl⟩
  · have hn : len ≤ 1048576 := by omega
    have HF : Hid (∀ k, k < len → ∃ x : Addr, a = some x ∧ w.cell? (x.add k) = some (.string (zs.getD k ByteArray.empty)) ∧ (zs.getD k ByteArray.empty).size ≤ maxLen) := by
      intro k hk
      rcases h0 with ⟨_, hl, _⟩ | ⟨x, hx, hlc, _, hzl, hcell, hsz⟩
      · omega
      · refine ⟨x, hx, hcell k (by omega), hsz _ ?_⟩
        have : k < zs.length := by omega
        simp [List.getElem?_eq_getElem this]
    have hwr : IntKind.i64.wrap ((r0 : Int) - (len : Int)) = (r0 : Int) - (len : Int) := by rw [IntKind.wrap_i64]; omega
    have hneg : ¬ (r0 : Int) - (len : Int) < 0 := by omega
    clear h0
    go_enter Tryz.func10, Tryz.ntmps10
    go_wp2
    go_loop [1, 5] (fun l i => ∃ k r : Nat, k ≤ len ∧ r ≤ 1048576 ∧ l = .int .i64 (r : Int) ∧ i = .int .i64 (k : Int) ∧ Hid (∀ j, j < k → (zs.getD j ByteArray.empty).size ≤ 1048576)) (fun _ i => len - (intOf i).toNat)
    case atStart => exact ⟨0, r0 - len, by omega, by omega, by show Value.int .i64 _ = Value.int .i64 _; congr 1; omega, rfl, fun j hj => by omega⟩
    case round =>
      obtain ⟨k, r, hk, hr, rfl, rfl, HA⟩ := hrel
      by_cases hlt : k < len
      · obtain ⟨x, rfl, hc, hz⟩ := HF.out k hlt
        have HK : Hid (k + 1 ≤ len) := hlt
        have HZ : Hid (∀ z : ByteArray, z = zs.getD k ByteArray.empty → z.size ≤ 1048576 → ∀ j, j < k + 1 → (zs.getD j ByteArray.empty).size ≤ 1048576) := by
          intro z hz1 hz2 j hj
          rcases Nat.lt_or_ge j k with h' | h'
          · exact HA.out j h'
          · obtain rfl : j = k := by omega
            rw [← hz1]; exact hz2
        obtain ⟨z, hze⟩ : ∃ z, z = zs.getD k ByteArray.empty := ⟨_, rfl⟩
        rw [← hze] at hc hz
        have HE : Hid (z = zs.getD k ByteArray.empty) := hze
        unfold maxLen at hz
        clear hze
        have lk : (k : Int) < (len : Int) := by omega
        by_cases hneg2 : (r : Int) - (z.size : Int) < 0
        · go_wp2_with fail
          go_ret
          exact ⟨rfl, .inl rfl⟩
        · have HS : Hid (z.size ≤ r) := by show _ ≤ _; omega
          go_wp2_with fail
          go_round
          case rel => exact ⟨k + 1, r - z.size, HK.out, by omega, by have := HS.out; show Value.int .i64 _ = Value.int .i64 _; congr 1; omega, by go_num, HZ.out z HE.out (by have := HS.out; omega)⟩
          case measure => have := HK.out; simp [intOf]; omega
      · go_wp2_with fail
        go_ret
        exact ⟨rfl, .inr ⟨r, rfl, hn, fun i hi => HA.out i (by omega)⟩⟩


/-- A block of memory, its cells written out. -/
def CBk (w : World) (g : Nat) (T : TypeId) (cs : Array Value) : Prop := w.heap[g]? = some (.cells cs T (0, 0))
theorem CBk.lt {w : World} {g : Nat} {T : TypeId} {cs : Array Value} (h : CBk w g T cs) : g < w.heap.size := by
  rcases Nat.lt_or_ge g w.heap.size with h' | h'
  · exact h'
  · simp [CBk, Array.getElem?_eq_none h'] at h
theorem CBk.below {w w' : World} {g B : Nat} {T : TypeId} {cs : Array Value} (h : CBk w g T cs) (hb : Below B w w') (hg : g < B) : CBk w' g T cs := by
  unfold CBk at h ⊢
  rw [hb.block g hg]
  exact h
theorem CBk.call {w w' : World} {g : Nat} {T : TypeId} {cs : Array Value} (h : CBk w g T cs) (hb : Below w.heap.size w w') : CBk w' g T cs := h.below hb h.lt
theorem CBk.alloc {w : World} {g : Nat} {T : TypeId} {cs : Array Value} (h : CBk w g T cs) (o : Obj) : CBk (w.alloc o) g T cs := h.call ((Below.refl _ w).alloc (Nat.le_refl _) o)
theorem CBk.new (w : World) (T : TypeId) (cs : Array Value) : CBk (w.alloc (.cells cs T)) w.heap.size T cs := heap_alloc_new w _
theorem CBk.cell {w : World} {g : Nat} {T : TypeId} {cs : Array Value} (h : CBk w g T cs) (i : Nat) : w.cell? ⟨g, i, none⟩ = cs[i]? := by rw [Lib.cell_of_heap h]
theorem CBk.frozen {w : World} {g : Nat} {T : TypeId} {cs : Array Value} (h : CBk w g T cs) (i : Nat) : w.frozen? ⟨g, i, none⟩ = false := Lib.frozen_of_heap h i
theorem CBk.set {w : World} {g : Nat} {T : TypeId} {cs : Array Value} (h : CBk w g T cs) (i : Nat) (v : Value) : CBk (w.setCell ⟨g, i, none⟩ v) g T (cs.setIfInBounds i v) := by
  unfold CBk at h ⊢
  simp only [World.setCell, Array.getElem?_modify, h]
  simp
theorem CBk.other {w : World} {g g' j : Nat} {T : TypeId} {cs : Array Value} (h : CBk w g T cs) (hg : g' ≠ g) (v : Value) : CBk (w.setCell ⟨g', j, none⟩ v) g T cs := by
  unfold CBk at h ⊢; simp [World.setCell, Array.getElem?_modify, h, hg]
theorem CBk.six {w : World} {g : Nat} {T : TypeId} {a b c d e f : Value} (h : CBk w g T #[a, b, c, d, e, f]) : w.cell? ⟨g, 0, none⟩ = some a ∧ w.cell? ⟨g, 1, none⟩ = some b ∧ w.cell? ⟨g, 2, none⟩ = some c ∧ w.cell? ⟨g, 3, none⟩ = some d ∧ w.cell? ⟨g, 4, none⟩ = some e ∧ w.cell? ⟨g, 5, none⟩ = some f ∧ w.frozen? ⟨g, 0, none⟩ = false ∧ w.frozen? ⟨g, 1, none⟩ = false ∧ w.frozen? ⟨g, 2, none⟩ = false ∧ w.frozen? ⟨g, 3, none⟩ = false ∧ w.frozen? ⟨g, 4, none⟩ = false ∧ w.frozen? ⟨g, 5, none⟩ = false :=
  ⟨h.cell 0, h.cell 1, h.cell 2, h.cell 3, h.cell 4, h.cell 5, h.frozen 0, h.frozen 1, h.frozen 2, h.frozen 3, h.frozen 4, h.frozen 5⟩

set_option maxHeartbeats 1000000 in
set_option maxRecDepth 100000 in
theorem szBlock1 (h : HeadV) (a : Option Addr) (len cap : Nat) (zs : List ByteArray) (w : World) (hw : wfHead h) (h0 : IsTexts w a len cap zs) :
    Calls Tryz.prog 40 #[blockVal h (.slice a len cap), .int .i64 1048576] w fun e w' => Below w.heap.size w w' ∧ (e = .returned (.int .i64 (-1)) ∨ (SzOk zs len e ∧ smallHead h)) := by
  unfold blockVal
  have H0 : Hid (IsTexts w a len cap zs) := h0
  have hsz := fun w' => szHead1 h 1048576 w' (Nat.le_refl _) hw
  have B0 : Hid (CBk _ w.heap.size 63 #[.string h.prev, .string h.root, .int .i64 h.time, .int .i64 h.diff, .int .i64 h.nonce, .slice a len cap]) := CBk.new w 63 #[.string h.prev, .string h.root, .int .i64 h.time, .int .i64 h.diff, .int .i64 h.nonce, .slice a len cap]
  have L0 : Hid (Below w.heap.size w (w.alloc (.cells #[.string h.prev, .string h.root, .int .i64 h.time, .int .i64 h.diff, .int .i64 h.nonce, .slice a len cap] 63))) := (Below.refl _ w).alloc (Nat.le_refl _) _
  have HIT : Hid (∀ w', Below w.heap.size w w' → IsTexts w' a len cap zs) := by
    intro w' hb
    rcases h0 with h1 | ⟨x, hx, h1, h2, h3, h4, h5⟩
    · exact .inl h1
    · refine .inr ⟨x, hx, h1, h2, h3, fun i hi => ?_, h5⟩
      have := h4 i hi
      rw [← this]
      exact hb.cell (cell_lt this)
  clear hw h0
  go_enter Tryz.func40, Tryz.ntmps40
  go_wp2_with fail
  refine (hsz _).mono ?_
  rintro e w1 ⟨b1, rfl | ⟨q, rfl, hq, hsm⟩⟩
  · go_wp2_with fail
    go_ret
    exact ⟨L0.out.trans (b1.mono L0.out.size), .inl rfl⟩
  have L1 : Hid (Below w.heap.size w w1) := L0.out.trans (b1.mono L0.out.size)
  have B1 := (B0.out.call b1).six
  obtain ⟨c0, c1, c2, c3, c4, c5, _⟩ := B1
  have HSM : Hid (smallHead h) := hsm
  have hq0 : ¬ (q : Int) < 0 := by omega
  clear hsm B0 L0 b1 hsz
  go_wp2_with fail
  refine (szStrsR q hq a len cap zs _ (HIT.out _ L1.out)).mono ?_
  rintro e w2 ⟨rfl, hok⟩
  rcases hok with rfl | ⟨r, rfl, h1, h2⟩
  · go_wp2_with fail
    go_ret
    exact ⟨L1.out, .inl rfl⟩
  · have HSZ : Hid (SzOk zs len (.returned (.int .i64 (r : Int)))) := .inr ⟨r, rfl, h1, h2⟩
    have hr0 : ¬ (r : Int) < 0 := by omega
    clear h2
    go_wp2_with fail
    go_ret
    exact ⟨L1.out, .inr ⟨HSZ.out, HSM.out⟩⟩

theorem rowS_other {w : World} {g g' : Nat} {l : List ByteArray} (h : RowS w g l) (hg : g' ≠ g) (j : Nat) (v : Value) : RowS (w.setCell ⟨g', j, none⟩ v) g l := by
  unfold RowS at h ⊢; simp [World.setCell, Array.getElem?_modify, h, hg]
/-- What a copy of a block leaves. -/
def BackB (h : HeadV) (len : Nat) (zs : List ByteArray) (w : World) (e : Ending) (w' : World) : Prop := ∃ g, e = .returned (blockVal h (.slice (some ⟨g, 0, none⟩) len len)) ∧ RowS w' g (zs.take len) ∧ w.heap.size ≤ g ∧ Below w.heap.size w w'

set_option maxHeartbeats 1000000 in
set_option maxRecDepth 100000 in
theorem toBlock1 (h : HeadV) (a : Option Addr) (len cap : Nat) (zs : List ByteArray) (w w0 : World) (h0 : IsTexts w0 a len cap zs) (hw : Below w0.heap.size w0 w) (hn : len ≤ 1048576) :
    Calls Tryz.prog 45 #[blockVal h (.slice a len cap)] w fun e w' => BackB h len zs w e w' := by
  unfold blockVal
  have hto := toHeadA h
  have HTS : Hid (∀ w1, Below w.heap.size w w1 → Calls Tryz.prog 13 #[.slice a len cap] w1 fun e w' => e = .returned (.slice (some ⟨w1.heap.size, 0, none⟩) len len) ∧ RowS w' w1.heap.size (zs.take len) ∧ Below w1.heap.size w1 w') := fun w1 hb => toStrs a len cap zs w1 w0 h0 (hw.trans (hb.mono hw.size)) hn
  clear h0 hw
  have A0 : Hid (CBk _ w.heap.size 63 #[.string h.prev, .string h.root, .int .i64 h.time, .int .i64 h.diff, .int .i64 h.nonce, .slice a len cap]) := ((CBk.new w 63 #[.string h.prev, .string h.root, .int .i64 h.time, .int .i64 h.diff, .int .i64 h.nonce, .slice a len cap]).alloc (.cells #[.string ⟨#[]⟩, .string ⟨#[]⟩, .int .i64 0, .int .i64 0, .int .i64 0, .slice none 0 0] 41)).alloc (.cells #[.string ⟨#[]⟩, .string ⟨#[]⟩, .int .i64 0, .int .i64 0, .int .i64 0, .slice none 0 0] 41)
  have A1 : Hid (CBk (((w.alloc (.cells #[.string h.prev, .string h.root, .int .i64 h.time, .int .i64 h.diff, .int .i64 h.nonce, .slice a len cap] 63)).alloc (.cells #[.string ⟨#[]⟩, .string ⟨#[]⟩, .int .i64 0, .int .i64 0, .int .i64 0, .slice none 0 0] 41)).alloc (.cells #[.string ⟨#[]⟩, .string ⟨#[]⟩, .int .i64 0, .int .i64 0, .int .i64 0, .slice none 0 0] 41)) (w.heap.size + 1) 41 #[.string ⟨#[]⟩, .string ⟨#[]⟩, .int .i64 0, .int .i64 0, .int .i64 0, .slice none 0 0]) := by
    have := (CBk.new (w.alloc (.cells #[.string h.prev, .string h.root, .int .i64 h.time, .int .i64 h.diff, .int .i64 h.nonce, .slice a len cap] 63)) 41 #[.string ⟨#[]⟩, .string ⟨#[]⟩, .int .i64 0, .int .i64 0, .int .i64 0, .slice none 0 0]).alloc (.cells #[.string ⟨#[]⟩, .string ⟨#[]⟩, .int .i64 0, .int .i64 0, .int .i64 0, .slice none 0 0] 41)
    rwa [show (w.alloc (.cells #[.string h.prev, .string h.root, .int .i64 h.time, .int .i64 h.diff, .int .i64 h.nonce, .slice a len cap] 63)).heap.size = w.heap.size + 1 from by simp] at this
  have A2 : Hid (CBk (((w.alloc (.cells #[.string h.prev, .string h.root, .int .i64 h.time, .int .i64 h.diff, .int .i64 h.nonce, .slice a len cap] 63)).alloc (.cells #[.string ⟨#[]⟩, .string ⟨#[]⟩, .int .i64 0, .int .i64 0, .int .i64 0, .slice none 0 0] 41)).alloc (.cells #[.string ⟨#[]⟩, .string ⟨#[]⟩, .int .i64 0, .int .i64 0, .int .i64 0, .slice none 0 0] 41)) (w.heap.size + 1 + 1) 41 #[.string ⟨#[]⟩, .string ⟨#[]⟩, .int .i64 0, .int .i64 0, .int .i64 0, .slice none 0 0]) := by
    have := CBk.new ((w.alloc (.cells #[.string h.prev, .string h.root, .int .i64 h.time, .int .i64 h.diff, .int .i64 h.nonce, .slice a len cap] 63)).alloc (.cells #[.string ⟨#[]⟩, .string ⟨#[]⟩, .int .i64 0, .int .i64 0, .int .i64 0, .slice none 0 0] 41)) 41 #[.string ⟨#[]⟩, .string ⟨#[]⟩, .int .i64 0, .int .i64 0, .int .i64 0, .slice none 0 0]
    rwa [show ((w.alloc (.cells #[.string h.prev, .string h.root, .int .i64 h.time, .int .i64 h.diff, .int .i64 h.nonce, .slice a len cap] 63)).alloc (.cells #[.string ⟨#[]⟩, .string ⟨#[]⟩, .int .i64 0, .int .i64 0, .int .i64 0, .slice none 0 0] 41)).heap.size = w.heap.size + 1 + 1 from by simp] at this
  have L0 : Hid (Below w.heap.size w (((w.alloc (.cells #[.string h.prev, .string h.root, .int .i64 h.time, .int .i64 h.diff, .int .i64 h.nonce, .slice a len cap] 63)).alloc (.cells #[.string ⟨#[]⟩, .string ⟨#[]⟩, .int .i64 0, .int .i64 0, .int .i64 0, .slice none 0 0] 41)).alloc (.cells #[.string ⟨#[]⟩, .string ⟨#[]⟩, .int .i64 0, .int .i64 0, .int .i64 0, .slice none 0 0] 41))) := (((Below.refl _ w).alloc (Nat.le_refl _) _).alloc (by simp) _).alloc (by simp; omega) _
  go_enter Tryz.func45, Tryz.ntmps45
  go_wp2_with fail
  refine (hto _).mono ?_
  rintro e w1 ⟨rfl, b1⟩
  have A01 : Hid (CBk w1 w.heap.size 63 #[.string h.prev, .string h.root, .int .i64 h.time, .int .i64 h.diff, .int .i64 h.nonce, .slice a len cap]) := A0.out.call b1
  have A11 : Hid (CBk w1 (w.heap.size + 1) 41 #[.string ⟨#[]⟩, .string ⟨#[]⟩, .int .i64 0, .int .i64 0, .int .i64 0, .slice none 0 0]) := A1.out.call b1
  have A21 : Hid (CBk w1 (w.heap.size + 1 + 1) 41 #[.string ⟨#[]⟩, .string ⟨#[]⟩, .int .i64 0, .int .i64 0, .int .i64 0, .slice none 0 0]) := A2.out.call b1
  have L1 : Hid (Below w.heap.size w w1) := L0.out.trans (b1.mono L0.out.size)
  clear A0 A1 A2 L0 b1
  obtain ⟨c0, c1, c2, c3, c4, c5, _⟩ := A01.out.six
  obtain ⟨d0, d1, d2, d3, d4, d5, z0, z1, z2, z3, z4, z5⟩ := A21.out.six
  have S1 : Hid (CBk (((((w1.setCell ⟨w.heap.size + 1 + 1, 0, none⟩ (.string h.prev)).setCell ⟨w.heap.size + 1 + 1, 1, none⟩ (.string h.root)).setCell ⟨w.heap.size + 1 + 1, 2, none⟩ (.int .i64 h.time)).setCell ⟨w.heap.size + 1 + 1, 3, none⟩ (.int .i64 h.diff)).setCell ⟨w.heap.size + 1 + 1, 4, none⟩ (.int .i64 h.nonce)) (w.heap.size + 1 + 1) 41 #[.string h.prev, .string h.root, .int .i64 h.time, .int .i64 h.diff, .int .i64 h.nonce, .slice none 0 0]) := (((((A21.out.set 0 (.string h.prev)).set 1 (.string h.root)).set 2 (.int .i64 h.time)).set 3 (.int .i64 h.diff)).set 4 (.int .i64 h.nonce))
  have T1 : Hid (CBk (((((w1.setCell ⟨w.heap.size + 1 + 1, 0, none⟩ (.string h.prev)).setCell ⟨w.heap.size + 1 + 1, 1, none⟩ (.string h.root)).setCell ⟨w.heap.size + 1 + 1, 2, none⟩ (.int .i64 h.time)).setCell ⟨w.heap.size + 1 + 1, 3, none⟩ (.int .i64 h.diff)).setCell ⟨w.heap.size + 1 + 1, 4, none⟩ (.int .i64 h.nonce)) (w.heap.size + 1) 41 #[.string ⟨#[]⟩, .string ⟨#[]⟩, .int .i64 0, .int .i64 0, .int .i64 0, .slice none 0 0]) := (((((A11.out.other (by omega) _).other (by omega) _).other (by omega) _).other (by omega) _).other (by omega) _)
  have LB1 : Hid (Below w.heap.size w (((((w1.setCell ⟨w.heap.size + 1 + 1, 0, none⟩ (.string h.prev)).setCell ⟨w.heap.size + 1 + 1, 1, none⟩ (.string h.root)).setCell ⟨w.heap.size + 1 + 1, 2, none⟩ (.int .i64 h.time)).setCell ⟨w.heap.size + 1 + 1, 3, none⟩ (.int .i64 h.diff)).setCell ⟨w.heap.size + 1 + 1, 4, none⟩ (.int .i64 h.nonce))) := (((((L1.out.setCell (p := ⟨w.heap.size + 1 + 1, 0, none⟩) (by show w.heap.size ≤ w.heap.size + 1 + 1; omega) _).setCell (p := ⟨w.heap.size + 1 + 1, 1, none⟩) (by show w.heap.size ≤ w.heap.size + 1 + 1; omega) _).setCell (p := ⟨w.heap.size + 1 + 1, 2, none⟩) (by show w.heap.size ≤ w.heap.size + 1 + 1; omega) _).setCell (p := ⟨w.heap.size + 1 + 1, 3, none⟩) (by show w.heap.size ≤ w.heap.size + 1 + 1; omega) _).setCell (p := ⟨w.heap.size + 1 + 1, 4, none⟩) (by show w.heap.size ≤ w.heap.size + 1 + 1; omega) _)
  have HSZ : Hid ((((((w1.setCell ⟨w.heap.size + 1 + 1, 0, none⟩ (.string h.prev)).setCell ⟨w.heap.size + 1 + 1, 1, none⟩ (.string h.root)).setCell ⟨w.heap.size + 1 + 1, 2, none⟩ (.int .i64 h.time)).setCell ⟨w.heap.size + 1 + 1, 3, none⟩ (.int .i64 h.diff)).setCell ⟨w.heap.size + 1 + 1, 4, none⟩ (.int .i64 h.nonce)).heap.size = w1.heap.size) := by show _ = _; simp [World.setCell]
  have lw1 := A21.out.lt
  go_wp2_with fail
  refine (HTS.out _ LB1.out).mono ?_
  rintro e w2 ⟨rfl, r2, b2⟩
  have A22 : Hid (CBk w2 (w.heap.size + 1 + 1) 41 #[.string h.prev, .string h.root, .int .i64 h.time, .int .i64 h.diff, .int .i64 h.nonce, .slice none 0 0]) := S1.out.call b2
  have A12 : Hid (CBk w2 (w.heap.size + 1) 41 #[.string ⟨#[]⟩, .string ⟨#[]⟩, .int .i64 0, .int .i64 0, .int .i64 0, .slice none 0 0]) := T1.out.call b2
  have L3 : Hid (Below w.heap.size w w2) := LB1.out.trans (b2.mono LB1.out.size)
  rw [HSZ.out] at r2
  have R2 : Hid (RowS w2 w1.heap.size (zs.take len)) := r2
  have HG : Hid (w.heap.size + 1 + 1 < w1.heap.size) := lw1
  clear c0 c1 c2 c3 c4 c5 d0 d1 d2 d3 d4 d5 z0 z1 z2 z3 z4 z5 S1 T1 LB1 b2 r2 A01 A11 A21 L1 HTS lw1
  have e0 := HSZ.out
  have HGE : ∃ g, g = w1.heap.size := ⟨_, rfl⟩
  obtain ⟨g, hg⟩ := HGE
  rw [← hg] at R2 HG
  rw [e0, ← hg]
  clear e0 HSZ
  obtain ⟨d0, d1, d2, d3, d4, d5, z0, z1, z2, z3, z4, z5⟩ := A22.out.six
  obtain ⟨f0, f1, f2, f3, f4, f5, y0, y1, y2, y3, y4, y5⟩ := A12.out.six
  have HG2 : w.heap.size + 1 + 1 < g := HG.out
  have S4 : Hid (CBk (((((((w2.setCell ⟨w.heap.size + 1 + 1, 5, none⟩ (.slice (some ⟨g, 0, none⟩) len len)).setCell ⟨w.heap.size + 1, 0, none⟩ (.string h.prev)).setCell ⟨w.heap.size + 1, 1, none⟩ (.string h.root)).setCell ⟨w.heap.size + 1, 2, none⟩ (.int .i64 h.time)).setCell ⟨w.heap.size + 1, 3, none⟩ (.int .i64 h.diff)).setCell ⟨w.heap.size + 1, 4, none⟩ (.int .i64 h.nonce)).setCell ⟨w.heap.size + 1, 5, none⟩ (.slice (some ⟨g, 0, none⟩) len len)) (w.heap.size + 1) 41 #[.string h.prev, .string h.root, .int .i64 h.time, .int .i64 h.diff, .int .i64 h.nonce, .slice (some ⟨g, 0, none⟩) len len]) := (((((((A12.out.other (by omega) _).set 0 (.string h.prev)).set 1 (.string h.root)).set 2 (.int .i64 h.time)).set 3 (.int .i64 h.diff)).set 4 (.int .i64 h.nonce)).set 5 (.slice (some ⟨g, 0, none⟩) len len))
  have LB4 : Hid (Below w.heap.size w (((((((w2.setCell ⟨w.heap.size + 1 + 1, 5, none⟩ (.slice (some ⟨g, 0, none⟩) len len)).setCell ⟨w.heap.size + 1, 0, none⟩ (.string h.prev)).setCell ⟨w.heap.size + 1, 1, none⟩ (.string h.root)).setCell ⟨w.heap.size + 1, 2, none⟩ (.int .i64 h.time)).setCell ⟨w.heap.size + 1, 3, none⟩ (.int .i64 h.diff)).setCell ⟨w.heap.size + 1, 4, none⟩ (.int .i64 h.nonce)).setCell ⟨w.heap.size + 1, 5, none⟩ (.slice (some ⟨g, 0, none⟩) len len))) := (((((((L3.out.setCell (p := ⟨w.heap.size + 1 + 1, 5, none⟩) (by show w.heap.size ≤ w.heap.size + 1 + 1; omega) _).setCell (p := ⟨w.heap.size + 1, 0, none⟩) (Nat.le_succ _) _).setCell (p := ⟨w.heap.size + 1, 1, none⟩) (Nat.le_succ _) _).setCell (p := ⟨w.heap.size + 1, 2, none⟩) (Nat.le_succ _) _).setCell (p := ⟨w.heap.size + 1, 3, none⟩) (Nat.le_succ _) _).setCell (p := ⟨w.heap.size + 1, 4, none⟩) (Nat.le_succ _) _).setCell (p := ⟨w.heap.size + 1, 5, none⟩) (Nat.le_succ _) _)
  have R4 : Hid (RowS (((((((w2.setCell ⟨w.heap.size + 1 + 1, 5, none⟩ (.slice (some ⟨g, 0, none⟩) len len)).setCell ⟨w.heap.size + 1, 0, none⟩ (.string h.prev)).setCell ⟨w.heap.size + 1, 1, none⟩ (.string h.root)).setCell ⟨w.heap.size + 1, 2, none⟩ (.int .i64 h.time)).setCell ⟨w.heap.size + 1, 3, none⟩ (.int .i64 h.diff)).setCell ⟨w.heap.size + 1, 4, none⟩ (.int .i64 h.nonce)).setCell ⟨w.heap.size + 1, 5, none⟩ (.slice (some ⟨g, 0, none⟩) len len)) g (zs.take len)) := (rowS_other (rowS_other (rowS_other (rowS_other (rowS_other (rowS_other (rowS_other R2.out (show w.heap.size + 1 + 1 ≠ g by omega) 5 _) (show w.heap.size + 1 ≠ g by omega) 0 _) (show w.heap.size + 1 ≠ g by omega) 1 _) (show w.heap.size + 1 ≠ g by omega) 2 _) (show w.heap.size + 1 ≠ g by omega) 3 _) (show w.heap.size + 1 ≠ g by omega) 4 _) (show w.heap.size + 1 ≠ g by omega) 5 _)
  clear HG hg
  go_wp2_with fail
  exact bodyPost_ret (results_cell_row (p := 2) rfl _ _ (w.heap.size + 1) 41 #[.string h.prev, .string h.root, .int .i64 h.time, .int .i64 h.diff, .int .i64 h.nonce, .slice (some ⟨g, 0, none⟩) len len] (0, 0) _ rfl S4.out Tryz.underlying41 rfl (by kernel_rfl)) rfl ⟨g, rfl, R4.out, by omega, LB4.out⟩

end Go.Proofs.YtpddholoehmjkaaGreatDoor

