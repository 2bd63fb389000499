/-
  At every list of blocks the program's ChainMarks answers what the specification answers, in memory of its own; the list stands. The package variables that the row lists are as the program's text lays them.
-/
import Derived.Test.YtpddholoehmjkaaGreatDoorPart1
import Derived.Test.YtpddholoehmjkaaGreatDoorPart2
import Derived.Test.YtpddholoehmjkaaGreatDoorPart3
import Derived.Test.YtpddholoehmjkaaGreatDoorPart4
import Derived.Test.YtpddholoehmjkaaGreatDoorPart5
import Derived.Test.YtpddholoehmjkaaGreatDoorPart6
import Derived.Test.YtpddholoehmjkaaGreatDoorPart7
import Derived.Test.YtpddholoehmjkaaGreatDoorPart8
import Derived.Test.YtpddholoehmjkaaGreatDoorPart9
import Derived.Test.YtpddholoehmjkaaGreatDoorPart10
import Derived.Test.YtpddholoehmjkaaGreatDoorPart11
import Derived.Lib.AppendIntMem
import Derived.Test.YtpddholoehmjkaaGreatDoorCards
import Derived.Test.YtpddholoehmjkaaGreatDoorTie
import Derived.WalkKit
import Derived.ProofKit
import Derived.OpenShut
import Derived.ShutString
import Derived.ChangeOld
import Derived.ChangeVars
import Derived.Below
import Derived.Carry
import Derived.Deep.DeepHandedRow
import Derived.Lib.LaidTab
set_option linter.unusedVariables false
namespace Go.Proofs.YtpddholoehmjkaaGreatDoor
open Go.RowKit Go.Deep

def mkD : Nat → Nat → List UInt8 → List UInt8
  | 0, _, out => out
  | f + 1, k, out => if k = 0 then out else mkD f (k / 10) (UInt8.ofNat (48 + k % 10) :: out)
/-- The text of a number's mark. -/
def mkS (k : Nat) : ByteArray := if k = 0 then ⟨#[109, 48]⟩ else ⟨(109 :: mkD 19 k []).toArray⟩
theorem mkD_zero (f : Nat) (out : List UInt8) : mkD f 0 out = out := by cases f <;> simp [mkD]

set_option maxHeartbeats 1000000 in
set_option maxRecDepth 100000 in
theorem markText (k : Nat) (hk : k ≤ 1000000000000000000) (w : World) :
    Calls Tryz.prog 53 #[.int .i64 (k : Int)] w fun e w' => e = .returned (.string (mkS k)) ∧ Below w.heap.size w w' := by
  by_cases h0 : k = 0
  · subst h0
    have HV : Hid (mkS 0 = ⟨#[109, 48]⟩) := rfl
    generalize mkS 0 = R at HV ⊢
    go_enter Tryz.func53, Tryz.ntmps53
    go_wp2_with fail
    go_ret
    exact ⟨by rw [HV.out]; rfl, Below.refl _ _⟩
  have HV : Hid (∀ out, out = mkD 19 k [] → mkS k = (⟨#[109]⟩ : ByteArray) ++ ⟨out.toArray⟩) := by
    intro out ho
    rw [mkS, if_neg h0, ← ho]
    apply ByteArray.ext
    simp
  generalize mkS k = R at HV ⊢
  have hle : ¬ (k : Int) ≤ 0 := by omega
  have hk19 : k < 10 ^ 19 := by omega
  go_enter Tryz.func53, Tryz.ntmps53
  go_wp2_with fail
  go_loopw [0, 3] (fun i o wr => ∃ (f n : Nat) (out : List UInt8), i = .int .i64 (n : Int) ∧ o = .string ⟨out.toArray⟩ ∧ n ≤ 1000000000000000000 ∧ Hid (n < 10 ^ f ∧ out.length + f ≤ 19 ∧ mkD f n out = mkD 19 k []) ∧ Hid (Below w.heap.size w wr)) (fun i _ _ => (intOf i).toNat)
  case atStart => exact ⟨19, k, [], rfl, rfl, hk, ⟨hk19, by decide, rfl⟩, Below.refl _ _⟩
  case round =>
    obtain ⟨f, n, out, rfl, rfl, hn, HF, HB⟩ := hrel
    by_cases hz : n = 0
    · subst hz
      have HR : Hid (R = (⟨#[109]⟩ : ByteArray) ++ ⟨out.toArray⟩) := HV.out out (by have := HF.out.2.2; rw [mkD_zero] at this; exact this)
      have hol : out.length ≤ 19 := by have := HF.out.2.1; omega
      clear HV HF hk19 hle h0 hk
      go_wp2_with fail
      go_ret
      exact ⟨by rw [HR.out]; rfl, HB.out⟩
    · obtain ⟨f, rfl⟩ : ∃ f', f = f' + 1 := by
        cases f with
        | zero => have := HF.out.1; simp at this; omega
        | succ f' => exact ⟨f', rfl⟩
      have hn0 : (0 : Int) < (n : Int) := by omega
      have e1 : (n : Int).tdiv 10 = ((n / 10 : Nat) : Int) := by rw [Int.tdiv_eq_ediv_of_nonneg (by omega)]; omega
      have e3 : (n : Int) / 10 = ((n / 10 : Nat) : Int) := by omega
      have e4 : (n : Int) % 10 = ((n % 10 : Nat) : Int) := by omega
      have e2 : (n : Int).tmod 10 = ((n % 10 : Nat) : Int) := by rw [Int.tmod_eq_emod_of_nonneg (by omega)]; omega
      have hcv := convOne _ wr.heap.size (48 + n % 10) (by omega) (cellOne wr (.int .u8 ((48 + n % 10 : Nat) : Int)))
      have e5 : ((48 + n % 10 : Nat) : Int) = 48 + ((n % 10 : Nat) : Int) := by omega
      rw [e5] at hcv
      have HF2 : Hid (n / 10 < 10 ^ f ∧ (UInt8.ofNat (48 + n % 10) :: out).length + f ≤ 19 ∧ mkD f (n / 10) (UInt8.ofNat (48 + n % 10) :: out) = mkD 19 k []) := by
        refine ⟨?_, ?_, ?_⟩
        · have := HF.out.1
          rw [Nat.pow_succ] at this
          omega
        · have := HF.out.2.1
          simp
          omega
        · have := HF.out.2.2
          rw [mkD, if_neg hz] at this
          exact this
      have hq : n / 10 ≤ 1000000000000000000 := by omega
      have HME : Hid (n / 10 < n) := by show _ < _; omega
      have hol : out.length ≤ 19 := by have := HF.out.2.1; omega
      have lm : ((n % 10 : Nat) : Int) < 10 := by omega
      have lm0 : (0 : Int) ≤ ((n % 10 : Nat) : Int) := by omega
      generalize n / 10 = q at e1 e3 HF2 hq HME
      generalize n % 10 = r at e2 e4 e5 hcv HF2 lm lm0
      have hwq : IntKind.i64.wrap (q : Int) = (q : Int) := by rw [IntKind.wrap_i64]; omega
      have hw48 : IntKind.i64.wrap (48 + (r : Int)) = 48 + (r : Int) := by rw [IntKind.wrap_i64]; omega
      have hw8 : IntKind.u8.wrap (48 + (r : Int)) = 48 + (r : Int) := by rw [IntKind.wrap_u8]; omega
      generalize UInt8.ofNat (48 + r) = u at hcv HF2
      have HEQ : Hid ((⟨#[u]⟩ : ByteArray) ++ ⟨out.toArray⟩ = ⟨(u :: out).toArray⟩) := by
        show _ = _
        apply ByteArray.ext
        simp
      have HB2 : Hid (Below w.heap.size w (wr.alloc (.cells #[.int .u8 (48 + (r : Int))] 5))) := HB.out.alloc HB.out.size _
      clear HV HF hk19 hle h0 hk hz e5
      go_wp2_with fail
      go_roundw
      case rel => exact ⟨f, q, u :: out, rfl, by show Value.string _ = Value.string _; rw [← HEQ.out], hq, HF2, HB2⟩
      case measure => have := HME.out; simp [intOf]; omega

/-- A block of texts that may be written. -/
def SBk (w : World) (g n : Nat) : Prop := ∃ cur : Array Value, w.heap[g]? = some (.cells cur 9 (0, 0)) ∧ n ≤ cur.size ∧ ∀ i, i < n → ∃ s, cur[i]? = some (.string s)
theorem SBk.lt {w : World} {g n : Nat} (h : SBk w g n) : g < w.heap.size := by
  obtain ⟨cur, h1, _⟩ := h
  rcases Nat.lt_or_ge g w.heap.size with h' | h'
  · exact h'
  · simp [Array.getElem?_eq_none h'] at h1
theorem SBk.keep {w w' : World} {g n : Nat} (h : SBk w g n) (hk : w'.heap[g]? = w.heap[g]?) : SBk w' g n := by
  obtain ⟨cur, h1, h2⟩ := h
  exact ⟨cur, hk.trans h1, h2⟩
theorem SBk.below {w w' : World} {g n B : Nat} (h : SBk w g n) (hb : Below B w w') (hg : g < B) : SBk w' g n := h.keep (hb.block g hg)
theorem SBk.cell {w : World} {g n : Nat} (h : SBk w g n) (i : Nat) (hi : i < n) : (∃ s, w.cell? ⟨g, i, none⟩ = some (.string s)) ∧ w.frozen? ⟨g, i, none⟩ = false := by
  obtain ⟨cur, h1, h2, h3⟩ := h
  exact ⟨by rw [Lib.cell_of_heap h1]; exact h3 i hi, Lib.frozen_of_heap h1 i⟩
theorem SBk.set {w : World} {g n : Nat} (h : SBk w g n) (i : Nat) (s : ByteArray) : SBk (w.setCell ⟨g, i, none⟩ (.string s)) g n := by
  obtain ⟨cur, h1, h2, h3⟩ := h
  refine ⟨cur.setIfInBounds i (.string s), ?_, by simpa using h2, fun j hj => ?_⟩
  · simp [World.setCell, Array.getElem?_modify, h1]
  · rw [Array.getElem?_setIfInBounds]
    split
    · split
      · exact ⟨s, rfl⟩
      · omega
    · exact h3 j hj
theorem SBk.of {w : World} {g : Nat} {l : List ByteArray} (h : RowS w g l) : SBk w g l.length :=
  ⟨_, h, by simp [sCells], fun i hi => ⟨l[i], by simp [sCells, hi]⟩⟩
theorem cell_set_other {w : World} {g i j : Nat} {v : Value} (h : i ≠ j) : (w.setCell ⟨g, i, none⟩ v).cell? ⟨g, j, none⟩ = w.cell? ⟨g, j, none⟩ := by
  simp [World.setCell, World.cell?, Array.getElem?_modify]
  cases hh : w.heap[g]? with
  | none => simp
  | some o => cases o <;> simp [h]

/-- What writing marks into a list of texts leaves. -/
def MSPost (g n k : Nat) (w : World) (e : Ending) (w' : World) : Prop := e = .returned (.int .i64 ((k + n : Nat) : Int)) ∧ SBk w' g n ∧ (∀ i, i < n → w'.cell? ⟨g, i, none⟩ = some (.string (mkS (k + i)))) ∧ But g w w' ∧ (∀ m, SBk w g m → SBk w' g m) ∧ Below 0 w w'
set_option maxHeartbeats 1000000 in
set_option maxRecDepth 100000 in
theorem markStrs (g n cap k : Nat) (w : World) (h : SBk w g n) (hn : n ≤ 1000000000000) (hk : k ≤ 100000000000000000) :
    Calls Tryz.prog 18 #[.slice (some ⟨g, 0, none⟩) n cap, .int .i64 (k : Int)] w fun e w' => MSPost g n k w e w' := by
  have H0 : Hid (SBk w g n) := h
  clear h
  have HQ : Hid (∀ e w', e = .returned (.int .i64 ((k + n : Nat) : Int)) → SBk w' g n → (∀ i, i < n → w'.cell? ⟨g, i, none⟩ = some (.string (mkS (k + i)))) → But g w w' → (∀ m, SBk w g m → SBk w' g m) → Below 0 w w' → MSPost g n k w e w') := fun e w' h1 h2 h3 h4 h5 h6 => ⟨h1, h2, h3, h4, h5, h6⟩
  generalize MSPost g n k w = Q at HQ ⊢
  go_enter Tryz.func18, Tryz.ntmps18
  go_wp2_with fail
  go_loopw [1, 5] (fun m i wr => ∃ j : Nat, j ≤ n ∧ i = .int .i64 (j : Int) ∧ m = .int .i64 ((k + j : Nat) : Int) ∧ Hid (SBk wr g n ∧ (∀ i, i < j → wr.cell? ⟨g, i, none⟩ = some (.string (mkS (k + i)))) ∧ But g w wr ∧ (∀ m, SBk w g m → SBk wr g m) ∧ Below 0 w wr)) (fun _ i _ => n - (intOf i).toNat)
  case atStart => exact ⟨0, by omega, rfl, rfl, H0.out, fun i hi => by omega, But.refl _ _, fun m h => h, Below.refl _ _⟩
  case round =>
    clear H0
    obtain ⟨j, hj, rfl, rfl, HS⟩ := hrel
    by_cases hlt : j < n
    · have hmk := markText (k + j) (by omega) wr
      have lj : (j : Int) < (n : Int) := by omega
      have lj0 : (0 : Int) ≤ (j : Int) := by omega
      have HK1 : Hid (j + 1 ≤ n) := hlt
      have hgl := HS.out.1.lt
      obtain ⟨m, hm⟩ : ∃ m, m = k + j := ⟨_, rfl⟩
      have HM : Hid (m = k + j) := hm
      have HM1 : Hid (((m : Int) + 1) = ((k + (j + 1) : Nat) : Int)) := by show _ = _; omega
      rw [← hm] at hmk ⊢
      have wk : IntKind.i64.wrap ((m : Int) + 1) = (m : Int) + 1 := by rw [IntKind.wrap_i64]; omega
      have wj : IntKind.i64.wrap ((j : Int) + 1) = (j : Int) + 1 := by rw [IntKind.wrap_i64]; omega
      clear hm
      go_wp2_with fail
      refine hmk.mono ?_
      rintro e w1 ⟨rfl, b1⟩
      have HS1 : Hid (SBk w1 g n) := HS.out.1.below b1 hgl
      obtain ⟨⟨so, q0⟩, z0⟩ := HS1.out.cell j hlt
      have HC1 : Hid (∀ i, i < j → w1.cell? ⟨g, i, none⟩ = some (.string (mkS (k + i)))) := fun i hi => (b1.cell (p := ⟨g, i, none⟩) hgl).trans (HS.out.2.1 i hi)
      have HU1 : Hid (But g w w1) := HS.out.2.2.1.trans (Below.but b1)
      have HW1 : Hid (∀ m, SBk w g m → SBk w1 g m) := fun m h => (HS.out.2.2.2.1 m h).below b1 hgl
      have HX1 : Hid (Below 0 w w1) := HS.out.2.2.2.2.trans (b1.mono (Nat.zero_le _))
      have HN : Hid (SBk (w1.setCell ⟨g, j, none⟩ (.string (mkS m))) g n ∧ (∀ i, i < j + 1 → (w1.setCell ⟨g, j, none⟩ (.string (mkS m))).cell? ⟨g, i, none⟩ = some (.string (mkS (k + i)))) ∧ But g w (w1.setCell ⟨g, j, none⟩ (.string (mkS m))) ∧ (∀ q, SBk w g q → SBk (w1.setCell ⟨g, j, none⟩ (.string (mkS m))) g q) ∧ Below 0 w (w1.setCell ⟨g, j, none⟩ (.string (mkS m)))) := by
        refine ⟨HS1.out.set j _, fun i hi => ?_, ?_, fun q hq => (HW1.out q hq).set j _, HX1.out.setCell (p := ⟨g, j, none⟩) (Nat.zero_le _) _⟩
        · rcases Nat.lt_or_ge i j with h' | h'
          · rw [cell_set_other (by omega)]
            exact HC1.out i h'
          · obtain rfl : i = j := by omega
            obtain ⟨cur, h1, h2, _⟩ := HS1.out
            have : (w1.setCell ⟨g, i, none⟩ (.string (mkS m))).heap[g]? = some (.cells (cur.setIfInBounds i (.string (mkS m))) 9 (0, 0)) := by simp [World.setCell, Array.getElem?_modify, h1]
            rw [Lib.cell_of_heap this, HM.out]
            simp [show i < cur.size by omega]
        · refine ⟨Nat.le_trans HU1.out.1 ((Below.refl 0 w1).setCell (p := ⟨g, j, none⟩) (Nat.zero_le _) _).size, fun c hc hne => ?_⟩
          rw [← HU1.out.2 c hc hne]
          simp [World.setCell, Array.getElem?_modify, Ne.symm hne]
      clear hmk HS HS1 HC1 HU1 HW1 HX1 b1
      generalize mkS m = ms at HN ⊢
      go_wp2_with fail
      go_roundw
      case rel => exact ⟨j + 1, HK1.out, by go_num, by show Value.int .i64 _ = Value.int .i64 _; rw [HM1.out], HN⟩
      case measure => have := HK1.out; simp [intOf]; omega
    · obtain rfl : j = n := by omega
      go_wp2_with fail
      exact HQ.out _ _ rfl HS.out.1 HS.out.2.1 HS.out.2.2.1 HS.out.2.2.2.1 HS.out.2.2.2.2

set_option maxHeartbeats 1000000 in
set_option maxRecDepth 100000 in
theorem heldStrs (g n cap k : Nat) (w : World) (hg : g < w.heap.size) (h : ∀ i, i < n → w.cell? ⟨g, i, none⟩ = some (.string (mkS (k + i)))) (hn : n ≤ 1000000000000) (hk : k ≤ 100000000000000000) :
    Calls Tryz.prog 28 #[.slice (some ⟨g, 0, none⟩) n cap, .int .i64 (k : Int)] w fun e w' => e = .returned (.int .i64 ((k + n : Nat) : Int)) ∧ Below w.heap.size w w' := by
  have H0 : Hid (∀ i, i < n → w.cell? ⟨g, i, none⟩ = some (.string (mkS (k + i)))) := h
  clear h
  obtain ⟨kn, hkn⟩ : ∃ kn, kn = k + n := ⟨_, rfl⟩
  rw [← hkn]
  have HKN : Hid (kn = k + n) := hkn
  clear hkn
  go_enter Tryz.func28, Tryz.ntmps28
  go_wp2_with fail
  go_loopw [1, 5] (fun m i wr => ∃ j : Nat, j ≤ n ∧ i = .int .i64 (j : Int) ∧ m = .int .i64 ((k + j : Nat) : Int) ∧ Hid (Below w.heap.size w wr)) (fun _ i _ => n - (intOf i).toNat)
  case atStart => exact ⟨0, by omega, rfl, rfl, Below.refl _ _⟩
  case round =>
    obtain ⟨j, hj, rfl, rfl, HB⟩ := hrel
    by_cases hlt : j < n
    · have c0 := (HB.out.cell (p := ⟨g, j, none⟩) hg).trans (H0.out j hlt)
      have lj : (j : Int) < (n : Int) := by omega
      have lj0 : (0 : Int) ≤ (j : Int) := by omega
      have HK1 : Hid (j + 1 ≤ n) := hlt
      have hmk := fun w' => markText (k + j) (by omega) w'
      obtain ⟨m, hm⟩ : ∃ m, m = k + j := ⟨_, rfl⟩
      have HM1 : Hid (((m : Int) + 1) = ((k + (j + 1) : Nat) : Int)) := by show _ = _; omega
      rw [← hm] at hmk c0 ⊢
      have wk : IntKind.i64.wrap ((m : Int) + 1) = (m : Int) + 1 := by rw [IntKind.wrap_i64]; omega
      have wj : IntKind.i64.wrap ((j : Int) + 1) = (j : Int) + 1 := by rw [IntKind.wrap_i64]; omega
      generalize mkS m = ms at hmk c0
      clear hm
      go_wp2_with fail
      go_region_with (go_at_call 53; refine (hmk _).mono ?_; rintro e w1 ⟨rfl, b1⟩; try (have q1 := (b1.cell (p := ⟨g, j, none⟩) (Nat.lt_of_lt_of_le hg HB.out.size)).trans c0))
      all_goals
        have HB1 : Hid (Below w.heap.size w w1) := HB.out.drew.trans (b1.mono HB.out.size)
        clear b1
        go_wp2_with fail
        go_roundw
        case rel => exact ⟨j + 1, HK1.out, by go_num, by show Value.int .i64 _ = Value.int .i64 _; rw [HM1.out], HB1⟩
        case measure => have := HK1.out; simp [intOf]; omega
    · obtain rfl : j = n := by omega
      have hv := HKN.out
      rw [← hv]
      go_wp2_with fail
      go_ret
      exact ⟨rfl, HB.out⟩

end Go.Proofs.YtpddholoehmjkaaGreatDoor

set_option linter.unusedVariables false
namespace Go.Proofs.YtpddholoehmjkaaGreatDoor
open Go.RowKit Go.Deep

theorem flat_setV {α : Type} [Inhabited α] (k : Nat) (enc : α → List Value) (hk : ∀ a, (enc a).length = k) : ∀ (l : List α) (i j : Nat) (v : Value) (a : α), i < l.length → j < k → enc a = (enc (l.getD i default)).set j v → (l.flatMap enc).set (i * k + j) v = (l.set i a).flatMap enc
  | [], i, j, v, a, hi, _, _ => by cases hi
  | x :: r, 0, j, v, a, _, hj, he => by
    have he' : enc a = (enc x).set j v := he
    rw [List.flatMap_cons, Nat.zero_mul, Nat.zero_add, List.set_append_left _ _ (by rw [hk]; exact hj), List.set_cons_zero, List.flatMap_cons, he']
  | x :: r, i + 1, j, v, a, hi, hj, he => by
    have e : (i + 1) * k + j = k + (i * k + j) := by rw [Nat.add_mul]; omega
    rw [List.flatMap_cons, List.set_append_right _ _ (by rw [hk, e]; omega), hk, e, Nat.add_sub_cancel_left, flat_setV k enc hk r i j v a (by simpa using hi) hj (by simpa using he), List.set_cons_succ, List.flatMap_cons]
abbrev RowB (w : World) (g : Nat) (l : List BlkV) : Prop := RowF enBlk 41 w g l
theorem RowB.set {w : World} {g : Nat} {l : List BlkV} (h : RowB w g l) (i j : Nat) (v : Value) (b : BlkV) (hi : i < l.length) (hj : j < 6) (he : enBlk b = (enBlk (l.getD i default)).set j v) : RowB (w.setCell ⟨g, i * 6 + j, none⟩ v) g (l.set i b) := by
  unfold RowB RowF at h ⊢
  rw [← flat_setV 6 enBlk enBlk_len l i j v b hi hj he]
  simp [World.setCell, Array.getElem?_modify, h]
def shB (c : BlkV) : Nat × Nat × Nat := (c.g, c.n, c.cap)
theorem sh_set {l : List BlkV} {i : Nat} {b : BlkV} (hi : i < l.length) (h : shB b = shB (l.getD i default)) : (l.set i b).map shB = l.map shB := by
  rw [List.map_set, h]
  rw [List.getD_eq_getElem?_getD, List.getElem?_eq_getElem hi]
  apply List.ext_getElem?
  intro n
  rw [List.getElem?_set]
  split
  · rename_i hin
    subst hin
    simp [hi]
  · rfl
theorem sh_at {l bs : List BlkV} (h : l.map shB = bs.map shB) {i : Nat} (hi : i < bs.length) : shB (l.getD i default) = shB (bs.getD i default) := by
  have hl : i < l.length := by
    have := congrArg List.length h
    rw [List.length_map, List.length_map] at this
    omega
  have e := congrArg (fun q => q[i]?) h
  simp only [List.getElem?_map, List.getElem?_eq_getElem hl, List.getElem?_eq_getElem hi, Option.map_some, Option.some.injEq] at e
  rw [List.getD_eq_getElem?_getD, List.getElem?_eq_getElem hl, List.getD_eq_getElem?_getD, List.getElem?_eq_getElem hi]
  exact e
/-- A list of blocks that may be written, and all else that stands. -/
structure MkB (w0 : World) (g : Nat) (bs cs : List BlkV) (w : World) : Prop where
  row : RowB w g cs
  sh : cs.map shB = bs.map shB
  its : ∀ c ∈ bs, SBk w c.g c.n ∧ c.g ≠ g
  size : w0.heap.size ≤ w.heap.size
  far : ∀ b, b < w0.heap.size → b ≠ g → (∀ c ∈ bs, b ≠ c.g) → w.heap[b]? = w0.heap[b]?
  fr : Below 0 w0 w
theorem MkB.call {w0 w w' : World} {g : Nat} {bs cs : List BlkV} (h : MkB w0 g bs cs w) (hb : Below w.heap.size w w') : MkB w0 g bs cs w' :=
  ⟨h.row.below hb h.row.lt, h.sh, fun c hc => ⟨(h.its c hc).1.below hb (h.its c hc).1.lt, (h.its c hc).2⟩, Nat.le_trans h.size hb.size, fun b h1 h2 h3 => (hb.block b (Nat.lt_of_lt_of_le h1 h.size)).trans (h.far b h1 h2 h3), h.fr.trans (hb.mono (Nat.zero_le _))⟩
theorem MkB.put {w0 w : World} {g : Nat} {bs cs : List BlkV} (h : MkB w0 g bs cs w) (i j : Nat) (v : Value) (b : BlkV) (hi : i < cs.length) (hj : j < 6) (he : enBlk b = (enBlk (cs.getD i default)).set j v) (hs : shB b = shB (cs.getD i default)) : MkB w0 g bs (cs.set i b) (w.setCell ⟨g, i * 6 + j, none⟩ v) := by
  have hsz : (w.setCell ⟨g, i * 6 + j, none⟩ v).heap.size = w.heap.size := by simp [World.setCell]
  refine ⟨h.row.set i j v b hi hj he, (sh_set hi hs).trans h.sh, fun c hc => ⟨(h.its c hc).1.keep ?_, (h.its c hc).2⟩, by rw [hsz]; exact h.size, fun c h1 h2 h3 => ?_, h.fr.setCell (p := ⟨g, i * 6 + j, none⟩) (Nat.zero_le _) _⟩
  · simp [World.setCell, Array.getElem?_modify, Ne.symm (h.its c hc).2]
  · rw [← h.far c h1 h2 h3]
    simp [World.setCell, Array.getElem?_modify, Ne.symm h2]
theorem MkB.items {w0 w w' : World} {g x n k : Nat} {bs cs : List BlkV} {e : Ending} (h : MkB w0 g bs cs w) (hp : MSPost x n k w e w') (hx : ∃ c ∈ bs, c.g = x) (hg : x ≠ g) : MkB w0 g bs cs w' := by
  obtain ⟨_, hs, _, hu, hw, hfr⟩ := hp
  obtain ⟨c0, hc0, hcx⟩ := hx
  refine ⟨?_, h.sh, fun c hc => ⟨?_, (h.its c hc).2⟩, Nat.le_trans h.size hu.1, fun b h1 h2 h3 => (hu.2 b (Nat.lt_of_lt_of_le h1 h.size) (by rw [← hcx]; exact h3 c0 hc0)).trans (h.far b h1 h2 h3), h.fr.trans hfr⟩
  · have := h.row
    unfold RowB RowF at this ⊢
    rw [hu.2 g h.row.lt (Ne.symm hg)]
    exact this
  · by_cases he : c.g = x
    · have := (h.its c hc).1
      rw [he] at this ⊢
      exact hw _ this
    · exact (h.its c hc).1.keep (hu.2 c.g (h.its c hc).1.lt he)
def MkPost (w : World) (g : Nat) (bs : List BlkV) (e : Ending) (w' : World) : Prop := ∃ (k : Nat) (cs : List BlkV), e = .returned (.int .i64 (k : Int)) ∧ MkB w g bs cs w'
theorem MkB.len {w0 w : World} {g : Nat} {bs cs : List BlkV} (h : MkB w0 g bs cs w) : cs.length = bs.length := by
  have := congrArg List.length h.sh
  rwa [List.length_map, List.length_map] at this
theorem set_self {l : List BlkV} {i : Nat} (hi : i < l.length) (b : BlkV) : (l.set i b).getD i default = b := by simp [hi]

set_option maxHeartbeats 4000000 in
set_option maxRecDepth 100000 in
theorem markBlks (g n cap : Nat) (bs : List BlkV) (w : World) (h : MkB w g bs bs w) (hn : n = bs.length) (hm : n ≤ 1048576) (hf : ∀ c ∈ bs, c.n ≤ 1048576) :
    Calls Tryz.prog 17 #[.slice (some ⟨g, 0, none⟩) n cap, .int .i64 1] w fun e w' => MkPost w g bs e w' := by
  have H0 : Hid (MkB w g bs bs w) := h
  have HN : Hid (n = bs.length) := hn
  have HF : Hid (∀ c ∈ bs, c.n ≤ 1048576) := hf
  have HQ : Hid (∀ e w' (k : Nat) cs, e = .returned (.int .i64 (k : Int)) → MkB w g bs cs w' → MkPost w g bs e w') := fun e w' k cs h1 h2 => ⟨k, cs, h1, h2⟩
  generalize MkPost w g bs = Q at HQ ⊢
  clear h hn hf
  go_enter Tryz.func17, Tryz.ntmps17
  go_wp2_with fail
  go_loopw [1, 5] (fun m i wr => ∃ (j k : Nat) (cs : List BlkV), j ≤ n ∧ i = .int .i64 (j : Int) ∧ m = .int .i64 (k : Int) ∧ k ≤ 1 + j * 1048581 ∧ Hid (MkB w g bs cs wr)) (fun _ i _ => n - (intOf i).toNat)
  case atStart => exact ⟨0, 1, bs, by omega, rfl, rfl, by omega, H0⟩
  case round =>
    clear H0
    obtain ⟨j, m, cs, hj, rfl, rfl, hk, HM⟩ := hrel
    by_cases hlt : j < n
    · have HJL : Hid (j < cs.length) := by show _ < _; rw [HM.out.len, ← HN.out]; exact hlt
      have hjb : j < bs.length := by rw [← HN.out]; exact hlt
      have hshj := sh_at HM.out.sh hjb
      have hmem : bs.getD j default ∈ bs := by rw [List.getD_eq_getElem?_getD, List.getElem?_eq_getElem hjb]; exact List.getElem_mem hjb
      have HIT : Hid (∀ c0 : BlkV, shB c0 = shB (cs.getD j default) → (∃ c ∈ bs, c.g = c0.g) ∧ c0.g ≠ g ∧ c0.n ≤ 1048576 ∧ ∀ w' ds, MkB w g bs ds w' → SBk w' c0.g c0.n) := by
        intro c0 hc0
        have e := hc0.trans hshj
        simp only [shB, Prod.mk.injEq] at e
        refine ⟨⟨_, hmem, e.1.symm⟩, ?_, ?_, fun w' ds hd => ?_⟩
        · rw [e.1]; exact (HM.out.its _ hmem).2
        · rw [e.2.1]; exact HF.out _ hmem
        · rw [e.1, e.2.1]; exact (hd.its _ hmem).1
      have hmk0 := fun w' => markText m (by omega) w'
      have hmk1 := fun w' => markText (m + 1) (by omega) w'
      have lj : (j : Int) < (n : Int) := by omega
      have lj0 : (0 : Int) ≤ (j : Int) := by omega
      have wj : IntKind.i64.wrap ((j : Int) + 1) = (j : Int) + 1 := by rw [IntKind.wrap_i64]; omega
      have HK1 : Hid (j + 1 ≤ n) := hlt
      have HKB : Hid (m + 5 ≤ 1 + j * 1048581 + 5) := by show _ ≤ _; omega
      obtain ⟨m1, hm1⟩ : ∃ m1, m1 = m + 1 := ⟨_, rfl⟩
      obtain ⟨m2, hm2⟩ : ∃ m2, m2 = m + 2 := ⟨_, rfl⟩
      obtain ⟨m3, hm3⟩ : ∃ m3, m3 = m + 3 := ⟨_, rfl⟩
      obtain ⟨m4, hm4⟩ : ∃ m4, m4 = m + 4 := ⟨_, rfl⟩
      obtain ⟨m5, hm5⟩ : ∃ m5, m5 = m + 5 := ⟨_, rfl⟩
      rw [← hm1] at hmk1
      rw [← hm5] at HKB
      have v1 : IntKind.i64.wrap ((m : Int) + 1) = (m1 : Int) := by rw [IntKind.wrap_i64]; omega
      have v2 : IntKind.i64.wrap ((m1 : Int) + 1) = (m2 : Int) := by rw [IntKind.wrap_i64]; omega
      have v3 : IntKind.i64.wrap ((m2 : Int) + 1) = (m3 : Int) := by rw [IntKind.wrap_i64]; omega
      have v4 : IntKind.i64.wrap ((m3 : Int) + 1) = (m4 : Int) := by rw [IntKind.wrap_i64]; omega
      have v5 : IntKind.i64.wrap ((m4 : Int) + 1) = (m5 : Int) := by rw [IntKind.wrap_i64]; omega
      have hm5l : m5 ≤ 100000000000000000 := by omega
      clear hm1 hm2 hm3 hm4 hm5 hshj hmem hjb
      generalize mkS m = s0 at hmk0
      generalize mkS m1 = s1 at hmk1
      go_wp2_with fail
      refine (hmk0 _).mono ?_
      rintro e w1 ⟨rfl, b1⟩
      have HM1 : Hid (MkB w g bs cs w1) := HM.out.call b1
      have d0 := AtBlk.c0 (HM1.out.row.at 6 enBlk_len) j HJL.out
      have d1 := AtBlk.c1 (HM1.out.row.at 6 enBlk_len) j HJL.out
      have d2 := AtBlk.c2 (HM1.out.row.at 6 enBlk_len) j HJL.out
      have d3 := AtBlk.c3 (HM1.out.row.at 6 enBlk_len) j HJL.out
      have d4 := AtBlk.c4 (HM1.out.row.at 6 enBlk_len) j HJL.out
      have d5 := AtBlk.c5 (HM1.out.row.at 6 enBlk_len) j HJL.out
      have f0 := HM1.out.row.frozen (j * 6)
      have f1 := HM1.out.row.frozen (j * 6 + 1)
      have f2 := HM1.out.row.frozen (j * 6 + 2)
      have f3 := HM1.out.row.frozen (j * 6 + 3)
      have f4 := HM1.out.row.frozen (j * 6 + 4)
      have f5 := HM1.out.row.frozen (j * 6 + 5)
      generalize hco : cs.getD j default = co at d0 d1 d2 d3 d4 d5
      have HCO : Hid (cs.getD j default = co) := hco
      clear hco
      obtain ⟨⟨op, orr, ot, od, on⟩, og, oN, oc, os⟩ := co
      dsimp only at d0 d1 d2 d3 d4 d5
      have HM2 : Hid (MkB w g bs (cs.set j ⟨⟨s0, orr, ot, od, on⟩, og, oN, oc, os⟩) (w1.setCell ⟨g, j * 6, none⟩ (.string s0))) := HM1.out.put j 0 _ _ HJL.out (by decide) (by rw [HCO.out]; rfl) (by rw [HCO.out]; rfl)
      have HJ2 : Hid (j < (cs.set j ⟨⟨s0, orr, ot, od, on⟩, og, oN, oc, os⟩).length) := by show _ < _; rw [List.length_set]; exact HJL.out
      have HG2 : Hid ((cs.set j ⟨⟨s0, orr, ot, od, on⟩, og, oN, oc, os⟩).getD j default = ⟨⟨s0, orr, ot, od, on⟩, og, oN, oc, os⟩) := set_self HJL.out _
      have HIT2 := HIT.out ⟨⟨op, orr, ot, od, on⟩, og, oN, oc, os⟩ (by rw [HCO.out])
      clear HM HM1 b1 hmk0 HIT HCO
      go_wp2_with fail
      clear d0 d1 d2 d3 d4 d5 f0 f1 f2 f3 f4 f5
      generalize cs.set j ⟨⟨s0, orr, ot, od, on⟩, og, oN, oc, os⟩ = cs2 at HM2 HJ2 HG2
      refine (hmk1 _).mono ?_
      rintro e w2 ⟨rfl, b2⟩
      have HM3 : Hid (MkB w g bs cs2 w2) := HM2.out.call b2
      have d0 := AtBlk.c0 (HM3.out.row.at 6 enBlk_len) j HJ2.out
      have d1 := AtBlk.c1 (HM3.out.row.at 6 enBlk_len) j HJ2.out
      have d2 := AtBlk.c2 (HM3.out.row.at 6 enBlk_len) j HJ2.out
      have d3 := AtBlk.c3 (HM3.out.row.at 6 enBlk_len) j HJ2.out
      have d4 := AtBlk.c4 (HM3.out.row.at 6 enBlk_len) j HJ2.out
      have d5 := AtBlk.c5 (HM3.out.row.at 6 enBlk_len) j HJ2.out
      have f0 := HM3.out.row.frozen (j * 6)
      have f1 := HM3.out.row.frozen (j * 6 + 1)
      have f2 := HM3.out.row.frozen (j * 6 + 2)
      have f3 := HM3.out.row.frozen (j * 6 + 3)
      have f4 := HM3.out.row.frozen (j * 6 + 4)
      have f5 := HM3.out.row.frozen (j * 6 + 5)
      rw [HG2.out] at d0 d1 d2 d3 d4 d5
      dsimp only at d0 d1 d2 d3 d4 d5
      have P1 : Hid (MkB w g bs (cs2.set j ⟨⟨s0, s1, ot, od, on⟩, og, oN, oc, os⟩) (w2.setCell ⟨g, j * 6 + 1, none⟩ (.string s1))) := HM3.out.put j 1 _ _ HJ2.out (by decide) (by rw [HG2.out]; rfl) (by rw [HG2.out]; rfl)
      have N1 : Hid (j < (cs2.set j ⟨⟨s0, s1, ot, od, on⟩, og, oN, oc, os⟩).length ∧ (cs2.set j ⟨⟨s0, s1, ot, od, on⟩, og, oN, oc, os⟩).getD j default = ⟨⟨s0, s1, ot, od, on⟩, og, oN, oc, os⟩) := ⟨by rw [List.length_set]; exact HJ2.out, set_self HJ2.out _⟩
      generalize cs2.set j ⟨⟨s0, s1, ot, od, on⟩, og, oN, oc, os⟩ = x1 at P1 N1
      have P2 : Hid (MkB w g bs (x1.set j ⟨⟨s0, s1, (m2 : Int), od, on⟩, og, oN, oc, os⟩) ((w2.setCell ⟨g, j * 6 + 1, none⟩ (.string s1)).setCell ⟨g, j * 6 + 2, none⟩ (.int .i64 (m2 : Int)))) := P1.out.put j 2 _ _ N1.out.1 (by decide) (by rw [N1.out.2]; rfl) (by rw [N1.out.2]; rfl)
      have N2 : Hid (j < (x1.set j ⟨⟨s0, s1, (m2 : Int), od, on⟩, og, oN, oc, os⟩).length ∧ (x1.set j ⟨⟨s0, s1, (m2 : Int), od, on⟩, og, oN, oc, os⟩).getD j default = ⟨⟨s0, s1, (m2 : Int), od, on⟩, og, oN, oc, os⟩) := ⟨by rw [List.length_set]; exact N1.out.1, set_self N1.out.1 _⟩
      generalize x1.set j ⟨⟨s0, s1, (m2 : Int), od, on⟩, og, oN, oc, os⟩ = x2 at P2 N2
      have P3 : Hid (MkB w g bs (x2.set j ⟨⟨s0, s1, (m2 : Int), (m3 : Int), on⟩, og, oN, oc, os⟩) (((w2.setCell ⟨g, j * 6 + 1, none⟩ (.string s1)).setCell ⟨g, j * 6 + 2, none⟩ (.int .i64 (m2 : Int))).setCell ⟨g, j * 6 + 3, none⟩ (.int .i64 (m3 : Int)))) := P2.out.put j 3 _ _ N2.out.1 (by decide) (by rw [N2.out.2]; rfl) (by rw [N2.out.2]; rfl)
      have N3 : Hid (j < (x2.set j ⟨⟨s0, s1, (m2 : Int), (m3 : Int), on⟩, og, oN, oc, os⟩).length ∧ (x2.set j ⟨⟨s0, s1, (m2 : Int), (m3 : Int), on⟩, og, oN, oc, os⟩).getD j default = ⟨⟨s0, s1, (m2 : Int), (m3 : Int), on⟩, og, oN, oc, os⟩) := ⟨by rw [List.length_set]; exact N2.out.1, set_self N2.out.1 _⟩
      generalize x2.set j ⟨⟨s0, s1, (m2 : Int), (m3 : Int), on⟩, og, oN, oc, os⟩ = x3 at P3 N3
      have P4 : Hid (MkB w g bs (x3.set j ⟨⟨s0, s1, (m2 : Int), (m3 : Int), (m4 : Int)⟩, og, oN, oc, os⟩) ((((w2.setCell ⟨g, j * 6 + 1, none⟩ (.string s1)).setCell ⟨g, j * 6 + 2, none⟩ (.int .i64 (m2 : Int))).setCell ⟨g, j * 6 + 3, none⟩ (.int .i64 (m3 : Int))).setCell ⟨g, j * 6 + 4, none⟩ (.int .i64 (m4 : Int)))) := P3.out.put j 4 _ _ N3.out.1 (by decide) (by rw [N3.out.2]; rfl) (by rw [N3.out.2]; rfl)
      have hms := markStrs og oN oc m5 _ (HIT2.2.2.2 _ _ P4.out) (by have := HIT2.2.2.1; omega) hm5l
      have HP5 : Hid (∀ e w', MSPost og oN m5 ((((w2.setCell ⟨g, j * 6 + 1, none⟩ (.string s1)).setCell ⟨g, j * 6 + 2, none⟩ (.int .i64 (m2 : Int))).setCell ⟨g, j * 6 + 3, none⟩ (.int .i64 (m3 : Int))).setCell ⟨g, j * 6 + 4, none⟩ (.int .i64 (m4 : Int))) e w' → ∃ ds, MkB w g bs ds w') := fun e w' hp => ⟨_, P4.out.items hp HIT2.1 HIT2.2.1⟩
      have HON : Hid (oN ≤ 1048576) := HIT2.2.2.1
      clear HM2 HM3 b2 hmk1 P1 P2 P3 P4 N1 N2 N3 HIT2 HG2 HJ2
      go_wp2_with fail
      refine hms.mono ?_
      intro e w3 hp3
      obtain ⟨ds, HD⟩ := HP5.out e w3 hp3
      have HD3 : Hid (MkB w g bs ds w3) := HD
      obtain ⟨rfl, _⟩ := hp3
      obtain ⟨m6, hm6⟩ : ∃ m6, m6 = m5 + oN := ⟨_, rfl⟩
      rw [← hm6]
      have HM6 : Hid (m6 ≤ 1 + (j + 1) * 1048581) := by
        show _ ≤ _
        have := HKB.out
        have := HON.out
        omega
      clear hms HP5 HD hm6 d0 d1 d2 d3 d4 d5 f0 f1 f2 f3 f4 f5
      go_wp2_with fail
      go_roundw
      case rel => exact ⟨j + 1, m6, ds, HK1.out, by go_num, rfl, HM6.out, HD3⟩
      case measure => have := HK1.out; simp [intOf]; omega
    · obtain rfl : j = n := by omega
      go_wp2_with fail
      exact HQ.out _ _ m cs rfl HM.out

end Go.Proofs.YtpddholoehmjkaaGreatDoor

set_option linter.unusedVariables false
namespace Go.Proofs.YtpddholoehmjkaaGreatDoor
open Go.RowKit Go.Deep

theorem ptsL_mem {ls : List LBlk} {p : HeadV × List ByteArray} (h : p ∈ ptsL ls) : ∃ i, i < ls.length ∧ p = ((ls.getD i default).h, (ls.getD i default).zs.take (ls.getD i default).n) := by
  obtain ⟨b, hb, rfl⟩ := List.mem_map.1 h
  obtain ⟨i, hi, he⟩ := List.mem_iff_getElem.1 hb
  refine ⟨i, hi, ?_⟩
  rw [List.getD_eq_getElem?_getD, List.getElem?_eq_getElem hi]
  simp [he]
theorem CopyB.blks {B g n : Nat} {ls : List LBlk} {cs : List BlkV} {w : World} (h : CopyB B g n ls cs w) (hn : n ≤ 1048576) : Blks g n n cs w := ⟨h.at, h.its, h.len, hn⟩
theorem CopyB.mem {B g n : Nat} {ls : List LBlk} {cs : List BlkV} {w : World} (h : CopyB B g n ls cs w) {c : BlkV} (hc : c ∈ cs) : ∃ i, i < ls.length ∧ c.h = (ls.getD i default).h ∧ c.ss = (ls.getD i default).zs.take (ls.getD i default).n := by
  have hm : (c.h, c.ss) ∈ ptsL ls := by
    rw [← h.pts]
    exact List.mem_map.2 ⟨c, hc, rfl⟩
  obtain ⟨i, hi, he⟩ := ptsL_mem hm
  exact ⟨i, hi, (Prod.mk.inj he).1, (Prod.mk.inj he).2⟩
theorem CopyB.few {B g n : Nat} {ls : List LBlk} {cs : List BlkV} {w : World} (h : CopyB B g n ls cs w) (hl : ls.length = n) (hs : ∀ i, i < n → smallL (ls.getD i default)) : ∀ c ∈ cs, c.n ≤ 1048576 := by
  intro c hc
  obtain ⟨i, hi, _, h2⟩ := h.mem hc
  rw [(h.items c hc).2.1, h2, List.length_take]
  have := (hs i (by omega)).2.1
  omega
theorem CopyB.blksS {B g n : Nat} {ls : List LBlk} {cs : List BlkV} {w : World} (h : CopyB B g n ls cs w) (hn : n ≤ 1048576) (hl : ls.length = n) (hs : ∀ i, i < n → smallL (ls.getD i default)) : BlksS g n n cs w := by
  refine ⟨h.blks hn, fun c hc => ?_, h.few hl hs, fun c hc j hj => ?_⟩
  · obtain ⟨i, hi, h1, _⟩ := h.mem hc
    rw [h1]
    have := (hs i (by omega)).1
    unfold smallHead at this
    unfold wfHead maxLen
    omega
  · obtain ⟨i, hi, _, h2⟩ := h.mem hc
    rw [h2] at hj ⊢
    rw [List.length_take] at hj
    have := (hs i (by omega)).2.2 j (by omega)
    rw [List.getD_eq_getElem?_getD, List.getElem?_take_of_lt (by omega), ← List.getD_eq_getElem?_getD]
    exact this

end Go.Proofs.YtpddholoehmjkaaGreatDoor

set_option linter.unusedVariables false
namespace Go.Proofs.YtpddholoehmjkaaGreatDoor
open Go.RowKit Go.Deep

theorem eqStrsNil (w : World) : Calls Tryz.prog 16 #[.slice none 0 0, .slice none 0 0] w fun e w' => e = .returned (.bool true) ∧ w' = w := by
  go_enter Tryz.func16, Tryz.ntmps16
  go_wp2_with fail
  go_loopw [5] (fun i wr => i = .int .i64 0 ∧ Hid (wr = w)) (fun _ _ => 0)
  case atStart => exact ⟨rfl, rfl⟩
  case round =>
    obtain ⟨rfl, HW⟩ := hrel
    go_wp2_with fail
    go_ret
    exact ⟨rfl, HW.out⟩
theorem markStrsNil (w : World) : Calls Tryz.prog 18 #[.slice none 0 0, .int .i64 1] w fun e w' => e = .returned (.int .i64 1) ∧ w' = w := by
  go_enter Tryz.func18, Tryz.ntmps18
  go_wp2_with fail
  go_loopw [1, 5] (fun m i wr => m = .int .i64 1 ∧ i = .int .i64 0 ∧ Hid (wr = w)) (fun _ _ _ => 0)
  case atStart => exact ⟨rfl, rfl, rfl⟩
  case round =>
    obtain ⟨rfl, rfl, HW⟩ := hrel
    go_wp2_with fail
    go_ret
    exact ⟨rfl, HW.out⟩
theorem heldStrsNil (w : World) : Calls Tryz.prog 28 #[.slice none 0 0, .int .i64 1] w fun e w' => e = .returned (.int .i64 1) ∧ w' = w := by
  go_enter Tryz.func28, Tryz.ntmps28
  go_wp2_with fail
  go_loopw [1, 5] (fun m i wr => m = .int .i64 1 ∧ i = .int .i64 0 ∧ Hid (wr = w)) (fun _ _ _ => 0)
  case atStart => exact ⟨rfl, rfl, rfl⟩
  case round =>
    obtain ⟨rfl, rfl, HW⟩ := hrel
    go_wp2_with fail
    go_ret
    exact ⟨rfl, HW.out⟩

/-- A list of texts that ChainMarks handed back: nothing, or a row of n texts that stands in a block of its own. -/
def Txt (B : Nat) (v : Value) (ss : List ByteArray) (w : World) : Prop := (v = .slice none 0 0 ∧ ss = []) ∨ ∃ g cap, v = .slice (some ⟨g, 0, none⟩) ss.length cap ∧ AtS w g ss ∧ SBk w g ss.length ∧ B ≤ g
theorem SRow.sbk {B : Nat} {v : Value} {ss : List ByteArray} {w : World} (h : SRow B v ss w) : ∃ g cap, v = .slice (some ⟨g, 0, none⟩) ss.length cap ∧ AtS w g ss ∧ SBk w g ss.length ∧ B ≤ g := by
  obtain ⟨g, cap, cur, rfl, h1, h2, h3, h4⟩ := h.block
  refine ⟨g, cap, rfl, h.at.1, ⟨cur, h3, ?_, fun i hi => ?_⟩, h1⟩
  · have := congrArg List.length h4
    rw [List.length_take, List.length_map] at this
    rw [← Array.length_toList]
    omega
  · have : cur.toList[i]? = (ss.map Value.string)[i]? := by rw [← h4, List.getElem?_take]; simp [hi]
    rw [← Array.getElem?_toList, this]
    exact ⟨ss[i], by simp [hi]⟩
/-- The marks of what is handed in, or nothing. -/
def mkList (ls : List LBlk) (n : Nat) : List ByteArray := if okP (ptsL ls) = true then marksV (ptsL ls) n else []
theorem MksRes.txt {ls : List LBlk} {n : Nat} {w w' : World} {e : Ending} (h : MksRes (ptsL ls) n w e w') : ∃ v, e = .returned v ∧ Txt w.heap.size v (mkList ls n) w' ∧ Below w.heap.size w w' := by
  rcases h with ⟨h0, rfl, hb⟩ | ⟨h0, v, rfl, hr, hb⟩
  · exact ⟨_, rfl, .inl ⟨rfl, by rw [mkList, if_neg (by rw [h0]; decide)]⟩, hb⟩
  · refine ⟨v, rfl, .inr ?_, hb⟩
    rw [mkList, if_pos h0]
    exact hr.sbk
theorem Txt.below {B : Nat} {v : Value} {ss : List ByteArray} {w w' : World} (h : Txt B v ss w) (hb : Below w.heap.size w w') : Txt B v ss w' := by
  rcases h with h | ⟨g, cap, h1, h2, h3, h4⟩
  · exact .inl h
  · exact .inr ⟨g, cap, h1, h2.below hb h2.1, h3.below hb h3.lt, h4⟩
theorem Txt.keep {B : Nat} {v : Value} {ss : List ByteArray} {w w' : World} (h : Txt B v ss w) (hs : w.heap.size ≤ w'.heap.size) (hk : ∀ g cap, v = .slice (some ⟨g, 0, none⟩) ss.length cap → w'.heap[g]? = w.heap[g]?) : Txt B v ss w' := by
  rcases h with h | ⟨g, cap, h1, h2, h3, h4⟩
  · exact .inl h
  · exact .inr ⟨g, cap, h1, ⟨Nat.lt_of_lt_of_le h2.1 hs, fun i hi => (World.cell?_of_block (a := ⟨g, i, none⟩) (hk g cap h1)).trans (h2.2 i hi)⟩, h3.keep (hk g cap h1), h4⟩
theorem mkList_len (ls : List LBlk) (n : Nat) : (mkList ls n).length ≤ n := by
  unfold mkList
  split
  · rw [marksV_len]; exact Nat.le_refl _
  · exact Nat.zero_le _
theorem txtEq {B C : Nat} {u v : Value} {ss : List ByteArray} {w : World} (h1 : Txt B u ss w) (h2 : Txt C v ss w) (hn : ss.length ≤ 1048576) : Calls Tryz.prog 16 #[u, v] w fun e w' => e = .returned (.bool true) ∧ Below w.heap.size w w' := by
  rcases h1 with ⟨rfl, hs⟩ | ⟨g1, c1, rfl, a1, b1, _⟩
  · rcases h2 with ⟨rfl, _⟩ | ⟨g2, c2, rfl, a2, b2, _⟩
    · exact (eqStrsNil w).mono fun e w' ⟨he, hw⟩ => ⟨he, by rw [hw]; exact Below.refl _ _⟩
    · subst hs
      have H : Hid (AtS w g2 []) := a2
      go_enter Tryz.func16, Tryz.ntmps16
      go_wp2_with fail
      go_loopw [5] (fun i wr => i = .int .i64 0 ∧ Hid (wr = w)) (fun _ _ => 0)
      case atStart => exact ⟨rfl, rfl⟩
      case round =>
        obtain ⟨rfl, HW⟩ := hrel
        go_wp2_with fail
        go_ret
        exact ⟨rfl, by rw [HW.out]; exact Below.refl _ _⟩
  · rcases h2 with ⟨rfl, hs⟩ | ⟨g2, c2, rfl, a2, b2, _⟩
    · subst hs
      clear a1 b1
      go_enter Tryz.func16, Tryz.ntmps16
      go_wp2_with fail
      go_loopw [5] (fun i wr => i = .int .i64 0 ∧ Hid (wr = w)) (fun _ _ => 0)
      case atStart => exact ⟨rfl, rfl⟩
      case round =>
        obtain ⟨rfl, HW⟩ := hrel
        go_wp2_with fail
        go_ret
        exact ⟨rfl, by rw [HW.out]; exact Below.refl _ _⟩
    · exact eqStrs g1 g2 ss.length c1 c2 ss w a1 a2 rfl (by omega)
/-- A list that holds its marks. -/
def Held (v : Value) (n : Nat) (w : World) : Prop := (v = .slice none 0 0 ∧ n = 0) ∨ ∃ g cap, v = .slice (some ⟨g, 0, none⟩) n cap ∧ g < w.heap.size ∧ ∀ i, i < n → w.cell? ⟨g, i, none⟩ = some (.string (mkS (1 + i)))
theorem Held.below {v : Value} {n : Nat} {w w' : World} (h : Held v n w) (hb : Below w.heap.size w w') : Held v n w' := by
  rcases h with h | ⟨g, cap, h1, h2, h3⟩
  · exact .inl h
  · exact .inr ⟨g, cap, h1, Nat.lt_of_lt_of_le h2 hb.size, fun i hi => (hb.cell (p := ⟨g, i, none⟩) h2).trans (h3 i hi)⟩
theorem txtMark {B : Nat} {v : Value} {ss : List ByteArray} {w : World} (h : Txt B v ss w) (hn : ss.length ≤ 1048576) : Calls Tryz.prog 18 #[v, .int .i64 1] w fun e w' => e = .returned (.int .i64 ((1 + ss.length : Nat) : Int)) ∧ Held v ss.length w' ∧ Below 0 w w' ∧ ∀ b, b < w.heap.size → b < B → w'.heap[b]? = w.heap[b]? := by
  rcases h with ⟨rfl, rfl⟩ | ⟨g, cap, rfl, a, b, hB⟩
  · exact (markStrsNil w).mono fun e w' ⟨he, hw⟩ => ⟨he, .inl ⟨rfl, rfl⟩, by rw [hw]; exact Below.refl _ _, fun b _ _ => by rw [hw]⟩
  · refine (markStrs g ss.length cap 1 w b (by omega) (by omega)).mono ?_
    rintro e w' ⟨rfl, hs, hc, hu, _, hfr⟩
    exact ⟨rfl, .inr ⟨g, cap, rfl, hs.lt, hc⟩, hfr, fun c hc1 hc2 => hu.2 c hc1 (by omega)⟩
theorem txtHeld {v : Value} {n : Nat} {w : World} (h : Held v n w) (hn : n ≤ 1048576) : Calls Tryz.prog 28 #[v, .int .i64 1] w fun e w' => e = .returned (.int .i64 ((1 + n : Nat) : Int)) ∧ Below w.heap.size w w' := by
  rcases h with ⟨rfl, rfl⟩ | ⟨g, cap, rfl, hg, hc⟩
  · exact (heldStrsNil w).mono fun e w' ⟨he, hw⟩ => ⟨he, by rw [hw]; exact Below.refl _ _⟩
  · exact heldStrs g n cap 1 w hg hc (by omega) (by omega)

theorem Txt.blk {B : Nat} {v : Value} {ss : List ByteArray} {w : World} (h : Txt B v ss w) {g cap : Nat} (hv : v = .slice (some ⟨g, 0, none⟩) ss.length cap) : g < w.heap.size ∧ B ≤ g := by
  rcases h with ⟨h1, _⟩ | ⟨g', c', h1, h2, _, h4⟩
  · rw [h1] at hv; cases hv
  · rw [h1] at hv
    simp only [Value.slice.injEq, Option.some.injEq, Addr.mk.injEq, and_true] at hv
    rw [← hv.1]
    exact ⟨h2.1, h4⟩
theorem below_of {B : Nat} {w w' : World} (h : Below 0 w w') (hk : ∀ b, b < B → w'.heap[b]? = w.heap[b]?) : Below B w w' := ⟨h.os, h.tape, h.output, h.size, hk⟩

set_option maxHeartbeats 2000000 in
set_option maxRecDepth 100000 in
theorem walk_FnExactChainMarks (a : Option Addr) (len cap : Nat) (ls : List LBlk) (w : World) (h : IsBlks w a len cap ls) (hK : RowG w shaK) (hP : TabP w) (hE : ErrT w) :
    Calls Tryz.prog 5 #[.slice a len cap] w fun e w' => e = .returned (.bool true) ∧ Below w.heap.size w w' := by
  have HL : Hid (ls.length = len) := h.len
  have hsz := szBlks 1048576 (Nat.le_refl _) a len cap ls w h
  have HTO : Hid (len ≤ 1048576 → (∀ i, i < len → smallL (ls.getD i default)) → ∀ w', Below w.heap.size w w' → Calls Tryz.prog 12 #[.slice a len cap] w' fun e w'' => ∃ cs, e = .returned (.slice (some ⟨w'.heap.size, 0, none⟩) len len) ∧ CopyB w'.heap.size w'.heap.size len ls cs w'' ∧ Below w'.heap.size w' w'') := fun hn hs w' hb => toBlks a len cap ls w' w h hb hn hs
  have HIM : Hid (len ≤ 1048576 → ∀ (B g : Nat) cs w', Below w.heap.size w w' → CopyB B g len ls cs w' → Calls Tryz.prog 27 #[.slice (some ⟨g, 0, none⟩) len len] w' fun e w'' => ∃ v, e = .returned v ∧ Txt w'.heap.size v (mkList ls len) w'' ∧ Below w'.heap.size w' w'') := fun hn B g cs w' hb hc => by
    have := implChainMarks g len len cs w' (hc.blks hn) (hK.below hb hK.lt) (TabP.below hP hb (Nat.le_refl _)) (hE.below hb hE.lt)
    have e : ptsOf cs = ptsL ls := hc.pts
    rw [e] at this
    exact this.mono fun e w'' hh => hh.txt
  clear h hK hP hE
  go_enter Tryz.func5, Tryz.ntmps5
  go_wp2_with fail
  refine hsz.mono ?_
  rintro e w1 ⟨b1, rfl | ⟨r, rfl, hr, hn, hs⟩⟩
  · go_wp2_with fail
    go_ret
    exact ⟨rfl, b1⟩
  have HS : Hid (∀ i, i < len → smallL (ls.getD i default)) := hs
  have hto := HTO.out hn hs
  have him := HIM.out hn
  have hr0 : ¬ (r : Int) < 0 := by omega
  have HB1 : Hid (Below w.heap.size w w1) := b1
  have hml : (mkList ls len).length ≤ 1048576 := Nat.le_trans (mkList_len ls len) hn
  clear hsz HTO HIM b1 hs
  go_wp2_with fail
  refine (hto _ HB1.out).mono ?_
  rintro e w2 ⟨cs2, rfl, C2, b2⟩
  have HB2 : Hid (Below w.heap.size w w2) := HB1.out.trans (b2.mono HB1.out.size)
  have hsp0 := specChainMarks w1.heap.size len len cs2 w2 (C2.blksS hn HL.out HS.out)
  have HP2 : ptsOf cs2 = ptsL ls := C2.pts
  rw [HP2] at hsp0
  have hsp := hsp0.mono fun e w'' hh => hh.txt
  clear b2 C2 hsp0 HP2
  generalize w1.heap.size = g1 at hsp ⊢
  go_wp2_with fail
  refine hsp.mono ?_
  rintro e w3 ⟨v4, rfl, T4, b3⟩
  have HB3 : Hid (Below w.heap.size w w3) := HB2.out.trans (b3.mono HB2.out.size)
  have HT3 : Hid (Txt w2.heap.size v4 (mkList ls len) w3) := T4
  clear hsp b3 HB2 T4
  go_wp2_with fail
  refine (hto _ HB3.out).mono ?_
  rintro e w4 ⟨cs4, rfl, C4, b4⟩
  have HB4 : Hid (Below w.heap.size w w4) := HB3.out.trans (b4.mono HB3.out.size)
  have HT4 : Hid (Txt w2.heap.size v4 (mkList ls len) w4) := HT3.out.below b4
  have HV4 : Hid (∀ g cap, v4 = .slice (some ⟨g, 0, none⟩) (mkList ls len).length cap → g < w3.heap.size) := by
    intro g cap hv
    rcases HT3.out with ⟨h1, _⟩ | ⟨g', cap', h1, h2, _⟩
    · rw [h1] at hv; cases hv
    · rw [h1] at hv
      simp only [Value.slice.injEq, Option.some.injEq, Addr.mk.injEq, and_true] at hv
      rw [← hv.1]; exact h2.1
  have HC4 : Hid (CopyB w3.heap.size w3.heap.size len ls cs4 w4) := C4
  have HI4 : Hid (∀ c ∈ cs4, c.g < w4.heap.size) := fun c hc => (C4.items c hc).1.lt
  have HG3 : Hid (w3.heap.size < w4.heap.size ∧ w.heap.size ≤ w3.heap.size) := ⟨C4.row.lt, HB3.out.size⟩
  have him4 := him _ _ _ _ HB4.out C4
  clear b4 C4 HT3
  generalize w3.heap.size = g3 at him4 HC4 HV4 HG3 ⊢
  go_wp2_with fail
  refine him4.mono ?_
  rintro e w5 ⟨v6, rfl, T6, b5⟩
  have HB5 : Hid (Below w.heap.size w w5) := HB4.out.trans (b5.mono HB4.out.size)
  have HT5 : Hid (Txt w2.heap.size v4 (mkList ls len) w5) := HT4.out.below b5
  have HT6 : Hid (Txt w4.heap.size v6 (mkList ls len) w5) := T6
  have HC5 : Hid (CopyB g3 g3 len ls cs4 w5) := HC4.out.below b5
  have heq := txtEq T6 HT5.out hml
  clear him4 b5 T6 HC4 HT4
  go_wp2_with fail
  refine heq.mono ?_
  rintro e w6 ⟨rfl, b6⟩
  have HB6 : Hid (Below w.heap.size w w6) := HB5.out.trans (b6.mono HB5.out.size)
  have HU6 : Hid (Txt w2.heap.size v4 (mkList ls len) w6) := HT5.out.below b6
  have HV6 : Hid (Txt w4.heap.size v6 (mkList ls len) w6) := HT6.out.below b6
  have HC6 : Hid (CopyB g3 g3 len ls cs4 w6) := HC5.out.below b6
  clear heq b6 HT5 HT6 HC5 HB5
  go_wp2_with fail
  refine (hto _ HB6.out).mono ?_
  rintro e w7 ⟨cs7, rfl, C7, b7⟩
  have HB7 : Hid (Below w.heap.size w w7) := HB6.out.trans (b7.mono HB6.out.size)
  have HU7 : Hid (Txt w2.heap.size v4 (mkList ls len) w7) := HU6.out.below b7
  have HV7 : Hid (Txt w4.heap.size v6 (mkList ls len) w7) := HV6.out.below b7
  have C5 := HC6.out.below b7
  have HC7 : Hid (CopyB g3 g3 len ls cs4 w7) := C5
  have heq := eqBlks g3 w6.heap.size len len len cs4 cs7 w7 C5.at C7.at C5.its C7.its (C5.pts.trans C7.pts.symm) C5.len hn (fun c hc => by have := C5.few HL.out HS.out c hc; omega)
  clear b7 C7 C5 HU6 HV6 HC6
  generalize w6.heap.size = g6 at heq ⊢
  go_wp2_with fail
  refine heq.mono ?_
  rintro e w8 ⟨rfl, b8⟩
  have HB8 : Hid (Below w.heap.size w w8) := HB7.out.trans (b8.mono HB7.out.size)
  have HU8 : Hid (Txt w2.heap.size v4 (mkList ls len) w8) := HU7.out.below b8
  have HV8 : Hid (Txt w4.heap.size v6 (mkList ls len) w8) := HV7.out.below b8
  have C8 := HC7.out.below b8
  have hmb := markBlks g3 len len cs4 w8 ⟨C8.row, rfl, fun c hc => ⟨by have := SBk.of (C8.items c hc).1; rw [← (C8.items c hc).2.1] at this; exact this, by have := (C8.items c hc).2.2.2; omega⟩, Nat.le_refl _, fun b _ _ _ => rfl, Below.refl _ _⟩ C8.len hn (C8.few HL.out HS.out)
  have HCG : Hid (∀ c ∈ cs4, g3 < c.g) := fun c hc => (C8.items c hc).2.2.2
  clear heq b8 C8 HU7 HV7 HC7 HB7
  go_wp2_with fail
  refine hmb.mono ?_
  rintro e w9 ⟨kk, ds, rfl, hm9⟩
  have HB9 : Hid (Below w.heap.size w w9) := by
    refine HB8.out.trans (below_of hm9.fr fun b hb => hm9.far b (Nat.lt_of_lt_of_le hb HB8.out.size) (by have := HG3.out.2; omega) (fun c hc => by have := HCG.out c hc; have := HG3.out.2; omega))
  have HU9 : Hid (Txt w2.heap.size v4 (mkList ls len) w9) := HU8.out.keep hm9.size (fun g cap hv => hm9.far g (HU8.out.blk hv).1 (by have := HV4.out g cap hv; omega) (fun c hc => by have := HV4.out g cap hv; have := HCG.out c hc; omega))
  have HV9 : Hid (Txt w4.heap.size v6 (mkList ls len) w9) := HV8.out.keep hm9.size (fun g cap hv => hm9.far g (HV8.out.blk hv).1 (by have := (HV8.out.blk hv).2; have := HG3.out.1; omega) (fun c hc => by have := (HV8.out.blk hv).2; have := HI4.out c hc; omega))
  have hk0 : ¬ (kk : Int) < 0 := by omega
  have heq := txtEq HV9.out HU9.out hml
  clear hmb hm9 HU8 HV8 HB8
  go_wp2_with fail
  refine heq.mono ?_
  rintro e w10 ⟨rfl, b10⟩
  have HB10 : Hid (Below w.heap.size w w10) := HB9.out.trans (b10.mono HB9.out.size)
  have HU10 : Hid (Txt w2.heap.size v4 (mkList ls len) w10) := HU9.out.below b10
  have HV10 : Hid (Txt w4.heap.size v6 (mkList ls len) w10) := HV9.out.below b10
  have hms := txtMark HV10.out hml
  clear heq b10 HU9 HV9 HB9
  obtain ⟨mm, hmm⟩ : ∃ mm, mm = 1 + (mkList ls len).length := ⟨_, rfl⟩
  rw [← hmm] at hms
  have HMM : Hid (mm = 1 + (mkList ls len).length) := hmm
  clear hmm
  go_wp2_with fail
  refine hms.mono ?_
  rintro e w11 ⟨rfl, hh11, f11, k11⟩
  have HB11 : Hid (Below w.heap.size w w11) := HB10.out.trans (below_of f11 fun b hb => k11 b (Nat.lt_of_lt_of_le hb HB10.out.size) (by have := HG3.out; omega))
  have HU11 : Hid (Txt w2.heap.size v4 (mkList ls len) w11) := HU10.out.keep f11.size (fun g cap hv => k11 g (HU10.out.blk hv).1 (by have := HV4.out g cap hv; have := HG3.out; omega))
  have HH11 : Hid (Held v6 (mkList ls len).length w11) := hh11
  have hhe := txtHeld hh11 hml
  rw [← HMM.out] at hhe
  clear hms hh11 f11 k11 HU10 HV10 HB10
  go_wp2_with fail
  refine hhe.mono ?_
  rintro e w12 ⟨rfl, b12⟩
  have HB12 : Hid (Below w.heap.size w w12) := HB11.out.trans (b12.mono HB11.out.size)
  have HU12 : Hid (Txt w2.heap.size v4 (mkList ls len) w12) := HU11.out.below b12
  have HH12 : Hid (Held v6 (mkList ls len).length w12) := HH11.out.below b12
  have hm0 : ¬ (mm : Int) < 0 := by omega
  clear hhe b12 HU11 HH11 HB11
  go_wp2_with fail
  refine (hto _ HB12.out).mono ?_
  rintro e w13 ⟨cs13, rfl, C13, b13⟩
  have HB13 : Hid (Below w.heap.size w w13) := HB12.out.trans (b13.mono HB12.out.size)
  have HU13 : Hid (Txt w2.heap.size v4 (mkList ls len) w13) := HU12.out.below b13
  have HH13 : Hid (Held v6 (mkList ls len).length w13) := HH12.out.below b13
  have him13 := him _ _ _ _ HB13.out C13
  clear b13 C13 HU12 HH12
  generalize w12.heap.size = g12 at him13 ⊢
  go_wp2_with fail
  refine him13.mono ?_
  rintro e w14 ⟨v14, rfl, T14, b14⟩
  have HB14 : Hid (Below w.heap.size w w14) := HB13.out.trans (b14.mono HB13.out.size)
  have HU14 : Hid (Txt w2.heap.size v4 (mkList ls len) w14) := HU13.out.below b14
  have HH14 : Hid (Held v6 (mkList ls len).length w14) := HH13.out.below b14
  have heq := txtEq T14 HU14.out hml
  clear him13 b14 T14 HU13 HH13 HB13
  go_wp2_with fail
  refine heq.mono ?_
  rintro e w15 ⟨rfl, b15⟩
  have HB15 : Hid (Below w.heap.size w w15) := HB14.out.trans (b15.mono HB14.out.size)
  have hhe := txtHeld (HH14.out.below b15) hml
  rw [← HMM.out] at hhe
  clear heq b15 HU14 HH14 HB14
  go_wp2_with fail
  refine hhe.mono ?_
  rintro e w16 ⟨rfl, b16⟩
  go_wp2_with fail
  go_ret
  exact ⟨rfl, HB15.out.trans (b16.mono HB15.out.size)⟩

end Go.Proofs.YtpddholoehmjkaaGreatDoor

namespace Go.Proofs.YtpddholoehmjkaaGreatDoor
open Go.ChangeShapes Go.WideShapes Go.ChangeAt Go.RowKit
open Go.ChangeMaps (open_string shut_string)
set_option linter.unusedVariables false

theorem own_fnExactChainMarks : ownKnob Tryz.prog.godebug = none := by kernel_rfl
theorem laid_fnExactChainMarks : laidOutB Tryz.prog = true := by kernel_rfl
theorem table_fnExactChainMarks {W : World} (h : laidMetH Tryz.prog Rows.fnExactChainMarksRow.laid W) : RowG W shaK ∧ TabP W ∧ ErrT W := tabs_of_laidE h

theorem met_fnExactChainMarks (os : Os) : laidMetH Tryz.prog Rows.fnExactChainMarksRow.laid ((laidWorldE os).forCall (fun _ _ => 0) ⟨#[], #[.slice none 0 0], []⟩).memory :=
  laidMetH_of_parts (laidMet_of_run' 8 (by kernel_rfl) (by kernel_rfl)) (by kernel_rfl)
theorem reads_fnExactChainMarks (os : Os) {H : Type} (enc : TypeId × Value → H) : ∃ places, DataW.whole enc Tryz.prog ((laidWorldE os).forCall (fun _ _ => 0) ⟨#[], #[.slice none 0 0], []⟩).memory Tryz.f5.params.toList Rows.fnExactChainMarksSpec.vars false (#[.slice none 0 0] : Array Value).toList 8 = some ([.nil], [Rows.laid_loop_example_cordillera_impl_sumRounds], places) :=
  ⟨MemPlace.row ⟨1, 0, none⟩ 64, by kernel_rfl⟩

set_option maxRecDepth 100000 in
theorem lifted_fnExactChainMarks (os : Os) (started : os.Started) (H : Type) (enc : TypeId × Value → H) (F : Stop.Interp) :
    ReturnsInHanded {} Tryz.checked os 5 .any ((OpenSpec.ofChange Rows.fnExactChainMarksSpec).preRow enc Tryz.prog Tryz.f5 Rows.fnExactChainMarksRow.domain false Rows.fnExactChainMarksRow.laid) (((OpenSpec.ofChange Rows.fnExactChainMarksSpec).at F).post enc Tryz.prog Tryz.f5 false true false false) := by
  obtain ⟨places, hx⟩ := reads_fnExactChainMarks os enc
  refine returnsInHanded_of_row (C := Tryz.checked) (s := OpenSpec.ofChange Rows.fnExactChainMarksSpec) own_fnExactChainMarks started (by kernel_rfl) Tryz.func5
    (witness_row_at (enc := enc) (C := Tryz.checked) false (laidWorldE os) #[.slice none 0 0] rfl (by kernel_rfl) (by kernel_rfl) (by kernel_rfl)
      (OpenSpec.preRow_of_cond 8 hx (by kernel_rfl) (fun k hk => by cases hk) (by kernel_rfl) (met_fnExactChainMarks os))) ?_
  intro W base args ds gs before hval0 hW _ _ _ hL _ _
  have hval : ∀ (j : Nat) t v, Tryz.f5.params[j]? = some t → args[j]? = some v → Value.okWide Tryz.prog W .any base t v := hval0
  have hW' := hW
  obtain ⟨p, q, hA0, hV, rfl, hfz, hnd⟩ := hW
  have hA : DataW.TrodAll enc Tryz.prog W 0 (fun _ => true) true Tryz.f5.params.toList args.toList ds p := hA0
  rw [Tryz.params5] at hA hval
  obtain ⟨v0, vs0, d0, ds0, p0, q0, hargs, rfl, rfl, h0, r0⟩ := trodAll_cons hA
  obtain ⟨rfl, rfl, rfl⟩ := trodAll_nil r0
  obtain rfl : args = #[v0] := by cases args; simp_all
  obtain ⟨gv, tv, cv, fv, dv, pv, rfl, hgv, htv, hvv, hdv, rfl⟩ := trodVars_one hV
  obtain ⟨a0, len0, cap0, rfl⟩ := okWide_slice Tryz.underlying22 (hval 0 22 v0 rfl rfl)
  have k0 := h0
  have lt0 : ∀ x ∈ p0, x.block < W.heap.size := by obtain ⟨m, hm⟩ := k0; exact DataW.trod_lt m _ _ _ hm
  obtain ⟨z0, w0⟩ := open_blocks h0
  clear hA0 hval0
  refine (walk_FnExactChainMarks a0 len0 cap0 z0 W w0 (table_fnExactChainMarks hL).1 (table_fnExactChainMarks hL).2.1 (table_fnExactChainMarks hL).2.2).mono fun e W' ⟨he, bel⟩ => ?_
  subst he
  obtain ⟨pv', hpv⟩ := varsBack laid_fnExactChainMarks hgv htv hvv hdv bel
  exact ⟨_, rfl, _, _, _, [], _, pv', hW', trodAll_mk1 (shut_bool Tryz.underlying4 _), (trodAll_cons_mk (Below.trod laid_fnExactChainMarks (by kernel_rfl) (of_decide_eq_true (by kernel_rfl)) k0 bel lt0) trodAll_mk0), hpv, bel.frame _, fun h => by cases h⟩

theorem fnExactChainMarks_said : Rows.FnExactChainMarksSaid :=
  OpenClaim.holds_of_cond 5 Tryz.f5 rfl rfl rfl rfl rfl rfl rfl ⟨rfl, rfl, rfl, rfl, rfl⟩ rfl rfl rfl rfl rfl (by kernel_rfl) Tryz.func5 (by kernel_rfl)
    (of_decide_eq_true (by kernel_rfl)) (by unfold Func.isWrapper; first | (rw [if_pos (by decide +kernel)]; kernel_rfl) | (rw [if_neg (by decide +kernel)]; exact ⟨rfl, rfl⟩))
    (fun os started H enc _ F => by rw [OpenClaim.pre_eq_preRow]; exact lifted_fnExactChainMarks os started H enc F)
theorem plain_fnExactChainMarks (f : FuncId) (fn : Func) (hf : Tryz.pinned.checked.prog.funcNamed "loop.example/cordillera/laws.FnExactChainMarks" = some f) (hfn : Tryz.pinned.checked.prog.funcs[f]? = some fn) :
    true = Tryz.pinned.checked.prog.looks [] ∧ ∀ (j : Nat) t, fn.params[j]? = some t → Tryz.pinned.checked.prog.wantsStandIn t = false := by
  obtain rfl : f = 5 := Option.some.inj ((show Tryz.prog.funcNamed "loop.example/cordillera/laws.FnExactChainMarks" = some 5 by kernel_rfl).symm.trans hf) |>.symm
  obtain rfl : fn = Tryz.f5 := (Option.some.inj (Tryz.func5.symm.trans hfn)).symm
  refine ⟨by kernel_rfl, fun j t ht => ?_⟩
  rw [Tryz.params5] at ht
  have hall : ∀ t ∈ (#[22] : Array TypeId), Tryz.prog.wantsStandIn t = false := by
    intro t ht
    simp only [List.mem_toArray, List.mem_cons, List.not_mem_nil, or_false] at ht
    subst ht; kernel_rfl
  exact hall t (Array.mem_of_getElem? ht)
theorem fnExactChainMarks_holds : Rows.FnExactChainMarksCardSaid :=
  Claim7.holds_tied_plain_at .later [] _ _ _ _ fnExactChainMarks_said (fun _ h => by cases h) (by kernel_rfl) (fun _ h => by cases h) fnExactChainMarks_row_tie rfl ⟨rfl, rfl⟩ (by kernel_rfl) rfl plain_fnExactChainMarks (by kernel_rfl)
#print axioms fnExactChainMarks_holds
end Go.Proofs.YtpddholoehmjkaaGreatDoor

