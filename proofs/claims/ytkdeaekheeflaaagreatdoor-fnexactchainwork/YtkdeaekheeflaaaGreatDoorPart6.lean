/-
  The work of a chain is what the specification says, for every list of heads. The package variables that the row lists are as the program's text lays them.
-/
import Derived.Test.YtkdeaekheeflaaaGreatDoorPart1
import Derived.Test.YtkdeaekheeflaaaGreatDoorPart2
import Derived.Test.YtkdeaekheeflaaaGreatDoorPart3
import Derived.Test.YtkdeaekheeflaaaGreatDoorPart4
import Derived.Test.YtkdeaekheeflaaaGreatDoorPart5
import Derived.Test.YtkdeaekheeflaaaGreatDoorCards
import Derived.Test.YtkdeaekheeflaaaGreatDoorTie
import Derived.WalkKit
import Derived.ProofKit
import Derived.OpenShut
import Derived.ShutString
import Derived.ChangeOld
import Derived.ChangeVars
import Derived.Below
import Derived.Carry
import Derived.Deep.DeepHandedRow
import Derived.Lib.LaidTab
set_option linter.unusedVariables false
namespace Go.Proofs.YtkdeaekheeflaaaGreatDoor
open Go.RowKit Go.Deep

def diffV (l : List HeadV) : Int := if chainCk l = 0 then hardV l else 0
def wrkH (l : List HeadV) : Nat → Int
  | 0 => 0
  | k + 1 => wrkH l k + (l.getD k default).diff
def workV (l : List HeadV) : Int := if chainCk l = 0 then wrkH l l.length else -1
theorem wrkH_in {l : List HeadV} (h : ∀ i, i < l.length → headOkB (l.getD i default) = true) : ∀ k, k ≤ l.length → (k : Int) ≤ wrkH l k ∧ wrkH l k ≤ 8 * (k : Int)
  | 0, _ => by simp [wrkH]
  | k + 1, hk => by
    have ih := wrkH_in h k (by omega)
    have hd := (headOk_in (h k (by omega))).2.2.2.1
    rw [wrkH]
    omega
theorem Chain.whole {g n cap : Nat} {l : List HeadV} {w : World} (h : Chain g n cap l w) (hc : chainCk l = 0) : Ahead g n l w := ⟨h.at_, h.len, h.max, ck_ok hc, h.k, h.p⟩

set_option maxHeartbeats 1000000 in
set_option maxRecDepth 100000 in
theorem implChainDiff (g n cap : Nat) (l : List HeadV) (w : World) (hC : Chain g n cap l w) (hE : ErrT w) :
    Calls Tryz.prog 15 #[.slice (some ⟨g, 0, none⟩) n cap] w fun e w' => e = .returned (.int .i64 (diffV l)) ∧ Below w.heap.size w w' := by
  have hck := implChainCheck g n cap l w hC hE
  by_cases hc : chainCk l = 0
  · have HV : Hid (diffV l = hardV l) := by show _ = _; rw [diffV, if_pos hc]
    have hhd := fun w' (hb : Below w.heap.size w w') => implChainHard g n cap l w' ((hC.whole hc).below hb).at_ hC.len hC.max (ck_ok hc)
    rw [hc] at hck
    generalize hardV l = H at HV hhd
    clear hC hE hc
    go_enter Tryz.func15, Tryz.ntmps15
    go_wp2_with fail
    refine hck.mono ?_
    rintro e w1 ⟨rfl, b1⟩
    go_wp2_with fail
    refine (hhd _ b1).mono ?_
    rintro e w2 ⟨rfl, b2⟩
    go_wp2_with fail
    go_ret
    exact ⟨by rw [HV.out]; rfl, b1.trans (b2.mono b1.size)⟩
  · have HV : Hid (diffV l = 0) := by show _ = _; rw [diffV, if_neg hc]
    have hc' : ¬ (chainCk l : Int) = 0 := by omega
    generalize chainCk l = c at hck hc'
    clear hC hE hc
    go_enter Tryz.func15, Tryz.ntmps15
    go_wp2_with fail
    refine hck.mono ?_
    rintro e w1 ⟨rfl, b1⟩
    go_wp2_with fail
    go_ret
    exact ⟨by rw [HV.out]; rfl, b1⟩

set_option maxHeartbeats 1000000 in
set_option maxRecDepth 100000 in
theorem specChainDiff (g n cap : Nat) (l : List HeadV) (w : World) (hC : ChainSp g n cap l w) :
    Calls Tryz.prog 14 #[.slice (some ⟨g, 0, none⟩) n cap] w fun e w' => e = .returned (.int .i64 (diffV l)) ∧ Below w.heap.size w w' := by
  have hck := specL4Check g n cap l w hC
  by_cases hc : chainCk l = 0
  · have HV : Hid (diffV l = hardV l) := by show _ = _; rw [diffV, if_pos hc]
    have hhd := fun w' (hb : Below w.heap.size w w') => specL4Diff g n cap l w' ((hC.below hb).whole hc)
    rw [hc] at hck
    generalize hardV l = H at HV hhd
    clear hC hc
    go_enter Tryz.func14, Tryz.ntmps14
    go_wp2_with fail
    refine hck.mono ?_
    rintro e w1 ⟨rfl, b1⟩
    go_wp2_with fail
    refine (hhd _ b1).mono ?_
    rintro e w2 ⟨rfl, b2⟩
    go_wp2_with fail
    go_ret
    exact ⟨by rw [HV.out]; rfl, b1.trans (b2.mono b1.size)⟩
  · have HV : Hid (diffV l = 0) := by show _ = _; rw [diffV, if_neg hc]
    have hc' : ¬ (chainCk l : Int) = 0 := by omega
    generalize chainCk l = c at hck hc'
    clear hC hc
    go_enter Tryz.func14, Tryz.ntmps14
    go_wp2_with fail
    refine hck.mono ?_
    rintro e w1 ⟨rfl, b1⟩
    go_wp2_with fail
    go_ret
    exact ⟨by rw [HV.out]; rfl, b1⟩

set_option maxHeartbeats 1000000 in
set_option maxRecDepth 100000 in
theorem implChainWork (g n cap : Nat) (l : List HeadV) (w : World) (hC : Chain g n cap l w) (hE : ErrT w) :
    Calls Tryz.prog 17 #[.slice (some ⟨g, 0, none⟩) n cap] w fun e w' => e = .returned (.int .i64 (workV l)) ∧ Below w.heap.size w w' := by
  have hck := implChainCheck g n cap l w hC hE
  by_cases hc : chainCk l = 0
  · have HV : Hid (workV l = wrkH l n) := by show _ = _; rw [workV, if_pos hc, ← hC.len]
    have HA : Hid (AtHead w g l) := hC.at_
    have HLn : Hid (n = l.length) := hC.len
    have HOK : Hid (∀ i, i < l.length → headOkB (l.getD i default) = true) := ck_ok hc
    have hn20 : n ≤ 20 := by rw [hC.len]; exact ck_len hc
    rw [hc] at hck
    clear hC hE hc
    go_enter Tryz.func17, Tryz.ntmps17
    go_wp2_with fail
    refine hck.mono ?_
    rintro e w1 ⟨rfl, b1⟩
    have B1 : Hid (Below w.heap.size w w1) := b1
    clear b1 hck
    go_wp2_with fail
    go_loopw [3, 11] (fun m i wr => ∃ (k : Nat) (x : Int), k ≤ n ∧ i = .int .i64 (k : Int) ∧ m = .int .i64 x ∧ 0 ≤ x ∧ x ≤ 8 * (k : Int) ∧ Hid (x = wrkH l k) ∧ Hid (Below w.heap.size w wr)) (fun _ i _ => n - (intOf i).toNat)
    case atStart => exact ⟨0, 0, by omega, rfl, rfl, by omega, by omega, rfl, B1⟩
    case round =>
      obtain ⟨k, x, hk, rfl, rfl, hx0, hx1, HX, HB⟩ := hrel
      by_cases hlt : k < n
      · have hkl : k < l.length := by rw [← HLn.out]; exact hlt
        have HAr : Hid (AtHead wr g l) := HA.out.below HB.out HA.out.1
        have c0 := AtHead.c0 HAr.out k hkl
        have c1 := AtHead.c1 HAr.out k hkl
        have c2 := AtHead.c2 HAr.out k hkl
        have c3 := AtHead.c3 HAr.out k hkl
        have c4 := AtHead.c4 HAr.out k hkl
        have hd := (headOk_in (HOK.out k hkl)).2.2.2.1
        have lk : (k : Int) < (n : Int) := by omega
        have lk0 : (0 : Int) ≤ (k : Int) := by omega
        have HK : Hid (k + 1 ≤ n) := hlt
        have HC : Hid (wrkH l (k + 1) = x + (l.getD k default).diff) := by show _ = _; rw [wrkH, ← HX.out]
        generalize l.getD k default = p at c0 c1 c2 c3 c4 hd HC
        have hwx : IntKind.i64.wrap (x + p.diff) = x + p.diff := by rw [IntKind.wrap_i64]; omega
        clear hkl
        go_wp2_with fail
        go_roundw
        case rel => exact ⟨k + 1, x + p.diff, HK.out, by go_num, rfl, by omega, by omega, HC.out.symm, HB.out.alloc HB.out.size _⟩
        case measure => have := HK.out; simp [intOf]; omega
      · obtain rfl : k = n := by omega
        go_wp2_with fail
        go_ret
        exact ⟨by rw [HV.out, ← HX.out]; rfl, HB.out⟩
  · have HV : Hid (workV l = -1) := by show _ = _; rw [workV, if_neg hc]
    have hc' : ¬ (chainCk l : Int) = 0 := by omega
    generalize chainCk l = c at hck hc'
    clear hC hE hc
    go_enter Tryz.func17, Tryz.ntmps17
    go_wp2_with fail
    refine hck.mono ?_
    rintro e w1 ⟨rfl, b1⟩
    go_wp2_with fail
    go_ret
    exact ⟨by rw [HV.out]; rfl, b1⟩

set_option maxHeartbeats 1000000 in
set_option maxRecDepth 100000 in
theorem specL4Work (g n cap : Nat) (l : List HeadV) (w : World) (hA : AheadS g n l w) :
    Calls Tryz.prog 33 #[.slice (some ⟨g, 0, none⟩) n cap] w fun e w' => e = .returned (.int .i64 (wrkH l n)) ∧ w' = w := by
  have HA : Hid (AtHead w g l) := hA.at_
  have HLn : Hid (n = l.length) := hA.len
  have HOK : Hid (∀ i, i < l.length → headOkB (l.getD i default) = true) := hA.ok
  have hm := hA.max
  clear hA
  go_enter Tryz.func33, Tryz.ntmps33
  go_wp2_with fail
  go_loopw [3, 4] (fun m i wr => ∃ (k : Nat) (x : Int), k ≤ n ∧ i = .int .i64 (k : Int) ∧ m = .int .i64 x ∧ 0 ≤ x ∧ x ≤ 8 * (k : Int) ∧ Hid (x = wrkH l k) ∧ wr = w) (fun _ i _ => n - (intOf i).toNat)
  case atStart => exact ⟨0, 0, by omega, rfl, rfl, by omega, by omega, rfl, rfl⟩
  case round =>
    obtain ⟨k, x, hk, rfl, rfl, hx0, hx1, HX, rfl⟩ := hrel
    by_cases hlt : k < n
    · have hkl : k < l.length := by rw [← HLn.out]; exact hlt
      have c3 := AtHead.c3 HA.out k hkl
      have hd := (headOk_in (HOK.out k hkl)).2.2.2.1
      have lk : (k : Int) < (n : Int) := by omega
      have lk0 : (0 : Int) ≤ (k : Int) := by omega
      have HK : Hid (k + 1 ≤ n) := hlt
      have HC : Hid (wrkH l (k + 1) = x + (l.getD k default).diff) := by show _ = _; rw [wrkH, ← HX.out]
      generalize l.getD k default = p at c3 hd HC
      have hwx : IntKind.i64.wrap (x + p.diff) = x + p.diff := by rw [IntKind.wrap_i64]; omega
      clear hkl
      go_wp2_with fail
      go_roundw
      case rel => exact ⟨k + 1, x + p.diff, HK.out, by go_num, rfl, by omega, by omega, HC.out.symm, by first | rfl | trivial⟩
      case measure => have := HK.out; simp [intOf]; omega
    · obtain rfl : k = n := by omega
      go_wp2_with fail
      go_ret
      exact ⟨by rw [← HX.out]; rfl, rfl⟩

set_option maxHeartbeats 1000000 in
set_option maxRecDepth 100000 in
theorem specChainWork (g n cap : Nat) (l : List HeadV) (w : World) (hC : ChainSp g n cap l w) :
    Calls Tryz.prog 16 #[.slice (some ⟨g, 0, none⟩) n cap] w fun e w' => e = .returned (.int .i64 (workV l)) ∧ Below w.heap.size w w' := by
  have hck := specL4Check g n cap l w hC
  by_cases hc : chainCk l = 0
  · have HV : Hid (workV l = wrkH l n) := by show _ = _; rw [workV, if_pos hc, ← hC.len]
    have hhd := fun w' (hb : Below w.heap.size w w') => specL4Work g n cap l w' ((hC.below hb).whole hc)
    rw [hc] at hck
    generalize wrkH l n = H at HV hhd
    clear hC hc
    go_enter Tryz.func16, Tryz.ntmps16
    go_wp2_with fail
    refine hck.mono ?_
    rintro e w1 ⟨rfl, b1⟩
    go_wp2_with fail
    refine (hhd _ b1).mono ?_
    rintro e w2 ⟨rfl, rfl⟩
    go_wp2_with fail
    go_ret
    exact ⟨by rw [HV.out]; rfl, b1⟩
  · have HV : Hid (workV l = -1) := by show _ = _; rw [workV, if_neg hc]
    have hc' : ¬ (chainCk l : Int) = 0 := by omega
    generalize chainCk l = c at hck hc'
    clear hC hc
    go_enter Tryz.func16, Tryz.ntmps16
    go_wp2_with fail
    refine hck.mono ?_
    rintro e w1 ⟨rfl, b1⟩
    go_wp2_with fail
    go_ret
    exact ⟨by rw [HV.out]; rfl, b1⟩

end Go.Proofs.YtkdeaekheeflaaaGreatDoor

set_option linter.unusedVariables false
namespace Go.Proofs.YtkdeaekheeflaaaGreatDoor
open Go.RowKit Go.Deep

set_option maxHeartbeats 1000000 in
set_option maxRecDepth 100000 in
theorem walk_FnExactChainCheck (a : Option Addr) (len cap : Nat) (ps : List HeadV) (w : World) (h : IsHeads w a len cap ps) (hK : RowG w shaK) (hP : TabP w) (hE : ErrT w) :
    Calls Tryz.prog 3 #[.slice a len cap] w fun e w' => e = .returned (.bool true) ∧ Below w.heap.size w w' := by
  have H0 : Hid (IsHeads w a len cap ps) := h
  have HLn : Hid (len = ps.length) := h.len.symm
  have HK : Hid (RowG w shaK) := hK
  have HP : Hid (TabP w) := hP
  have HE : Hid (ErrT w) := hE
  clear h hK hP hE
  go_enter Tryz.func3, Tryz.ntmps3
  go_wp2_with fail
  refine (szHeads a len cap ps w H0.out).mono ?_
  rintro e w0 ⟨b0, rfl | ⟨r, rfl, hr1, hl3, hsm⟩⟩
  · go_wp2_with fail
    go_ret
    exact ⟨rfl, b0⟩
  have HZ : Hid (∀ i, i < ps.length → wfHead (ps.getD i default)) := by
    intro i hi
    have := hsm i (by rw [HLn.out]; exact hi)
    unfold smallHead at this
    unfold wfHead maxLen
    omega
  clear hsm
  have hl4 : len ≤ 1073741824 := by omega
  have hr0 : ¬ (r : Int) < 0 := by omega
  go_wp2_with fail
  refine (toHeads a len cap ps _ w H0.out b0 hl3).mono ?_
  rintro e w1 ⟨rfl, r1, b1⟩
  have HB1 : Hid (Below w.heap.size w w1) := b0.trans (b1.mono b0.size)
  go_wp2_with fail
  refine (specChainCheck w0.heap.size len len ps _ ⟨r1.at 5 enHead_len, HLn.out, hl3, Nat.le_refl _, HZ.out⟩).mono ?_
  rintro e w2 ⟨rfl, b2⟩
  have HB2 : Hid (Below w.heap.size w w2) := HB1.out.trans (b2.mono HB1.out.size)
  clear r1 b1 b2 b0 HB1
  have HI : Hid (∀ w', AtHead w' w2.heap.size ps → Below w.heap.size w w' → Calls Tryz.prog 12 #[.slice (some ⟨w2.heap.size, 0, none⟩) len len] w' fun e w'' => e = .returned (.int .i64 (chainCk ps : Int)) ∧ Below w'.heap.size w' w'') := fun w' h1 hb => implChainCheck w2.heap.size len len ps w' ⟨h1, HLn.out, hl3, Nat.le_refl _, HK.out.below hb HK.out.lt, TabP.below HP.out hb (Nat.le_refl _)⟩ (HE.out.below hb HE.out.lt)
  generalize chainCk ps = R at HI ⊢
  go_wp2_with fail
  refine (toHeads a len cap ps _ w H0.out HB2.out hl3).mono ?_
  rintro e w3 ⟨rfl, r3, b3⟩
  have HR3 : Hid (RowHead w3 w2.heap.size ps) := r3
  have HB3 : Hid (Below w.heap.size w w3) := HB2.out.trans (b3.mono HB2.out.size)
  clear r3 b3
  go_wp2_with fail
  refine (HI.out _ (HR3.out.at 5 enHead_len) HB3.out).mono ?_
  rintro e w4 ⟨rfl, b4⟩
  have HR4 : Hid (RowHead w4 w2.heap.size ps) := HR3.out.below b4 HR3.out.lt
  have HB4 : Hid (Below w.heap.size w w4) := HB3.out.trans (b4.mono HB3.out.size)
  clear b4 HI
  go_wp2_with fail
  refine (toHeads a len cap ps _ w H0.out HB4.out hl3).mono ?_
  rintro e w5 ⟨rfl, r5, b5⟩
  have HR5 : Hid (RowHead w5 w4.heap.size ps) := r5
  have HR45 : Hid (RowHead w5 w2.heap.size ps) := HR4.out.below b5 HR4.out.lt
  have HB5 : Hid (Below w.heap.size w w5) := HB4.out.trans (b5.mono HB4.out.size)
  clear r5 b5
  go_wp2_with fail
  refine (eqHeads w2.heap.size w4.heap.size len len len ps _ (HR45.out.at 5 enHead_len) (HR5.out.at 5 enHead_len) HLn.out hl4).mono ?_
  rintro e w6 ⟨rfl, b6⟩
  go_wp2_with fail
  go_ret
  exact ⟨rfl, HB5.out.trans (b6.mono HB5.out.size)⟩

set_option maxHeartbeats 1000000 in
set_option maxRecDepth 100000 in
theorem walk_FnExactChainDiff (a : Option Addr) (len cap : Nat) (ps : List HeadV) (w : World) (h : IsHeads w a len cap ps) (hK : RowG w shaK) (hP : TabP w) (hE : ErrT w) :
    Calls Tryz.prog 4 #[.slice a len cap] w fun e w' => e = .returned (.bool true) ∧ Below w.heap.size w w' := by
  have H0 : Hid (IsHeads w a len cap ps) := h
  have HLn : Hid (len = ps.length) := h.len.symm
  have HK : Hid (RowG w shaK) := hK
  have HP : Hid (TabP w) := hP
  have HE : Hid (ErrT w) := hE
  clear h hK hP hE
  go_enter Tryz.func4, Tryz.ntmps4
  go_wp2_with fail
  refine (szHeads a len cap ps w H0.out).mono ?_
  rintro e w0 ⟨b0, rfl | ⟨r, rfl, hr1, hl3, hsm⟩⟩
  · go_wp2_with fail
    go_ret
    exact ⟨rfl, b0⟩
  have HZ : Hid (∀ i, i < ps.length → wfHead (ps.getD i default)) := by
    intro i hi
    have := hsm i (by rw [HLn.out]; exact hi)
    unfold smallHead at this
    unfold wfHead maxLen
    omega
  clear hsm
  have hl4 : len ≤ 1073741824 := by omega
  have hr0 : ¬ (r : Int) < 0 := by omega
  go_wp2_with fail
  refine (toHeads a len cap ps _ w H0.out b0 hl3).mono ?_
  rintro e w1 ⟨rfl, r1, b1⟩
  have HB1 : Hid (Below w.heap.size w w1) := b0.trans (b1.mono b0.size)
  go_wp2_with fail
  refine (specChainDiff w0.heap.size len len ps _ ⟨r1.at 5 enHead_len, HLn.out, hl3, Nat.le_refl _, HZ.out⟩).mono ?_
  rintro e w2 ⟨rfl, b2⟩
  have HB2 : Hid (Below w.heap.size w w2) := HB1.out.trans (b2.mono HB1.out.size)
  clear r1 b1 b2 b0 HB1
  have HI : Hid (∀ w', AtHead w' w2.heap.size ps → Below w.heap.size w w' → Calls Tryz.prog 15 #[.slice (some ⟨w2.heap.size, 0, none⟩) len len] w' fun e w'' => e = .returned (.int .i64 (diffV ps)) ∧ Below w'.heap.size w' w'') := fun w' h1 hb => implChainDiff w2.heap.size len len ps w' ⟨h1, HLn.out, hl3, Nat.le_refl _, HK.out.below hb HK.out.lt, TabP.below HP.out hb (Nat.le_refl _)⟩ (HE.out.below hb HE.out.lt)
  generalize diffV ps = R at HI ⊢
  go_wp2_with fail
  refine (toHeads a len cap ps _ w H0.out HB2.out hl3).mono ?_
  rintro e w3 ⟨rfl, r3, b3⟩
  have HR3 : Hid (RowHead w3 w2.heap.size ps) := r3
  have HB3 : Hid (Below w.heap.size w w3) := HB2.out.trans (b3.mono HB2.out.size)
  clear r3 b3
  go_wp2_with fail
  refine (HI.out _ (HR3.out.at 5 enHead_len) HB3.out).mono ?_
  rintro e w4 ⟨rfl, b4⟩
  have HR4 : Hid (RowHead w4 w2.heap.size ps) := HR3.out.below b4 HR3.out.lt
  have HB4 : Hid (Below w.heap.size w w4) := HB3.out.trans (b4.mono HB3.out.size)
  clear b4 HI
  go_wp2_with fail
  refine (toHeads a len cap ps _ w H0.out HB4.out hl3).mono ?_
  rintro e w5 ⟨rfl, r5, b5⟩
  have HR5 : Hid (RowHead w5 w4.heap.size ps) := r5
  have HR45 : Hid (RowHead w5 w2.heap.size ps) := HR4.out.below b5 HR4.out.lt
  have HB5 : Hid (Below w.heap.size w w5) := HB4.out.trans (b5.mono HB4.out.size)
  clear r5 b5
  go_wp2_with fail
  refine (eqHeads w2.heap.size w4.heap.size len len len ps _ (HR45.out.at 5 enHead_len) (HR5.out.at 5 enHead_len) HLn.out hl4).mono ?_
  rintro e w6 ⟨rfl, b6⟩
  go_wp2_with fail
  go_ret
  exact ⟨rfl, HB5.out.trans (b6.mono HB5.out.size)⟩

set_option maxHeartbeats 1000000 in
set_option maxRecDepth 100000 in
theorem walk_FnExactChainWork (a : Option Addr) (len cap : Nat) (ps : List HeadV) (w : World) (h : IsHeads w a len cap ps) (hK : RowG w shaK) (hP : TabP w) (hE : ErrT w) :
    Calls Tryz.prog 5 #[.slice a len cap] w fun e w' => e = .returned (.bool true) ∧ Below w.heap.size w w' := by
  have H0 : Hid (IsHeads w a len cap ps) := h
  have HLn : Hid (len = ps.length) := h.len.symm
  have HK : Hid (RowG w shaK) := hK
  have HP : Hid (TabP w) := hP
  have HE : Hid (ErrT w) := hE
  clear h hK hP hE
  go_enter Tryz.func5, Tryz.ntmps5
  go_wp2_with fail
  refine (szHeads a len cap ps w H0.out).mono ?_
  rintro e w0 ⟨b0, rfl | ⟨r, rfl, hr1, hl3, hsm⟩⟩
  · go_wp2_with fail
    go_ret
    exact ⟨rfl, b0⟩
  have HZ : Hid (∀ i, i < ps.length → wfHead (ps.getD i default)) := by
    intro i hi
    have := hsm i (by rw [HLn.out]; exact hi)
    unfold smallHead at this
    unfold wfHead maxLen
    omega
  clear hsm
  have hl4 : len ≤ 1073741824 := by omega
  have hr0 : ¬ (r : Int) < 0 := by omega
  go_wp2_with fail
  refine (toHeads a len cap ps _ w H0.out b0 hl3).mono ?_
  rintro e w1 ⟨rfl, r1, b1⟩
  have HB1 : Hid (Below w.heap.size w w1) := b0.trans (b1.mono b0.size)
  go_wp2_with fail
  refine (specChainWork w0.heap.size len len ps _ ⟨r1.at 5 enHead_len, HLn.out, hl3, Nat.le_refl _, HZ.out⟩).mono ?_
  rintro e w2 ⟨rfl, b2⟩
  have HB2 : Hid (Below w.heap.size w w2) := HB1.out.trans (b2.mono HB1.out.size)
  clear r1 b1 b2 b0 HB1
  have HI : Hid (∀ w', AtHead w' w2.heap.size ps → Below w.heap.size w w' → Calls Tryz.prog 17 #[.slice (some ⟨w2.heap.size, 0, none⟩) len len] w' fun e w'' => e = .returned (.int .i64 (workV ps)) ∧ Below w'.heap.size w' w'') := fun w' h1 hb => implChainWork w2.heap.size len len ps w' ⟨h1, HLn.out, hl3, Nat.le_refl _, HK.out.below hb HK.out.lt, TabP.below HP.out hb (Nat.le_refl _)⟩ (HE.out.below hb HE.out.lt)
  generalize workV ps = R at HI ⊢
  go_wp2_with fail
  refine (toHeads a len cap ps _ w H0.out HB2.out hl3).mono ?_
  rintro e w3 ⟨rfl, r3, b3⟩
  have HR3 : Hid (RowHead w3 w2.heap.size ps) := r3
  have HB3 : Hid (Below w.heap.size w w3) := HB2.out.trans (b3.mono HB2.out.size)
  clear r3 b3
  go_wp2_with fail
  refine (HI.out _ (HR3.out.at 5 enHead_len) HB3.out).mono ?_
  rintro e w4 ⟨rfl, b4⟩
  have HR4 : Hid (RowHead w4 w2.heap.size ps) := HR3.out.below b4 HR3.out.lt
  have HB4 : Hid (Below w.heap.size w w4) := HB3.out.trans (b4.mono HB3.out.size)
  clear b4 HI
  go_wp2_with fail
  refine (toHeads a len cap ps _ w H0.out HB4.out hl3).mono ?_
  rintro e w5 ⟨rfl, r5, b5⟩
  have HR5 : Hid (RowHead w5 w4.heap.size ps) := r5
  have HR45 : Hid (RowHead w5 w2.heap.size ps) := HR4.out.below b5 HR4.out.lt
  have HB5 : Hid (Below w.heap.size w w5) := HB4.out.trans (b5.mono HB4.out.size)
  clear r5 b5
  go_wp2_with fail
  refine (eqHeads w2.heap.size w4.heap.size len len len ps _ (HR45.out.at 5 enHead_len) (HR5.out.at 5 enHead_len) HLn.out hl4).mono ?_
  rintro e w6 ⟨rfl, b6⟩
  go_wp2_with fail
  go_ret
  exact ⟨rfl, HB5.out.trans (b6.mono HB5.out.size)⟩

end Go.Proofs.YtkdeaekheeflaaaGreatDoor

namespace Go.Proofs.YtkdeaekheeflaaaGreatDoor
open Go.ChangeShapes Go.WideShapes Go.ChangeAt Go.RowKit
open Go.ChangeMaps (open_string shut_string)
set_option linter.unusedVariables false

theorem own_fnExactChainWork : ownKnob Tryz.prog.godebug = none := by kernel_rfl
theorem laid_fnExactChainWork : laidOutB Tryz.prog = true := by kernel_rfl
theorem table_fnExactChainWork {W : World} (h : laidMetH Tryz.prog Rows.fnExactChainWorkRow.laid W) : RowG W shaK ∧ TabP W ∧ ErrT W := tabs_of_laidE h

theorem met_fnExactChainWork (os : Os) : laidMetH Tryz.prog Rows.fnExactChainWorkRow.laid ((laidWorldE os).forCall (fun _ _ => 0) ⟨#[], #[.slice none 0 0], []⟩).memory :=
  laidMetH_of_parts (laidMet_of_run' 8 (by kernel_rfl) (by kernel_rfl)) (by kernel_rfl)
theorem reads_fnExactChainWork (os : Os) {H : Type} (enc : TypeId × Value → H) : ∃ places, DataW.whole enc Tryz.prog ((laidWorldE os).forCall (fun _ _ => 0) ⟨#[], #[.slice none 0 0], []⟩).memory Tryz.f5.params.toList Rows.fnExactChainWorkSpec.vars false (#[.slice none 0 0] : Array Value).toList 8 = some ([.nil], [Rows.laid_loop_example_cordillera_impl_sumRounds], places) :=
  ⟨MemPlace.row ⟨1, 0, none⟩ 64, by kernel_rfl⟩

set_option maxRecDepth 100000 in
theorem lifted_fnExactChainWork (os : Os) (started : os.Started) (H : Type) (enc : TypeId × Value → H) (F : Stop.Interp) :
    ReturnsInHanded {} Tryz.checked os 5 .any ((OpenSpec.ofChange Rows.fnExactChainWorkSpec).preRow enc Tryz.prog Tryz.f5 Rows.fnExactChainWorkRow.domain false Rows.fnExactChainWorkRow.laid) (((OpenSpec.ofChange Rows.fnExactChainWorkSpec).at F).post enc Tryz.prog Tryz.f5 false true false false) := by
  obtain ⟨places, hx⟩ := reads_fnExactChainWork os enc
  refine returnsInHanded_of_row (C := Tryz.checked) (s := OpenSpec.ofChange Rows.fnExactChainWorkSpec) own_fnExactChainWork started (by kernel_rfl) Tryz.func5
    (witness_row_at (enc := enc) (C := Tryz.checked) false (laidWorldE os) #[.slice none 0 0] rfl (by kernel_rfl) (by kernel_rfl) (by kernel_rfl)
      (OpenSpec.preRow_of_cond 8 hx (by kernel_rfl) (fun k hk => by cases hk) (by kernel_rfl) (met_fnExactChainWork os))) ?_
  intro W base args ds gs before hval0 hW _ _ _ hL _ _
  have hval : ∀ (j : Nat) t v, Tryz.f5.params[j]? = some t → args[j]? = some v → Value.okWide Tryz.prog W .any base t v := hval0
  have hW' := hW
  obtain ⟨p, q, hA0, hV, rfl, hfz, hnd⟩ := hW
  have hA : DataW.TrodAll enc Tryz.prog W 0 (fun _ => true) true Tryz.f5.params.toList args.toList ds p := hA0
  rw [Tryz.params5] at hA hval
  obtain ⟨v0, vs0, d0, ds0, p0, q0, hargs, rfl, rfl, h0, r0⟩ := trodAll_cons hA
  obtain ⟨rfl, rfl, rfl⟩ := trodAll_nil r0
  obtain rfl : args = #[v0] := by cases args; simp_all
  obtain ⟨gv, tv, cv, fv, dv, pv, rfl, hgv, htv, hvv, hdv, rfl⟩ := trodVars_one hV
  obtain ⟨a0, len0, cap0, rfl⟩ := okWide_slice Tryz.underlying22 (hval 0 22 v0 rfl rfl)
  have k0 := h0
  have lt0 : ∀ x ∈ p0, x.block < W.heap.size := by obtain ⟨m, hm⟩ := k0; exact DataW.trod_lt m _ _ _ hm
  obtain ⟨z0, w0⟩ := open_heads h0
  clear hA0 hval0
  refine (walk_FnExactChainWork a0 len0 cap0 z0 W w0 (table_fnExactChainWork hL).1 (table_fnExactChainWork hL).2.1 (table_fnExactChainWork hL).2.2).mono fun e W' ⟨he, bel⟩ => ?_
  subst he
  obtain ⟨pv', hpv⟩ := varsBack laid_fnExactChainWork hgv htv hvv hdv bel
  exact ⟨_, rfl, _, _, _, [], _, pv', hW', trodAll_mk1 (shut_bool Tryz.underlying4 _), (trodAll_cons_mk (Below.trod laid_fnExactChainWork (by kernel_rfl) (of_decide_eq_true (by kernel_rfl)) k0 bel lt0) trodAll_mk0), hpv, bel.frame _, fun h => by cases h⟩

theorem fnExactChainWork_said : Rows.FnExactChainWorkSaid :=
  OpenClaim.holds_of_cond 5 Tryz.f5 rfl rfl rfl rfl rfl rfl rfl ⟨rfl, rfl, rfl, rfl, rfl⟩ rfl rfl rfl rfl rfl (by kernel_rfl) Tryz.func5 (by kernel_rfl)
    (of_decide_eq_true (by kernel_rfl)) (by unfold Func.isWrapper; first | (rw [if_pos (by decide +kernel)]; kernel_rfl) | (rw [if_neg (by decide +kernel)]; exact ⟨rfl, rfl⟩))
    (fun os started H enc _ F => by rw [OpenClaim.pre_eq_preRow]; exact lifted_fnExactChainWork os started H enc F)
theorem plain_fnExactChainWork (f : FuncId) (fn : Func) (hf : Tryz.pinned.checked.prog.funcNamed "loop.example/cordillera/laws.FnExactChainWork" = some f) (hfn : Tryz.pinned.checked.prog.funcs[f]? = some fn) :
    true = Tryz.pinned.checked.prog.looks [] ∧ ∀ (j : Nat) t, fn.params[j]? = some t → Tryz.pinned.checked.prog.wantsStandIn t = false := by
  obtain rfl : f = 5 := Option.some.inj ((show Tryz.prog.funcNamed "loop.example/cordillera/laws.FnExactChainWork" = some 5 by kernel_rfl).symm.trans hf) |>.symm
  obtain rfl : fn = Tryz.f5 := (Option.some.inj (Tryz.func5.symm.trans hfn)).symm
  refine ⟨by kernel_rfl, fun j t ht => ?_⟩
  rw [Tryz.params5] at ht
  have hall : ∀ t ∈ (#[22] : Array TypeId), Tryz.prog.wantsStandIn t = false := by
    intro t ht
    simp only [List.mem_toArray, List.mem_cons, List.not_mem_nil, or_false] at ht
    subst ht; kernel_rfl
  exact hall t (Array.mem_of_getElem? ht)
theorem fnExactChainWork_holds : Rows.FnExactChainWorkCardSaid :=
  Claim7.holds_tied_plain_at .later [] _ _ _ _ fnExactChainWork_said (fun _ h => by cases h) (by kernel_rfl) (fun _ h => by cases h) fnExactChainWork_row_tie rfl ⟨rfl, rfl⟩ (by kernel_rfl) rfl plain_fnExactChainWork (by kernel_rfl)
#print axioms fnExactChainWork_holds
end Go.Proofs.YtkdeaekheeflaaaGreatDoor

