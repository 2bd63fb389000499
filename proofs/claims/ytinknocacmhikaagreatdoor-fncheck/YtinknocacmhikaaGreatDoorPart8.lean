/-
  A chain is one as far as it was one: for every code that draws heads. The package variables that the row lists are as the program's text lays them.
-/
import Derived.Test.YtinknocacmhikaaGreatDoorPart1
import Derived.Test.YtinknocacmhikaaGreatDoorPart2
import Derived.Test.YtinknocacmhikaaGreatDoorPart3
import Derived.Test.YtinknocacmhikaaGreatDoorPart4
import Derived.Test.YtinknocacmhikaaGreatDoorPart5
import Derived.Test.YtinknocacmhikaaGreatDoorPart6
import Derived.Test.YtinknocacmhikaaGreatDoorPart7
import Derived.BigRegion
import Derived.Test.YtinknocacmhikaaGreatDoorCards
import Derived.Test.YtinknocacmhikaaGreatDoorTie
import Derived.WalkKit
import Derived.ProofKit
import Derived.OpenShut
import Derived.ShutString
import Derived.ChangeOld
import Derived.ChangeVars
import Derived.Below
import Derived.Carry
import Derived.Deep.DeepHandedRow
import Derived.Lib.LaidTab
set_option linter.unusedVariables false
namespace Go.Proofs.YtinknocacmhikaaGreatDoor
open Go.RowKit Go.Deep

def diffV (l : List HeadV) : Int := if chainCk l = 0 then hardV l else 0
def wrkH (l : List HeadV) : Nat → Int
  | 0 => 0
  | k + 1 => wrkH l k + (l.getD k default).diff
def workV (l : List HeadV) : Int := if chainCk l = 0 then wrkH l l.length else -1
theorem wrkH_in {l : List HeadV} (h : ∀ i, i < l.length → headOkB (l.getD i default) = true) : ∀ k, k ≤ l.length → (k : Int) ≤ wrkH l k ∧ wrkH l k ≤ 8 * (k : Int)
  | 0, _ => by simp [wrkH]
  | k + 1, hk => by
    have ih := wrkH_in h k (by omega)
    have hd := (headOk_in (h k (by omega))).2.2.2.1
    rw [wrkH]
    omega
theorem Chain.whole {g n cap : Nat} {l : List HeadV} {w : World} (h : Chain g n cap l w) (hc : chainCk l = 0) : Ahead g n l w := ⟨h.at_, h.len, h.max, ck_ok hc, h.k, h.p⟩

set_option maxHeartbeats 1000000 in
set_option maxRecDepth 100000 in
theorem implChainDiff (g n cap : Nat) (l : List HeadV) (w : World) (hC : Chain g n cap l w) (hE : ErrT w) :
    Calls Tryz.prog 12 #[.slice (some ⟨g, 0, none⟩) n cap] w fun e w' => e = .returned (.int .i64 (diffV l)) ∧ Below w.heap.size w w' := by
  have hck := implChainCheck g n cap l w hC hE
  by_cases hc : chainCk l = 0
  · have HV : Hid (diffV l = hardV l) := by show _ = _; rw [diffV, if_pos hc]
    have hhd := fun w' (hb : Below w.heap.size w w') => implChainHard g n cap l w' ((hC.whole hc).below hb).at_ hC.len hC.max (ck_ok hc)
    rw [hc] at hck
    generalize hardV l = H at HV hhd
    clear hC hE hc
    go_enter Tryz.func12, Tryz.ntmps12
    go_wp2_with fail
    refine hck.mono ?_
    rintro e w1 ⟨rfl, b1⟩
    go_wp2_with fail
    refine (hhd _ b1).mono ?_
    rintro e w2 ⟨rfl, b2⟩
    go_wp2_with fail
    go_ret
    exact ⟨by rw [HV.out]; rfl, b1.trans (b2.mono b1.size)⟩
  · have HV : Hid (diffV l = 0) := by show _ = _; rw [diffV, if_neg hc]
    have hc' : ¬ (chainCk l : Int) = 0 := by omega
    generalize chainCk l = c at hck hc'
    clear hC hE hc
    go_enter Tryz.func12, Tryz.ntmps12
    go_wp2_with fail
    refine hck.mono ?_
    rintro e w1 ⟨rfl, b1⟩
    go_wp2_with fail
    go_ret
    exact ⟨by rw [HV.out]; rfl, b1⟩

set_option maxHeartbeats 1000000 in
set_option maxRecDepth 100000 in
theorem specChainDiff (g n cap : Nat) (l : List HeadV) (w : World) (hC : ChainSp g n cap l w) :
    Calls Tryz.prog 13 #[.slice (some ⟨g, 0, none⟩) n cap] w fun e w' => e = .returned (.int .i64 (diffV l)) ∧ Below w.heap.size w w' := by
  have hck := specL4Check g n cap l w hC
  by_cases hc : chainCk l = 0
  · have HV : Hid (diffV l = hardV l) := by show _ = _; rw [diffV, if_pos hc]
    have hhd := fun w' (hb : Below w.heap.size w w') => specL4Diff g n cap l w' ((hC.below hb).whole hc)
    rw [hc] at hck
    generalize hardV l = H at HV hhd
    clear hC hc
    go_enter Tryz.func13, Tryz.ntmps13
    go_wp2_with fail
    refine hck.mono ?_
    rintro e w1 ⟨rfl, b1⟩
    go_wp2_with fail
    refine (hhd _ b1).mono ?_
    rintro e w2 ⟨rfl, b2⟩
    go_wp2_with fail
    go_ret
    exact ⟨by rw [HV.out]; rfl, b1.trans (b2.mono b1.size)⟩
  · have HV : Hid (diffV l = 0) := by show _ = _; rw [diffV, if_neg hc]
    have hc' : ¬ (chainCk l : Int) = 0 := by omega
    generalize chainCk l = c at hck hc'
    clear hC hc
    go_enter Tryz.func13, Tryz.ntmps13
    go_wp2_with fail
    refine hck.mono ?_
    rintro e w1 ⟨rfl, b1⟩
    go_wp2_with fail
    go_ret
    exact ⟨by rw [HV.out]; rfl, b1⟩

set_option maxHeartbeats 1000000 in
set_option maxRecDepth 100000 in
theorem implChainWork (g n cap : Nat) (l : List HeadV) (w : World) (hC : Chain g n cap l w) (hE : ErrT w) :
    Calls Tryz.prog 15 #[.slice (some ⟨g, 0, none⟩) n cap] w fun e w' => e = .returned (.int .i64 (workV l)) ∧ Below w.heap.size w w' := by
  have hck := implChainCheck g n cap l w hC hE
  by_cases hc : chainCk l = 0
  · have HV : Hid (workV l = wrkH l n) := by show _ = _; rw [workV, if_pos hc, ← hC.len]
    have HA : Hid (AtHead w g l) := hC.at_
    have HLn : Hid (n = l.length) := hC.len
    have HOK : Hid (∀ i, i < l.length → headOkB (l.getD i default) = true) := ck_ok hc
    have hn20 : n ≤ 20 := by rw [hC.len]; exact ck_len hc
    rw [hc] at hck
    clear hC hE hc
    go_enter Tryz.func15, Tryz.ntmps15
    go_wp2_with fail
    refine hck.mono ?_
    rintro e w1 ⟨rfl, b1⟩
    have B1 : Hid (Below w.heap.size w w1) := b1
    clear b1 hck
    go_wp2_with fail
    go_loopw [3, 11] (fun m i wr => ∃ (k : Nat) (x : Int), k ≤ n ∧ i = .int .i64 (k : Int) ∧ m = .int .i64 x ∧ 0 ≤ x ∧ x ≤ 8 * (k : Int) ∧ Hid (x = wrkH l k) ∧ Hid (Below w.heap.size w wr)) (fun _ i _ => n - (intOf i).toNat)
    case atStart => exact ⟨0, 0, by omega, rfl, rfl, by omega, by omega, rfl, B1⟩
    case round =>
      obtain ⟨k, x, hk, rfl, rfl, hx0, hx1, HX, HB⟩ := hrel
      by_cases hlt : k < n
      · have hkl : k < l.length := by rw [← HLn.out]; exact hlt
        have HAr : Hid (AtHead wr g l) := HA.out.below HB.out HA.out.1
        have c0 := AtHead.c0 HAr.out k hkl
        have c1 := AtHead.c1 HAr.out k hkl
        have c2 := AtHead.c2 HAr.out k hkl
        have c3 := AtHead.c3 HAr.out k hkl
        have c4 := AtHead.c4 HAr.out k hkl
        have hd := (headOk_in (HOK.out k hkl)).2.2.2.1
        have lk : (k : Int) < (n : Int) := by omega
        have lk0 : (0 : Int) ≤ (k : Int) := by omega
        have HK : Hid (k + 1 ≤ n) := hlt
        have HC : Hid (wrkH l (k + 1) = x + (l.getD k default).diff) := by show _ = _; rw [wrkH, ← HX.out]
        generalize l.getD k default = p at c0 c1 c2 c3 c4 hd HC
        have hwx : IntKind.i64.wrap (x + p.diff) = x + p.diff := by rw [IntKind.wrap_i64]; omega
        clear hkl
        go_wp2_with fail
        go_roundw
        case rel => exact ⟨k + 1, x + p.diff, HK.out, by go_num, rfl, by omega, by omega, HC.out.symm, HB.out.alloc HB.out.size _⟩
        case measure => have := HK.out; simp [intOf]; omega
      · obtain rfl : k = n := by omega
        go_wp2_with fail
        go_ret
        exact ⟨by rw [HV.out, ← HX.out]; rfl, HB.out⟩
  · have HV : Hid (workV l = -1) := by show _ = _; rw [workV, if_neg hc]
    have hc' : ¬ (chainCk l : Int) = 0 := by omega
    generalize chainCk l = c at hck hc'
    clear hC hE hc
    go_enter Tryz.func15, Tryz.ntmps15
    go_wp2_with fail
    refine hck.mono ?_
    rintro e w1 ⟨rfl, b1⟩
    go_wp2_with fail
    go_ret
    exact ⟨by rw [HV.out]; rfl, b1⟩

set_option maxHeartbeats 1000000 in
set_option maxRecDepth 100000 in
theorem specL4Work (g n cap : Nat) (l : List HeadV) (w : World) (hA : AheadS g n l w) :
    Calls Tryz.prog 28 #[.slice (some ⟨g, 0, none⟩) n cap] w fun e w' => e = .returned (.int .i64 (wrkH l n)) ∧ w' = w := by
  have HA : Hid (AtHead w g l) := hA.at_
  have HLn : Hid (n = l.length) := hA.len
  have HOK : Hid (∀ i, i < l.length → headOkB (l.getD i default) = true) := hA.ok
  have hm := hA.max
  clear hA
  go_enter Tryz.func28, Tryz.ntmps28
  go_wp2_with fail
  go_loopw [3, 4] (fun m i wr => ∃ (k : Nat) (x : Int), k ≤ n ∧ i = .int .i64 (k : Int) ∧ m = .int .i64 x ∧ 0 ≤ x ∧ x ≤ 8 * (k : Int) ∧ Hid (x = wrkH l k) ∧ wr = w) (fun _ i _ => n - (intOf i).toNat)
  case atStart => exact ⟨0, 0, by omega, rfl, rfl, by omega, by omega, rfl, rfl⟩
  case round =>
    obtain ⟨k, x, hk, rfl, rfl, hx0, hx1, HX, rfl⟩ := hrel
    by_cases hlt : k < n
    · have hkl : k < l.length := by rw [← HLn.out]; exact hlt
      have c3 := AtHead.c3 HA.out k hkl
      have hd := (headOk_in (HOK.out k hkl)).2.2.2.1
      have lk : (k : Int) < (n : Int) := by omega
      have lk0 : (0 : Int) ≤ (k : Int) := by omega
      have HK : Hid (k + 1 ≤ n) := hlt
      have HC : Hid (wrkH l (k + 1) = x + (l.getD k default).diff) := by show _ = _; rw [wrkH, ← HX.out]
      generalize l.getD k default = p at c3 hd HC
      have hwx : IntKind.i64.wrap (x + p.diff) = x + p.diff := by rw [IntKind.wrap_i64]; omega
      clear hkl
      go_wp2_with fail
      go_roundw
      case rel => exact ⟨k + 1, x + p.diff, HK.out, by go_num, rfl, by omega, by omega, HC.out.symm, by first | rfl | trivial⟩
      case measure => have := HK.out; simp [intOf]; omega
    · obtain rfl : k = n := by omega
      go_wp2_with fail
      go_ret
      exact ⟨by rw [← HX.out]; rfl, rfl⟩

set_option maxHeartbeats 1000000 in
set_option maxRecDepth 100000 in
theorem specChainWork (g n cap : Nat) (l : List HeadV) (w : World) (hC : ChainSp g n cap l w) :
    Calls Tryz.prog 16 #[.slice (some ⟨g, 0, none⟩) n cap] w fun e w' => e = .returned (.int .i64 (workV l)) ∧ Below w.heap.size w w' := by
  have hck := specL4Check g n cap l w hC
  by_cases hc : chainCk l = 0
  · have HV : Hid (workV l = wrkH l n) := by show _ = _; rw [workV, if_pos hc, ← hC.len]
    have hhd := fun w' (hb : Below w.heap.size w w') => specL4Work g n cap l w' ((hC.below hb).whole hc)
    rw [hc] at hck
    generalize wrkH l n = H at HV hhd
    clear hC hc
    go_enter Tryz.func16, Tryz.ntmps16
    go_wp2_with fail
    refine hck.mono ?_
    rintro e w1 ⟨rfl, b1⟩
    go_wp2_with fail
    refine (hhd _ b1).mono ?_
    rintro e w2 ⟨rfl, rfl⟩
    go_wp2_with fail
    go_ret
    exact ⟨by rw [HV.out]; rfl, b1⟩
  · have HV : Hid (workV l = -1) := by show _ = _; rw [workV, if_neg hc]
    have hc' : ¬ (chainCk l : Int) = 0 := by omega
    generalize chainCk l = c at hck hc'
    clear hC hc
    go_enter Tryz.func16, Tryz.ntmps16
    go_wp2_with fail
    refine hck.mono ?_
    rintro e w1 ⟨rfl, b1⟩
    go_wp2_with fail
    go_ret
    exact ⟨by rw [HV.out]; rfl, b1⟩

end Go.Proofs.YtinknocacmhikaaGreatDoor

set_option linter.unusedVariables false
namespace Go.Proofs.YtinknocacmhikaaGreatDoor
open Go.RowKit Go.Deep

theorem step_take {l : List HeadV} {i j : Nat} (h : j < i) : stepC (l.take i) j = stepC l j := by
  unfold stepC
  rw [List.take_take, Nat.min_eq_left (by omega), getD_take h]
theorem ck_take {l : List HeadV} (h : chainCk l = 0) (i : Nat) : chainCk (l.take i) = 0 := by
  refine ck_good fun j hj => ?_
  rw [List.length_take] at hj
  rw [step_take (by omega)]
  exact ck_zero h j (by omega)
theorem wrkH_take {l : List HeadV} {i : Nat} : ∀ k, k ≤ i → wrkH (l.take i) k = wrkH l k
  | 0, _ => rfl
  | k + 1, hk => by rw [wrkH, wrkH, wrkH_take k (by omega), getD_take (by omega)]
theorem workV_take {l : List HeadV} (h : chainCk l = 0) {i : Nat} (hi : i ≤ l.length) : workV (l.take i) = wrkH l i := by
  have e : (l.take i).length = i := by rw [List.length_take]; omega
  rw [workV, if_pos (ck_take h i), e, wrkH_take i (Nat.le_refl _)]

set_option maxHeartbeats 1000000 in
set_option maxRecDepth 100000 in
theorem walk_FnWork (a : Option Addr) (len cap : Nat) (zs : List Int) (w : World) (h : IsRow .u8 w a len cap zs) (hK : RowG w shaK) (hP : TabP w) (hE : ErrT w) :
    Calls Tryz.prog 5 #[.slice a len cap] w fun e w' => e = .returned (.bool true) ∧ Below w.heap.size w w' := by
  by_cases hl : (1048576 : Int) < (len : Int)
  · clear hK hP hE
    go_enter Tryz.func5, Tryz.ntmps5
    go_wp2
    go_ret
    exact ⟨rfl, Below.refl _ _⟩
  have hdr := drawChainWork a len cap zs w h
  have HK : Hid (RowG w shaK) := hK
  have HP : Hid (TabP w) := hP
  have HE : Hid (ErrT w) := hE
  clear hK hP hE h
  go_enter Tryz.func5, Tryz.ntmps5
  go_wp2_with fail
  refine hdr.mono ?_
  rintro e w1 ⟨⟨g, n, c, l, rfl, hat, hn, hnc, hn20, hsz, hge⟩, b1⟩
  have HC : Hid (Chain g n c l w1) := ⟨hat, hn, by omega, hnc, HK.out.below b1 HK.out.lt, TabP.below HP.out b1 (Nat.le_refl _)⟩
  have HSP : Hid (ChainSp g n c l w1) := ⟨hat, hn, by omega, hnc, fun i hi => ⟨by have := (hsz i hi).1; unfold maxLen; omega, by have := (hsz i hi).2; unfold maxLen; omega⟩⟩
  have HE1 : Hid (ErrT w1) := HE.out.below b1 HE.out.lt
  have him := implChainWork g n c l w1 HC.out HE1.out
  have hsp := fun w' (hb : Below w1.heap.size w1 w') => specChainWork g n c l w' (HSP.out.below hb)
  have HB1 : Hid (Below w.heap.size w w1) := b1
  have HN : Hid (n = l.length) := hn
  clear hdr hat hn hsz b1 hge
  by_cases hck : chainCk l = 0
  · have hwv : workV l = wrkH l n := by rw [workV, if_pos hck, HN.out]
    have hwn := wrkH_in (ck_ok hck) l.length (Nat.le_refl _)
    rw [← HN.out] at hwn
    have HT : Hid (∀ k, k ≤ n → ∀ w', Below w1.heap.size w1 w' → Calls Tryz.prog 15 #[.slice (some ⟨g, 0, none⟩) k c] w' fun e w'' => e = .returned (.int .i64 (wrkH l k)) ∧ Below w'.heap.size w' w'') := by
      intro k hk w' hb
      have := implChainWork g k c (l.take k) w' ((HC.out.below hb).take hk) (HE1.out.below hb HE1.out.lt)
      rw [workV_take hck (by rw [← HN.out]; exact hk)] at this
      exact this
    have HOK : Hid (∀ i, i < l.length → headOkB (l.getD i default) = true) := ck_ok hck
    rw [hwv] at him hsp
    have hx0 : ¬ wrkH l n < 0 := by omega
    have HWN : Hid ((n : Int) ≤ wrkH l n) := hwn.1
    obtain ⟨W, hW⟩ : ∃ W, W = wrkH l n := ⟨_, rfl⟩
    have HW : Hid (W = wrkH l n) := hW
    rw [← hW] at him hsp hx0
    clear hck hwv hwn hW
    go_wp2_with fail
    refine him.mono ?_
    rintro e w2 ⟨rfl, b2⟩
    go_wp2_with fail
    refine (hsp _ b2).mono ?_
    rintro e w3 ⟨rfl, b3⟩
    have B3 : Hid (Below w1.heap.size w1 w3) := b2.trans (b3.mono b2.size)
    clear b2 b3 him hsp
    go_wp2_with fail
    go_loopw [5, 6] (fun s i wr => ∃ (k : Nat) (x : Int), k ≤ n ∧ i = .int .i64 (k : Int) ∧ s = .int .i64 x ∧ 0 ≤ x ∧ x ≤ 8 * (k : Int) ∧ Hid (x = wrkH l k) ∧ Hid (Below w1.heap.size w1 wr)) (fun _ i _ => n - (intOf i).toNat)
    case atStart => exact ⟨0, 0, by omega, rfl, rfl, by omega, by omega, rfl, B3⟩
    case round =>
      clear B3
      obtain ⟨k, x, hk, rfl, rfl, hx, hx8, HX, HB⟩ := hrel
      by_cases hlt : k < n
      · have hkl : k < l.length := by rw [← HN.out]; exact hlt
        have c3 := AtHead.c3 (HC.out.below HB.out).at_ k hkl
        have hd := (headOk_in (HOK.out k hkl)).2.2.2.1
        have lk : (k : Int) < (n : Int) := by omega
        have lk0 : (0 : Int) ≤ (k : Int) := by omega
        have wk : IntKind.i64.wrap ((k : Int) + 1) = ((k + 1 : Nat) : Int) := by rw [IntKind.wrap_i64]; omega
        have lkc : ((k + 1 : Nat) : Int) ≤ (c : Int) := by omega
        have lkc0 : (0 : Int) ≤ ((k + 1 : Nat) : Int) := by omega
        have hc0 : ¬ c = 0 := by omega
        have HK1 : Hid (k + 1 ≤ n) := hlt
        have HX1 : Hid (wrkH l (k + 1) = x + (l.getD k default).diff) := by show _ = _; rw [wrkH, ← HX.out]
        have htk := HT.out (k + 1) hlt wr HB.out
        rw [HX1.out] at htk
        generalize (l.getD k default).diff = d at c3 hd HX1 htk
        have hwx : IntKind.i64.wrap (x + d) = x + d := by rw [IntKind.wrap_i64]; omega
        obtain ⟨k1, hk1⟩ : ∃ k1, k1 = k + 1 := ⟨_, rfl⟩
        rw [← hk1] at wk lkc lkc0 htk
        have HKE : Hid (k1 = k + 1) := hk1
        clear hkl hk1
        go_wp2_with fail
        refine htk.mono ?_
        rintro e w4 ⟨rfl, b4⟩
        have B4 : Hid (Below w1.heap.size w1 w4) := HB.out.trans (b4.mono HB.out.size)
        clear b4 htk c3
        go_wp2_with fail
        go_roundw
        case rel => exact ⟨k1, x + d, by have := HKE.out; have := HK1.out; omega, rfl, rfl, by omega, by have := HKE.out; omega, by show _ = _; rw [HKE.out]; exact HX1.out.symm, B4⟩
        case measure => have := HK1.out; have := HKE.out; simp [intOf]; omega
      · obtain rfl : k = n := by omega
        have hxw : x = W := by rw [HX.out, HW.out]
        subst hxw
        have hge : (k : Int) ≤ x := by rw [HX.out]; exact HWN.out
        clear HT
        go_wp2_with fail
        go_ret
        exact ⟨rfl, HB1.out.trans (HB.out.mono HB1.out.size)⟩
  · have hwv : workV l = -1 := by rw [workV, if_neg hck]
    rw [hwv] at him hsp
    clear hwv hck
    go_wp2_with fail
    refine him.mono ?_
    rintro e w2 ⟨rfl, b2⟩
    go_wp2_with fail
    refine (hsp _ b2).mono ?_
    rintro e w3 ⟨rfl, b3⟩
    have B3 := b2.trans (b3.mono b2.size)
    go_wp2_with fail
    refine (hsp _ B3).mono ?_
    rintro e w4 ⟨rfl, b4⟩
    go_wp2_with fail
    go_ret
    exact ⟨rfl, HB1.out.trans ((B3.trans (b4.mono B3.size)).mono HB1.out.size)⟩

end Go.Proofs.YtinknocacmhikaaGreatDoor

set_option linter.unusedVariables false
namespace Go.Proofs.YtinknocacmhikaaGreatDoor
open Go.RowKit Go.Deep

theorem step_meets {l : List HeadV} {i : Nat} (h : stepC l i = true) : headMeets (l.getD i default) = true := by
  simp only [stepC, standsB, fitsB, Bool.and_eq_true] at h
  exact h.1.2.1
theorem step_prev {l : List HeadV} {i : Nat} (h : stepC l i = true) : (l.getD i default).prev = prevV (l.take i) := by
  simp only [stepC, standsB, fitsB, Bool.and_eq_true, decide_eq_true_eq] at h
  exact h.1.2.2.2.1
theorem prev_sum {l : List HeadV} {i : Nat} (hi : i + 1 < l.length) (h : ∀ j, j < l.length → stepC l j = true) : (l.getD (i + 1) default).prev = ⟨(headSum (l.getD i default)).toArray⟩ := by
  rw [step_prev (h (i + 1) hi), prevV, if_neg (by rw [List.length_take]; omega), lastH, List.length_take, Nat.min_eq_left (by omega), Nat.add_sub_cancel, getD_take (by omega), sumH, headSum_yes (step_ok (h i (by omega)))]
theorem ck_some {l : List HeadV} {c : Nat} (h : chainCk l = c + 1) : c < l.length ∧ stepC l c = false ∧ ∀ j, j < c → stepC l j = true := by
  unfold chainCk at h
  split at h
  · rename_i i hi
    obtain rfl : i = c := by omega
    rw [List.find?_range_eq_some] at hi
    obtain ⟨h1, h2, h3⟩ := hi
    refine ⟨List.mem_range.1 h2, by simpa using h1, fun j hj => by simpa using h3 j hj⟩
  · omega
theorem ck_ahead {l : List HeadV} {c : Nat} (h : chainCk l = c + 1) : chainCk (l.take c) = 0 := by
  obtain ⟨h1, _, h3⟩ := ck_some h
  refine ck_good fun j hj => ?_
  rw [List.length_take] at hj
  rw [step_take (by omega)]
  exact h3 j (by omega)
theorem ck_upto {l : List HeadV} {c : Nat} (h : chainCk l = c + 1) : chainCk (l.take (c + 1)) = c + 1 := by
  obtain ⟨h1, h2, h3⟩ := ck_some h
  refine ck_bad (by rw [List.length_take]; omega) (by rw [step_take (by omega)]; exact h2) fun j hj => ?_
  rw [step_take (by omega)]
  exact h3 j hj

set_option linter.unusedSimpArgs false in
set_option maxHeartbeats 8000000 in
set_option maxRecDepth 100000 in
theorem walk_FnCheck (a : Option Addr) (len cap : Nat) (zs : List Int) (w : World) (h : IsRow .u8 w a len cap zs) (hK : RowG w shaK) (hP : TabP w) (hE : ErrT w) :
    Calls Tryz.prog 3 #[.slice a len cap] w fun e w' => e = .returned (.bool true) ∧ Below w.heap.size w w' := by
  by_cases hl : (1048576 : Int) < (len : Int)
  · clear hK hP hE
    go_enter Tryz.func3, Tryz.ntmps3
    go_wp2
    go_ret
    exact ⟨rfl, Below.refl _ _⟩
  have hdr := drawChainCheck a len cap zs w h
  have HK : Hid (RowG w shaK) := hK
  have HP : Hid (TabP w) := hP
  have HE : Hid (ErrT w) := hE
  clear hK hP hE h
  go_enter Tryz.func3, Tryz.ntmps3
  go_wp2_with fail
  refine hdr.mono ?_
  rintro e w1 ⟨⟨g, n, c, l, rfl, hat, hn, hnc, hn20, hsz, hge⟩, b1⟩
  have HC : Hid (Chain g n c l w1) := ⟨hat, hn, by omega, hnc, HK.out.below b1 HK.out.lt, TabP.below HP.out b1 (Nat.le_refl _)⟩
  have HSP : Hid (ChainSp g n c l w1) := ⟨hat, hn, by omega, hnc, fun i hi => ⟨by have := (hsz i hi).1; unfold maxLen; omega, by have := (hsz i hi).2; unfold maxLen; omega⟩⟩
  have HE1 : Hid (ErrT w1) := HE.out.below b1 HE.out.lt
  have him := implChainCheck g n c l w1 HC.out HE1.out
  have hsp := fun w' (hb : Below w1.heap.size w1 w') => specChainCheck g n c l w' (HSP.out.below hb)
  have HB1 : Hid (Below w.heap.size w w1) := b1
  have HN : Hid (n = l.length) := hn
  have HT : Hid (∀ k, k ≤ n → ∀ w', Below w1.heap.size w1 w' → Calls Tryz.prog 7 #[.slice (some ⟨g, 0, none⟩) k c] w' fun e w'' => e = .returned (.int .i64 (chainCk (l.take k) : Int)) ∧ Below w'.heap.size w' w'') := by
    intro k hk w' hb
    exact implChainCheck g k c (l.take k) w' ((HC.out.below hb).take hk) (HE1.out.below hb HE1.out.lt)
  have hle := ck_le l
  rw [← hn] at hle
  clear hdr hat hn hsz b1 hge
  cases hck : chainCk l with
  | zero =>
    have HS : Hid (∀ j, j < l.length → stepC l j = true) := ck_zero hck
    have HT0 : Hid (∀ k, k ≤ n → ∀ w', Below w1.heap.size w1 w' → Calls Tryz.prog 7 #[.slice (some ⟨g, 0, none⟩) k c] w' fun e w'' => e = .returned (.int .i64 0) ∧ Below w'.heap.size w' w'') := by
      intro k hk w' hb
      have := HT.out k hk w' hb
      rw [ck_take hck k] at this
      exact this
    rw [hck] at him hsp
    have hz : ((0 : Nat) : Int) = 0 := rfl
    rw [hz] at him hsp
    have hn0 : ¬ (n : Int) < 0 := by omega
    clear hck hle HT hz
    go_wp2_with fail
    refine him.mono ?_
    rintro e w2 ⟨rfl, b2⟩
    go_wp2_with fail
    refine (hsp _ b2).mono ?_
    rintro e w3 ⟨rfl, b3⟩
    have B3 : Hid (Below w1.heap.size w1 w3) := b2.trans (b3.mono b2.size)
    clear b2 b3 him hsp
    go_wp2_with fail
    go_loopw [5] (fun i wr => ∃ k : Nat, k ≤ n ∧ i = .int .i64 (k : Int) ∧ Hid (Below w1.heap.size w1 wr)) (fun i _ => n - (intOf i).toNat)
    case atStart => exact ⟨0, by omega, rfl, B3⟩
    case round =>
      clear B3
      obtain ⟨k, hk, rfl, HB⟩ := hrel
      by_cases hlt : k < n
      · have HCr : Hid (Chain g n c l wr) := HC.out.below HB.out
        have hkl : k < l.length := by rw [← HN.out]; exact hlt
        have c0 := AtHead.c0 HCr.out.at_ k hkl
        have c1 := AtHead.c1 HCr.out.at_ k hkl
        have c2 := AtHead.c2 HCr.out.at_ k hkl
        have c3 := AtHead.c3 HCr.out.at_ k hkl
        have c4 := AtHead.c4 HCr.out.at_ k hkl
        have hgl := HCr.out.at_.1
        have lk : (k : Int) < (n : Int) := by omega
        have lk0 : (0 : Int) ≤ (k : Int) := by omega
        have lkc : (k : Int) ≤ (c : Int) := by omega
        have hc0 : ¬ c = 0 := by omega
        have hwk : IntKind.i64.wrap ((k : Int) + 1) = (k : Int) + 1 := by rw [IntKind.wrap_i64]; omega
        have HK1 : Hid (k + 1 ≤ n) := hlt
        have hbd : Below wr.heap.size wr wr.drew := (Below.refl _ _).drew
        have htk := fun (w' : World) (hb : Below wr.heap.size wr w') => HT0.out k hk w' (HB.out.trans (hb.mono HB.out.size))
        have hhm : ∀ (w' : World) (hb : Below wr.heap.size wr w'), Calls Tryz.prog 10 #[headVal (l.getD k default)] w' fun e w'' => e = .returned (.bool true) ∧ Below w'.heap.size w' w'' := by
          intro w' hb
          have := implHeadMeets (l.getD k default) w' (HCr.out.below hb).k (HCr.out.below hb).p
          rw [step_meets (HS.out k hkl)] at this
          exact this
        by_cases h0 : k = 0
        · have hgt : decide ((0 : Int) < (k : Int)) = false := decide_eq_false (by omega)
          have hgn : ¬ 0 < k := by omega
          have hgd : decide (0 < k) = false := decide_eq_false hgn
          clear hkl HS HT0 hlt hk h0
          generalize l.getD k default = h at c0 c1 c2 c3 c4 hhm
          unfold headVal at hhm
          have hheld : ∀ w' : World, Below wr.heap.size wr w' → (fun w' => w'.cell? ⟨g, k * 5, none⟩ = some (.string h.prev) ∧ w'.cell? ⟨g, k * 5 + 1, none⟩ = some (.string h.root) ∧ w'.cell? ⟨g, k * 5 + 2, none⟩ = some (.int .i64 h.time) ∧ w'.cell? ⟨g, k * 5 + 3, none⟩ = some (.int .i64 h.diff) ∧ w'.cell? ⟨g, k * 5 + 4, none⟩ = some (.int .i64 h.nonce)) w' := fun w' hb => ⟨(hb.cell (p := ⟨g, k * 5, none⟩) hgl).trans c0, (hb.cell (p := ⟨g, k * 5 + 1, none⟩) hgl).trans c1, (hb.cell (p := ⟨g, k * 5 + 2, none⟩) hgl).trans c2, (hb.cell (p := ⟨g, k * 5 + 3, none⟩) hgl).trans c3, (hb.cell (p := ⟨g, k * 5 + 4, none⟩) hgl).trans c4⟩
          go_wp2_with fail
          refine wp_region_noPanic ?_
          refine wp_region_held_drew (S := fun w' => w'.cell? ⟨g, k * 5, none⟩ = some (.string h.prev) ∧ w'.cell? ⟨g, k * 5 + 1, none⟩ = some (.string h.root) ∧ w'.cell? ⟨g, k * 5 + 2, none⟩ = some (.int .i64 h.time) ∧ w'.cell? ⟨g, k * 5 + 3, none⟩ = some (.int .i64 h.diff) ∧ w'.cell? ⟨g, k * 5 + 4, none⟩ = some (.int .i64 h.nonce)) (by kernel_rfl) (hheld _ hbd) (fun hHeld => ?_)
          refine takeL 0 (v := ?_) rfl (by kernel_rfl) (by kernel_rfl) (by kernel_rfl) (fun _ _ _ h => h) (by kernel_rfl) ?_ (by assumption) ?_
          rotate_left
          · intro w hSw; (try dsimp only at hSw); first | (go_simp; done) | (go_simp; with_reducible rfl)
          try simp only [Act.put, List.setIfInBounds_toArray, List.set_cons_zero, List.set_cons_succ]
          refine takeL 1 (v := ?_) rfl (by kernel_rfl) (by kernel_rfl) (by kernel_rfl) (fun _ _ _ h => h) (by kernel_rfl) ?_ (by assumption) ?_
          rotate_left
          · intro w hSw; (try dsimp only at hSw); first | (go_simp; done) | (go_simp; with_reducible rfl)
          try simp only [Act.put, List.setIfInBounds_toArray, List.set_cons_zero, List.set_cons_succ]
          refine takeL 2 (v := ?_) rfl (by kernel_rfl) (by kernel_rfl) (by kernel_rfl) (fun _ _ _ h => h) (by kernel_rfl) ?_ (by assumption) ?_
          rotate_left
          · intro w hSw; (try dsimp only at hSw); first | (go_simp; done) | (go_simp; with_reducible rfl)
          try simp only [Act.put, List.setIfInBounds_toArray, List.set_cons_zero, List.set_cons_succ]
          refine callL 3 rfl (by kernel_rfl) (fun K hK => ?_)
          go_simp
          refine (htk _ hbd).mono ?_
          rintro e w4 ⟨rfl, b4⟩
          have B4 : Hid (Below wr.heap.size wr w4) := hbd.trans b4
          have HH4 := hheld _ B4.out
          clear b4
          go_wp2_with fail
          refine hK.out _ _ ?_ (fun hHeld => ?_)
          · first | exact HH6 | exact HH5 | exact HH4
          clear hK K
          try simp only [Act.put, List.setIfInBounds_toArray, List.set_cons_zero, List.set_cons_succ]
          refine takeL 4 (v := ?_) rfl (by kernel_rfl) (by kernel_rfl) (by kernel_rfl) (fun _ _ _ h => h) (by kernel_rfl) ?_ (by assumption) ?_
          rotate_left
          · intro w hSw; (try dsimp only at hSw); first | (go_simp; done) | (go_simp; with_reducible rfl)
          try simp only [Act.put, List.setIfInBounds_toArray, List.set_cons_zero, List.set_cons_succ]
          refine takeL 5 (v := ?_) rfl (by kernel_rfl) (by kernel_rfl) (by kernel_rfl) (fun _ _ _ h => h) (by kernel_rfl) ?_ (by assumption) ?_
          rotate_left
          · intro w hSw; (try dsimp only at hSw); first | (go_simp; done) | (go_simp; with_reducible rfl)
          try simp only [Act.put, List.setIfInBounds_toArray, List.set_cons_zero, List.set_cons_succ]
          refine takeL 6 (v := ?_) rfl (by kernel_rfl) (by kernel_rfl) (by kernel_rfl) (fun _ _ _ h => h) (by kernel_rfl) ?_ (by assumption) ?_
          rotate_left
          · intro w hSw; (try dsimp only at hSw); first | (go_simp; done) | (go_simp; with_reducible rfl)
          try simp only [Act.put, List.setIfInBounds_toArray, List.set_cons_zero, List.set_cons_succ]
          refine takeL 7 (v := ?_) rfl (by kernel_rfl) (by kernel_rfl) (by kernel_rfl) (fun _ _ _ h => h) (by kernel_rfl) ?_ (by assumption) ?_
          rotate_left
          · intro w hSw; (try dsimp only at hSw); first | (go_simp; done) | (go_simp; with_reducible rfl)
          try simp only [Act.put, List.setIfInBounds_toArray, List.set_cons_zero, List.set_cons_succ]
          refine takeL 8 (v := ?_) rfl (by kernel_rfl) (by kernel_rfl) (by kernel_rfl) (fun _ _ _ h => h) (by kernel_rfl) ?_ (by assumption) ?_
          rotate_left
          · intro w hSw; (try dsimp only at hSw); first | (go_simp; done) | (go_simp; with_reducible rfl)
          try simp only [Act.put, List.setIfInBounds_toArray, List.set_cons_zero, List.set_cons_succ]
          refine skipL 9 rfl (by kernel_rfl) (by kernel_rfl) (by kernel_rfl) (fun _ _ _ h => h) (by kernel_rfl) (by assumption) ?_
          try simp only [Act.put, List.setIfInBounds_toArray, List.set_cons_zero, List.set_cons_succ]
          refine skipL 10 rfl (by kernel_rfl) (by kernel_rfl) (by kernel_rfl) (fun _ _ _ h => h) (by kernel_rfl) (by assumption) ?_
          try simp only [Act.put, List.setIfInBounds_toArray, List.set_cons_zero, List.set_cons_succ]
          refine skipL 11 rfl (by kernel_rfl) (by kernel_rfl) (by kernel_rfl) (fun _ _ _ h => h) (by kernel_rfl) (by assumption) ?_
          try simp only [Act.put, List.setIfInBounds_toArray, List.set_cons_zero, List.set_cons_succ]
          refine skipL 12 rfl (by kernel_rfl) (by kernel_rfl) (by kernel_rfl) (fun _ _ _ h => h) (by kernel_rfl) (by assumption) ?_
          try simp only [Act.put, List.setIfInBounds_toArray, List.set_cons_zero, List.set_cons_succ]
          refine skipL 13 rfl (by kernel_rfl) (by kernel_rfl) (by kernel_rfl) (fun _ _ _ h => h) (by kernel_rfl) (by assumption) ?_
          try simp only [Act.put, List.setIfInBounds_toArray, List.set_cons_zero, List.set_cons_succ]
          refine skipL 14 rfl (by kernel_rfl) (by kernel_rfl) (by kernel_rfl) (fun _ _ _ h => h) (by kernel_rfl) (by assumption) ?_
          try simp only [Act.put, List.setIfInBounds_toArray, List.set_cons_zero, List.set_cons_succ]
          refine skipL 15 rfl (by kernel_rfl) (by kernel_rfl) (by kernel_rfl) (fun _ _ _ h => h) (by kernel_rfl) (by assumption) ?_
          try simp only [Act.put, List.setIfInBounds_toArray, List.set_cons_zero, List.set_cons_succ]
          refine skipL 16 rfl (by kernel_rfl) (by kernel_rfl) (by kernel_rfl) (fun _ _ _ h => h) (by kernel_rfl) (by assumption) ?_
          try simp only [Act.put, List.setIfInBounds_toArray, List.set_cons_zero, List.set_cons_succ]
          refine skipL 17 rfl (by kernel_rfl) (by kernel_rfl) (by kernel_rfl) (fun _ _ _ h => h) (by kernel_rfl) (by assumption) ?_
          try simp only [Act.put, List.setIfInBounds_toArray, List.set_cons_zero, List.set_cons_succ]
          refine skipL 18 rfl (by kernel_rfl) (by kernel_rfl) (by kernel_rfl) (fun _ _ _ h => h) (by kernel_rfl) (by assumption) ?_
          try simp only [Act.put, List.setIfInBounds_toArray, List.set_cons_zero, List.set_cons_succ]
          refine skipL 19 rfl (by kernel_rfl) (by kernel_rfl) (by kernel_rfl) (fun _ _ _ h => h) (by kernel_rfl) (by assumption) ?_
          try simp only [Act.put, List.setIfInBounds_toArray, List.set_cons_zero, List.set_cons_succ]
          refine skipL 20 rfl (by kernel_rfl) (by kernel_rfl) (by kernel_rfl) (fun _ _ _ h => h) (by kernel_rfl) (by assumption) ?_
          try simp only [Act.put, List.setIfInBounds_toArray, List.set_cons_zero, List.set_cons_succ]
          refine takeL 21 (v := ?_) rfl (by kernel_rfl) (by kernel_rfl) (by kernel_rfl) (fun _ _ _ h => h) (by kernel_rfl) ?_ (by assumption) ?_
          rotate_left
          · intro w hSw; (try dsimp only at hSw); first | (go_simp; done) | (go_simp; with_reducible rfl)
          try simp only [Act.put, List.setIfInBounds_toArray, List.set_cons_zero, List.set_cons_succ]
          refine takeL 22 (v := ?_) rfl (by kernel_rfl) (by kernel_rfl) (by kernel_rfl) (fun _ _ _ h => h) (by kernel_rfl) ?_ (by assumption) ?_
          rotate_left
          · intro w hSw; (try dsimp only at hSw); first | (go_simp; done) | (go_simp; with_reducible rfl)
          try simp only [Act.put, List.setIfInBounds_toArray, List.set_cons_zero, List.set_cons_succ]
          refine takeL 23 (v := ?_) rfl (by kernel_rfl) (by kernel_rfl) (by kernel_rfl) (fun _ _ _ h => h) (by kernel_rfl) ?_ (by assumption) ?_
          rotate_left
          · intro w hSw; (try dsimp only at hSw); first | (go_simp; done) | (go_simp; with_reducible rfl)
          try simp only [Act.put, List.setIfInBounds_toArray, List.set_cons_zero, List.set_cons_succ]
          refine takeL 24 (v := ?_) rfl (by kernel_rfl) (by kernel_rfl) (by kernel_rfl) (fun _ _ _ h => h) (by kernel_rfl) ?_ (by assumption) ?_
          rotate_left
          · intro w hSw; (try dsimp only at hSw); first | (go_simp; done) | (go_simp; with_reducible rfl)
          try simp only [Act.put, List.setIfInBounds_toArray, List.set_cons_zero, List.set_cons_succ]
          refine takeL 25 (v := ?_) rfl (by kernel_rfl) (by kernel_rfl) (by kernel_rfl) (fun _ _ _ h => h) (by kernel_rfl) ?_ (by assumption) ?_
          rotate_left
          · intro w hSw; (try dsimp only at hSw); first | (go_simp; done) | (go_simp; with_reducible rfl)
          try simp only [Act.put, List.setIfInBounds_toArray, List.set_cons_zero, List.set_cons_succ]
          refine takeL 26 (v := ?_) rfl (by kernel_rfl) (by kernel_rfl) (by kernel_rfl) (fun _ _ _ h => h) (by kernel_rfl) ?_ (by assumption) ?_
          rotate_left
          · intro w hSw; (try dsimp only at hSw); first | (go_simp; done) | (go_simp; with_reducible rfl)
          try simp only [Act.put, List.setIfInBounds_toArray, List.set_cons_zero, List.set_cons_succ]
          refine takeL 27 (v := ?_) rfl (by kernel_rfl) (by kernel_rfl) (by kernel_rfl) (fun _ _ _ h => h) (by kernel_rfl) ?_ (by assumption) ?_
          rotate_left
          · intro w hSw; (try dsimp only at hSw); first | (go_simp; done) | (go_simp; with_reducible rfl)
          try simp only [Act.put, List.setIfInBounds_toArray, List.set_cons_zero, List.set_cons_succ]
          refine callL 28 rfl (by kernel_rfl) (fun K hK => ?_)
          go_simp
          refine (hhm _ B4.out).mono ?_
          rintro e w6 ⟨rfl, b6⟩
          have B6 : Hid (Below wr.heap.size wr w6) := B4.out.trans (b6.mono B4.out.size)
          have HH6 := hheld _ B6.out
          clear b6
          go_wp2_with fail
          refine hK.out _ _ ?_ (fun hHeld => ?_)
          · first | exact HH6 | exact HH5 | exact HH4
          clear hK K
          try simp only [Act.put, List.setIfInBounds_toArray, List.set_cons_zero, List.set_cons_succ]
          refine takeL 29 (v := ?_) rfl (by kernel_rfl) (by kernel_rfl) (by kernel_rfl) (fun _ _ _ h => h) (by kernel_rfl) ?_ (by assumption) ?_
          rotate_left
          · intro w hSw; (try dsimp only at hSw); first | (go_simp; done) | (go_simp; with_reducible rfl)
          try simp only [Act.put, List.setIfInBounds_toArray, List.set_cons_zero, List.set_cons_succ]
          refine takeL 30 (v := ?_) rfl (by kernel_rfl) (by kernel_rfl) (by kernel_rfl) (fun _ _ _ h => h) (by kernel_rfl) ?_ (by assumption) ?_
          rotate_left
          · intro w hSw; (try dsimp only at hSw); first | (go_simp; done) | (go_simp; with_reducible rfl)
          try simp only [Act.put, List.setIfInBounds_toArray, List.set_cons_zero, List.set_cons_succ]
          refine wpAnyH_done (by kernel_rfl) ?_ _
          refine NoPanic.normal ?_
          go_wp2_with fail
          go_roundw
          case rel => exact ⟨k + 1, HK1.out, by go_num, HB.out.trans (B6.out.mono HB.out.size)⟩
          case measure => have := HK1.out; simp [intOf]; omega
        · have hgt : decide ((0 : Int) < (k : Int)) = true := decide_eq_true (by omega)
          have hgn : 0 < k := by omega
          have hgd : decide (0 < k) = true := decide_eq_true hgn
          obtain ⟨j, hj⟩ : ∃ j, k = j + 1 := ⟨k - 1, by omega⟩
          have hp := prev_sum (l := l) (i := j) (by omega) HS.out
          rw [← hj] at hp
          have hjl : j < l.length := by omega
          have d0 := AtHead.c0 HCr.out.at_ j hjl
          have d1 := AtHead.c1 HCr.out.at_ j hjl
          have d2 := AtHead.c2 HCr.out.at_ j hjl
          have d3 := AtHead.c3 HCr.out.at_ j hjl
          have d4 := AtHead.c4 HCr.out.at_ j hjl
          have hhs : ∀ (w' : World) (hb : Below wr.heap.size wr w'), Calls Tryz.prog 9 #[headVal (l.getD j default)] w' fun e w'' => e = .returned (.string (l.getD k default).prev) ∧ Below w'.heap.size w' w'' := by
            intro w' hb
            have := implHeadSum (l.getD j default) w' (HCr.out.below hb).k (HCr.out.below hb).p
            rw [← hp] at this
            exact this
          have lj : (j : Int) < (n : Int) := by omega
          have lj0 : (0 : Int) ≤ (j : Int) := by omega
          have hwj : IntKind.i64.wrap ((k : Int) - 1) = (j : Int) := by rw [IntKind.wrap_i64]; omega
          clear hkl hjl HS HT0 hlt hk h0 hj hp
          generalize l.getD k default = h at c0 c1 c2 c3 c4 hhm hhs
          generalize l.getD j default = p at d0 d1 d2 d3 d4 hhs
          unfold headVal at hhm hhs
          have hheld : ∀ w' : World, Below wr.heap.size wr w' → (fun w' => (w'.cell? ⟨g, k * 5, none⟩ = some (.string h.prev) ∧ w'.cell? ⟨g, k * 5 + 1, none⟩ = some (.string h.root) ∧ w'.cell? ⟨g, k * 5 + 2, none⟩ = some (.int .i64 h.time) ∧ w'.cell? ⟨g, k * 5 + 3, none⟩ = some (.int .i64 h.diff) ∧ w'.cell? ⟨g, k * 5 + 4, none⟩ = some (.int .i64 h.nonce)) ∧ w'.cell? ⟨g, j * 5, none⟩ = some (.string p.prev) ∧ w'.cell? ⟨g, j * 5 + 1, none⟩ = some (.string p.root) ∧ w'.cell? ⟨g, j * 5 + 2, none⟩ = some (.int .i64 p.time) ∧ w'.cell? ⟨g, j * 5 + 3, none⟩ = some (.int .i64 p.diff) ∧ w'.cell? ⟨g, j * 5 + 4, none⟩ = some (.int .i64 p.nonce)) w' := fun w' hb => ⟨⟨(hb.cell (p := ⟨g, k * 5, none⟩) hgl).trans c0, (hb.cell (p := ⟨g, k * 5 + 1, none⟩) hgl).trans c1, (hb.cell (p := ⟨g, k * 5 + 2, none⟩) hgl).trans c2, (hb.cell (p := ⟨g, k * 5 + 3, none⟩) hgl).trans c3, (hb.cell (p := ⟨g, k * 5 + 4, none⟩) hgl).trans c4⟩, ⟨(hb.cell (p := ⟨g, j * 5, none⟩) hgl).trans d0, (hb.cell (p := ⟨g, j * 5 + 1, none⟩) hgl).trans d1, (hb.cell (p := ⟨g, j * 5 + 2, none⟩) hgl).trans d2, (hb.cell (p := ⟨g, j * 5 + 3, none⟩) hgl).trans d3, (hb.cell (p := ⟨g, j * 5 + 4, none⟩) hgl).trans d4⟩⟩
          go_wp2_with fail
          refine wp_region_noPanic ?_
          refine wp_region_held_drew (S := fun w' => (w'.cell? ⟨g, k * 5, none⟩ = some (.string h.prev) ∧ w'.cell? ⟨g, k * 5 + 1, none⟩ = some (.string h.root) ∧ w'.cell? ⟨g, k * 5 + 2, none⟩ = some (.int .i64 h.time) ∧ w'.cell? ⟨g, k * 5 + 3, none⟩ = some (.int .i64 h.diff) ∧ w'.cell? ⟨g, k * 5 + 4, none⟩ = some (.int .i64 h.nonce)) ∧ w'.cell? ⟨g, j * 5, none⟩ = some (.string p.prev) ∧ w'.cell? ⟨g, j * 5 + 1, none⟩ = some (.string p.root) ∧ w'.cell? ⟨g, j * 5 + 2, none⟩ = some (.int .i64 p.time) ∧ w'.cell? ⟨g, j * 5 + 3, none⟩ = some (.int .i64 p.diff) ∧ w'.cell? ⟨g, j * 5 + 4, none⟩ = some (.int .i64 p.nonce)) (by kernel_rfl) (hheld _ hbd) (fun hHeld => ?_)
          refine takeL 0 (v := ?_) rfl (by kernel_rfl) (by kernel_rfl) (by kernel_rfl) (fun _ _ _ h => h) (by kernel_rfl) ?_ (by assumption) ?_
          rotate_left
          · intro w hSw; (try dsimp only at hSw); first | (go_simp; done) | (go_simp; with_reducible rfl)
          try simp only [Act.put, List.setIfInBounds_toArray, List.set_cons_zero, List.set_cons_succ]
          refine takeL 1 (v := ?_) rfl (by kernel_rfl) (by kernel_rfl) (by kernel_rfl) (fun _ _ _ h => h) (by kernel_rfl) ?_ (by assumption) ?_
          rotate_left
          · intro w hSw; (try dsimp only at hSw); first | (go_simp; done) | (go_simp; with_reducible rfl)
          try simp only [Act.put, List.setIfInBounds_toArray, List.set_cons_zero, List.set_cons_succ]
          refine takeL 2 (v := ?_) rfl (by kernel_rfl) (by kernel_rfl) (by kernel_rfl) (fun _ _ _ h => h) (by kernel_rfl) ?_ (by assumption) ?_
          rotate_left
          · intro w hSw; (try dsimp only at hSw); first | (go_simp; done) | (go_simp; with_reducible rfl)
          try simp only [Act.put, List.setIfInBounds_toArray, List.set_cons_zero, List.set_cons_succ]
          refine callL 3 rfl (by kernel_rfl) (fun K hK => ?_)
          go_simp
          refine (htk _ hbd).mono ?_
          rintro e w4 ⟨rfl, b4⟩
          have B4 : Hid (Below wr.heap.size wr w4) := hbd.trans b4
          have HH4 := hheld _ B4.out
          clear b4
          go_wp2_with fail
          refine hK.out _ _ ?_ (fun hHeld => ?_)
          · first | exact HH6 | exact HH5 | exact HH4
          clear hK K
          try simp only [Act.put, List.setIfInBounds_toArray, List.set_cons_zero, List.set_cons_succ]
          refine takeL 4 (v := ?_) rfl (by kernel_rfl) (by kernel_rfl) (by kernel_rfl) (fun _ _ _ h => h) (by kernel_rfl) ?_ (by assumption) ?_
          rotate_left
          · intro w hSw; (try dsimp only at hSw); first | (go_simp; done) | (go_simp; with_reducible rfl)
          try simp only [Act.put, List.setIfInBounds_toArray, List.set_cons_zero, List.set_cons_succ]
          refine takeL 5 (v := ?_) rfl (by kernel_rfl) (by kernel_rfl) (by kernel_rfl) (fun _ _ _ h => h) (by kernel_rfl) ?_ (by assumption) ?_
          rotate_left
          · intro w hSw; (try dsimp only at hSw); first | (go_simp; done) | (go_simp; with_reducible rfl)
          try simp only [Act.put, List.setIfInBounds_toArray, List.set_cons_zero, List.set_cons_succ]
          refine takeL 6 (v := ?_) rfl (by kernel_rfl) (by kernel_rfl) (by kernel_rfl) (fun _ _ _ h => h) (by kernel_rfl) ?_ (by assumption) ?_
          rotate_left
          · intro w hSw; (try dsimp only at hSw); first | (go_simp; done) | (go_simp; with_reducible rfl)
          try simp only [Act.put, List.setIfInBounds_toArray, List.set_cons_zero, List.set_cons_succ]
          refine takeL 7 (v := ?_) rfl (by kernel_rfl) (by kernel_rfl) (by kernel_rfl) (fun _ _ _ h => h) (by kernel_rfl) ?_ (by assumption) ?_
          rotate_left
          · intro w hSw; (try dsimp only at hSw); first | (go_simp; done) | (go_simp; with_reducible rfl)
          try simp only [Act.put, List.setIfInBounds_toArray, List.set_cons_zero, List.set_cons_succ]
          refine takeL 8 (v := ?_) rfl (by kernel_rfl) (by kernel_rfl) (by kernel_rfl) (fun _ _ _ h => h) (by kernel_rfl) ?_ (by assumption) ?_
          rotate_left
          · intro w hSw; (try dsimp only at hSw); first | (go_simp; done) | (go_simp; with_reducible rfl)
          try simp only [Act.put, List.setIfInBounds_toArray, List.set_cons_zero, List.set_cons_succ]
          refine takeL 9 (v := ?_) rfl (by kernel_rfl) (by kernel_rfl) (by kernel_rfl) (fun _ _ _ h => h) (by kernel_rfl) ?_ (by assumption) ?_
          rotate_left
          · intro w hSw; (try dsimp only at hSw); first | (go_simp; done) | (go_simp; with_reducible rfl)
          try simp only [Act.put, List.setIfInBounds_toArray, List.set_cons_zero, List.set_cons_succ]
          refine takeL 10 (v := ?_) rfl (by kernel_rfl) (by kernel_rfl) (by kernel_rfl) (fun _ _ _ h => h) (by kernel_rfl) ?_ (by assumption) ?_
          rotate_left
          · intro w hSw; (try dsimp only at hSw); first | (go_simp; done) | (go_simp; with_reducible rfl)
          try simp only [Act.put, List.setIfInBounds_toArray, List.set_cons_zero, List.set_cons_succ]
          refine takeL 11 (v := ?_) rfl (by kernel_rfl) (by kernel_rfl) (by kernel_rfl) (fun _ _ _ h => h) (by kernel_rfl) ?_ (by assumption) ?_
          rotate_left
          · intro w hSw; (try dsimp only at hSw); first | (go_simp; done) | (go_simp; with_reducible rfl)
          try simp only [Act.put, List.setIfInBounds_toArray, List.set_cons_zero, List.set_cons_succ]
          refine takeL 12 (v := ?_) rfl (by kernel_rfl) (by kernel_rfl) (by kernel_rfl) (fun _ _ _ h => h) (by kernel_rfl) ?_ (by assumption) ?_
          rotate_left
          · intro w hSw; (try dsimp only at hSw); first | (go_simp; done) | (go_simp; with_reducible rfl)
          try simp only [Act.put, List.setIfInBounds_toArray, List.set_cons_zero, List.set_cons_succ]
          refine takeL 13 (v := ?_) rfl (by kernel_rfl) (by kernel_rfl) (by kernel_rfl) (fun _ _ _ h => h) (by kernel_rfl) ?_ (by assumption) ?_
          rotate_left
          · intro w hSw; (try dsimp only at hSw); first | (go_simp; done) | (go_simp; with_reducible rfl)
          try simp only [Act.put, List.setIfInBounds_toArray, List.set_cons_zero, List.set_cons_succ]
          refine takeL 14 (v := ?_) rfl (by kernel_rfl) (by kernel_rfl) (by kernel_rfl) (fun _ _ _ h => h) (by kernel_rfl) ?_ (by assumption) ?_
          rotate_left
          · intro w hSw; (try dsimp only at hSw); first | (go_simp; done) | (go_simp; with_reducible rfl)
          try simp only [Act.put, List.setIfInBounds_toArray, List.set_cons_zero, List.set_cons_succ]
          refine takeL 15 (v := ?_) rfl (by kernel_rfl) (by kernel_rfl) (by kernel_rfl) (fun _ _ _ h => h) (by kernel_rfl) ?_ (by assumption) ?_
          rotate_left
          · intro w hSw; (try dsimp only at hSw); first | (go_simp; done) | (go_simp; with_reducible rfl)
          try simp only [Act.put, List.setIfInBounds_toArray, List.set_cons_zero, List.set_cons_succ]
          refine takeL 16 (v := ?_) rfl (by kernel_rfl) (by kernel_rfl) (by kernel_rfl) (fun _ _ _ h => h) (by kernel_rfl) ?_ (by assumption) ?_
          rotate_left
          · intro w hSw; (try dsimp only at hSw); first | (go_simp; done) | (go_simp; with_reducible rfl)
          try simp only [Act.put, List.setIfInBounds_toArray, List.set_cons_zero, List.set_cons_succ]
          refine takeL 17 (v := ?_) rfl (by kernel_rfl) (by kernel_rfl) (by kernel_rfl) (fun _ _ _ h => h) (by kernel_rfl) ?_ (by assumption) ?_
          rotate_left
          · intro w hSw; (try dsimp only at hSw); first | (go_simp; done) | (go_simp; with_reducible rfl)
          try simp only [Act.put, List.setIfInBounds_toArray, List.set_cons_zero, List.set_cons_succ]
          refine takeL 18 (v := ?_) rfl (by kernel_rfl) (by kernel_rfl) (by kernel_rfl) (fun _ _ _ h => h) (by kernel_rfl) ?_ (by assumption) ?_
          rotate_left
          · intro w hSw; (try dsimp only at hSw); first | (go_simp; done) | (go_simp; with_reducible rfl)
          try simp only [Act.put, List.setIfInBounds_toArray, List.set_cons_zero, List.set_cons_succ]
          refine callL 19 rfl (by kernel_rfl) (fun K hK => ?_)
          go_simp
          refine (hhs _ B4.out).mono ?_
          rintro e w5 ⟨rfl, b5⟩
          have B5 : Hid (Below wr.heap.size wr w5) := B4.out.trans (b5.mono B4.out.size)
          have HH5 := hheld _ B5.out
          clear b5
          go_wp2_with fail
          refine hK.out _ _ ?_ (fun hHeld => ?_)
          · first | exact HH6 | exact HH5 | exact HH4
          clear hK K
          try simp only [Act.put, List.setIfInBounds_toArray, List.set_cons_zero, List.set_cons_succ]
          refine takeL 20 (v := ?_) rfl (by kernel_rfl) (by kernel_rfl) (by kernel_rfl) (fun _ _ _ h => h) (by kernel_rfl) ?_ (by assumption) ?_
          rotate_left
          · intro w hSw; (try dsimp only at hSw); first | (go_simp; done) | (go_simp; with_reducible rfl)
          try simp only [Act.put, List.setIfInBounds_toArray, List.set_cons_zero, List.set_cons_succ]
          refine takeL 21 (v := ?_) rfl (by kernel_rfl) (by kernel_rfl) (by kernel_rfl) (fun _ _ _ h => h) (by kernel_rfl) ?_ (by assumption) ?_
          rotate_left
          · intro w hSw; (try dsimp only at hSw); first | (go_simp; done) | (go_simp; with_reducible rfl)
          try simp only [Act.put, List.setIfInBounds_toArray, List.set_cons_zero, List.set_cons_succ]
          refine takeL 22 (v := ?_) rfl (by kernel_rfl) (by kernel_rfl) (by kernel_rfl) (fun _ _ _ h => h) (by kernel_rfl) ?_ (by assumption) ?_
          rotate_left
          · intro w hSw; (try dsimp only at hSw); first | (go_simp; done) | (go_simp; with_reducible rfl)
          try simp only [Act.put, List.setIfInBounds_toArray, List.set_cons_zero, List.set_cons_succ]
          refine takeL 23 (v := ?_) rfl (by kernel_rfl) (by kernel_rfl) (by kernel_rfl) (fun _ _ _ h => h) (by kernel_rfl) ?_ (by assumption) ?_
          rotate_left
          · intro w hSw; (try dsimp only at hSw); first | (go_simp; done) | (go_simp; with_reducible rfl)
          try simp only [Act.put, List.setIfInBounds_toArray, List.set_cons_zero, List.set_cons_succ]
          refine takeL 24 (v := ?_) rfl (by kernel_rfl) (by kernel_rfl) (by kernel_rfl) (fun _ _ _ h => h) (by kernel_rfl) ?_ (by assumption) ?_
          rotate_left
          · intro w hSw; (try dsimp only at hSw); first | (go_simp; done) | (go_simp; with_reducible rfl)
          try simp only [Act.put, List.setIfInBounds_toArray, List.set_cons_zero, List.set_cons_succ]
          refine takeL 25 (v := ?_) rfl (by kernel_rfl) (by kernel_rfl) (by kernel_rfl) (fun _ _ _ h => h) (by kernel_rfl) ?_ (by assumption) ?_
          rotate_left
          · intro w hSw; (try dsimp only at hSw); first | (go_simp; done) | (go_simp; with_reducible rfl)
          try simp only [Act.put, List.setIfInBounds_toArray, List.set_cons_zero, List.set_cons_succ]
          refine takeL 26 (v := ?_) rfl (by kernel_rfl) (by kernel_rfl) (by kernel_rfl) (fun _ _ _ h => h) (by kernel_rfl) ?_ (by assumption) ?_
          rotate_left
          · intro w hSw; (try dsimp only at hSw); first | (go_simp; done) | (go_simp; with_reducible rfl)
          try simp only [Act.put, List.setIfInBounds_toArray, List.set_cons_zero, List.set_cons_succ]
          refine takeL 27 (v := ?_) rfl (by kernel_rfl) (by kernel_rfl) (by kernel_rfl) (fun _ _ _ h => h) (by kernel_rfl) ?_ (by assumption) ?_
          rotate_left
          · intro w hSw; (try dsimp only at hSw); first | (go_simp; done) | (go_simp; with_reducible rfl)
          try simp only [Act.put, List.setIfInBounds_toArray, List.set_cons_zero, List.set_cons_succ]
          refine callL 28 rfl (by kernel_rfl) (fun K hK => ?_)
          go_simp
          refine (hhm _ B5.out).mono ?_
          rintro e w6 ⟨rfl, b6⟩
          have B6 : Hid (Below wr.heap.size wr w6) := B5.out.trans (b6.mono B5.out.size)
          have HH6 := hheld _ B6.out
          clear b6
          go_wp2_with fail
          refine hK.out _ _ ?_ (fun hHeld => ?_)
          · first | exact HH6 | exact HH5 | exact HH4
          clear hK K
          try simp only [Act.put, List.setIfInBounds_toArray, List.set_cons_zero, List.set_cons_succ]
          refine takeL 29 (v := ?_) rfl (by kernel_rfl) (by kernel_rfl) (by kernel_rfl) (fun _ _ _ h => h) (by kernel_rfl) ?_ (by assumption) ?_
          rotate_left
          · intro w hSw; (try dsimp only at hSw); first | (go_simp; done) | (go_simp; with_reducible rfl)
          try simp only [Act.put, List.setIfInBounds_toArray, List.set_cons_zero, List.set_cons_succ]
          refine takeL 30 (v := ?_) rfl (by kernel_rfl) (by kernel_rfl) (by kernel_rfl) (fun _ _ _ h => h) (by kernel_rfl) ?_ (by assumption) ?_
          rotate_left
          · intro w hSw; (try dsimp only at hSw); first | (go_simp; done) | (go_simp; with_reducible rfl)
          try simp only [Act.put, List.setIfInBounds_toArray, List.set_cons_zero, List.set_cons_succ]
          refine wpAnyH_done (by kernel_rfl) ?_ _
          refine NoPanic.normal ?_
          go_wp2_with fail
          go_roundw
          case rel => exact ⟨k + 1, HK1.out, by go_num, HB.out.trans (B6.out.mono HB.out.size)⟩
          case measure => have := HK1.out; simp [intOf]; omega
      · obtain rfl : k = n := by omega
        have h20 : (k : Int) ≤ 20 := by omega
        clear HT0
        go_wp2_with fail
        go_ret
        exact ⟨rfl, HB1.out.trans (HB.out.mono HB1.out.size)⟩
  | succ m =>
    rw [hck] at him hsp hle
    have ha := HT.out m (by omega)
    have hu := HT.out (m + 1) (by omega)
    rw [ck_ahead hck] at ha
    rw [ck_upto hck] at hu
    obtain ⟨x, hx⟩ : ∃ x, x = m + 1 := ⟨_, rfl⟩
    rw [← hx] at him hsp hu hle
    have hz : ((0 : Nat) : Int) = 0 := rfl
    rw [hz] at ha
    have e0 : ¬ (x : Int) < 0 := by omega
    have e1 : ¬ (n : Int) < (x : Int) := by omega
    have e2 : ¬ (x : Int) = 0 := by omega
    have e3 : IntKind.i64.wrap ((x : Int) - 1) = (m : Int) := by rw [IntKind.wrap_i64]; omega
    have e4 : (m : Int) ≤ (c : Int) := by omega
    have e5 : (0 : Int) ≤ (m : Int) := by omega
    have e6 : (x : Int) ≤ (c : Int) := by omega
    have e7 : (0 : Int) ≤ (x : Int) := by omega
    have hc0 : ¬ c = 0 := by omega
    clear HT hck hle hx hz
    go_wp2_with fail
    refine him.mono ?_
    rintro e w2 ⟨rfl, b2⟩
    go_wp2_with fail
    refine (hsp _ b2).mono ?_
    rintro e w3 ⟨rfl, b3⟩
    have B3 := b2.trans (b3.mono b2.size)
    go_wp2_with fail
    refine (ha _ B3).mono ?_
    rintro e w4 ⟨rfl, b4⟩
    have B4 := B3.trans (b4.mono B3.size)
    go_wp2_with fail
    refine (hu _ B4).mono ?_
    rintro e w5 ⟨rfl, b5⟩
    have B5 := B4.trans (b5.mono B4.size)
    go_wp2_with fail
    go_ret
    exact ⟨rfl, HB1.out.trans (B5.mono HB1.out.size)⟩

end Go.Proofs.YtinknocacmhikaaGreatDoor

namespace Go.Proofs.YtinknocacmhikaaGreatDoor
open Go.ChangeShapes Go.WideShapes Go.ChangeAt Go.RowKit
open Go.ChangeMaps (open_string shut_string)
set_option linter.unusedVariables false

theorem own_fnCheck : ownKnob Tryz.prog.godebug = none := by kernel_rfl
theorem laid_fnCheck : laidOutB Tryz.prog = true := by kernel_rfl
theorem table_fnCheck {W : World} (h : laidMetH Tryz.prog Rows.fnCheckRow.laid W) : RowG W shaK ∧ TabP W ∧ ErrT W := tabs_of_laidE h

theorem met_fnCheck (os : Os) : laidMetH Tryz.prog Rows.fnCheckRow.laid ((laidWorldE os).forCall (fun _ _ => 0) ⟨#[], #[.slice none 0 0], []⟩).memory :=
  laidMetH_of_parts (laidMet_of_run' 8 (by kernel_rfl) (by kernel_rfl)) (by kernel_rfl)
theorem reads_fnCheck (os : Os) {H : Type} (enc : TypeId × Value → H) : ∃ places, DataW.whole enc Tryz.prog ((laidWorldE os).forCall (fun _ _ => 0) ⟨#[], #[.slice none 0 0], []⟩).memory Tryz.f3.params.toList Rows.fnCheckSpec.vars false (#[.slice none 0 0] : Array Value).toList 8 = some ([.nil], [Rows.laid_loop_example_cordillera_impl_sumRounds], places) :=
  ⟨MemPlace.row ⟨1, 0, none⟩ 64, by kernel_rfl⟩

set_option maxRecDepth 100000 in
theorem lifted_fnCheck (os : Os) (started : os.Started) (H : Type) (enc : TypeId × Value → H) (F : Stop.Interp) :
    ReturnsInHanded {} Tryz.checked os 3 .any ((OpenSpec.ofChange Rows.fnCheckSpec).preRow enc Tryz.prog Tryz.f3 Rows.fnCheckRow.domain false Rows.fnCheckRow.laid) (((OpenSpec.ofChange Rows.fnCheckSpec).at F).post enc Tryz.prog Tryz.f3 false true false false) := by
  obtain ⟨places, hx⟩ := reads_fnCheck os enc
  refine returnsInHanded_of_row (C := Tryz.checked) (s := OpenSpec.ofChange Rows.fnCheckSpec) own_fnCheck started (by kernel_rfl) Tryz.func3
    (witness_row_at (enc := enc) (C := Tryz.checked) false (laidWorldE os) #[.slice none 0 0] rfl (by kernel_rfl) (by kernel_rfl) (by kernel_rfl)
      (OpenSpec.preRow_of_cond 8 hx (by kernel_rfl) (fun k hk => by cases hk) (by kernel_rfl) (met_fnCheck os))) ?_
  intro W base args ds gs before hval0 hW _ _ _ hL _ _
  have hval : ∀ (j : Nat) t v, Tryz.f3.params[j]? = some t → args[j]? = some v → Value.okWide Tryz.prog W .any base t v := hval0
  have hW' := hW
  obtain ⟨p, q, hA0, hV, rfl, hfz, hnd⟩ := hW
  have hA : DataW.TrodAll enc Tryz.prog W 0 (fun _ => true) true Tryz.f3.params.toList args.toList ds p := hA0
  rw [Tryz.params3] at hA hval
  obtain ⟨v0, vs0, d0, ds0, p0, q0, hargs, rfl, rfl, h0, r0⟩ := trodAll_cons hA
  obtain ⟨rfl, rfl, rfl⟩ := trodAll_nil r0
  obtain rfl : args = #[v0] := by cases args; simp_all
  obtain ⟨gv, tv, cv, fv, dv, pv, rfl, hgv, htv, hvv, hdv, rfl⟩ := trodVars_one hV
  obtain ⟨a0, len0, cap0, rfl⟩ := okWide_slice Tryz.underlying22 (hval 0 22 v0 rfl rfl)
  have k0 := h0
  have lt0 : ∀ x ∈ p0, x.block < W.heap.size := by obtain ⟨m, hm⟩ := k0; exact DataW.trod_lt m _ _ _ hm
  obtain ⟨z0, w0⟩ : ∃ zs, IsRow .u8 W a0 len0 cap0 zs := by
    obtain ⟨fuel, hf⟩ := h0
    rcases open_ints Tryz.underlying22 Tryz.underlying5 (by kernel_rfl) hf with ⟨hcs, _⟩ | ⟨x, l, c, zs, hcs, _, hl, hm, hz, _, hcell, hwz⟩
    · simp [Value.cells] at hcs
      obtain ⟨rfl, rfl, rfl⟩ := hcs
      exact ⟨[], .inl ⟨rfl, rfl, rfl, rfl⟩⟩
    · simp [Value.cells] at hcs
      obtain ⟨rfl, rfl, rfl⟩ := hcs
      exact ⟨zs, .inr ⟨_, rfl, hl, hm, by simpa using hz, hcell, hwz⟩⟩
  clear hA0 hval0
  refine (walk_FnCheck a0 len0 cap0 z0 W w0 (table_fnCheck hL).1 (table_fnCheck hL).2.1 (table_fnCheck hL).2.2).mono fun e W' ⟨he, bel⟩ => ?_
  subst he
  obtain ⟨pv', hpv⟩ := varsBack laid_fnCheck hgv htv hvv hdv bel
  exact ⟨_, rfl, _, _, _, [], _, pv', hW', trodAll_mk1 (shut_bool Tryz.underlying4 _), (trodAll_cons_mk (Below.trod laid_fnCheck (by kernel_rfl) (of_decide_eq_true (by kernel_rfl)) k0 bel lt0) trodAll_mk0), hpv, bel.frame _, fun h => by cases h⟩

theorem fnCheck_said : Rows.FnCheckSaid :=
  OpenClaim.holds_of_cond 3 Tryz.f3 rfl rfl rfl rfl rfl rfl rfl ⟨rfl, rfl, rfl, rfl, rfl⟩ rfl rfl rfl rfl rfl (by kernel_rfl) Tryz.func3 (by kernel_rfl)
    (of_decide_eq_true (by kernel_rfl)) (by unfold Func.isWrapper; first | (rw [if_pos (by decide +kernel)]; kernel_rfl) | (rw [if_neg (by decide +kernel)]; exact ⟨rfl, rfl⟩))
    (fun os started H enc _ F => by rw [OpenClaim.pre_eq_preRow]; exact lifted_fnCheck os started H enc F)
theorem plain_fnCheck (f : FuncId) (fn : Func) (hf : Tryz.pinned.checked.prog.funcNamed "loop.example/cordillera/laws.FnCheck" = some f) (hfn : Tryz.pinned.checked.prog.funcs[f]? = some fn) :
    true = Tryz.pinned.checked.prog.looks [] ∧ ∀ (j : Nat) t, fn.params[j]? = some t → Tryz.pinned.checked.prog.wantsStandIn t = false := by
  obtain rfl : f = 3 := Option.some.inj ((show Tryz.prog.funcNamed "loop.example/cordillera/laws.FnCheck" = some 3 by kernel_rfl).symm.trans hf) |>.symm
  obtain rfl : fn = Tryz.f3 := (Option.some.inj (Tryz.func3.symm.trans hfn)).symm
  refine ⟨by kernel_rfl, fun j t ht => ?_⟩
  rw [Tryz.params3] at ht
  have hall : ∀ t ∈ (#[22] : Array TypeId), Tryz.prog.wantsStandIn t = false := by
    intro t ht
    simp only [List.mem_toArray, List.mem_cons, List.not_mem_nil, or_false] at ht
    subst ht; kernel_rfl
  exact hall t (Array.mem_of_getElem? ht)
theorem fnCheck_holds : Rows.FnCheckCardSaid :=
  Claim7.holds_tied_plain_at .later [] _ _ _ _ fnCheck_said (fun _ h => by cases h) (by kernel_rfl) (fun _ h => by cases h) fnCheck_row_tie rfl ⟨rfl, rfl⟩ (by kernel_rfl) rfl plain_fnCheck (by kernel_rfl)
#print axioms fnCheck_holds
end Go.Proofs.YtinknocacmhikaaGreatDoor

