/-
  How hard the next head is changes by one at most, for every code. The package variables that the row lists are as the program's text lays them.
-/
import Derived.Test.YtinknocacmhikaaGreatDoorPart1
import Derived.Test.YtinknocacmhikaaGreatDoorPart2
import Derived.Test.YtinknocacmhikaaGreatDoorPart3
import Derived.Test.YtinknocacmhikaaGreatDoorPart4
import Derived.Test.YtinknocacmhikaaGreatDoorPart5
import Derived.Test.YtinknocacmhikaaGreatDoorPart6
import Derived.Test.YtinknocacmhikaaGreatDoorPart7
import Derived.Test.YtinknocacmhikaaGreatDoorCards
import Derived.Test.YtinknocacmhikaaGreatDoorTie
import Derived.WalkKit
import Derived.ProofKit
import Derived.OpenShut
import Derived.ShutString
import Derived.ChangeOld
import Derived.ChangeVars
import Derived.Below
import Derived.Carry
import Derived.Deep.DeepHandedRow
import Derived.Lib.LaidTab
set_option linter.unusedVariables false
namespace Go.Proofs.YtinknocacmhikaaGreatDoor
open Go.RowKit Go.Deep

def diffV (l : List HeadV) : Int := if chainCk l = 0 then hardV l else 0
def wrkH (l : List HeadV) : Nat → Int
  | 0 => 0
  | k + 1 => wrkH l k + (l.getD k default).diff
def workV (l : List HeadV) : Int := if chainCk l = 0 then wrkH l l.length else -1
theorem wrkH_in {l : List HeadV} (h : ∀ i, i < l.length → headOkB (l.getD i default) = true) : ∀ k, k ≤ l.length → (k : Int) ≤ wrkH l k ∧ wrkH l k ≤ 8 * (k : Int)
  | 0, _ => by simp [wrkH]
  | k + 1, hk => by
    have ih := wrkH_in h k (by omega)
    have hd := (headOk_in (h k (by omega))).2.2.2.1
    rw [wrkH]
    omega
theorem Chain.whole {g n cap : Nat} {l : List HeadV} {w : World} (h : Chain g n cap l w) (hc : chainCk l = 0) : Ahead g n l w := ⟨h.at_, h.len, h.max, ck_ok hc, h.k, h.p⟩

set_option maxHeartbeats 1000000 in
set_option maxRecDepth 100000 in
theorem implChainDiff (g n cap : Nat) (l : List HeadV) (w : World) (hC : Chain g n cap l w) (hE : ErrT w) :
    Calls Tryz.prog 12 #[.slice (some ⟨g, 0, none⟩) n cap] w fun e w' => e = .returned (.int .i64 (diffV l)) ∧ Below w.heap.size w w' := by
  have hck := implChainCheck g n cap l w hC hE
  by_cases hc : chainCk l = 0
  · have HV : Hid (diffV l = hardV l) := by show _ = _; rw [diffV, if_pos hc]
    have hhd := fun w' (hb : Below w.heap.size w w') => implChainHard g n cap l w' ((hC.whole hc).below hb).at_ hC.len hC.max (ck_ok hc)
    rw [hc] at hck
    generalize hardV l = H at HV hhd
    clear hC hE hc
    go_enter Tryz.func12, Tryz.ntmps12
    go_wp2_with fail
    refine hck.mono ?_
    rintro e w1 ⟨rfl, b1⟩
    go_wp2_with fail
    refine (hhd _ b1).mono ?_
    rintro e w2 ⟨rfl, b2⟩
    go_wp2_with fail
    go_ret
    exact ⟨by rw [HV.out]; rfl, b1.trans (b2.mono b1.size)⟩
  · have HV : Hid (diffV l = 0) := by show _ = _; rw [diffV, if_neg hc]
    have hc' : ¬ (chainCk l : Int) = 0 := by omega
    generalize chainCk l = c at hck hc'
    clear hC hE hc
    go_enter Tryz.func12, Tryz.ntmps12
    go_wp2_with fail
    refine hck.mono ?_
    rintro e w1 ⟨rfl, b1⟩
    go_wp2_with fail
    go_ret
    exact ⟨by rw [HV.out]; rfl, b1⟩

set_option maxHeartbeats 1000000 in
set_option maxRecDepth 100000 in
theorem specChainDiff (g n cap : Nat) (l : List HeadV) (w : World) (hC : ChainSp g n cap l w) :
    Calls Tryz.prog 13 #[.slice (some ⟨g, 0, none⟩) n cap] w fun e w' => e = .returned (.int .i64 (diffV l)) ∧ Below w.heap.size w w' := by
  have hck := specL4Check g n cap l w hC
  by_cases hc : chainCk l = 0
  · have HV : Hid (diffV l = hardV l) := by show _ = _; rw [diffV, if_pos hc]
    have hhd := fun w' (hb : Below w.heap.size w w') => specL4Diff g n cap l w' ((hC.below hb).whole hc)
    rw [hc] at hck
    generalize hardV l = H at HV hhd
    clear hC hc
    go_enter Tryz.func13, Tryz.ntmps13
    go_wp2_with fail
    refine hck.mono ?_
    rintro e w1 ⟨rfl, b1⟩
    go_wp2_with fail
    refine (hhd _ b1).mono ?_
    rintro e w2 ⟨rfl, b2⟩
    go_wp2_with fail
    go_ret
    exact ⟨by rw [HV.out]; rfl, b1.trans (b2.mono b1.size)⟩
  · have HV : Hid (diffV l = 0) := by show _ = _; rw [diffV, if_neg hc]
    have hc' : ¬ (chainCk l : Int) = 0 := by omega
    generalize chainCk l = c at hck hc'
    clear hC hc
    go_enter Tryz.func13, Tryz.ntmps13
    go_wp2_with fail
    refine hck.mono ?_
    rintro e w1 ⟨rfl, b1⟩
    go_wp2_with fail
    go_ret
    exact ⟨by rw [HV.out]; rfl, b1⟩

set_option maxHeartbeats 1000000 in
set_option maxRecDepth 100000 in
theorem implChainWork (g n cap : Nat) (l : List HeadV) (w : World) (hC : Chain g n cap l w) (hE : ErrT w) :
    Calls Tryz.prog 15 #[.slice (some ⟨g, 0, none⟩) n cap] w fun e w' => e = .returned (.int .i64 (workV l)) ∧ Below w.heap.size w w' := by
  have hck := implChainCheck g n cap l w hC hE
  by_cases hc : chainCk l = 0
  · have HV : Hid (workV l = wrkH l n) := by show _ = _; rw [workV, if_pos hc, ← hC.len]
    have HA : Hid (AtHead w g l) := hC.at_
    have HLn : Hid (n = l.length) := hC.len
    have HOK : Hid (∀ i, i < l.length → headOkB (l.getD i default) = true) := ck_ok hc
    have hn20 : n ≤ 20 := by rw [hC.len]; exact ck_len hc
    rw [hc] at hck
    clear hC hE hc
    go_enter Tryz.func15, Tryz.ntmps15
    go_wp2_with fail
    refine hck.mono ?_
    rintro e w1 ⟨rfl, b1⟩
    have B1 : Hid (Below w.heap.size w w1) := b1
    clear b1 hck
    go_wp2_with fail
    go_loopw [3, 11] (fun m i wr => ∃ (k : Nat) (x : Int), k ≤ n ∧ i = .int .i64 (k : Int) ∧ m = .int .i64 x ∧ 0 ≤ x ∧ x ≤ 8 * (k : Int) ∧ Hid (x = wrkH l k) ∧ Hid (Below w.heap.size w wr)) (fun _ i _ => n - (intOf i).toNat)
    case atStart => exact ⟨0, 0, by omega, rfl, rfl, by omega, by omega, rfl, B1⟩
    case round =>
      obtain ⟨k, x, hk, rfl, rfl, hx0, hx1, HX, HB⟩ := hrel
      by_cases hlt : k < n
      · have hkl : k < l.length := by rw [← HLn.out]; exact hlt
        have HAr : Hid (AtHead wr g l) := HA.out.below HB.out HA.out.1
        have c0 := AtHead.c0 HAr.out k hkl
        have c1 := AtHead.c1 HAr.out k hkl
        have c2 := AtHead.c2 HAr.out k hkl
        have c3 := AtHead.c3 HAr.out k hkl
        have c4 := AtHead.c4 HAr.out k hkl
        have hd := (headOk_in (HOK.out k hkl)).2.2.2.1
        have lk : (k : Int) < (n : Int) := by omega
        have lk0 : (0 : Int) ≤ (k : Int) := by omega
        have HK : Hid (k + 1 ≤ n) := hlt
        have HC : Hid (wrkH l (k + 1) = x + (l.getD k default).diff) := by show _ = _; rw [wrkH, ← HX.out]
        generalize l.getD k default = p at c0 c1 c2 c3 c4 hd HC
        have hwx : IntKind.i64.wrap (x + p.diff) = x + p.diff := by rw [IntKind.wrap_i64]; omega
        clear hkl
        go_wp2_with fail
        go_roundw
        case rel => exact ⟨k + 1, x + p.diff, HK.out, by go_num, rfl, by omega, by omega, HC.out.symm, HB.out.alloc HB.out.size _⟩
        case measure => have := HK.out; simp [intOf]; omega
      · obtain rfl : k = n := by omega
        go_wp2_with fail
        go_ret
        exact ⟨by rw [HV.out, ← HX.out]; rfl, HB.out⟩
  · have HV : Hid (workV l = -1) := by show _ = _; rw [workV, if_neg hc]
    have hc' : ¬ (chainCk l : Int) = 0 := by omega
    generalize chainCk l = c at hck hc'
    clear hC hE hc
    go_enter Tryz.func15, Tryz.ntmps15
    go_wp2_with fail
    refine hck.mono ?_
    rintro e w1 ⟨rfl, b1⟩
    go_wp2_with fail
    go_ret
    exact ⟨by rw [HV.out]; rfl, b1⟩

set_option maxHeartbeats 1000000 in
set_option maxRecDepth 100000 in
theorem specL4Work (g n cap : Nat) (l : List HeadV) (w : World) (hA : AheadS g n l w) :
    Calls Tryz.prog 28 #[.slice (some ⟨g, 0, none⟩) n cap] w fun e w' => e = .returned (.int .i64 (wrkH l n)) ∧ w' = w := by
  have HA : Hid (AtHead w g l) := hA.at_
  have HLn : Hid (n = l.length) := hA.len
  have HOK : Hid (∀ i, i < l.length → headOkB (l.getD i default) = true) := hA.ok
  have hm := hA.max
  clear hA
  go_enter Tryz.func28, Tryz.ntmps28
  go_wp2_with fail
  go_loopw [3, 4] (fun m i wr => ∃ (k : Nat) (x : Int), k ≤ n ∧ i = .int .i64 (k : Int) ∧ m = .int .i64 x ∧ 0 ≤ x ∧ x ≤ 8 * (k : Int) ∧ Hid (x = wrkH l k) ∧ wr = w) (fun _ i _ => n - (intOf i).toNat)
  case atStart => exact ⟨0, 0, by omega, rfl, rfl, by omega, by omega, rfl, rfl⟩
  case round =>
    obtain ⟨k, x, hk, rfl, rfl, hx0, hx1, HX, rfl⟩ := hrel
    by_cases hlt : k < n
    · have hkl : k < l.length := by rw [← HLn.out]; exact hlt
      have c3 := AtHead.c3 HA.out k hkl
      have hd := (headOk_in (HOK.out k hkl)).2.2.2.1
      have lk : (k : Int) < (n : Int) := by omega
      have lk0 : (0 : Int) ≤ (k : Int) := by omega
      have HK : Hid (k + 1 ≤ n) := hlt
      have HC : Hid (wrkH l (k + 1) = x + (l.getD k default).diff) := by show _ = _; rw [wrkH, ← HX.out]
      generalize l.getD k default = p at c3 hd HC
      have hwx : IntKind.i64.wrap (x + p.diff) = x + p.diff := by rw [IntKind.wrap_i64]; omega
      clear hkl
      go_wp2_with fail
      go_roundw
      case rel => exact ⟨k + 1, x + p.diff, HK.out, by go_num, rfl, by omega, by omega, HC.out.symm, by first | rfl | trivial⟩
      case measure => have := HK.out; simp [intOf]; omega
    · obtain rfl : k = n := by omega
      go_wp2_with fail
      go_ret
      exact ⟨by rw [← HX.out]; rfl, rfl⟩

set_option maxHeartbeats 1000000 in
set_option maxRecDepth 100000 in
theorem specChainWork (g n cap : Nat) (l : List HeadV) (w : World) (hC : ChainSp g n cap l w) :
    Calls Tryz.prog 16 #[.slice (some ⟨g, 0, none⟩) n cap] w fun e w' => e = .returned (.int .i64 (workV l)) ∧ Below w.heap.size w w' := by
  have hck := specL4Check g n cap l w hC
  by_cases hc : chainCk l = 0
  · have HV : Hid (workV l = wrkH l n) := by show _ = _; rw [workV, if_pos hc, ← hC.len]
    have hhd := fun w' (hb : Below w.heap.size w w') => specL4Work g n cap l w' ((hC.below hb).whole hc)
    rw [hc] at hck
    generalize wrkH l n = H at HV hhd
    clear hC hc
    go_enter Tryz.func16, Tryz.ntmps16
    go_wp2_with fail
    refine hck.mono ?_
    rintro e w1 ⟨rfl, b1⟩
    go_wp2_with fail
    refine (hhd _ b1).mono ?_
    rintro e w2 ⟨rfl, rfl⟩
    go_wp2_with fail
    go_ret
    exact ⟨by rw [HV.out]; rfl, b1⟩
  · have HV : Hid (workV l = -1) := by show _ = _; rw [workV, if_neg hc]
    have hc' : ¬ (chainCk l : Int) = 0 := by omega
    generalize chainCk l = c at hck hc'
    clear hC hc
    go_enter Tryz.func16, Tryz.ntmps16
    go_wp2_with fail
    refine hck.mono ?_
    rintro e w1 ⟨rfl, b1⟩
    go_wp2_with fail
    go_ret
    exact ⟨by rw [HV.out]; rfl, b1⟩

end Go.Proofs.YtinknocacmhikaaGreatDoor

set_option linter.unusedVariables false
namespace Go.Proofs.YtinknocacmhikaaGreatDoor
open Go.RowKit Go.Deep

theorem hard_near {l : List HeadV} (h0 : l.length ≠ 0) (hok : ∀ i, i < l.length → headOkB (l.getD i default) = true) : hardV l - (lastH l).diff ≤ 1 ∧ (lastH l).diff - hardV l ≤ 1 ∧ (l.length % 4 = 0 ∨ hardV l = (lastH l).diff) := by
  have hd := (headOk_in (lastH_ok (by omega) hok)).2.2.2.1
  by_cases h4 : l.length % 4 = 0
  · by_cases hs : spanH l < 20
    · rw [hard_low h0 h4 hs]; omega
    · by_cases hs2 : 60 < spanH l
      · rw [hard_high h0 h4 hs2]; omega
      · rw [hard_mid h0 h4 hs hs2]; omega
  · rw [hard_odd h0 h4]; omega

set_option maxHeartbeats 1000000 in
set_option maxRecDepth 100000 in
theorem walk_FnDiff (a : Option Addr) (len cap : Nat) (zs : List Int) (w : World) (h : IsRow .u8 w a len cap zs) (hK : RowG w shaK) (hP : TabP w) (hE : ErrT w) :
    Calls Tryz.prog 4 #[.slice a len cap] w fun e w' => e = .returned (.bool true) ∧ Below w.heap.size w w' := by
  by_cases hl : (1048576 : Int) < (len : Int)
  · clear hK hP hE
    go_enter Tryz.func4, Tryz.ntmps4
    go_wp2
    go_ret
    exact ⟨rfl, Below.refl _ _⟩
  have hdr := drawChainDiff a len cap zs w h
  have HK : Hid (RowG w shaK) := hK
  have HP : Hid (TabP w) := hP
  have HE : Hid (ErrT w) := hE
  clear hK hP hE h
  go_enter Tryz.func4, Tryz.ntmps4
  go_wp2_with fail
  refine hdr.mono ?_
  rintro e w1 ⟨⟨g, n, c, l, rfl, hat, hn, hnc, hn20, hsz, hge⟩, b1⟩
  have HC : Hid (Chain g n c l w1) := ⟨hat, hn, by omega, hnc, HK.out.below b1 HK.out.lt, TabP.below HP.out b1 (Nat.le_refl _)⟩
  have HSP : Hid (ChainSp g n c l w1) := ⟨hat, hn, by omega, hnc, fun i hi => ⟨by have := (hsz i hi).1; unfold maxLen; omega, by have := (hsz i hi).2; unfold maxLen; omega⟩⟩
  have him := implChainDiff g n c l w1 HC.out (HE.out.below b1 HE.out.lt)
  have hsp := fun w' (hb : Below w1.heap.size w1 w') => specChainDiff g n c l w' (HSP.out.below hb)
  have HB1 : Hid (Below w.heap.size w w1) := b1
  have HN : Hid (n = l.length) := hn
  have HAT : Hid (AtHead w1 g l) := hat
  have HD : Hid (diffV l ≠ 0 → chainCk l = 0 ∧ diffV l = hardV l) := by
    intro h
    by_cases hc : chainCk l = 0
    · exact ⟨hc, by rw [diffV, if_pos hc]⟩
    · exact absurd (by rw [diffV, if_neg hc]) h
  clear hdr hat hn hsz b1 hge
  by_cases hd0 : diffV l = 0
  · rw [hd0] at him hsp
    clear HD
    go_wp2_with fail
    refine him.mono ?_
    rintro e w2 ⟨rfl, b2⟩
    go_wp2_with fail
    refine (hsp _ b2).mono ?_
    rintro e w3 ⟨rfl, b3⟩
    have B3 := b2.trans (b3.mono b2.size)
    go_wp2_with fail
    refine (hsp _ B3).mono ?_
    rintro e w4 ⟨rfl, b4⟩
    go_wp2_with fail
    go_ret
    exact ⟨rfl, HB1.out.trans ((B3.trans (b4.mono B3.size)).mono HB1.out.size)⟩
  · obtain ⟨hck, hdv⟩ := HD.out hd0
    have hin := hard_in (ck_ok hck)
    have HNR : Hid (l.length ≠ 0 → hardV l - (lastH l).diff ≤ 1 ∧ (lastH l).diff - hardV l ≤ 1 ∧ (l.length % 4 = 0 ∨ hardV l = (lastH l).diff)) := fun h0 => hard_near h0 (ck_ok hck)
    have HH0 : Hid (l.length = 0 → hardV l = 1) := fun h0 => hard_0 h0
    have HLD : Hid (l.length ≠ 0 → 1 ≤ (lastH l).diff ∧ (lastH l).diff ≤ 8) := fun h0 => (headOk_in (lastH_ok (by omega) (ck_ok hck))).2.2.2.1
    have HC3 : Hid (n ≠ 0 → ∀ w', Below w1.heap.size w1 w' → w'.cell? ⟨g, (n - 1) * 5 + 3, none⟩ = some (.int .i64 (lastH l).diff)) := by
      intro h0 w' hb
      have e : lastH l = l.getD (n - 1) default := by rw [lastH, HN.out]
      rw [e]
      exact AtHead.c3 (HAT.out.below hb HAT.out.1) (n - 1) (by have := HN.out; omega)
    rw [hdv] at him hsp hd0
    rw [← HN.out] at HNR HH0 HLD
    generalize hardV l = d at him hsp hd0 hin HNR HH0
    generalize (lastH l).diff = ld at HNR HLD HC3
    have hd0' : (d == 0) = false := beq_eq_false_iff_ne.2 hd0
    clear hck hdv HD HAT HN HC HSP
    by_cases h0 : n = 0
    · subst h0
      obtain rfl := HH0.out rfl
      clear HNR HLD HC3
      go_wp2_with fail
      refine him.mono ?_
      rintro e w2 ⟨rfl, b2⟩
      go_wp2_with fail
      refine (hsp _ b2).mono ?_
      rintro e w3 ⟨rfl, b3⟩
      have B3 := b2.trans (b3.mono b2.size)
      go_wp2_with fail
      go_ret
      exact ⟨rfl, HB1.out.trans (B3.mono HB1.out.size)⟩
    · obtain ⟨hr1, hr2, hr3⟩ := HNR.out h0
      have hld := HLD.out h0
      obtain ⟨j, hj⟩ : ∃ j, j = n - 1 := ⟨_, rfl⟩
      rw [← hj] at HC3
      have hw1 : IntKind.i64.wrap ((n : Int) - 1) = (j : Int) := by rw [IntKind.wrap_i64]; omega
      have lj : (j : Int) < (n : Int) := by omega
      have lj0 : (0 : Int) ≤ (j : Int) := by omega
      have hn0 : ((n : Int) == 0) = false := beq_eq_false_iff_ne.2 (by omega)
      have hwa : IntKind.i64.wrap (d - ld) = d - ld := by rw [IntKind.wrap_i64]; omega
      have hwb : IntKind.i64.wrap (ld - d) = ld - d := by rw [IntKind.wrap_i64]; omega
      have hrem : (n : Int).tmod 4 = ((n % 4 : Nat) : Int) := rfl
      have hd1 := hin.1
      have hd8 := hin.2
      have HC3' := HC3.out h0
      have HC4 : Hid (∀ w', Below w1.heap.size w1 w' → w'.cell? ⟨g, j * 5 + 3, none⟩ = some (.int .i64 ld)) := HC3'
      have hfin : ((((n % 4 : Nat) : Int) == 0) || (d == ld)) = true := by
        rcases hr3 with h | h
        · rw [h]; rfl
        · rw [h, beq_self_eq_true, Bool.or_true]
      generalize n % 4 = r at hrem hfin
      clear HNR HLD HC3 HC3' HH0 hin hr3 h0 hj
      go_wp2_with fail
      refine him.mono ?_
      rintro e w2 ⟨rfl, b2⟩
      go_wp2_with fail
      refine (hsp _ b2).mono ?_
      rintro e w3 ⟨rfl, b3⟩
      have B3 : Hid (Below w1.heap.size w1 w3) := b2.trans (b3.mono b2.size)
      have c3 := HC4.out _ B3.out
      clear b2 b3 him hsp
      cases hra : (((r : Nat) : Int) == 0) with
      | true =>
        go_wp2_with fail
        go_ret
        exact ⟨rfl, HB1.out.trans (B3.out.mono HB1.out.size)⟩
      | false =>
        rw [hra, Bool.false_or] at hfin
        go_wp2_with fail
        go_ret
        exact ⟨rfl, HB1.out.trans (B3.out.mono HB1.out.size)⟩

end Go.Proofs.YtinknocacmhikaaGreatDoor

namespace Go.Proofs.YtinknocacmhikaaGreatDoor
open Go.ChangeShapes Go.WideShapes Go.ChangeAt Go.RowKit
open Go.ChangeMaps (open_string shut_string)
set_option linter.unusedVariables false

theorem own_fnDiff : ownKnob Tryz.prog.godebug = none := by kernel_rfl
theorem laid_fnDiff : laidOutB Tryz.prog = true := by kernel_rfl
theorem table_fnDiff {W : World} (h : laidMetH Tryz.prog Rows.fnDiffRow.laid W) : RowG W shaK ∧ TabP W ∧ ErrT W := tabs_of_laidE h

theorem met_fnDiff (os : Os) : laidMetH Tryz.prog Rows.fnDiffRow.laid ((laidWorldE os).forCall (fun _ _ => 0) ⟨#[], #[.slice none 0 0], []⟩).memory :=
  laidMetH_of_parts (laidMet_of_run' 8 (by kernel_rfl) (by kernel_rfl)) (by kernel_rfl)
theorem reads_fnDiff (os : Os) {H : Type} (enc : TypeId × Value → H) : ∃ places, DataW.whole enc Tryz.prog ((laidWorldE os).forCall (fun _ _ => 0) ⟨#[], #[.slice none 0 0], []⟩).memory Tryz.f4.params.toList Rows.fnDiffSpec.vars false (#[.slice none 0 0] : Array Value).toList 8 = some ([.nil], [Rows.laid_loop_example_cordillera_impl_sumRounds], places) :=
  ⟨MemPlace.row ⟨1, 0, none⟩ 64, by kernel_rfl⟩

set_option maxRecDepth 100000 in
theorem lifted_fnDiff (os : Os) (started : os.Started) (H : Type) (enc : TypeId × Value → H) (F : Stop.Interp) :
    ReturnsInHanded {} Tryz.checked os 4 .any ((OpenSpec.ofChange Rows.fnDiffSpec).preRow enc Tryz.prog Tryz.f4 Rows.fnDiffRow.domain false Rows.fnDiffRow.laid) (((OpenSpec.ofChange Rows.fnDiffSpec).at F).post enc Tryz.prog Tryz.f4 false true false false) := by
  obtain ⟨places, hx⟩ := reads_fnDiff os enc
  refine returnsInHanded_of_row (C := Tryz.checked) (s := OpenSpec.ofChange Rows.fnDiffSpec) own_fnDiff started (by kernel_rfl) Tryz.func4
    (witness_row_at (enc := enc) (C := Tryz.checked) false (laidWorldE os) #[.slice none 0 0] rfl (by kernel_rfl) (by kernel_rfl) (by kernel_rfl)
      (OpenSpec.preRow_of_cond 8 hx (by kernel_rfl) (fun k hk => by cases hk) (by kernel_rfl) (met_fnDiff os))) ?_
  intro W base args ds gs before hval0 hW _ _ _ hL _ _
  have hval : ∀ (j : Nat) t v, Tryz.f4.params[j]? = some t → args[j]? = some v → Value.okWide Tryz.prog W .any base t v := hval0
  have hW' := hW
  obtain ⟨p, q, hA0, hV, rfl, hfz, hnd⟩ := hW
  have hA : DataW.TrodAll enc Tryz.prog W 0 (fun _ => true) true Tryz.f4.params.toList args.toList ds p := hA0
  rw [Tryz.params4] at hA hval
  obtain ⟨v0, vs0, d0, ds0, p0, q0, hargs, rfl, rfl, h0, r0⟩ := trodAll_cons hA
  obtain ⟨rfl, rfl, rfl⟩ := trodAll_nil r0
  obtain rfl : args = #[v0] := by cases args; simp_all
  obtain ⟨gv, tv, cv, fv, dv, pv, rfl, hgv, htv, hvv, hdv, rfl⟩ := trodVars_one hV
  obtain ⟨a0, len0, cap0, rfl⟩ := okWide_slice Tryz.underlying22 (hval 0 22 v0 rfl rfl)
  have k0 := h0
  have lt0 : ∀ x ∈ p0, x.block < W.heap.size := by obtain ⟨m, hm⟩ := k0; exact DataW.trod_lt m _ _ _ hm
  obtain ⟨z0, w0⟩ : ∃ zs, IsRow .u8 W a0 len0 cap0 zs := by
    obtain ⟨fuel, hf⟩ := h0
    rcases open_ints Tryz.underlying22 Tryz.underlying5 (by kernel_rfl) hf with ⟨hcs, _⟩ | ⟨x, l, c, zs, hcs, _, hl, hm, hz, _, hcell, hwz⟩
    · simp [Value.cells] at hcs
      obtain ⟨rfl, rfl, rfl⟩ := hcs
      exact ⟨[], .inl ⟨rfl, rfl, rfl, rfl⟩⟩
    · simp [Value.cells] at hcs
      obtain ⟨rfl, rfl, rfl⟩ := hcs
      exact ⟨zs, .inr ⟨_, rfl, hl, hm, by simpa using hz, hcell, hwz⟩⟩
  clear hA0 hval0
  refine (walk_FnDiff a0 len0 cap0 z0 W w0 (table_fnDiff hL).1 (table_fnDiff hL).2.1 (table_fnDiff hL).2.2).mono fun e W' ⟨he, bel⟩ => ?_
  subst he
  obtain ⟨pv', hpv⟩ := varsBack laid_fnDiff hgv htv hvv hdv bel
  exact ⟨_, rfl, _, _, _, [], _, pv', hW', trodAll_mk1 (shut_bool Tryz.underlying4 _), (trodAll_cons_mk (Below.trod laid_fnDiff (by kernel_rfl) (of_decide_eq_true (by kernel_rfl)) k0 bel lt0) trodAll_mk0), hpv, bel.frame _, fun h => by cases h⟩

theorem fnDiff_said : Rows.FnDiffSaid :=
  OpenClaim.holds_of_cond 4 Tryz.f4 rfl rfl rfl rfl rfl rfl rfl ⟨rfl, rfl, rfl, rfl, rfl⟩ rfl rfl rfl rfl rfl (by kernel_rfl) Tryz.func4 (by kernel_rfl)
    (of_decide_eq_true (by kernel_rfl)) (by unfold Func.isWrapper; first | (rw [if_pos (by decide +kernel)]; kernel_rfl) | (rw [if_neg (by decide +kernel)]; exact ⟨rfl, rfl⟩))
    (fun os started H enc _ F => by rw [OpenClaim.pre_eq_preRow]; exact lifted_fnDiff os started H enc F)
theorem plain_fnDiff (f : FuncId) (fn : Func) (hf : Tryz.pinned.checked.prog.funcNamed "loop.example/cordillera/laws.FnDiff" = some f) (hfn : Tryz.pinned.checked.prog.funcs[f]? = some fn) :
    true = Tryz.pinned.checked.prog.looks [] ∧ ∀ (j : Nat) t, fn.params[j]? = some t → Tryz.pinned.checked.prog.wantsStandIn t = false := by
  obtain rfl : f = 4 := Option.some.inj ((show Tryz.prog.funcNamed "loop.example/cordillera/laws.FnDiff" = some 4 by kernel_rfl).symm.trans hf) |>.symm
  obtain rfl : fn = Tryz.f4 := (Option.some.inj (Tryz.func4.symm.trans hfn)).symm
  refine ⟨by kernel_rfl, fun j t ht => ?_⟩
  rw [Tryz.params4] at ht
  have hall : ∀ t ∈ (#[22] : Array TypeId), Tryz.prog.wantsStandIn t = false := by
    intro t ht
    simp only [List.mem_toArray, List.mem_cons, List.not_mem_nil, or_false] at ht
    subst ht; kernel_rfl
  exact hall t (Array.mem_of_getElem? ht)
theorem fnDiff_holds : Rows.FnDiffCardSaid :=
  Claim7.holds_tied_plain_at .later [] _ _ _ _ fnDiff_said (fun _ h => by cases h) (by kernel_rfl) (fun _ h => by cases h) fnDiff_row_tie rfl ⟨rfl, rfl⟩ (by kernel_rfl) rfl plain_fnDiff (by kernel_rfl)
#print axioms fnDiff_holds
end Go.Proofs.YtinknocacmhikaaGreatDoor

